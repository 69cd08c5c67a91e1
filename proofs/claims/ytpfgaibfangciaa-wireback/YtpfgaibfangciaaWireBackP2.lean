/- Contracts and facts on the way to WireBack, joined into one text: ClassMem, ClassTwo, StrClone, WireRows, WireEnc, WireDec, WireCut, WireMath2, WireConv, RefCube, RefRule, RefMsg, Quiet, MsgTwo. -/
import Derived.Test.YtpfgaibfangciaaWireBackP1
namespace Go.Proofs.Ytpfgaibfangciaa
set_option linter.unusedSimpArgs false
set_option linter.unusedVariables false
set_option maxHeartbeats 16000000
set_option maxRecDepth 100000
open Go.Proofs.Try
open IntKind (i64)
section
open Go.RowKit
def inE:Enc Int where
 c:=fun x=>[.int i64 x]
 n:=1
 len:=fun _=>rfl
 pos:=by decide
 one:=by
  intro x u hu;simp at hu;subst hu;rfl
theorem in_at {w:World}{g o:Nat}{L:List Int}(h:GAt inE w g o L){n k:Nat}(hn:L.length=n)(hk:k<n):∃(x:Int) (hl:k<L.length),L[k]=x∧w.cell? ⟨g,o+k,none⟩=some (.int i64 x):=by
 have hl:k<L.length:=by omega
 have:=h k hl 0 _ rfl;refine⟨_,hl,rfl,?_⟩;have e:o+k*inE.n+0=o+k:=by show o+k*1+0=o+k;omega
 rw[e] at this;exact this
abbrev SlT:Type:=AdQ×Nat×Nat
theorem run_append_blk {P:Program}{w:World}{base:Nat}(t ty e:TypeId)(i:TypeInfo)(z:Value)(ht:P.underlying t=some (.slice e))(hi:P.info? e=some i)(hz:i.zero=some z)
 (v:Value) (n:Nat) (xs:List Value) (hown:w.ownsRow base e i.size v n xs)
 (a:Addr) (c:Nat) (news:List Value) (hl:news.length=1*i.size) (hnews:∀j u,news[j]?=some u→w.cell? (a.add j)=some u) (h1:∀u∈news,u.oneCell'=true)
 (h63:n+1≤maxLen) (hbytes:(n+1)*i.bytes≤140737488355328) {v':Value} {w':World} (hr:(Builtin.append_ #[t,t] ty #[v,.slice (some a) 1 c]).run P w=.ok v' w'):v'.ownBlock=v.ownBlock∨v'.ownBlock=some w.heap.size:=by
 have hm:n+1≤9223372036854775807:=by simp only[maxLen] at h63;omega
 rcases hown.2 with ⟨rfl,rfl⟩ | ⟨g,cap,cur,rfl,hbg,hg,hnc,hcm,hcs,htake⟩
 ·rw[run_append_nil (P:=P) w t ty e i z ht hi hz a 1 c news hl hnews (by omega) (by omega) (by have hb:=hbytes;simp only[Nat.zero_add] at hb;omega)] at hr;cases hr;exact .inr rfl
 by_cases hroom:n+1≤cap
 ·have hfit:n*i.size+news.length≤cur.size:=by rw[hl,hcs,←Nat.add_mul];exact Nat.mul_le_mul_right _ hroom
  rw[run_append_room (P:=P) w t ty e i ht hi g n cap cur hg a 1 c news hl hnews h1 hroom hfit] at hr;cases hr;exact .inl rfl
 rw[run_append_grow (P:=P) w t ty e i z ht hi hz ⟨g,0,none⟩ n cap xs hown.1 (hown.cells (g:=g) rfl) a 1 c news hl hnews (by omega) (by omega) (growslice_fits (by omega) hbytes)] at hr;cases hr;exact .inr rfl
theorem wpList_append_blk {P:Program}{α:Type}{E:Enc α}(w:World){ops:Array Oper}{rest:List Oper}{o:Oper}{a:Act}{Q:Exit→Act→World→Prop}(hgd:o.guard=none)(s x:Operand)(t e:TypeId)
 (ho:o.op=.call { callee:=.builtin .append,args:=#[s,x],argTypes:=#[t,t] }) (ht:P.underlying t=some (.slice e)) (i:TypeInfo) (z:Value) (bytes:Nat) (hi:P.info? e=some i) (hz:i.zero=some z)
 (hsize:i.size=E.n) (hby:i.bytes=bytes) (hzs:z.cells.size=E.n) (base:Nat)
 (v:Value) (hs:a.eval s=v) (L:List α) (hown:w.ownsRow base e E.n v L.length (cellsG E L)) (g q c:Nat) (hx:a.eval x=.slice (some ⟨g,q,none⟩) 1 c) (y:α) (hM:VAt w g q (E.c y))
 (h63:L.length+1≤maxLen) (hbytes:(L.length+1)*bytes≤140737488355328) (hbase:base≤w.heap.size)
 (h:∀v' w',w'.ownsRow base e E.n v' (L++[y]).length (cellsG E (L++[y]))→w.grownBy w' v.ownBlock→v'.ownBlock=v.ownBlock∨v'.ownBlock=some w.heap.size→wpList P ops Q rest (a.put o.dst v') w'):wpList P ops Q (o :: rest) a w:=by
 have hG:GAt E w g q [y]:=by
  intro k hk;obtain rfl:k=0:=by simp at hk;omega
  simpa using hM
 have hc:=hG.cells;rw[cellsG_one] at hc;have hl:(E.c y).length=1*E.n:=by rw[E.len];omega
 obtain⟨v',w',hr,h2,h3,_⟩:=run_append_own (P:=P) w base t o.type e i z E.n bytes ht hi hz hsize hby hzs E.pos v _ _ hown ⟨g,q,none⟩ 1 c (E.c y) hl hc (E.one y) h63 hbytes hbase;have hb:=run_append_blk (P:=P) t o.type e i z ht hi hz v _ _ (by rw[hsize];exact hown) ⟨g,q,none⟩ c (E.c y) (by rw[hsize];exact hl) hc (E.one y) h63 (by rw[hby];exact hbytes) hr;refine wpList_plain hgd fun K hK=>?_
 unfold Oper.wp execOp;simp only[ho,resolve,invoke,builtin,Sem.run_bind,Sem.run_pure,Result.andThen_ok,List.map_toArray,List.map_cons,List.map_nil,hs,hx,hr];exact hK _ _ (h v' w' (by rw[List.length_append,cellsG_app,cellsG_one];exact h2) h3 hb)
section
variable {e1 e2:TypeId}{w w':World}{B:Nat}{v u:Value}{vs us:List SlT}{Cs Ps:List (List Int)}
end
theorem below_grown {B:Nat}{w W:World}{row:Option Nat}(h:w.grownBy W row)(hB:B≤w.heap.size)(hr:∀k,row=some k→B≤k):Below B w W:=
 ⟨h.os,h.tape,h.output,h.size,fun k hk=>h.block k (by omega) (fun e=>by have:=hr k e.symm;omega)⟩
section
variable {e1 e2:TypeId}{w W1 W1' W2 W2' Wf:World}{B:Nat}{v u v' u':Value}{vs us:List SlT}{Cs Ps:List (List Int)}
end
theorem infoByte:(Try.prog.info? 5).map (fun i=>(i.zero,i.size,i.bytes))=some (some (.int .u8 0),1,1):=by kernel_rfl
theorem liteClone (s:ByteArray)(w:World)(hlim:s.size≤1000000):
 Calls prog 19 #[.string s] w fun e w'=>e=.returned (.string s)∧Below w.heap.size w w':=by
 by_cases h0:s.size=0
 ·have hs:s=⟨#[]⟩:=by
   apply ByteArray.ext
   exact Array.eq_empty_of_size_eq_zero h0
  subst hs;go_enter func19,ntmps19;go_wp2;go_ret;exact⟨rfl,bRQ _ _⟩
 obtain⟨i0,hi,hz0,hz1,hz2⟩:=info_parts infoByte;have hinfo:(Try.prog.info? 5).map (·.size)=some 1:=by rw[hi];simp[hz1]
 have hco:Try.prog.cellsOf 5=1:=by simp[Program.cellsOf,hi,hz1]
 obtain⟨M,hM⟩:∃M,M=madeCells (Value.int .u8 0).cells (((s.size:Nat):Int).toNat*i0.size):=⟨_,rfl⟩;have hMs:M.size=s.size:=by rw[hM,size_madeCells,hz1];simp
 have hmk:(Instr.makeSlice 41 (.int i64 (s.size:Int)) (.int i64 (s.size:Int))).run prog w=.ok (.slice (some ⟨w.heap.size,0,none⟩) s.size s.size) (w.alloc (.cells M 5)):=by
  have h:=run_make (P:=prog) w 41 5 i0 (.int .u8 0) underlying41 hi hz0 .i64 .i64 (s.size:Int) (s.size:Int) (by omega) (by omega) (by rw[hz2];omega) (by omega);rw[←hM] at h;simpa using h
 clear hM;have hcp:=Lib.run_copy_row_string (P:=prog) (w.alloc (.cells M 5)) 41 9 3 5 w.heap.size 0 s.size s.size s M 5 underlying41 hinfo (heap_alloc_new w _) (nLQ _) (by omega);obtain⟨Y,hY⟩:∃Y,Y=(M.toList.take 0++Lib.byteCells s.data.toList++M.toList.drop (0+s.size)).toArray:=⟨_,rfl⟩;rw[←hY] at hcp;have hYl:Y.toList=Lib.byteCells s.data.toList:=by
  rw[hY,List.toList_toArray,List.take_zero,List.nil_append,List.drop_of_length_le (by rw[Array.length_toList];omega),List.append_nil]
 have hYs:Y.size=s.size:=by rw[←Array.length_toList,hYl,Lib.byteCells_length,←Lib.size_eq]
 have hgY:((w.alloc (.cells M 5)).setRow w.heap.size Y).heap[w.heap.size]?=some (.cells Y 5 (0,0)):=setRow_heap _ _ M _ 5 (0,0) (heap_alloc_new w _);have hne:s.data.toList≠[]:=fun e=>h0 (by rw[Lib.size_eq,e];rfl)
 have hUS:=Lib.run_unsafeString_row (P:=prog) ((w.alloc (.cells M 5)).setRow w.heap.size Y) 56 3 9 5 underlying56 hco w.heap.size Y.size (by unfold World.shape?;rw[hgY]) s.data.toList hne (by rw[←Lib.size_eq];omega) (by rw[←Lib.size_eq];omega)
  (fun j x hx=>Lib.cells_of_row hgY Y.size j _ (by rw[List.take_of_length_le (by rw[Array.length_toList];exact nLQ _),hYl];simp[Lib.byteCells,hx]))
 rw[←Lib.size_eq] at hUS;clear hY;go_enter func19,ntmps19;go_wp2;go_ret;have hb1:Below w.heap.size w (w.alloc (.cells M 5)):=(Below.refl _ w).alloc (nLQ _) _;have hb2:Below w.heap.size (w.alloc (.cells M 5)) ((w.alloc (.cells M 5)).setRow w.heap.size Y):=⟨rfl,rfl,rfl,by simp,fun k hk=>setRow_other _ _ _ _ (by omega)⟩;exact⟨rfl,Lib.below_freeze (hb1.trans hb2) (p:=⟨w.heap.size,0,none⟩) (nLQ _) _⟩
theorem clone_any (s:ByteArray)(w:World)(hlim:s.size≤1000000):
 Calls prog 13 #[.string s] w fun e w'=>e=.returned (.string s)∧Below w.heap.size w w':=by
 go_enter func13,ntmps13
 go_wp2_with fail
 refine (liteClone s _ hlim).mono ?_;rintro e w1 ⟨rfl,hb1⟩;go_wp2;go_ret;exact⟨rfl,hb1⟩
theorem infoNum:(Try.prog.info? 3).map (fun i=>(i.zero,i.size,i.bytes))=some (some (.int i64 0),1,8):=by kernel_rfl
def u8E:Enc Int where
 c:=fun x=>[.int .u8 x]
 n:=1
 len:=fun _=>rfl
 pos:=by decide
 one:=by
  intro x u hu;simp at hu;subst hu;rfl
theorem u8_cells (L:List Int):cellsG u8E L=L.map (Value.int .u8):=by
 induction L with
 | nil=>rfl
 | cons x r ih =>
   simp only[cellsG,List.flatMap_cons,List.map_cons] at *;rw[ih];rfl
theorem conv_own {W:World}{B n:Nat}{v:Value}{xs:List Int}(h:W.ownsRow B 5 u8E.n v xs.length (cellsG u8E xs))(hx:xs.length=n)(hn:0<n):
 ∃g c,v=.slice (some ⟨g,0,none⟩) n c∧(convert 41 9 v).run prog W=.ok (.string (strOfNums xs)) W:=by
 subst hx
 rcases h.2 with ⟨rfl,h0⟩ | ⟨g,cap,cur,rfl,_⟩
 ·exact absurd h0 (by omega)
 refine⟨g,cap,rfl,?_⟩;refine run_convert_bytes_arg (P:=prog) W 41 5 underlying41 underlying5 g 0 xs.length cap xs rfl (fun i hi=>?_) 9 underlying9;have hc:=h.cellAt i (by show i<xs.length*1;omega);rw[Nat.zero_add,hc,u8_cells,List.getElem?_map,List.getElem?_eq_getElem hi,List.getD_eq_getElem?_getD,List.getElem?_eq_getElem hi];rfl
theorem in_new (w:World)(L:List Int)(t:TypeId)(vs:List Value)(hv:vs=L.map (Value.int i64)):GAt inE (w.alloc (.cells vs.toArray t)) w.heap.size 0 L:=by
 intro i hi j u hu;obtain rfl:j=0:=by
  have:=(List.getElem?_eq_some_iff.1 hu).1;simpa[inE] using this
 have h:=vat_new w vs t i u (by
  rw[hv,List.getElem?_map,List.getElem?_eq_getElem hi];simp[inE] at hu;rw[←hu];rfl)
 have e:0+i*inE.n+0=0+i:=by show 0+i*1+0=0+i;omega
 rw[e];exact h
theorem step_append_lst {P:Program}{α:Type}{E:Enc α}(w:World){ops:Array Oper}{o:Oper}{a:Act}{K:Act→World→Prop}{Q:Exit→Act→World→Prop}{X:Prop}(hgd:o.guard=none)(s x:Operand)(t e:TypeId)
 (ho:o.op=.call { callee:=.builtin .append,args:=#[s,x],argTypes:=#[t,t] }) (ht:P.underlying t=some (.slice e)) (i:TypeInfo) (z:Value) (bytes:Nat) (hi:P.info? e=some i) (hz:i.zero=some z)
 (hsize:i.size=E.n) (hby:i.bytes=bytes) (hzs:z.cells.size=E.n) (base:Nat)
 (v:Value) (hs:a.eval s=v) (L:List α) (hown:w.ownsRow base e E.n v L.length (cellsG E L)) (g q c n:Nat) (hx:a.eval x=.slice (some ⟨g,q,none⟩) n c) (M:List α) (hn:M.length=n) (hM:GAt E w g q M)
 (h63:L.length+n≤maxLen) (hbytes:(L.length+n)*bytes≤140737488355328) (hbase:base≤w.heap.size)
 (h:∀v' w',w'.ownsRow base e E.n v' (L++M).length (cellsG E (L++M))→w.grownBy w' v.ownBlock→K (a.put o.dst v') w'):
 if Region.wanted o (yielded ops a.tmps)=true then Oper.wp P o a w K Q else X:=by
 have hw:Region.wanted o (yielded ops a.tmps)=true:=by simp[Region.wanted,hgd]
 rw[if_pos hw];have hc:=hM.cells;have hl:(cellsG E M).length=n*E.n:=by rw[cellsG_len,hn]
 obtain⟨v',w',hr,h2,h3,_⟩:=run_append_own (P:=P) w base t o.type e i z E.n bytes ht hi hz hsize hby hzs E.pos v _ _ hown ⟨g,q,none⟩ n c (cellsG E M) hl hc (cellsG_all M) h63 hbytes hbase;unfold Oper.wp execOp;simp only[ho,resolve,invoke,builtin,Sem.run_bind,Sem.run_pure,Result.andThen_ok,List.map_toArray,List.map_cons,List.map_nil,hs,hx,hr];exact h v' w' (by rw[List.length_append,cellsG_app,hn];exact h2) h3
theorem u8_wrap {n:Int}(h:0≤n∧n≤200):IntKind.u8.wrap n=n:=by rw[IntKind.wrap_u8];omega
theorem sm_take {L:List Int}{k:Nat}(h:k<L.length):smL (L.take (k+1))=smL (L.take k)+L[k]:=by
 rw[List.take_succ_eq_append_getElem h,sm_app]
theorem take_g {L:List Int}{k:Nat}(h:k<L.length):L.take (k+1)=L.take k++[L[k]]:=List.take_succ_eq_append_getElem h
def enT (m:Mg):ByteArray:=if mgN m=0 then mgT m else ByteArray.empty
theorem bit_same (b:Bool)(w:World):Calls prog 9 #[.bool b] w fun e w'=>e=.returned (.int i64 (btN b))∧w'=w:=by
 cases b
 ·go_enter func9,ntmps9;go_wp2;go_ret;exact⟨rfl,rfl⟩
 go_enter func9,ntmps9;go_wp2;go_ret;exact⟨rfl,rfl⟩
theorem keepC {V V':World}{b r:Nat}{x5:Bool}{x6 x7 x8 x9 x10 x11:Int}(hb:Below V.heap.size V V')(h:V.cell? ⟨b,5,none⟩=some (.bool x5)∧V.cell? ⟨r,0,none⟩=some (.int i64 x6)∧V.cell? ⟨r,1,none⟩=some (.int i64 x7)∧V.cell? ⟨r,2,none⟩=some (.int i64 x8)∧V.cell? ⟨r,3,none⟩=some (.int i64 x9)∧V.cell? ⟨r,4,none⟩=some (.int i64 x10)∧V.cell? ⟨r,5,none⟩=some (.int i64 x11)):V'.cell? ⟨b,5,none⟩=some (.bool x5)∧V'.cell? ⟨r,0,none⟩=some (.int i64 x6)∧V'.cell? ⟨r,1,none⟩=some (.int i64 x7)∧V'.cell? ⟨r,2,none⟩=some (.int i64 x8)∧V'.cell? ⟨r,3,none⟩=some (.int i64 x9)∧V'.cell? ⟨r,4,none⟩=some (.int i64 x10)∧V'.cell? ⟨r,5,none⟩=some (.int i64 x11):=by
 obtain⟨h1,h2,h3,h4,h5,h6,h7⟩:=h;exact⟨cell_later hb h1,cell_later hb h2,cell_later hb h3,cell_later hb h4,cell_later hb h5,cell_later hb h6,cell_later hb h7⟩
theorem keepD {V V':World}{b r R:Nat}{x5:Bool}{x6 x7 x8 x9 x10 x11:Int}(hg:V.grownBy V' (some R))(hb:some b≠some R)(hr:some r≠some R)(h:V.cell? ⟨b,5,none⟩=some (.bool x5)∧V.cell? ⟨r,0,none⟩=some (.int i64 x6)∧V.cell? ⟨r,1,none⟩=some (.int i64 x7)∧V.cell? ⟨r,2,none⟩=some (.int i64 x8)∧V.cell? ⟨r,3,none⟩=some (.int i64 x9)∧V.cell? ⟨r,4,none⟩=some (.int i64 x10)∧V.cell? ⟨r,5,none⟩=some (.int i64 x11)):V'.cell? ⟨b,5,none⟩=some (.bool x5)∧V'.cell? ⟨r,0,none⟩=some (.int i64 x6)∧V'.cell? ⟨r,1,none⟩=some (.int i64 x7)∧V'.cell? ⟨r,2,none⟩=some (.int i64 x8)∧V'.cell? ⟨r,3,none⟩=some (.int i64 x9)∧V'.cell? ⟨r,4,none⟩=some (.int i64 x10)∧V'.cell? ⟨r,5,none⟩=some (.int i64 x11):=by
 obtain⟨h1,h2,h3,h4,h5,h6,h7⟩:=h;exact⟨hg.cell h1 hb,hg.cell h2 hr,hg.cell h3 hr,hg.cell h4 hr,hg.cell h5 hr,hg.cell h6 hr,hg.cell h7 hr⟩
theorem wenc_no (x0 x1 x2 x3 x4:Int)(x5:Bool)(x6 x7 x8 x9 x10 x11:Int)(w:World)(h:mgN ⟨x0,x1,x2,x3,⟨x4,x5,⟨x6,x7,x8,x9,x10,x11⟩⟩⟩≠0):
 Calls prog 4 #[.agg #[.int i64 x0,.int i64 x1,.int i64 x2,.int i64 x3,.int i64 x4,.bool x5,.int i64 x6,.int i64 x7,.int i64 x8,.int i64 x9,.int i64 x10,.int i64 x11]] w fun e w'=>e=.returned (.tuple #[.string (enT ⟨x0,x1,x2,x3,⟨x4,x5,⟨x6,x7,x8,x9,x10,x11⟩⟩⟩),noV (mgN ⟨x0,x1,x2,x3,⟨x4,x5,⟨x6,x7,x8,x9,x10,x11⟩⟩⟩)])∧Below w.heap.size w w':=by
 have HB0:Hid (Below w.heap.size w (w.alloc (.cells #[.int i64 x0,.int i64 x1,.int i64 x2,.int i64 x3,.int i64 x4,.bool x5,.int i64 x6,.int i64 x7,.int i64 x8,.int i64 x9,.int i64 x10,.int i64 x11] 34))):=(bRQ _ _).alloc (nLQ _) _;obtain⟨N,hN⟩:∃N,N=mgN ⟨x0,x1,x2,x3,⟨x4,x5,⟨x6,x7,x8,x9,x10,x11⟩⟩⟩:=⟨_,rfl⟩;have HN:Hid (mgN ⟨x0,x1,x2,x3,⟨x4,x5,⟨x6,x7,x8,x9,x10,x11⟩⟩⟩=N):=hN.symm;have e:enT ⟨x0,x1,x2,x3,⟨x4,x5,⟨x6,x7,x8,x9,x10,x11⟩⟩⟩=ByteArray.empty:=by rw[enT,if_neg h]
 rw[e,←hN];rw[←hN] at h;clear hN e;go_enter func4,ntmps4
 go_wp2_with fail
 refine (wcheck_any x0 x1 x2 x3 x4 x5 x6 x7 x8 x9 x10 x11 _).mono ?_;rintro e w1 ⟨rfl,hb1⟩;have HB1:Hid (Below w.heap.size w w1):=HB0.out.trans (hb1.mono HB0.out.size);rw[HN.out,no_ne h];clear hb1;go_wp2;refine bodyPost_ret (v:=.tuple #[.string ⟨#[]⟩,.iface 47 (.int i64 N)]) (by simp[results,results4,go_sem]) rfl ⟨by rw[no_ne h];rfl,HB1.out⟩
theorem wenc_yes (x0 x1 x2 x3 x4:Int)(x5:Bool)(x6 x7 x8 x9 x10 x11:Int)(w:World)(h:mgN ⟨x0,x1,x2,x3,⟨x4,x5,⟨x6,x7,x8,x9,x10,x11⟩⟩⟩=0):
 Calls prog 4 #[.agg #[.int i64 x0,.int i64 x1,.int i64 x2,.int i64 x3,.int i64 x4,.bool x5,.int i64 x6,.int i64 x7,.int i64 x8,.int i64 x9,.int i64 x10,.int i64 x11]] w fun e w'=>e=.returned (.tuple #[.string (enT ⟨x0,x1,x2,x3,⟨x4,x5,⟨x6,x7,x8,x9,x10,x11⟩⟩⟩),noV (mgN ⟨x0,x1,x2,x3,⟨x4,x5,⟨x6,x7,x8,x9,x10,x11⟩⟩⟩)])∧Below w.heap.size w w':=by
 have HB0:Hid (Below w.heap.size w (w.alloc (.cells #[.int i64 x0,.int i64 x1,.int i64 x2,.int i64 x3,.int i64 x4,.bool x5,.int i64 x6,.int i64 x7,.int i64 x8,.int i64 x9,.int i64 x10,.int i64 x11] 34))):=(bRQ _ _).alloc (nLQ _) _;have HC0:Hid (MgC (w.alloc (.cells #[.int i64 x0,.int i64 x1,.int i64 x2,.int i64 x3,.int i64 x4,.bool x5,.int i64 x6,.int i64 x7,.int i64 x8,.int i64 x9,.int i64 x10,.int i64 x11] 34)) w.heap.size x0 x1 x2 x3 x4 x5 x6 x7 x8 x9 x10 x11):=mgc_new w x0 x1 x2 x3 x4 x5 x6 x7 x8 x9 x10 x11 _;have HN:Hid (mgN ⟨x0,x1,x2,x3,⟨x4,x5,⟨x6,x7,x8,x9,x10,x11⟩⟩⟩=0):=h;have HBY:Hid (byL (mgL ⟨x0,x1,x2,x3,⟨x4,x5,⟨x6,x7,x8,x9,x10,x11⟩⟩⟩)∧(mgL ⟨x0,x1,x2,x3,⟨x4,x5,⟨x6,x7,x8,x9,x10,x11⟩⟩⟩).length≤11∧4≤(mgL ⟨x0,x1,x2,x3,⟨x4,x5,⟨x6,x7,x8,x9,x10,x11⟩⟩⟩).length):=mg_by h;have e:enT ⟨x0,x1,x2,x3,⟨x4,x5,⟨x6,x7,x8,x9,x10,x11⟩⟩⟩=nmT (mgL ⟨x0,x1,x2,x3,⟨x4,x5,⟨x6,x7,x8,x9,x10,x11⟩⟩⟩):=by rw[enT,if_pos h];rfl
 have e2:noV (mgN ⟨x0,x1,x2,x3,⟨x4,x5,⟨x6,x7,x8,x9,x10,x11⟩⟩⟩)=.nilIface:=no_ok h;rw[e,e2];clear e e2 h;obtain⟨j0,hj,hy0,hy1,hy2⟩:=info_parts infoNum;have HJ:Hid (Try.prog.info? 3=some j0∧j0.zero=some (.int i64 0)∧j0.size=1∧j0.bytes=8):=⟨hj,hy0,hy1,hy2⟩;obtain⟨i0,hi,hz0,hz1,hz2⟩:=info_parts infoByte;have HI:Hid (Try.prog.info? 5=some i0∧i0.zero=some (.int .u8 0)∧i0.size=1∧i0.bytes=1):=⟨hi,hz0,hz1,hz2⟩;clear hj hy0 hy1 hy2 hi hz0 hz1 hz2;have HL1:Hid (x0=1→mgL ⟨x0,x1,x2,x3,⟨x4,x5,⟨x6,x7,x8,x9,x10,x11⟩⟩⟩=[x0,x1,x2,x3]++[btN x5,x6,x7,x8,x9,x10,x11]):=fun h=>by rw[mgL,if_pos h]
 have HL2:Hid (x0≠1→mgL ⟨x0,x1,x2,x3,⟨x4,x5,⟨x6,x7,x8,x9,x10,x11⟩⟩⟩=[x0,x1,x2,x3]):=fun h=>by rw[mgL,if_neg h];rfl
 obtain⟨L,hL⟩:∃L,L=mgL ⟨x0,x1,x2,x3,⟨x4,x5,⟨x6,x7,x8,x9,x10,x11⟩⟩⟩:=⟨_,rfl⟩;rw[←hL] at HBY HL1 HL2 ⊢;clear hL;go_enter func4,ntmps4
 go_wp2_with fail
 refine (wcheck_any x0 x1 x2 x3 x4 x5 x6 x7 x8 x9 x10 x11 _).mono ?_;rintro e w1 ⟨rfl,hb1⟩;have HB1:Hid (Below w.heap.size w w1):=HB0.out.trans (hb1.mono HB0.out.size);obtain⟨c0,c1,c2,c3,c4,c5,c6,c7,c8,c9,c10,c11⟩:=HC0.out.later hb1;rw[HN.out,no_ok rfl];have hlt1:w.heap.size<w1.heap.size:=bLQ _ _ c0;clear hb1
 go_upto_if 27 with fail
 go_cut [5] from 25 (fun v w'=>∃(g n c:Nat),v=.slice (some ⟨g,0,none⟩) n c∧L.length=n∧GAt inE w' g 0 L∧Below w.heap.size w w')
 case first =>
  obtain⟨w2,hw2⟩:∃V,V=w1.alloc (.cells #[.int i64 x0,.int i64 x1,.int i64 x2,.int i64 x3] 3):=⟨_,rfl⟩;have HG2:Hid (GAt inE w2 w1.heap.size 0 [x0,x1,x2,x3]):=by rw[hw2];exact in_new w1 [x0,x1,x2,x3] 3 [.int i64 x0,.int i64 x1,.int i64 x2,.int i64 x3] rfl
  have HB2:Hid (Below w.heap.size w w2):=by rw[hw2];exact HB1.out.alloc HB1.out.size _
  have hb12:Below w1.heap.size w1 w2:=by rw[hw2];exact (bRQ _ _).alloc (nLQ _) _
  have hsz2:w2.heap.size=w1.heap.size+1:=by rw[hw2];simp
  have HS2:Hid (w2.heap.size=w1.heap.size+1):=hsz2;have HO2:Hid (w2.ownsRow w1.heap.size 3 inE.n (.slice (some ⟨w1.heap.size,0,none⟩) 4 4) [x0,x1,x2,x3].length (cellsG inE [x0,x1,x2,x3])):=by
   rw[hw2];exact World.ownsRow_lit (base:=w1.heap.size) (e:=3) (size:=1) w1 #[.int i64 x0,.int i64 x1,.int i64 x2,.int i64 x3] 4 (nLQ _) (by decide) rfl
  rw[←hw2];by_cases hk:x0=1
  ·have hL:=HL1.out hk;subst hk;have d0:=cell_later hb12 c0;have d5:=cell_later hb12 c5;have d6:=cell_later hb12 c6;have d7:=cell_later hb12 c7;have d8:=cell_later hb12 c8;have d9:=cell_later hb12 c9;have d10:=cell_later hb12 c10;have d11:=cell_later hb12 c11;have HLL:Hid (L=[1,x1,x2,x3]++[btN x5,x6,x7,x8,x9,x10,x11]):=hL;clear c0 c1 c2 c3 c4 c5 c6 c7 c8 c9 c10 c11 hL hw2 hb12 hsz2;go_upto_region 7 with fail;obtain⟨w3,hw3⟩:∃V,V=w2.alloc (.cells #[.int i64 x6,.int i64 x7,.int i64 x8,.int i64 x9,.int i64 x10,.int i64 x11] 30):=⟨_,rfl⟩;rw[←hw3];have hb23:Below w2.heap.size w2 w3:=by rw[hw3];exact (bRQ _ _).alloc (nLQ _) _
   have hS3:w3.heap.size=w2.heap.size+1:=by rw[hw3];simp
   have HS3:Hid (w3.heap.size=w2.heap.size+1):=hS3;have f0:w3.cell? ⟨w2.heap.size,0,none⟩=some (.int i64 x6):=by rw[hw3];simp
   have f1:w3.cell? ⟨w2.heap.size,1,none⟩=some (.int i64 x7):=by rw[hw3];simp
   have f2:w3.cell? ⟨w2.heap.size,2,none⟩=some (.int i64 x8):=by rw[hw3];simp
   have f3:w3.cell? ⟨w2.heap.size,3,none⟩=some (.int i64 x9):=by rw[hw3];simp
   have f4:w3.cell? ⟨w2.heap.size,4,none⟩=some (.int i64 x10):=by rw[hw3];simp
   have f5:w3.cell? ⟨w2.heap.size,5,none⟩=some (.int i64 x11):=by rw[hw3];simp
   have hd5:=cell_later hb23 d5;have HO3:Hid (∀V,Below w3.heap.size w3 V→V.ownsRow w1.heap.size 3 inE.n (.slice (some ⟨w1.heap.size,0,none⟩) 4 4) [1,x1,x2,x3].length (cellsG inE [1,x1,x2,x3])):=fun V hV=>own_below (own_below HO2.out hb23) hV
   have HB3:Hid (Below w.heap.size w w3):=HB2.out.trans (hb23.mono HB2.out.size);have hgl:w2.heap.size<w3.heap.size:=by omega
   have hgl2:w.heap.size<w3.heap.size:=by have:=HS2.out;omega
   have HK:Hid (∀V,Below w3.heap.size w3 V→V.cell? ⟨w.heap.size,5,none⟩=some (.bool x5)∧V.cell? ⟨w2.heap.size,0,none⟩=some (.int i64 x6)∧V.cell? ⟨w2.heap.size,1,none⟩=some (.int i64 x7)∧V.cell? ⟨w2.heap.size,2,none⟩=some (.int i64 x8)∧V.cell? ⟨w2.heap.size,3,none⟩=some (.int i64 x9)∧V.cell? ⟨w2.heap.size,4,none⟩=some (.int i64 x10)∧V.cell? ⟨w2.heap.size,5,none⟩=some (.int i64 x11)):=fun V hV=>⟨cell_later hV hd5,cell_later hV f0,cell_later hV f1,cell_later hV f2,cell_later hV f3,cell_later hV f4,cell_later hV f5⟩
   have HKR:Hid (w3.cell? ⟨w.heap.size,5,none⟩=some (.bool x5)∧w3.cell? ⟨w2.heap.size,0,none⟩=some (.int i64 x6)∧w3.cell? ⟨w2.heap.size,1,none⟩=some (.int i64 x7)∧w3.cell? ⟨w2.heap.size,2,none⟩=some (.int i64 x8)∧w3.cell? ⟨w2.heap.size,3,none⟩=some (.int i64 x9)∧w3.cell? ⟨w2.heap.size,4,none⟩=some (.int i64 x10)∧w3.cell? ⟨w2.heap.size,5,none⟩=some (.int i64 x11)):=HK.out w3 (bRQ _ _);have HNE:Hid (some w.heap.size≠some w1.heap.size∧some w2.heap.size≠some w1.heap.size):=by
    have:=HS2.out;exact⟨fun h=>by have:=Option.some.inj h;omega,fun h=>by have:=Option.some.inj h;omega⟩
   have HLN1:Hid ([1,x1,x2,x3].length+7≤maxLen):=by show _≤_;unfold maxLen;simp
   have HLN2:Hid (([1,x1,x2,x3].length+7)*8≤140737488355328):=by show _≤_;simp
   have HSZ:Hid (∀V,Below w3.heap.size w3 V→w1.heap.size≤V.heap.size):=fun V hV=>by have:=hV.size;have:=HS3.out;have:=HS2.out;omega
   have HFIN:Hid (∀V V2,Below w3.heap.size w3 V→V.grownBy V2 (some w1.heap.size)→Below w.heap.size w V2):=fun V V2 hV hg=>by
    have h1:Below w.heap.size w V:=HB3.out.trans (hV.mono HB3.out.size);exact h1.grown hg h1.size (fun k hk=>by cases hk;exact Nat.le_of_lt hlt1)
   clear hw3 hb23 d0 d5 d6 d7 d8 d9 d10 d11 hS3
   go_region_held3 (fun V=>V.cell? ⟨w.heap.size,5,none⟩=some (.bool x5)∧V.cell? ⟨w2.heap.size,0,none⟩=some (.int i64 x6)∧V.cell? ⟨w2.heap.size,1,none⟩=some (.int i64 x7)∧V.cell? ⟨w2.heap.size,2,none⟩=some (.int i64 x8)∧V.cell? ⟨w2.heap.size,3,none⟩=some (.int i64 x9)∧V.cell? ⟨w2.heap.size,4,none⟩=some (.int i64 x10)∧V.cell? ⟨w2.heap.size,5,none⟩=some (.int i64 x11))
    (first | assumption | exact HKR.out | exact keepC (Below.drew (bRQ _ _)) (by assumption) | exact keepC (Below.alloc (bRQ _ _) (nLQ _) _) (by assumption) | exact keepD (by assumption) HNE.out.1 HNE.out.2 (by assumption))
    (first
     | (go_at_call 9;refine (bit_same x5 _).mono ?_;rintro e w' ⟨rfl,hb⟩;have hb':=hb.symm;subst hb';clear hb)
     | (refine step_append_lst (E:=inE) _ (by rfl) _ _ 35 3 (by rfl) underlying35 j0 _ 8 HJ.out.1 HJ.out.2.1 HJ.out.2.2.1 HJ.out.2.2.2 rfl w1.heap.size (.slice (some ⟨w1.heap.size,0,none⟩) 4 4) (by rfl) [1,x1,x2,x3] (HO3.out _ (by first | exact (bRQ _ _).drew.alloc (nLQ _) _ | exact ((bRQ _ _).alloc (nLQ _) _).drew | exact (bRQ _ _).alloc (nLQ _) _)) _ 0 7 7 (by rfl) [btN x5,x6,x7,x8,x9,x10,x11] (by rfl) (in_new _ [btN x5,x6,x7,x8,x9,x10,x11] 3 [.int i64 (btN x5),.int i64 x6,.int i64 x7,.int i64 x8,.int i64 x9,.int i64 x10,.int i64 x11] rfl) HLN1.out HLN2.out (HSZ.out _ (by first | exact (bRQ _ _).drew.alloc (nLQ _) _ | exact ((bRQ _ _).alloc (nLQ _) _).drew | exact (bRQ _ _).alloc (nLQ _) _)) ?_;intro v' w5 ho5 hg5;have HBF:Hid (Below w.heap.size w w5):=HFIN.out _ _ (by first | exact (bRQ _ _).drew.alloc (nLQ _) _ | exact ((bRQ _ _).alloc (nLQ _) _).drew | exact (bRQ _ _).alloc (nLQ _) _) hg5))
   obtain⟨gv,cv,hv'⟩:∃g c,v'=.slice (some ⟨g,0,none⟩) 11 c:=by
    rcases ho5.2 with ⟨_,h0⟩ | ⟨g,cap,cur,h1,_⟩
    ·cases h0
    exact⟨g,cap,h1⟩
   subst hv';have HG5:Hid (GS inE w5 (.slice (some ⟨gv,0,none⟩) 11 cv) ([1,x1,x2,x3]++[btN x5,x6,x7,x8,x9,x10,x11])):=own_GS ho5;clear ho5 hg5
   go_wp2_with fail
   go_meet
   refine⟨gv,11,cv,rfl,by rw[HLL.out];rfl,?_,HBF.out⟩;rw[HLL.out]
   rcases HG5.out with ⟨_,_,_,h⟩ | ⟨g,o,cap,h,_,_,h4⟩
   ·cases h
   cases h;exact h4
  have hL:=HL2.out hk;have k1:(x0==1)=false:=by simpa using hk
  have d0:=cell_later hb12 c0;clear c0 c1 c2 c3 c4 c5 c6 c7 c8 c9 c10 c11 hw2 hb12 hsz2
  go_wp2_with fail
  go_meet
  exact⟨w1.heap.size,4,4,rfl,by rw[hL];rfl,by rw[hL];exact HG2.out,HB2.out⟩
 case rest =>
  obtain⟨g,n,c,rfl,hn,hG,hB8⟩:=hcut;obtain⟨w8,hw8⟩:∃V,V=wc:=⟨_,rfl⟩;subst hw8;clear HC0 HB0 HB1 HL1 HL2 hlt1 c0 c1 c2 c3 c4 c5 c6 c7 c8 c9 c10 c11;have HB8:Hid (Below w.heap.size w w8):=hB8;have HGA:Hid (GAt inE w8 g 0 L):=hG;have HLN:Hid (L.length=n):=hn;have hn11:n≤11:=by have:=HBY.out.2.1;omega
  have hn4:4≤n:=by have:=HBY.out.2.2;omega
  clear hB8 hG hn;obtain⟨w9,hmk,hown0,hgr⟩:=run_make_own (P:=prog) w8 w8.heap.size 41 5 i0 (.int .u8 0) 1 underlying41 HI.out.1 HI.out.2.1 HI.out.2.2.1 .i64 .i64 12 (by rw[HI.out.2.2.2];decide) (by decide) (nLQ _);have hmk2:(Instr.makeSlice 41 (.int i64 0) (.int i64 12)).run prog w8=.ok (.slice (some ⟨w8.heap.size,0,none⟩) 0 12) w9:=hmk;have HO9:Hid (w9.ownsRow w8.heap.size 5 u8E.n (.slice (some ⟨w8.heap.size,0,none⟩) 0 12) (L.take 0).length (cellsG u8E (L.take 0))):=hown0;have HB9:Hid (Below w8.heap.size w8 w9):=below_grown hgr (nLQ _) (fun k hk=>by cases hk);clear hmk hown0 hgr;go_wp2
  go_loopw [7,8,55] (fun v sm ix wr=>∃k:Nat,k≤n∧ix=.int i64 (k:Int)∧sm=.int i64 (smL (L.take k))∧wr.ownsRow w8.heap.size 5 u8E.n v (L.take k).length (cellsG u8E (L.take k))∧Below w8.heap.size w8 wr) (fun _ _ ix _=>n-(intOf ix).toNat)
  case atStart=>exact⟨0,Nat.zero_le _,rfl,rfl,HO9.out,HB9.out⟩
  case round =>
   obtain⟨k,hk,rfl,rfl,hown,hB⟩:=hrel;obtain⟨T,hT⟩:∃T,T=L.take k:=⟨_,rfl⟩;have HT:Hid (L.take k=T):=hT.symm;have HOW:Hid (wr.ownsRow w8.heap.size 5 u8E.n u7 T.length (cellsG u8E T)):=by rw[hT];exact hown
   have HBR:Hid (Below w8.heap.size w8 wr):=hB;have hsz:w8.heap.size≤wr.heap.size:=hB.size;have HSB:Hid (0≤smL (L.take k)∧smL (L.take k)≤2200):=by
    have h1:=by_sum (by_take HBY.out.1 k);have h2:(L.take k).length≤11:=by simp;omega
    exact⟨h1.1,by omega⟩
   obtain⟨S,hS⟩:∃S,S=smL (L.take k):=⟨_,rfl⟩;have HS:Hid (smL (L.take k)=S):=hS.symm;rw[←hS] at HSB ⊢;have HLT:Hid (T.length≤11):=by show _≤_;rw[hT];simp;omega
   clear hown hS hT;by_cases hlt:k<n
   ·obtain⟨x,hkl,hx,q0⟩:=in_at (HGA.out.later hB) HLN.out hlt;rw[Nat.zero_add] at q0;have hxb:=HBY.out.1 L[k] (List.getElem_mem hkl);rw[hx] at hxb;have hu:=u8_wrap hxb;have HS2:Hid (smL (L.take (k+1))=S+x):=by show _=_;rw[sm_take hkl,hx,HS.out]
    have HT2:Hid (L.take (k+1)=T++[x]):=by show _=_;rw[take_g hkl,hx,HT.out]
    have hSw:IntKind.i64.wrap (S+x)=S+x:=by have:=HSB.out;rw[IntKind.wrap_i64];omega
    have hk0:(0:Int)≤(k:Int):=by omega
    have hk1:(k:Int)<(n:Int):=by omega
    clear hB hkl hx hxb
    go_wp2_with (at_builtin;refine wpList_append_blk (E:=u8E) _ rfl _ _ 41 5 rfl underlying41 i0 _ 1 HI.out.1 HI.out.2.1 HI.out.2.2.1 HI.out.2.2.2 rfl w8.heap.size _ rfl T (HOW.out.alloc _) wr.heap.size 0 1 rfl x (vat_new wr [.int .u8 x] _) ?c1 ?c2 ?c3 ?_)
    case c1=>have:=HLT.out;unfold maxLen;omega
    case c2=>have:=HLT.out;omega
    case c3=>first | (simp;omega) | omega
    intro v' w3 hown3 hgrow _;have HB3:Hid (Below w8.heap.size w8 w3):=(HBR.out.alloc hsz _).grown hgrow (by simp;omega) (fun g hg=>(HOW.out.lt g hg).1);have HO3:Hid (w3.ownsRow w8.heap.size 5 u8E.n v' (L.take (k+1)).length (cellsG u8E (L.take (k+1)))):=by
     show w3.ownsRow w8.heap.size 5 u8E.n v' (L.take (k+1)).length (cellsG u8E (L.take (k+1)));rw[HT2.out,List.length_append];exact hown3
    clear hgrow hown3;go_wp2;go_roundw
    case rel=>exact⟨k+1,by omega,by go_num,by rw[HS2.out],HO3.out,HB3.out⟩
    case measure=>simp[intOf];omega
   have hkn:k=n:=by omega
   have HLE:Hid (T=L):=by show _=_;rw[←HT.out,hkn,←HLN.out];exact List.take_length
   have HRR:Hid (∃R,R=smL L % 251∧S.tmod 251=R∧IntKind.i64.wrap R=R∧IntKind.u8.wrap R=R):=by
    have h1:=HSB.out;have h2:smL L=S:=by rw[←HS.out,HT.out,HLE.out]
    refine⟨smL L % 251,rfl,?_,?_,?_⟩
    ·rw[h2,Int.tmod_eq_emod_of_nonneg h1.1]
    ·rw[IntKind.wrap_i64];omega
    rw[IntKind.wrap_u8];omega
   obtain⟨R,hR,hR1,hR2,hR3⟩:=HRR.out;clear HRR;have HRR:Hid (nmT L=strOfNums (L++[R])):=by show _=_;rw[nmT,hR]
   have hk1:¬(k:Int)<(n:Int):=by omega
   clear hR hB hkn
   go_wp2_with (at_builtin;refine wpList_append_blk (E:=u8E) _ rfl _ _ 41 5 rfl underlying41 i0 _ 1 HI.out.1 HI.out.2.1 HI.out.2.2.1 HI.out.2.2.2 rfl w8.heap.size _ rfl T (HOW.out.alloc _) wr.heap.size 0 1 rfl R (vat_new wr [.int .u8 R] _) ?c1 ?c2 ?c3 ?_)
   case c1=>have:=HLT.out;unfold maxLen;omega
   case c2=>have:=HLT.out;omega
   case c3=>first | (simp;omega) | omega
   intro v' w3 hown3 hgrow _;have HB3:Hid (Below w8.heap.size w8 w3):=(HBR.out.alloc hsz _).grown hgrow (by simp;omega) (fun g hg=>(HOW.out.lt g hg).1);have HBF:Hid (Below w.heap.size w w3):=HB8.out.trans (HB3.out.mono HB8.out.size);rw[HLE.out] at hown3;have hown4:w3.ownsRow w8.heap.size 5 u8E.n v' (L++[R]).length (cellsG u8E (L++[R])):=by rw[List.length_append];exact hown3
   obtain⟨n9,hn9⟩:∃n9,(L++[R]).length=n9:=⟨_,rfl⟩;obtain⟨gv,cv,rfl,hcv⟩:=conv_own hown4 hn9 (by rw[←hn9];simp);clear hn9;clear hown4;clear hgrow hown3;go_wp2;refine bodyPost_ret (v:=.tuple #[.string (strOfNums (L++[R])),.nilIface]) (by simp[results,results4,go_sem]) rfl ⟨by rw[HRR.out],HBF.out⟩
def dcE (b:ByteArray):Int:=if dcB b then 0 else 2
theorem dc_no {b:ByteArray}(h:dcB b=false):mgV (dcV b)=.agg #[.int i64 0,.int i64 0,.int i64 0,.int i64 0,.int i64 0,.bool false,.int i64 0,.int i64 0,.int i64 0,.int i64 0,.int i64 0,.int i64 0]∧noV (dcE b)=.iface 47 (.int i64 2):=by
 unfold dcV dcE;rw[h];exact⟨rfl,rfl⟩
theorem dc_yes {b:ByteArray}(h:dcB b=true):dcV b=wrM b∧noV (dcE b)=.nilIface:=by
 unfold dcV dcE;rw[h];exact⟨rfl,rfl⟩
theorem dc_0 {b:ByteArray}(h:b.size=0):dcB b=false:=by simp[dcB,h]
theorem dc_ln {b:ByteArray}(h:b.size≠lnM (byN b 0)):dcB b=false:=by simp[dcB,h]
theorem dc_mg {b:ByteArray}(h:mgN (wrM b)≠0):dcB b=false:=by simp[dcB,h]
theorem dc_tx {b:ByteArray}(h:mgT (wrM b)≠b):dcB b=false:=by simp[dcB,h]
theorem dc_all {b:ByteArray}(h0:b.size≠0)(h1:b.size=lnM (byN b 0))(h2:mgN (wrM b)=0)(h3:mgT (wrM b)=b):dcB b=true:=by
 unfold dcB;rw[decide_eq_true h1,decide_eq_true h2,decide_eq_true h3,beq_eq_false_iff_ne.2 h0];rfl
theorem wread_any (b:ByteArray)(h0:b.size≠0)(h:b.size=lnM (byN b 0))(w:World):
 Calls prog 12 #[.string b] w fun e w'=>e=.returned (mgV (wrM b))∧Below w.heap.size w w':=by
 rcases wr_sizes h0 h with ⟨h1,h2⟩ | ⟨h1,h2⟩
 ·exact wread_do b h1 h2 w
 exact wread_plain b h1 h2 w
theorem wenc_any (x0 x1 x2 x3 x4:Int)(x5:Bool)(x6 x7 x8 x9 x10 x11:Int)(w:World):
 Calls prog 4 #[.agg #[.int i64 x0,.int i64 x1,.int i64 x2,.int i64 x3,.int i64 x4,.bool x5,.int i64 x6,.int i64 x7,.int i64 x8,.int i64 x9,.int i64 x10,.int i64 x11]] w fun e w'=>e=.returned (.tuple #[.string (enT ⟨x0,x1,x2,x3,⟨x4,x5,⟨x6,x7,x8,x9,x10,x11⟩⟩⟩),noV (mgN ⟨x0,x1,x2,x3,⟨x4,x5,⟨x6,x7,x8,x9,x10,x11⟩⟩⟩)])∧Below w.heap.size w w':=by
 by_cases h:mgN ⟨x0,x1,x2,x3,⟨x4,x5,⟨x6,x7,x8,x9,x10,x11⟩⟩⟩=0
 ·exact wenc_yes x0 x1 x2 x3 x4 x5 x6 x7 x8 x9 x10 x11 w h
 exact wenc_no x0 x1 x2 x3 x4 x5 x6 x7 x8 x9 x10 x11 w h
theorem emp_no {b:ByteArray}(h:b.size≠0):b.toList.isEmpty=false:=by
 rw[Lib.toList_data];cases h2:b.data.toList with
 | nil =>
   exfalso
   have:=Lib.size_eq b;rw[h2] at this;exact h this
 | cons a b=>rfl
theorem txt_eq (a b:ByteArray):(a.toList==b.toList)=decide (a=b):=by
 rw[Lib.toList_data,Lib.toList_data];by_cases h:a=b
 ·subst h;simp
 rw[decide_eq_false h,beq_eq_false_iff_ne];intro h2
 apply h
 cases a;cases b;simp at h2;cases h2;rfl
theorem wdec_any (b:ByteArray)(w:World):
 Calls prog 6 #[.string b] w fun e w'=>e=.returned (.tuple #[mgV (dcV b),noV (dcE b)])∧Below w.heap.size w w':=by
 obtain⟨w1,hw1⟩:∃V,V=w.alloc (.cells #[.int i64 0,.int i64 0,.int i64 0,.int i64 0,.int i64 0,.bool false,.int i64 0,.int i64 0,.int i64 0,.int i64 0,.int i64 0,.int i64 0] 34):=⟨_,rfl⟩;have HB1:Hid (Below w.heap.size w w1):=by rw[hw1];exact (bRQ _ _).alloc (nLQ _) _
 have hm1:MgC w1 w.heap.size 0 0 0 0 0 false 0 0 0 0 0 0:=by rw[hw1];exact mgc_new w 0 0 0 0 0 false 0 0 0 0 0 0 _
 have hf1:∀i,w1.frozen? ⟨w.heap.size,i,none⟩=false:=by intro i;rw[hw1];simp
 have HR1:Hid (∀W,Below w1.heap.size w1 W→MgC W w.heap.size 0 0 0 0 0 false 0 0 0 0 0 0∧(∀i,W.frozen? ⟨w.heap.size,i,none⟩=false)):=fun W h =>
  ⟨hm1.later h,fun i=>by rw[h.frozen (p:=⟨w.heap.size,i,none⟩) hm1.lt];exact hf1 i⟩
 have HW1:Hid (w.alloc (.cells #[.int i64 0,.int i64 0,.int i64 0,.int i64 0,.int i64 0,.bool false,.int i64 0,.int i64 0,.int i64 0,.int i64 0,.int i64 0,.int i64 0] 34)=w1):=hw1.symm;have HBAD:Hid (∀W,dcB b=false→Below w.heap.size w W→Ending.returned (.tuple #[.agg #[.int i64 0,.int i64 0,.int i64 0,.int i64 0,.int i64 0,.bool false,.int i64 0,.int i64 0,.int i64 0,.int i64 0,.int i64 0,.int i64 0],.iface 47 (.int i64 2)])=.returned (.tuple #[mgV (dcV b),noV (dcE b)])∧Below w.heap.size w W):=fun W h hb=>by
  rw[(dc_no h).1,(dc_no h).2];exact⟨rfl,hb⟩
 clear hw1 hm1 hf1;by_cases h0:b.size=0
 ·have HDC:Hid (dcB b=false):=dc_0 h0;have e:b=⟨#[]⟩:=by
   apply ByteArray.ext
   exact Array.eq_empty_of_size_eq_zero h0
  subst e;clear h0;go_enter func6,ntmps6;go_wp2;refine bodyPost_ret (v:=.tuple #[.agg #[.int i64 0,.int i64 0,.int i64 0,.int i64 0,.int i64 0,.bool false,.int i64 0,.int i64 0,.int i64 0,.int i64 0,.int i64 0,.int i64 0],.iface 47 (.int i64 2)]) (by simp[results,results6,go_sem, *]) rfl ?_;exact HBAD.out _ HDC.out ((bRQ _ _).alloc (nLQ _) _)
 have he:=emp_no h0;have l0:0<b.size:=by omega
 have i0:(0:Int)<(b.size:Int):=by omega
 obtain⟨N,hN⟩:∃N,N=lnM (byN b 0):=⟨_,rfl⟩;have HN:Hid (lnM b[0].toNat=N):=by show _=_;rw[hN,byN_at b 0 l0]
 by_cases h1:b.size=N
 ·have hn1:((b.size:Int) != (N:Int))=false:=by simp[h1]
  have hn2:((b.size:Int)==(N:Int))=true:=by simp[h1]
  obtain⟨m,hm⟩:∃m,m=wrM b:=⟨_,rfl⟩;have HRD:Hid (∀W,Calls prog 12 #[.string b] W fun e w'=>e=.returned (mgV m)∧Below W.heap.size W w'):=fun W=>by rw[hm];exact wread_any b h0 (by rw[h1,hN]) W
  have HM:Hid (wrM b=m):=hm.symm;have HALL:Hid (mgN m=0→mgT m=b→dcB b=true):=fun h2 h3=>dc_all h0 (by rw[h1,hN]) (by rw[←hm];exact h2) (by rw[←hm];exact h3)
  clear hm h0 hN;obtain⟨x0,x1,x2,x3,⟨x4,x5,⟨x6,x7,x8,x9,x10,x11⟩⟩⟩:=m;obtain⟨Z,hZ⟩:∃Z,Z=mgN ⟨x0,x1,x2,x3,⟨x4,x5,⟨x6,x7,x8,x9,x10,x11⟩⟩⟩:=⟨_,rfl⟩;obtain⟨E,hE⟩:∃E,E=enT ⟨x0,x1,x2,x3,⟨x4,x5,⟨x6,x7,x8,x9,x10,x11⟩⟩⟩:=⟨_,rfl⟩;have HZ:Hid (mgN ⟨x0,x1,x2,x3,⟨x4,x5,⟨x6,x7,x8,x9,x10,x11⟩⟩⟩=Z∧enT ⟨x0,x1,x2,x3,⟨x4,x5,⟨x6,x7,x8,x9,x10,x11⟩⟩⟩=E):=⟨hZ.symm,hE.symm⟩;clear hZ hE;go_enter func6,ntmps6
  go_wp2_with fail
  refine (size_any _ _).mono ?_;rintro e w' ⟨rfl,hw'⟩;have hw'':=hw'.symm;subst hw'';clear hw';rw[HN.out]
  go_wp2_with fail
  rw[HW1.out];refine (HRD.out _).mono ?_;rintro e w2 ⟨rfl,hb2⟩
  dsimp only[mgV]
  obtain⟨w3,hw3⟩:∃V,V=w2.alloc (.cells #[.int i64 x0,.int i64 x1,.int i64 x2,.int i64 x3,.int i64 x4,.bool x5,.int i64 x6,.int i64 x7,.int i64 x8,.int i64 x9,.int i64 x10,.int i64 x11] 34):=⟨_,rfl⟩;have hb23:Below w2.heap.size w2 w3:=by rw[hw3];exact (bRQ _ _).alloc (nLQ _) _
  have HB3:Hid (Below w1.heap.size w1 w3):=hb2.trans (hb23.mono hb2.size);have hm3:MgC w3 w2.heap.size x0 x1 x2 x3 x4 x5 x6 x7 x8 x9 x10 x11:=by rw[hw3];exact mgc_new w2 x0 x1 x2 x3 x4 x5 x6 x7 x8 x9 x10 x11 _
  have HM3:Hid (∀W,Below w3.heap.size w3 W→MgC W w2.heap.size x0 x1 x2 x3 x4 x5 x6 x7 x8 x9 x10 x11):=fun W h=>hm3.later h
  have HG3:Hid (w1.heap.size≤w2.heap.size):=hb2.size;have HW3:Hid (w2.alloc (.cells #[.int i64 x0,.int i64 x1,.int i64 x2,.int i64 x3,.int i64 x4,.bool x5,.int i64 x6,.int i64 x7,.int i64 x8,.int i64 x9,.int i64 x10,.int i64 x11] 34)=w3):=hw3.symm;clear hb2 hb23 hw3;go_upto_region 4 with fail;rw[HW3.out];obtain⟨m0,m1,m2,m3,m4,m5,m6,m7,m8,m9,m10,m11⟩:=hm3
  go_wp2_with fail
  refine (wenc_any x0 x1 x2 x3 x4 x5 x6 x7 x8 x9 x10 x11 w3).mono ?_;rintro e w4 ⟨rfl,hb4⟩;have HBX:Hid (Below w1.heap.size w1 w4):=HB3.out.trans (hb4.mono HB3.out.size);have HM4:Hid (MgC w4 w2.heap.size x0 x1 x2 x3 x4 x5 x6 x7 x8 x9 x10 x11):=HM3.out w4 hb4;rw[HZ.out.1,HZ.out.2];clear hb4 m0 m1 m2 m3 m4 m5 m6 m7 m8 m9 m10 m11;by_cases hz:Z=0
  ·have HZ0:Hid (mgN ⟨x0,x1,x2,x3,⟨x4,x5,⟨x6,x7,x8,x9,x10,x11⟩⟩⟩=0):=by rw[hz] at HZ;exact HZ.out.1
   have HET:Hid (mgT ⟨x0,x1,x2,x3,⟨x4,x5,⟨x6,x7,x8,x9,x10,x11⟩⟩⟩=E):=by show _=_;rw[←HZ.out.2,enT,if_pos HZ0.out]
   subst hz;rw[no_ok rfl];by_cases hEb:E=b
   ·have HDC:Hid (dcB b=true):=HALL.out HZ0.out (by rw[HET.out,hEb]);have t1:(E.toList==b.toList)=true:=by rw[txt_eq,decide_eq_true hEb]
    obtain⟨⟨r0,r1,r2,r3,r4,r5,r6,r7,r8,r9,r10,r11⟩,hf⟩:=HR1.out _ HBX.out;obtain⟨m0,m1,m2,m3,m4,m5,m6,m7,m8,m9,m10,m11⟩:=HM4.out;have f0:=hf 0;have f1:=hf 1;have f2:=hf 2;have f3:=hf 3;have f4:=hf 4;have f5:=hf 5;have f6:=hf 6;have f7:=hf 7;have f8:=hf 8;have f9:=hf 9;have f10:=hf 10;have f11:=hf 11;have HFIN:Hid (.tuple #[.agg #[.int i64 x0,.int i64 x1,.int i64 x2,.int i64 x3,.int i64 x4,.bool x5,.int i64 x6,.int i64 x7,.int i64 x8,.int i64 x9,.int i64 x10,.int i64 x11],.nilIface]=Value.tuple #[mgV (dcV b),noV (dcE b)]):=by
     show _=_;rw[(dc_yes HDC.out).1,(dc_yes HDC.out).2,HM.out];rfl
    clear hf hEb;go_wp2;refine bodyPost_ret (v:=.tuple #[.agg #[.int i64 x0,.int i64 x1,.int i64 x2,.int i64 x3,.int i64 x4,.bool x5,.int i64 x6,.int i64 x7,.int i64 x8,.int i64 x9,.int i64 x10,.int i64 x11],.nilIface]) (by simp[results,results6,go_sem, *]) rfl ?_;exact⟨by rw[HFIN.out],below_set12 (HB1.out.trans (HBX.out.mono HB1.out.size)) _ (nLQ _) _ _ _ _ _ _ _ _ _ _ _ _⟩
   have HDC:Hid (dcB b=false):=dc_tx (by rw[HM.out,HET.out];exact hEb);have t1:(E.toList==b.toList)=false:=by rw[txt_eq,decide_eq_false hEb]
   obtain⟨⟨r0,r1,r2,r3,r4,r5,r6,r7,r8,r9,r10,r11⟩,hf⟩:=HR1.out _ HBX.out;have f0:=hf 0;have f1:=hf 1;have f2:=hf 2;have f3:=hf 3;have f4:=hf 4;have f5:=hf 5;have f6:=hf 6;have f7:=hf 7;have f8:=hf 8;have f9:=hf 9;have f10:=hf 10;have f11:=hf 11;clear hf;go_wp2;refine bodyPost_ret (v:=.tuple #[.agg #[.int i64 0,.int i64 0,.int i64 0,.int i64 0,.int i64 0,.bool false,.int i64 0,.int i64 0,.int i64 0,.int i64 0,.int i64 0,.int i64 0],.iface 47 (.int i64 2)]) (by simp[results,results6,go_sem, *]) rfl ?_;exact HBAD.out _ HDC.out (below_set12 (HB1.out.trans (HBX.out.mono HB1.out.size)) _ (nLQ _) _ _ _ _ _ _ _ _ _ _ _ _)
  have HDC:Hid (dcB b=false):=dc_mg (by rw[HM.out,HZ.out.1];exact hz);rw[no_ne hz];obtain⟨⟨r0,r1,r2,r3,r4,r5,r6,r7,r8,r9,r10,r11⟩,hf⟩:=HR1.out _ HBX.out;have f0:=hf 0;have f1:=hf 1;have f2:=hf 2;have f3:=hf 3;have f4:=hf 4;have f5:=hf 5;have f6:=hf 6;have f7:=hf 7;have f8:=hf 8;have f9:=hf 9;have f10:=hf 10;have f11:=hf 11;clear hf;go_wp2;refine bodyPost_ret (v:=.tuple #[.agg #[.int i64 0,.int i64 0,.int i64 0,.int i64 0,.int i64 0,.bool false,.int i64 0,.int i64 0,.int i64 0,.int i64 0,.int i64 0,.int i64 0],.iface 47 (.int i64 2)]) (by simp[results,results6,go_sem, *]) rfl ?_;exact HBAD.out _ HDC.out (below_set12 (HB1.out.trans (HBX.out.mono HB1.out.size)) _ (nLQ _) _ _ _ _ _ _ _ _ _ _ _ _)
 have HDC:Hid (dcB b=false):=dc_ln (by rw[←hN];exact h1);have hn1:((b.size:Int) != (N:Int))=true:=by simp;omega
 have hn2:((b.size:Int)==(N:Int))=false:=by simp;omega
 clear hN h0;go_enter func6,ntmps6
 go_wp2_with fail
 refine (size_any _ _).mono ?_;rintro e w' ⟨rfl,hw'⟩;have hw'':=hw'.symm;subst hw'';clear hw';rw[HN.out];go_wp2;refine bodyPost_ret (v:=.tuple #[.agg #[.int i64 0,.int i64 0,.int i64 0,.int i64 0,.int i64 0,.bool false,.int i64 0,.int i64 0,.int i64 0,.int i64 0,.int i64 0,.int i64 0],.iface 47 (.int i64 2)]) (by simp[results,results6,go_sem, *]) rfl ?_;exact HBAD.out _ HDC.out ((bRQ _ _).alloc (nLQ _) _)
def stZ:Value→Nat
 | .string s=>s.size
 | _=>0
theorem ne_emp {b:ByteArray}(h:b.size≠0):(b.toList==[])=false:=by
 have:=emp_no h;cases h2:b.toList with
 | nil=>rw[h2] at this;cases this
 | cons a r=>rfl
theorem wcut_any (b:ByteArray)(hsz:b.size≤1048576)(w:World):
 Calls prog 7 #[.string b] w fun e w'=>∃v,e=.returned (.tuple #[v,.string (wtR b),noV (wtN b)])∧GS msgE w' v (wtL b)∧Below w.heap.size w w':=by
 obtain⟨j0,hj,hy0,hy1,hy2⟩:=info_parts msg_info;have HI1:Hid (Try.prog.info? 34=some j0):=hj;have HI2:Hid (j0.zero=some (.agg #[.int i64 0,.int i64 0,.int i64 0,.int i64 0,.int i64 0,.bool false,.int i64 0,.int i64 0,.int i64 0,.int i64 0,.int i64 0,.int i64 0])):=hy0;have HI3:Hid (j0.size=12):=hy1;have HI4:Hid (j0.bytes=96):=hy2;have HSZ:Hid (b.size≤1048576):=hsz;have HEND:Hid (∀(W:World) (v:Value) (L:List Mg) (r:ByteArray),wtG [] b=some (L,r)→GS msgE W v L→Below w.heap.size w W→∃v',Ending.returned (.tuple #[v,.string r,.nilIface])=.returned (.tuple #[v',.string (wtR b),noV (wtN b)])∧GS msgE W v' (wtL b)∧Below w.heap.size w W):=fun W v L r h h1 h2=>by
  rw[wg_nil] at h;obtain⟨e1,e2,e3⟩:=wt_some h;rw[e1,e2,e3];exact⟨v,rfl,h1,h2⟩
 have HBAD:Hid (∀(W:World),wtG [] b=none→Below w.heap.size w W→∃v',Ending.returned (.tuple #[.slice none 0 0,.string ⟨#[]⟩,.iface 47 (.int i64 2)])=.returned (.tuple #[v',.string (wtR b),noV (wtN b)])∧GS msgE W v' (wtL b)∧Below w.heap.size w W):=fun W h h2=>by
  rw[wg_nil] at h;obtain⟨e1,e2,e3⟩:=wt_none h;rw[e1,e2,e3];exact⟨_,rfl,GS.nil _,h2⟩
 clear hj hy0 hy1 hy2 hsz;obtain⟨w0,hw0⟩:∃V,V=w:=⟨_,rfl⟩;go_enter func7,ntmps7;go_wp2
 go_loopw [5,6] (fun out rest wr=>∃(L:List Mg) (r:ByteArray),rest=.string r∧wtG L r=wtG [] b∧wr.ownsRow w.heap.size 34 msgE.n out L.length (cellsG msgE L)∧L.length*5+r.size≤b.size∧Below w.heap.size w wr) (fun _ rest _=>stZ rest)
 case atStart=>exact⟨[],b,rfl,rfl,World.ownsRow_nil _ _ _ _,by simp,bRQ _ _⟩
 case round =>
  obtain⟨L,r,rfl,hG,hown,hlen,hB⟩:=hrel;have HG:Hid (wtG L r=wtG [] b):=hG;have HOW:Hid (wr.ownsRow w.heap.size 34 msgE.n u5 L.length (cellsG msgE L)):=hown;have HB:Hid (Below w.heap.size w wr):=hB;have HLEN:Hid (L.length*5+r.size≤b.size):=hlen;clear hG hown hB hlen hw0;by_cases h0:r.size=0
  ·have HE:Hid (wtG [] b=some (L,r)):=by show _=_;rw[←HG.out];exact wg_0 h0
   have e:r=⟨#[]⟩:=by
    apply ByteArray.ext
    exact Array.eq_empty_of_size_eq_zero h0
   have HLS:Hid (r.size≤1000000):=by show _≤_;omega
   have HRE:Hid (r=⟨#[]⟩):=e;have hem:r.toList.isEmpty=true:=by rw[e,Lib.toList_data];rfl
   have hem2:(r.toList==[])=true:=by rw[e,Lib.toList_data];rfl
   clear e h0
   go_wp2_with fail
   refine (clone_any r _ HLS.out).mono ?_;rintro e w1 ⟨rfl,hb1⟩;have HF:Hid (GS msgE w1 u5 L):=(own_GS HOW.out).later hb1;have HBF:Hid (Below w.heap.size w w1):=HB.out.trans (hb1.mono HB.out.size);clear hb1;go_wp2;refine bodyPost_ret (v:=.tuple #[u5,.string r,.nilIface]) (by simp[results,results7,go_sem, *]) rfl ?_;exact HEND.out _ _ _ _ HE.out HF.out HBF.out
  have hem:=emp_no h0;have hem2:=ne_emp h0;have l0:0<r.size:=by omega
  have i0:(0:Int)<(r.size:Int):=by omega
  obtain⟨N,hN⟩:∃N,N=lnM (byN r 0):=⟨_,rfl⟩;have HN:Hid (lnM r[0].toNat=N):=by show _=_;rw[hN,byN_at r 0 l0]
  have hN12:N≤12:=by rw[hN];exact ln_le _
  by_cases hz:N=0
  ·have HE:Hid (wtG [] b=none):=by show _=_;rw[←HG.out];exact wg_no h0 (by rw[←hN];exact hz)
   subst hz;clear hN h0
   go_wp2_with fail
   refine (size_any _ _).mono ?_;rintro e w' ⟨rfl,hw'⟩;have hw'':=hw'.symm;subst hw'';clear hw';rw[HN.out];go_wp2;refine bodyPost_ret (v:=.tuple #[.slice none 0 0,.string ⟨#[]⟩,.iface 47 (.int i64 2)]) (by simp[results,results7,go_sem, *]) rfl ?_;exact HBAD.out _ HE.out HB.out
  have hz2:((N:Int)==0)=false:=by simp;omega
  have hz3:¬(N:Int)=0:=by omega
  by_cases hlt:r.size<N
  ·have HE:Hid (wtG [] b=some (L,r)):=by show _=_;rw[←HG.out];exact wg_end h0 (by rw[←hN];exact hz) (by rw[←hN];exact hlt)
   have hlt2:(r.size:Int)<(N:Int):=by omega
   have HLS:Hid (r.size≤1000000):=by show _≤_;omega
   clear hN h0
   go_wp2_with fail
   refine (size_any _ _).mono ?_;rintro e w' ⟨rfl,hw'⟩;have hw'':=hw'.symm;subst hw'';clear hw';rw[HN.out]
   go_wp2_with fail
   refine (clone_any r _ HLS.out).mono ?_;rintro e w1 ⟨rfl,hb1⟩;have HF:Hid (GS msgE w1 u5 L):=(own_GS HOW.out).later hb1;have HBF:Hid (Below w.heap.size w w1):=HB.out.trans (hb1.mono HB.out.size);clear hb1;go_wp2;refine bodyPost_ret (v:=.tuple #[u5,.string r,.nilIface]) (by simp[results,results7,go_sem, *]) rfl ?_;exact HEND.out _ _ _ _ HE.out HF.out HBF.out
  have hge:¬(r.size:Int)<(N:Int):=by omega
  have hge2:(N:Int)≤(r.size:Int):=by omega
  have hge3:(0:Int)≤(N:Int):=by omega
  obtain⟨T,hT⟩:∃T,T=r.extract 0 N:=⟨_,rfl⟩;have HT:Hid (r.extract 0 N=T):=hT.symm;have HX:Hid (∀d,dcB T=d→(d=false→wtG [] b=none)∧(d=true→wtG (L++[dcV T]) (r.extract N r.size)=wtG [] b)):=fun d hd=>by
   rw[hT,hN] at hd;refine⟨fun h=>?_,fun h=>?_⟩
   ·rw[←HG.out];exact wg_bad h0 (by rw[←hN];exact hz) (by rw[←hN];exact hlt) (by rw[hd,h])
   rw[←HG.out,hT,hN];exact (wg_on h0 (by rw[←hN];exact hz) (by rw[←hN];exact hlt) (by rw[hd,h])).symm
  have HEX:Hid ((r.extract N r.size).size+N=r.size):=by show _=_;rw[ByteArray.size_extract];omega
  have HN5:Hid (5≤N):=by show _≤_;rw[hN];exact ln_5 (by rw[←hN];exact hz)
  clear hN h0 hT
  go_wp2_with fail
  refine (size_any _ _).mono ?_;rintro e w' ⟨rfl,hw'⟩;have hw'':=hw'.symm;subst hw'';clear hw';rw[HN.out]
  go_wp2_with fail
  rw[HT.out];refine (wdec_any T _).mono ?_;rintro e w1 ⟨rfl,hb1⟩;have HB1:Hid (Below wr.heap.size wr w1):=hb1;clear hb1;obtain⟨d,hd⟩:∃d,dcB T=d:=⟨_,rfl⟩;obtain⟨hx1,hx2⟩:=HX.out d hd;cases d with
  | false =>
    have HE:Hid (wtG [] b=none):=hx1 rfl;rw[(dc_no hd).1,(dc_no hd).2];clear hx1 hx2 hd;have HBF:Hid (Below w.heap.size w (w1.alloc (.cells #[.int i64 0,.int i64 0,.int i64 0,.int i64 0,.int i64 0,.bool false,.int i64 0,.int i64 0,.int i64 0,.int i64 0,.int i64 0,.int i64 0] 34))):=(HB.out.trans (HB1.out.mono HB.out.size)).alloc (Nat.le_trans HB.out.size HB1.out.size) _;go_wp2;refine bodyPost_ret (v:=.tuple #[.slice none 0 0,.string ⟨#[]⟩,.iface 47 (.int i64 2)]) (by simp[results,results7,go_sem, *]) rfl ?_;exact HBAD.out _ HE.out HBF.out
  | true =>
    obtain⟨m,hm⟩:∃m,m=dcV T:=⟨_,rfl⟩;have HE:Hid (wtG (L++[m]) (r.extract N r.size)=wtG [] b):=by rw[hm];exact hx2 rfl
    rw[←hm,(dc_yes hd).2];clear hx1 hx2 hd hm;obtain⟨x0,x1,x2,x3,⟨x4,x5,⟨x6,x7,x8,x9,x10,x11⟩⟩⟩:=m
    dsimp only[mgV]
    obtain⟨w2,hw2⟩:∃V,V=w1.alloc (.cells #[.int i64 x0,.int i64 x1,.int i64 x2,.int i64 x3,.int i64 x4,.bool x5,.int i64 x6,.int i64 x7,.int i64 x8,.int i64 x9,.int i64 x10,.int i64 x11] 34):=⟨_,rfl⟩;have hb12:Below w1.heap.size w1 w2:=by rw[hw2];exact (bRQ _ _).alloc (nLQ _) _
    have HO2:Hid (w2.ownsRow w.heap.size 34 msgE.n u5 L.length (cellsG msgE L)):=own_below (own_below HOW.out HB1.out) hb12;have HB2:Hid (Below w.heap.size w w2):=HB.out.trans ((HB1.out.trans (hb12.mono HB1.out.size)).mono HB.out.size);have hm2:MgC w2 w1.heap.size x0 x1 x2 x3 x4 x5 x6 x7 x8 x9 x10 x11:=by rw[hw2];exact mgc_new w1 x0 x1 x2 x3 x4 x5 x6 x7 x8 x9 x10 x11 _
    have HW2:Hid (w1.alloc (.cells #[.int i64 x0,.int i64 x1,.int i64 x2,.int i64 x3,.int i64 x4,.bool x5,.int i64 x6,.int i64 x7,.int i64 x8,.int i64 x9,.int i64 x10,.int i64 x11] 34)=w2):=hw2.symm;have hsz2:w.heap.size≤w2.heap.size:=HB2.out.size;clear hw2 hb12;go_upto_region 11 with fail;rw[HW2.out];obtain⟨m0,m1,m2,m3,m4,m5,m6,m7,m8,m9,m10,m11⟩:=hm2
    go_wp2_with (at_builtin;refine wpList_append_blk (E:=msgE) _ rfl _ _ 22 34 rfl underlying22 j0 _ 96 HI1.out HI2.out HI3.out HI4.out msg_zero w.heap.size _ rfl L (HO2.out.alloc _) w2.heap.size 0 1 rfl ⟨x0,x1,x2,x3,⟨x4,x5,⟨x6,x7,x8,x9,x10,x11⟩⟩⟩ (msg_new w2 x0 x1 x2 x3 x4 x5 x6 x7 x8 x9 x10 x11 _) ?c1 ?c2 ?c3 ?_)
    case c1=>have:=HLEN.out;have:=HSZ.out;unfold maxLen;omega
    case c2=>have:=HLEN.out;have:=HSZ.out;omega
    case c3=>first | (simp;omega) | omega
    intro v' w3 hown3 hgrow _;have HB3:Hid (Below w.heap.size w w3):=(HB2.out.alloc hsz2 _).grown hgrow (by simp;omega) (fun g hg=>(HO2.out.lt g hg).1);have HO3:Hid (w3.ownsRow w.heap.size 34 msgE.n v' (L++[(⟨x0,x1,x2,x3,⟨x4,x5,⟨x6,x7,x8,x9,x10,x11⟩⟩⟩:Mg)]).length (cellsG msgE (L++[(⟨x0,x1,x2,x3,⟨x4,x5,⟨x6,x7,x8,x9,x10,x11⟩⟩⟩:Mg)]))):=by
     show w3.ownsRow _ _ _ _ _ _;rw[List.length_append];exact hown3
    clear hgrow hown3 m0 m1 m2 m3 m4 m5 m6 m7 m8 m9 m10 m11;go_wp2;go_roundw
    case rel=>exact⟨L++[(⟨x0,x1,x2,x3,⟨x4,x5,⟨x6,x7,x8,x9,x10,x11⟩⟩⟩:Mg)],r.extract N r.size,rfl,HE.out,HO3.out,by have:=HEX.out;have:=HLEN.out;have:=HN5.out;rw[List.length_append,List.length_singleton];omega,HB3.out⟩
    case measure=>have:=HEX.out;have:=HN5.out;simp only[stZ];omega
theorem ba_ext {a b:ByteArray}(h:a.data.toList=b.data.toList):a=b:=by
 cases a;cases b;simp at h;cases h;rfl
theorem ba_app (a b:ByteArray):(a++b).data.toList=a.data.toList++b.data.toList:=by
 rw[ByteArray.data_append,Array.toList_append]
theorem ba_nil {a:ByteArray}(h:a.size=0):a=ByteArray.empty:=by
 apply ba_ext
 have h2:a.data.toList.length=0:=by rw[←Lib.size_eq];exact h
 rw[List.eq_nil_of_length_eq_zero h2];rfl
theorem ba_ex (a:ByteArray)(i j:Nat):(a.extract i j).data.toList=(a.data.toList.take j).drop i:=by
 rw[ByteArray.data_extract,Array.toList_extract];simp[List.extract_eq_take_drop,List.drop_take]
theorem byN_app {a b:ByteArray}{j:Nat}(h:j<a.size):byN (a++b) j=byN a j:=by
 have h2:j<a.data.toList.length:=by rw[←Lib.size_eq];exact h
 unfold byN;rw[ba_app,List.getD_eq_getElem?_getD,List.getD_eq_getElem?_getD,List.getElem?_append_left h2]
def mjT:List Mg→ByteArray
 | []=>ByteArray.empty
 | m :: r=>mgT m++mjT r
theorem mj_app (a b:List Mg):mjT (a++b)=mjT a++mjT b:=by
 induction a with
 | nil=>apply ba_ext;rw[ba_app];rfl
 | cons x r ih =>
   apply ba_ext
   show (mgT x++mjT (r++b)).data.toList=_;rw[ba_app,ih,ba_app,ba_app,mjT,ba_app,List.append_assoc]
theorem mj_one (m:Mg):mjT [m]=mgT m:=by
 apply ba_ext
 rw[mjT,ba_app];show _++[]=_;rw[List.append_nil]
theorem mj_snoc (a:List Mg)(m:Mg):mjT (a++[m])=mjT a++mgT m:=by rw[mj_app,mj_one]
theorem app_empty (a:ByteArray):a++ByteArray.empty=a:=by
 apply ba_ext
 rw[ba_app];show _++[]=_;rw[List.append_nil]
def okM (L:List Mg):Prop:=∀m∈L,mgN m=0
theorem mj_size {L:List Mg}(h:okM L):5*L.length≤(mjT L).size∧(mjT L).size≤12*L.length:=by
 induction L with
 | nil=>exact⟨nLQ _,nLQ _⟩
 | cons m r ih =>
   have h1:=(mg_len (h m List.mem_cons_self)).2;have h2:=ih (fun x hx=>h x (List.mem_cons_of_mem _ hx));rw[mjT,ByteArray.size_append,h1,List.length_cons]
   split <;> omega
theorem wt_join:∀(n:Nat) (b:ByteArray) (L:List Mg) (r:ByteArray),b.size≤n→wtM b=some (L,r)→b=mjT L++r∧okM L:=by
 intro n
 induction n with
 | zero =>
   intro b L r hn h;rw[wt_0 (Nat.le_zero.1 hn)] at h;cases h;exact⟨by apply ba_ext;rw[ba_app];rfl,fun m hm=>by cases hm⟩
 | succ n ih =>
   intro b L r hn h;by_cases h0:b.size=0
   ·rw[wt_0 h0] at h;cases h;exact⟨by apply ba_ext;rw[ba_app];rfl,fun m hm=>by cases hm⟩
   rw[wt_step h0] at h
   split at h
   ·cases h
   next h1 =>
   split at h
   ·cases h;exact⟨by apply ba_ext;rw[ba_app];rfl,fun m hm=>by cases hm⟩
   next h2 =>
   split at h
   ·next h3 =>
    have h5:=ln_5 h1;cases hw:wtM (b.extract (lnM (byN b 0)) b.size) with
    | none=>rw[hw] at h;cases h
    | some p =>
      rw[hw] at h;cases h;obtain⟨e1,e2⟩:=ih (b.extract (lnM (byN b 0)) b.size) p.1 p.2 (by rw[ByteArray.size_extract];omega) hw;obtain⟨d1,d2,_⟩:=dc_text h3;refine⟨?_,?_⟩
      ·apply ba_ext
       show _=((mgT _++mjT p.1)++p.2).data.toList;rw[ba_app,ba_app,List.append_assoc,←ba_app (mjT p.1),←e1,d1,ba_ex,ba_ex,List.drop_zero];have hl:b.data.toList.length=b.size:=(Lib.size_eq b).symm;rw[List.take_of_length_le (l:=b.data.toList) (i:=b.size) (by omega)];exact (List.take_append_drop _ _).symm
      intro m hm
      rcases List.mem_cons.1 hm with rfl | hm
      ·exact d2
      exact e2 m hm
   cases h
def preM (r:ByteArray):Prop:=r.size=0∨(lnM (byN r 0)≠0∧r.size<lnM (byN r 0))
theorem wt_pre {r:ByteArray}(h:preM r):wtM r=some ([],r):=by
 by_cases h0:r.size=0
 ·exact wt_0 h0
 rcases h with h | ⟨h1,h2⟩
 ·exact absurd h h0
 rw[wt_step h0,if_neg h1,if_pos h2]
theorem wt_back {L:List Mg}{r:ByteArray}(h:okM L)(hr:preM r):wtM (mjT L++r)=some (L,r):=by
 induction L with
 | nil =>
   have e:mjT []++r=r:=by apply ba_ext;rw[ba_app];rfl
   rw[e];exact wt_pre hr
 | cons m l ih =>
   have hm:=h m List.mem_cons_self;have ih:=ih (fun x hx=>h x (List.mem_cons_of_mem _ hx));obtain⟨s1,s2⟩:=mg_len hm;have s3:5≤(mgT m).size:=by rw[s2];split <;> omega
   have e:mjT (m :: l)++r=mgT m++(mjT l++r):=by
    apply ba_ext
    rw[mjT,ba_app,ba_app,ba_app,ba_app,List.append_assoc]
   rw[e];have hsz:(mgT m++(mjT l++r)).size=(mgT m).size+(mjT l++r).size:=ByteArray.size_append;have hb:byN (mgT m++(mjT l++r)) 0=byN (mgT m) 0:=byN_app (by omega);rw[wt_step (by omega),hb,←s1,if_neg (by omega),if_neg (by omega)];have hl:(mgT m).data.toList.length=(mgT m).size:=(Lib.size_eq _).symm;have x1:(mgT m++(mjT l++r)).extract 0 (mgT m).size=mgT m:=by
    apply ba_ext
    rw[ba_ex,ba_app,List.drop_zero,←hl,List.take_left]
   have x2:(mgT m++(mjT l++r)).extract (mgT m).size (mgT m++(mjT l++r)).size=mjT l++r:=by
    apply ba_ext
    rw[ba_ex,List.take_of_length_le (by rw[←Lib.size_eq];omega),ba_app (mgT m),←hl,List.drop_left]
   rw[x1,x2,ih,if_pos (dc_back hm).1,(dc_back hm).2];rfl
def mjE (L:List Mg)(k:Nat):Nat:=(mjT (L.take k)).size
theorem mje_all (L:List Mg){k:Nat}(h:L.length≤k):mjE L k=(mjT L).size:=by unfold mjE;rw[List.take_of_length_le h]
theorem mje_up (L:List Mg){k:Nat}(h:k<L.length):mjE L (k+1)=mjE L k+(mgT L[k]).size:=by
 unfold mjE;rw[List.take_succ_eq_append_getElem h,mj_snoc,ByteArray.size_append]
theorem mj_parts (L:List Mg)(k:Nat):(mjT L).data.toList=(mjT (L.take k)).data.toList++(mjT (L.drop k)).data.toList:=by
 rw[←ba_app,←mj_app,List.take_append_drop]
theorem wt_cut {L:List Mg}(h:okM L){k c:Nat}(hk:k≤L.length)(h1:mjE L k≤c)(h2:c≤(mjT L).size)(h3:k=L.length∨c<mjE L (k+1)):
 wtM ((mjT L).extract 0 c)=some (L.take k,(mjT L).extract (mjE L k) c):=by
 have hl:(mjT (L.take k)).data.toList.length=mjE L k:=(Lib.size_eq _).symm;have e:(mjT L).extract 0 c=mjT (L.take k)++(mjT L).extract (mjE L k) c:=by
  apply ba_ext
  rw[ba_app,ba_ex,ba_ex,List.drop_zero,mj_parts L k];have:List.take c ((mjT (L.take k)).data.toList++(mjT (L.drop k)).data.toList)=(mjT (L.take k)).data.toList++(mjT (L.drop k)).data.toList.take (c-mjE L k):=by
   rw[List.take_append,hl,List.take_of_length_le (by omega)]
  rw[this,←hl,List.drop_left]
 rw[e];refine wt_back (fun m hm=>h m (List.mem_of_mem_take hm)) ?_;by_cases hc:c=mjE L k
 ·left;rw[ByteArray.size_extract];omega
 right
 rcases h3 with h3 | h3
 ·exfalso
  rw[h3,mje_all L (nLQ _)] at hc h1;omega
 have hk2:k<L.length:=by
  rcases Nat.lt_or_ge k L.length with h4 | h4
  ·exact h4
  exfalso
  have:k=L.length:=by omega
  rw[this,mje_all L (nLQ _)] at hc h1;omega
 have hm:=h L[k] (List.getElem_mem hk2);obtain⟨s1,s2⟩:=mg_len hm;have hs:5≤(mgT L[k]).size:=by rw[s2];split <;> omega
 have hb:byN ((mjT L).extract (mjE L k) c) 0=byN (mgT L[k]) 0:=by
  have hd:((mjT L).extract (mjE L k) c).data.toList=(mjT (L.drop k)).data.toList.take (c-mjE L k):=by
   rw[ba_ex,List.drop_take,mj_parts L k,←hl,List.drop_left]
  have hg:(mgT L[k]).data.toList.length=(mgT L[k]).size:=(Lib.size_eq _).symm;unfold byN;rw[hd,List.getD_eq_getElem?_getD,List.getD_eq_getElem?_getD,List.getElem?_take,if_pos (by omega),List.drop_eq_getElem_cons hk2,mjT,ba_app,List.getElem?_append_left (by omega)]
 rw[hb,←s1,ByteArray.size_extract];have:=mje_up L hk2;omega
def nmS (b:ByteArray):List Int:=b.data.toList.map fun c=>(c.toNat:Int)
def chB (b:ByteArray)(i:Nat)(t:Int):ByteArray:=strOfNums ((nmS b).set i t)
theorem nms_len (b:ByteArray):(nmS b).length=b.size:=by unfold nmS;rw[List.length_map,Lib.size_eq]
theorem ch_size (b:ByteArray)(i:Nat)(t:Int):(chB b i t).size=b.size:=by unfold chB;rw[strOfNums_size,List.length_set,nms_len]
theorem ch_at {b:ByteArray}{i:Nat}{t:Int}(ht:0≤t∧t≤255){j:Nat}(hj:j<b.size):(byN (chB b i t) j:Int)=if i=j then t else (byN b j:Int):=by
 have h1:j<(nmS b).length:=by rw[nms_len];exact hj
 have h2:j<b.data.toList.length:=by rw[←Lib.size_eq];exact hj
 unfold byN chB;rw[strOfNums_data,List.getD_eq_getElem?_getD,List.getElem?_map,List.getElem?_set];by_cases h:i=j
 ·subst h;rw[if_pos rfl,if_pos h1,if_pos rfl];simp only[Option.map_some,Option.getD_some,UInt8.toNat_ofNat'];omega
 rw[if_neg h,if_neg h];unfold nmS;rw[List.getElem?_map,List.getElem?_eq_getElem h2,List.getD_eq_getElem?_getD,List.getElem?_eq_getElem h2];have h3:=UInt8.toNat_lt b.data.toList[j];simp only[Option.map_some,Option.getD_some,UInt8.toNat_ofNat',Int.toNat_natCast];omega
theorem back_no {L:List Mg}{i:Nat}{t:Int}(hL:okM (L.take 20))(h1:i<(mjT (L.take 20)).size)(ht:0≤t∧t≤255)(hne:(byN (mjT (L.take 20)) i:Int)≠t):¬wtM (chB (mjT (L.take 20)) i t)=some (L,ByteArray.empty):=by
 intro h;obtain⟨e,hk⟩:=wt_join _ _ _ _ (nLQ _) h;rw[app_empty] at e;have e2:mjT L=mjT (L.take 20)++mjT (L.drop 20):=by rw[←mj_app,List.take_append_drop]
 have hs:=congrArg ByteArray.size e;rw[ch_size,e2,ByteArray.size_append] at hs;have e3:mjT (L.drop 20)=ByteArray.empty:=ba_nil (by omega);rw[e2,e3,app_empty] at e;have:=ch_at (b:=mjT (L.take 20)) (i:=i) ht h1;rw[if_pos rfl,e] at this;exact hne this
theorem bw_below (w:World)(e:TypeId)(s:ByteArray):Below w.heap.size w (Lib.bytesWorld w e s):=
 Lib.below_freeze (((bRQ _ _).drew).alloc (by simp) _) (p:=⟨w.heap.size,_,none⟩) (nLQ _) _
theorem bw_frozen (w:World)(e:TypeId)(s:ByteArray){j:Nat}(hj:j<s.size):(Lib.bytesWorld w e s).frozen? ⟨w.heap.size,j,none⟩=false:=by
 have h:=Lib.bytesWorld_at_new w e s;have hs:s.size≤(Lib.bytesCells w e s).size:=by simp[Lib.bytesCells]
 simp[World.frozen?,h];omega
theorem conv_new (s:ByteArray)(w:World):
 ∃(W:World) (cap:Nat),(convert 9 41 (.string s)).run prog w=.ok (.slice (some ⟨w.heap.size,0,none⟩) s.size cap) W∧(∀j,j<s.size→W.cell? ⟨w.heap.size,j,none⟩=some (.int .u8 (byN s j:Int)))∧(∀j,j<s.size→W.frozen? ⟨w.heap.size,j,none⟩=false)∧Below w.heap.size w W∧w.heap.size<W.heap.size:=by
 refine⟨_,_,Lib.run_convert_string_bytes (P:=prog) w 9 41 5 s underlying9 underlying41 underlying5,?_,?_,bw_below _ _ _,?_⟩
 ·intro j hj;exact Lib.bytesWorld_cell w _ s j hj
 ·intro j hj;exact bw_frozen w _ s hj
 rw[Lib.bytesWorld_size];omega
theorem conv_back {s:ByteArray}{W:World}{g cap:Nat}(h:∀j,j<s.size→W.cell? ⟨g,j,none⟩=some (.int .u8 (byN s j:Int))){i:Nat}(hi:i<s.size)(t:Int):
 (convert 41 9 (.slice (some ⟨g,0,none⟩) s.size cap)).run prog (W.setCell ⟨g,i,none⟩ (.int .u8 t))=.ok (.string (chB s i t)) (W.setCell ⟨g,i,none⟩ (.int .u8 t)):=by
 refine run_convert_bytes_arg (P:=prog) _ 41 5 underlying41 underlying5 g 0 s.size cap ((nmS s).set i t) (by rw[List.length_set,nms_len]) (fun j hj=>?_) 9 underlying9;rw[Nat.zero_add];have h1:j<(nmS s).length:=by rw[nms_len];exact hj
 have h2:j<s.data.toList.length:=by rw[←Lib.size_eq];exact hj
 rw[List.getD_eq_getElem?_getD,List.getElem?_set];by_cases e:i=j
 ·subst e;rw[if_pos rfl,if_pos h1,World.cell?_setCell_same _ _ _ (h i hi)];rfl
 rw[if_neg e,World.cell?_setCell_other _ _ _ _ (by simp[e]),h j hj,List.getElem?_eq_getElem h1];simp only[Option.getD_some];have e2:(nmS s)[j]=((s.data.toList[j]).toNat:Int):=by simp[nmS]
 rw[e2];unfold byN;rw[List.getD_eq_getElem?_getD,List.getElem?_eq_getElem h2];rfl
theorem header_yes (n:Int)(w:World)(h:hdrB n=true):
 Calls prog 16 #[.int i64 n] w fun e w'=>e=.returned (.bool true)∧w'=w:=by
 obtain⟨h1,h2⟩:=hdr_of h;clear h;go_enter func16,ntmps16;go_wp2;go_ret;exact⟨rfl,rfl⟩
theorem header_no (n:Int)(w:World)(h:hdrB n=false):
 Calls prog 16 #[.int i64 n] w fun e w'=>e=.returned (.bool false)∧w'=w:=by
 rcases hdr_no h with h1 | h1
 ·clear h;go_enter func16,ntmps16;go_wp2;go_ret;exact⟨rfl,rfl⟩
 have h2:0≤n:=by omega
 have h3:decide (n<16)=false:=by simp;omega
 clear h;go_enter func16,ntmps16;go_wp2;go_ret;exact⟨rfl,rfl⟩
theorem header_any (n:Int)(w:World):
 Calls prog 16 #[.int i64 n] w fun e w'=>e=.returned (.bool (hdrB n))∧w'=w:=by
 cases h:hdrB n
 ·exact header_no n w h
 exact header_yes n w h
theorem refCube_any (m b:Int)(w:World):
 Calls prog 17 #[.agg #[.int i64 m,.int i64 b]] w fun e w'=>e=.returned (.int i64 (refN m b))∧Below w.heap.size w w':=by
 cases hr:rngB m b
 ·rw[refN_range hr];have HH:hdrB m=false∨(hdrB m=true∧hdrB b=false):=by
   cases h1:hdrB m
   ·exact .inl rfl
   exact .inr ⟨rfl,by simpa[rngB,h1] using hr⟩
  rcases HH with hm | ⟨hm,hb⟩
  all_goals
   clear hr;go_enter func17,ntmps17
   go_wp2_with fail
   refine (header_any _ _).mono ?_;rintro e w' ⟨rfl,rfl⟩
   go_wp2_with fail
   refine (header_any _ _).mono ?_;rintro e w' ⟨rfl,rfl⟩;go_wp2;go_ret;exact⟨rfl,(bRQ _ _).alloc (nLQ _) _⟩
 have hm:hdrB m=true:=hdr_mk (rng_of hr).1;have hb:hdrB b=true:=hdr_mk (rng_of hr).2;cases ho:okB m b
 ·rw[refN_shape ho hr];have hz:(bits .and .i64 b m==b)=false:=by rw[andEq hr,ho]
  clear hr ho;go_enter func17,ntmps17
  go_wp2_with fail
  refine (header_any _ _).mono ?_;rintro e w' ⟨rfl,rfl⟩
  go_wp2_with fail
  refine (header_any _ _).mono ?_;rintro e w' ⟨rfl,rfl⟩;go_wp2;go_ret;exact⟨rfl,(bRQ _ _).alloc (nLQ _) _⟩
 rw[refN_ok ho];have hz:(bits .and .i64 b m==b)=true:=by rw[andEq hr,ho]
 clear hr ho;go_enter func17,ntmps17
 go_wp2_with fail
 refine (header_any _ _).mono ?_;rintro e w' ⟨rfl,rfl⟩
 go_wp2_with fail
 refine (header_any _ _).mono ?_;rintro e w' ⟨rfl,rfl⟩;go_wp2;go_ret;exact⟨rfl,(bRQ _ _).alloc (nLQ _) _⟩
theorem set_okB {s v:Int}(h:rngB s v=true):okB s v=(bits .andNot .i64 v s==0):=by simp[okB,h]
theorem refRule_prio (p m b o s v:Int)(w:World)(h:ruP p o=false):
 Calls prog 10 #[.agg #[.int i64 p,.int i64 m,.int i64 b,.int i64 o,.int i64 s,.int i64 v]] w fun e w'=>e=.returned (.int i64 1)∧Below w.heap.size w w':=by
 have hc:p<0∨(0≤p∧99<p)∨((0≤p∧p≤99)∧o<0)∨((0≤p∧p≤99)∧(0≤o∧4<o)):=by
  simp[ruP] at h;omega
 clear h
 rcases hc with h1 | ⟨h1,h2⟩ | ⟨⟨h1,h2⟩,h3⟩ | ⟨⟨h1,h2⟩,h3,h4⟩
 ·have e1:decide (p<0)=true:=by simp;omega
  go_enter func10,ntmps10
  go_wp2_with fail
  refine (header_any _ _).mono ?_;rintro e w' ⟨rfl,rfl⟩
  go_wp2_with fail
  refine (header_any _ _).mono ?_;rintro e w' ⟨rfl,rfl⟩;go_wp2;go_ret;exact⟨rfl,(bRQ _ _).alloc (nLQ _) _⟩
 ·have e1:decide (p<0)=false:=by simp;omega
  have e2:decide (99<p)=true:=by simp;omega
  go_enter func10,ntmps10
  go_wp2_with fail
  refine (header_any _ _).mono ?_;rintro e w' ⟨rfl,rfl⟩
  go_wp2_with fail
  refine (header_any _ _).mono ?_;rintro e w' ⟨rfl,rfl⟩;go_wp2;go_ret;exact⟨rfl,(bRQ _ _).alloc (nLQ _) _⟩
 ·have e1:decide (p<0)=false:=by simp;omega
  have e2:decide (99<p)=false:=by simp;omega
  have e3:decide (o<0)=true:=by simp;omega
  go_enter func10,ntmps10
  go_wp2_with fail
  refine (header_any _ _).mono ?_;rintro e w' ⟨rfl,rfl⟩
  go_wp2_with fail
  refine (header_any _ _).mono ?_;rintro e w' ⟨rfl,rfl⟩;go_wp2;go_ret;exact⟨rfl,(bRQ _ _).alloc (nLQ _) _⟩
 have e1:decide (p<0)=false:=by simp;omega
 have e2:decide (99<p)=false:=by simp;omega
 have e3:decide (o<0)=false:=by simp;omega
 have e4:decide (4<o)=true:=by simp;omega
 go_enter func10,ntmps10
 go_wp2_with fail
 refine (header_any _ _).mono ?_;rintro e w' ⟨rfl,rfl⟩
 go_wp2_with fail
 refine (header_any _ _).mono ?_;rintro e w' ⟨rfl,rfl⟩;go_wp2;go_ret;exact⟨rfl,(bRQ _ _).alloc (nLQ _) _⟩
theorem refRule_set (p m b o s v:Int)(w:World)(h:ruP p o=true)(h2:rngB s v=false):
 Calls prog 10 #[.agg #[.int i64 p,.int i64 m,.int i64 b,.int i64 o,.int i64 s,.int i64 v]] w fun e w'=>e=.returned (.int i64 1)∧Below w.heap.size w w':=by
 obtain⟨e1,e2,e3,e4⟩:=ruP_of h;clear h;cases hs:hdrB s
 ·clear h2;go_enter func10,ntmps10
  go_wp2_with fail
  refine (header_any _ _).mono ?_;rintro e w' ⟨rfl,rfl⟩;rw[hs]
  go_wp2_with fail
  refine (header_any _ _).mono ?_;rintro e w' ⟨rfl,rfl⟩;go_wp2;go_ret;exact⟨rfl,(bRQ _ _).alloc (nLQ _) _⟩
 have hv:hdrB v=false:=by simpa[rngB,hs] using h2
 clear h2;go_enter func10,ntmps10
 go_wp2_with fail
 refine (header_any _ _).mono ?_;rintro e w' ⟨rfl,rfl⟩;rw[hs]
 go_wp2_with fail
 refine (header_any _ _).mono ?_;rintro e w' ⟨rfl,rfl⟩;rw[hv];go_wp2;go_ret;exact⟨rfl,(bRQ _ _).alloc (nLQ _) _⟩
theorem refRule_cube (p m b o s v:Int)(w:World)(h:ruP p o=true)(h2:rngB s v=true)(h3:okB m b=false):
 Calls prog 10 #[.agg #[.int i64 p,.int i64 m,.int i64 b,.int i64 o,.int i64 s,.int i64 v]] w fun e w'=>e=.returned (.int i64 (refN m b))∧Below w.heap.size w w':=by
 obtain⟨e1,e2,e3,e4⟩:=ruP_of h;have hs:hdrB s=true:=by simp only[rngB,Bool.and_eq_true] at h2;exact h2.1
 have hv:hdrB v=true:=by simp only[rngB,Bool.and_eq_true] at h2;exact h2.2
 have hn:(refN m b != 0)=true:=by have:=ok_refN m b;rw[h3] at this;simpa using this
 clear h h2 h3;go_enter func10,ntmps10
 go_wp2_with fail
 refine (header_any _ _).mono ?_;rintro e w' ⟨rfl,rfl⟩;rw[hs]
 go_wp2_with fail
 refine (header_any _ _).mono ?_;rintro e w' ⟨rfl,rfl⟩;rw[hv]
 go_wp2_with fail
 refine (refCube_any _ _ _).mono ?_;rintro e w1 ⟨rfl,hb1⟩;go_wp2;go_ret;exact⟨rfl,((bRQ _ _).alloc (nLQ _) _).trans (hb1.mono (by simp))⟩
theorem refRule_end (p m b o s v:Int)(w:World)(h:ruP p o=true)(h2:rngB s v=true)(h3:okB m b=true)(x:Int)(hx:x=if ruSet o s v then 0 else 3):
 Calls prog 10 #[.agg #[.int i64 p,.int i64 m,.int i64 b,.int i64 o,.int i64 s,.int i64 v]] w fun e w'=>e=.returned (.int i64 x)∧Below w.heap.size w w':=by
 obtain⟨e1,e2,e3,e4⟩:=ruP_of h;have hs:hdrB s=true:=by simp only[rngB,Bool.and_eq_true] at h2;exact h2.1
 have hv:hdrB v=true:=by simp only[rngB,Bool.and_eq_true] at h2;exact h2.2
 have hn:refN m b=0:=refN_ok h3;have hlt:w.heap.size<(w.alloc (.cells #[.int i64 p,.int i64 m,.int i64 b,.int i64 o,.int i64 s,.int i64 v] 30)).heap.size:=by simp
 have ha0:=set_okB h2;clear h h2 h3;cases ha:(bits .andNot .i64 v s==0)
 ·have hx3:x=3:=by rw[hx];simp[ruSet,ha]
  subst hx3;have hz:(refN s v != 0)=true:=by have:=ok_refN s v;rw[ha0,ha] at this;simpa using this
  clear hx ha0;go_enter func10,ntmps10
  go_wp2_with fail
  refine (header_any _ _).mono ?_;rintro e w' ⟨rfl,rfl⟩;rw[hs]
  go_wp2_with fail
  refine (header_any _ _).mono ?_;rintro e w' ⟨rfl,rfl⟩;rw[hv]
  go_wp2_with fail
  refine (refCube_any _ _ _).mono ?_;rintro e w1 ⟨rfl,hb1⟩;rw[hn];obtain⟨hc1,hf1⟩:=bcell hb1;have hB:=((Below.refl w.heap.size w).alloc (nLQ _) (Obj.cells #[.int i64 p,.int i64 m,.int i64 b,.int i64 o,.int i64 s,.int i64 v] 30)).trans (hb1.mono (by simp));have hlt2:w.heap.size<w1.heap.size:=by have:=hb1.size;omega
  clear hb1
  go_wp2_with fail
  refine (refCube_any _ _ _).mono ?_;rintro e w2 ⟨rfl,hb2⟩
  generalize refN s v=N at *
  obtain⟨hc2,hf2⟩:=bcell hb2;have hB2:=hB.trans (hb2.mono (by omega));clear hb2 hB;go_wp2;go_ret;exact⟨rfl,hB2⟩
 have hz:refN s v=0:=refN_ok (by rw[ha0,ha]);clear ha0;cases ho:(o==0)
 ·have hx3:x=0:=by rw[hx];simp[ruSet,ha,ho]
  subst hx3;clear hx;go_enter func10,ntmps10
  go_wp2_with fail
  refine (header_any _ _).mono ?_;rintro e w' ⟨rfl,rfl⟩;rw[hs]
  go_wp2_with fail
  refine (header_any _ _).mono ?_;rintro e w' ⟨rfl,rfl⟩;rw[hv]
  go_wp2_with fail
  refine (refCube_any _ _ _).mono ?_;rintro e w1 ⟨rfl,hb1⟩;rw[hn];obtain⟨hc1,hf1⟩:=bcell hb1;have hB:=((Below.refl w.heap.size w).alloc (nLQ _) (Obj.cells #[.int i64 p,.int i64 m,.int i64 b,.int i64 o,.int i64 s,.int i64 v] 30)).trans (hb1.mono (by simp));have hlt2:w.heap.size<w1.heap.size:=by have:=hb1.size;omega
  clear hb1
  go_wp2_with fail
  refine (refCube_any _ _ _).mono ?_;rintro e w2 ⟨rfl,hb2⟩;rw[hz];obtain⟨hc2,hf2⟩:=bcell hb2;have hB2:=hB.trans (hb2.mono (by omega));clear hb2 hB;go_wp2;go_ret;exact⟨rfl,hB2⟩
 have hz2:x=if (s==0) then 0 else 3:=by rw[hx];simp[ruSet,ha,ho]
 clear hx;cases hs0:(s==0)
 ·rw[hs0] at hz2;have hs1:(s != 0)=true:=by simpa using hs0
  simp only[Bool.false_eq_true,if_false] at hz2;subst hz2;go_enter func10,ntmps10
  go_wp2_with fail
  refine (header_any _ _).mono ?_;rintro e w' ⟨rfl,rfl⟩;rw[hs]
  go_wp2_with fail
  refine (header_any _ _).mono ?_;rintro e w' ⟨rfl,rfl⟩;rw[hv]
  go_wp2_with fail
  refine (refCube_any _ _ _).mono ?_;rintro e w1 ⟨rfl,hb1⟩;rw[hn];obtain⟨hc1,hf1⟩:=bcell hb1;have hB:=((Below.refl w.heap.size w).alloc (nLQ _) (Obj.cells #[.int i64 p,.int i64 m,.int i64 b,.int i64 o,.int i64 s,.int i64 v] 30)).trans (hb1.mono (by simp));have hlt2:w.heap.size<w1.heap.size:=by have:=hb1.size;omega
  clear hb1
  go_wp2_with fail
  refine (refCube_any _ _ _).mono ?_;rintro e w2 ⟨rfl,hb2⟩;rw[hz];obtain⟨hc2,hf2⟩:=bcell hb2;have hB2:=hB.trans (hb2.mono (by omega));clear hb2 hB;go_wp2;go_ret;exact⟨rfl,hB2⟩
 rw[hs0] at hz2;have hs1:(s != 0)=false:=by simpa using hs0
 simp only[if_true] at hz2;subst hz2;go_enter func10,ntmps10
 go_wp2_with fail
 refine (header_any _ _).mono ?_;rintro e w' ⟨rfl,rfl⟩;rw[hs]
 go_wp2_with fail
 refine (header_any _ _).mono ?_;rintro e w' ⟨rfl,rfl⟩;rw[hv]
 go_wp2_with fail
 refine (refCube_any _ _ _).mono ?_;rintro e w1 ⟨rfl,hb1⟩;rw[hn];obtain⟨hc1,hf1⟩:=bcell hb1;have hB:=((Below.refl w.heap.size w).alloc (nLQ _) (Obj.cells #[.int i64 p,.int i64 m,.int i64 b,.int i64 o,.int i64 s,.int i64 v] 30)).trans (hb1.mono (by simp));have hlt2:w.heap.size<w1.heap.size:=by have:=hb1.size;omega
 clear hb1
 go_wp2_with fail
 refine (refCube_any _ _ _).mono ?_;rintro e w2 ⟨rfl,hb2⟩;rw[hz];obtain⟨hc2,hf2⟩:=bcell hb2;have hB2:=hB.trans (hb2.mono (by omega));clear hb2 hB;go_wp2;go_ret;exact⟨rfl,hB2⟩
theorem refRule_any (p m b o s v:Int)(w:World):
 Calls prog 10 #[.agg #[.int i64 p,.int i64 m,.int i64 b,.int i64 o,.int i64 s,.int i64 v]] w fun e w'=>e=.returned (.int i64 (ruN p m b o s v))∧Below w.heap.size w w':=by
 cases h1:ruP p o
 ·have e:ruN p m b o s v=1:=by simp[ruN,ruIn,h1]
  rw[e];exact refRule_prio p m b o s v w h1
 cases h2:rngB s v
 ·have e:ruN p m b o s v=1:=by simp[ruN,ruIn,h2]
  rw[e];exact refRule_set p m b o s v w h1 h2
 cases h3:okB m b
 ·have e:ruN p m b o s v=refN m b:=by simp[ruN,ruIn,h1,h2,h3]
  rw[e];exact refRule_cube p m b o s v w h1 h2 h3
 exact refRule_end p m b o s v w h1 h2 h3 _ (by simp[ruN,ruIn,h1,h2,h3])
theorem rmsg_no (x0 x1 x2 x3 x4:Int)(x5:Bool)(x6 x7 x8 x9 x10 x11:Int)(w:World)(h:mgR ⟨x0,x1,x2,x3,⟨x4,x5,⟨x6,x7,x8,x9,x10,x11⟩⟩⟩=false):
 Calls prog 5 #[.agg #[.int i64 x0,.int i64 x1,.int i64 x2,.int i64 x3,.int i64 x4,.bool x5,.int i64 x6,.int i64 x7,.int i64 x8,.int i64 x9,.int i64 x10,.int i64 x11]] w fun e w'=>e=.returned (.int i64 1)∧Below w.heap.size w w':=by
 have HB0:Hid (Below w.heap.size w (w.alloc (.cells #[.int i64 x0,.int i64 x1,.int i64 x2,.int i64 x3,.int i64 x4,.bool x5,.int i64 x6,.int i64 x7,.int i64 x8,.int i64 x9,.int i64 x10,.int i64 x11] 34))):=(bRQ _ _).alloc (nLQ _) _;have h8:x0<1∨(¬x0<1∧3<x0)∨(¬x0<1∧¬3<x0∧x1<1)∨(¬x0<1∧¬3<x0∧¬x1<1∧6<x1)∨(¬x0<1∧¬3<x0∧¬x1<1∧¬6<x1∧x2<0)∨(¬x0<1∧¬3<x0∧¬x1<1∧¬6<x1∧¬x2<0∧19<x2)∨(¬x0<1∧¬3<x0∧¬x1<1∧¬6<x1∧¬x2<0∧¬19<x2∧x3<0)∨(¬x0<1∧¬3<x0∧¬x1<1∧¬6<x1∧¬x2<0∧¬19<x2∧¬x3<0∧200<x3):=by
  by_cases hR:(1≤x0∧x0≤3)∧(1≤x1∧x1≤6)∧(0≤x2∧x2≤19)∧(0≤x3∧x3≤200)
  ·have:=mg_rng (m:=⟨x0,x1,x2,x3,⟨x4,x5,⟨x6,x7,x8,x9,x10,x11⟩⟩⟩).2 hR;rw[h] at this;cases this
  omega
 clear h
 rcases h8 with a1 | ⟨a1,a2⟩ | ⟨a1,a2,a3⟩ | ⟨a1,a2,a3,a4⟩ | ⟨a1,a2,a3,a4,a5⟩ | ⟨a1,a2,a3,a4,a5,a6⟩ | ⟨a1,a2,a3,a4,a5,a6,a7⟩ | ⟨a1,a2,a3,a4,a5,a6,a7,a8⟩
 all_goals
  go_enter func5,ntmps5;go_wp2;go_ret;exact⟨rfl,HB0.out⟩
theorem rmsg_do (x1 x2 x3 x4:Int)(x5:Bool)(x6 x7 x8 x9 x10 x11:Int)(w:World)(h:mgR ⟨1,x1,x2,x3,⟨x4,x5,⟨x6,x7,x8,x9,x10,x11⟩⟩⟩=true):
 Calls prog 5 #[.agg #[.int i64 1,.int i64 x1,.int i64 x2,.int i64 x3,.int i64 x4,.bool x5,.int i64 x6,.int i64 x7,.int i64 x8,.int i64 x9,.int i64 x10,.int i64 x11]] w fun e w'=>e=.returned (.int i64 (moN ⟨x4,x5,⟨x6,x7,x8,x9,x10,x11⟩⟩ x1))∧Below w.heap.size w w':=by
 have HB0:Hid (Below w.heap.size w (w.alloc (.cells #[.int i64 1,.int i64 x1,.int i64 x2,.int i64 x3,.int i64 x4,.bool x5,.int i64 x6,.int i64 x7,.int i64 x8,.int i64 x9,.int i64 x10,.int i64 x11] 34))):=(bRQ _ _).alloc (nLQ _) _;have HC0:Hid (MgC (w.alloc (.cells #[.int i64 1,.int i64 x1,.int i64 x2,.int i64 x3,.int i64 x4,.bool x5,.int i64 x6,.int i64 x7,.int i64 x8,.int i64 x9,.int i64 x10,.int i64 x11] 34)) w.heap.size 1 x1 x2 x3 x4 x5 x6 x7 x8 x9 x10 x11):=mgc_new w 1 x1 x2 x3 x4 x5 x6 x7 x8 x9 x10 x11 _;obtain⟨_,⟨a3,a4⟩,⟨a5,a6⟩,⟨a7,a8⟩⟩:=mg_rng.1 h;simp only at a3 a4 a5 a6 a7 a8;have b3:¬x1<1:=by omega
 have b4:¬6<x1:=by omega
 have b5:¬x2<0:=by omega
 have b6:¬19<x2:=by omega
 have b7:¬x3<0:=by omega
 have b8:¬200<x3:=by omega
 clear h a3 a4 a5 a6 a7 a8;obtain⟨N,hN⟩:∃N,N=ruN x6 x7 x8 x9 x10 x11:=⟨_,rfl⟩;have HN:Hid (ruN x6 x7 x8 x9 x10 x11=N):=hN.symm;obtain⟨M,hM⟩:∃M,M=moN ⟨x4,x5,⟨x6,x7,x8,x9,x10,x11⟩⟩ x1:=⟨_,rfl⟩;have HM:Hid (M=if N=0 then (if x4=x1 then 0 else 3) else N):=by show _=_;rw[hM,hN];rfl
 rw[←hM];clear hN hM;by_cases h0:N=0
 ·subst h0;by_cases h1:x4=x1
  ·have f1:(x4 != x1)=false:=by simp[h1]
   have HM2:Hid (M=0):=by show _=_;rw[HM.out,if_pos rfl,if_pos h1]
   clear h1;go_enter func5,ntmps5
   go_wp2_with fail
   refine (refRule_any x6 x7 x8 x9 x10 x11 _).mono ?_;rintro e w1 ⟨rfl,hb1⟩;have HB1:Hid (Below w.heap.size w w1):=HB0.out.trans (hb1.mono HB0.out.size);obtain⟨c0,c1,c2,c3,c4,c5,c6,c7,c8,c9,c10,c11⟩:=HC0.out.later hb1;rw[HN.out];clear hb1;go_wp2;go_ret;exact⟨by rw[HM2.out];rfl,HB1.out⟩
  have f1:(x4 != x1)=true:=by simpa using h1
  have HM2:Hid (M=3):=by show _=_;rw[HM.out,if_pos rfl,if_neg h1]
  go_enter func5,ntmps5
  go_wp2_with fail
  refine (refRule_any x6 x7 x8 x9 x10 x11 _).mono ?_;rintro e w1 ⟨rfl,hb1⟩;have HB1:Hid (Below w.heap.size w w1):=HB0.out.trans (hb1.mono HB0.out.size);obtain⟨c0,c1,c2,c3,c4,c5,c6,c7,c8,c9,c10,c11⟩:=HC0.out.later hb1;rw[HN.out];clear hb1;go_wp2;go_ret;exact⟨by rw[HM2.out];rfl,HB1.out⟩
 have f0:(N != 0)=true:=by simpa using h0
 have HM2:Hid (M=N):=by show _=_;rw[HM.out,if_neg h0]
 go_enter func5,ntmps5
 go_wp2_with fail
 refine (refRule_any x6 x7 x8 x9 x10 x11 _).mono ?_;rintro e w1 ⟨rfl,hb1⟩;have HB1:Hid (Below w.heap.size w w1):=HB0.out.trans (hb1.mono HB0.out.size);rw[HN.out];clear hb1;go_wp2;go_ret;exact⟨by rw[HM2.out];rfl,HB1.out⟩
theorem rmsg_else (x0 x1 x2 x3 x4:Int)(x5:Bool)(x6 x7 x8 x9 x10 x11:Int)(w:World)(hk:x0=2∨x0=3)(h:mgR ⟨x0,x1,x2,x3,⟨x4,x5,⟨x6,x7,x8,x9,x10,x11⟩⟩⟩=true):
 Calls prog 5 #[.agg #[.int i64 x0,.int i64 x1,.int i64 x2,.int i64 x3,.int i64 x4,.bool x5,.int i64 x6,.int i64 x7,.int i64 x8,.int i64 x9,.int i64 x10,.int i64 x11]] w fun e w'=>e=.returned (.int i64 (elN (oqB ⟨x4,x5,⟨x6,x7,x8,x9,x10,x11⟩⟩ zeP) x0 x3))∧Below w.heap.size w w':=by
 have HB0:Hid (Below w.heap.size w (w.alloc (.cells #[.int i64 x0,.int i64 x1,.int i64 x2,.int i64 x3,.int i64 x4,.bool x5,.int i64 x6,.int i64 x7,.int i64 x8,.int i64 x9,.int i64 x10,.int i64 x11] 34))):=(bRQ _ _).alloc (nLQ _) _;have HC0:Hid (MgC (w.alloc (.cells #[.int i64 x0,.int i64 x1,.int i64 x2,.int i64 x3,.int i64 x4,.bool x5,.int i64 x6,.int i64 x7,.int i64 x8,.int i64 x9,.int i64 x10,.int i64 x11] 34)) w.heap.size x0 x1 x2 x3 x4 x5 x6 x7 x8 x9 x10 x11):=mgc_new w x0 x1 x2 x3 x4 x5 x6 x7 x8 x9 x10 x11 _;obtain⟨_,⟨a3,a4⟩,⟨a5,a6⟩,⟨a7,a8⟩⟩:=mg_rng.1 h;simp only at a3 a4 a5 a6 a7 a8;have b3:¬x1<1:=by omega
 have b4:¬6<x1:=by omega
 have b5:¬x2<0:=by omega
 have b6:¬19<x2:=by omega
 have b7:¬x3<0:=by omega
 have b8:¬200<x3:=by omega
 clear h a3 a4 a5 a6 a7 a8;obtain⟨c,hc⟩:∃c,c=opB ⟨x4,x5,⟨x6,x7,x8,x9,x10,x11⟩⟩ ⟨0,false,⟨0,0,0,0,0,0⟩⟩:=⟨_,rfl⟩;have HC:Hid (opB ⟨x4,x5,⟨x6,x7,x8,x9,x10,x11⟩⟩ ⟨0,false,⟨0,0,0,0,0,0⟩⟩=c):=hc.symm;rw[show oqB ⟨x4,x5,⟨x6,x7,x8,x9,x10,x11⟩⟩ zeP=c from hc.symm];clear hc;obtain⟨q,hq⟩:∃q,q=(!c || (decide (x0=3) && !(decide (x3=0)))):=⟨_,rfl⟩;have HQ:Hid (q=(!c || (decide (x0=3) && !(decide (x3=0))))):=hq;have HE:Hid (elN c x0 x3=if q then 3 else 0):=by
  show _=_;rw[elN,hq];cases c <;> cases decide (x0=3) <;> cases decide (x3=0) <;> rfl
 rw[HE.out];clear hq HE;have h30:x3=0∨(¬x3=0∧(x3 != 0)=true):=by
  by_cases h0:x3=0
  ·exact .inl h0
  exact .inr ⟨h0,by simpa using h0⟩
 obtain⟨N,hN⟩:∃N:Int,N=if q then 3 else 0:=⟨_,rfl⟩
 have HN:Hid (N=if q then 3 else 0):=hN;rw[←hN];clear hN;obtain⟨d,hd⟩:∃d,d=decide (x3=0):=⟨_,rfl⟩;have HD:Hid (decide (x3=0)=d):=hd.symm;have hd2:(x3==0)=d:=by rw[hd];rfl
 have hd3:(x3 != 0) = !d:=by rw[hd];rfl
 clear hd h30;obtain⟨w1,hw1⟩:∃V,V=w.alloc (.cells #[.int i64 x0,.int i64 x1,.int i64 x2,.int i64 x3,.int i64 x4,.bool x5,.int i64 x6,.int i64 x7,.int i64 x8,.int i64 x9,.int i64 x10,.int i64 x11] 34):=⟨_,rfl⟩;rw[←hw1] at HC0 HB0;have HW1:Hid (w.alloc (.cells #[.int i64 x0,.int i64 x1,.int i64 x2,.int i64 x3,.int i64 x4,.bool x5,.int i64 x6,.int i64 x7,.int i64 x8,.int i64 x9,.int i64 x10,.int i64 x11] 34)=w1):=hw1.symm;clear hw1;cases d
 all_goals
  rcases hk with rfl | rfl
  all_goals
   go_enter func5,ntmps5;go_upto_region 4 with fail;rw[HW1.out];obtain⟨c0,c1,c2,c3,c4,c5,c6,c7,c8,c9,c10,c11⟩:=HC0.out
   go_cut [58] from 45 (fun v w'=>v=.bool q∧w'=w1)
   case first =>
    rcases op_ways x4 x5 x6 x7 x8 x9 x10 x11 0 false 0 0 0 0 0 0 with ⟨e0,e⟩ | ⟨e0,e1,e⟩ | ⟨e0,e1,e2,e⟩ | ⟨e0,e1,e2,e3,e⟩ | ⟨e0,e1,e2,e3,e4,e⟩ | ⟨e0,e1,e2,e3,e4,e5,e⟩ | ⟨e0,e1,e2,e3,e4,e5,e6,e⟩ | ⟨e0,e1,e2,e3,e4,e5,e6,e7,e⟩ | ⟨e0,e1,e2,e3,e4,e5,e6,e7,e⟩
    all_goals
     rw[HC.out] at e;have HE:Hid (c=_):=e;clear e
     as_aux_lemma =>
      go_wp2_with fail
      go_meet
      exact⟨by rw[HQ.out,HE.out,HD.out];rfl,rfl⟩
   case rest =>
    obtain⟨rfl,hwc⟩:=hcut;have hwc2:=hwc.symm;clear hwc;subst hwc2;clear c0 c1 c2 c3 c4 c5 c6 c7 c8 c9 c10 c11;cases q with
    | false =>
      go_wp2;go_ret;exact⟨by rw[HN.out];rfl,HB0.out⟩
    | true =>
      go_wp2;go_ret;exact⟨by rw[HN.out];rfl,HB0.out⟩
theorem rmsg_any (x0 x1 x2 x3 x4:Int)(x5:Bool)(x6 x7 x8 x9 x10 x11:Int)(w:World):
 Calls prog 5 #[.agg #[.int i64 x0,.int i64 x1,.int i64 x2,.int i64 x3,.int i64 x4,.bool x5,.int i64 x6,.int i64 x7,.int i64 x8,.int i64 x9,.int i64 x10,.int i64 x11]] w fun e w'=>e=.returned (.int i64 (mgN ⟨x0,x1,x2,x3,⟨x4,x5,⟨x6,x7,x8,x9,x10,x11⟩⟩⟩))∧Below w.heap.size w w':=by
 cases hR:mgR ⟨x0,x1,x2,x3,⟨x4,x5,⟨x6,x7,x8,x9,x10,x11⟩⟩⟩
 ·rw[mg_no hR];exact rmsg_no x0 x1 x2 x3 x4 x5 x6 x7 x8 x9 x10 x11 w hR
 have hk:=(mg_rng.1 hR).1;by_cases h1:x0=1
 ·subst h1;rw[mg_do hR rfl];exact rmsg_do x1 x2 x3 x4 x5 x6 x7 x8 x9 x10 x11 w hR
 rw[mg_els hR h1];exact rmsg_else x0 x1 x2 x3 x4 x5 x6 x7 x8 x9 x10 x11 w (by simp only at hk;omega) hR
theorem quiet_val {P:Program}{o:Oper}{a:Act}{C:World→Prop}{K:Act→Prop}{v:Value}
 (hy:∀w,C w→(execOp a.eval o).run P w=.ok (.value v) w) (h:K (a.put o.dst v)):o.quiet P a C K:=
 ⟨v,fun w hC=>by unfold Oper.quietAt;rw[hy w hC];exact⟨rfl,rfl⟩,h⟩
theorem qv {P:Program}{o:Oper}{a:Act}{C:World→Prop}{K:Act→Prop}(v:Value)(hy:∀w,C w→(execOp a.eval o).run P w=.ok (.value v) w)(h:K (a.put o.dst v)):o.quiet P a C K:=quiet_val hy h
theorem quiet_call {P:Program}{o:Oper}{a:Act}{C:World→Prop}{K:Act→Prop}{v:Value}{f:FuncId}{args:Array Value}
 (he:∀w,(execOp a.eval o).run P w=.ok (.enter f args) w) (hc:∀w,C w→Calls P f args w fun e w''=>e=.returned v∧C w'') (h:K (a.put o.dst v)):o.quiet P a C K:=
 ⟨v,fun w hC=>by unfold Oper.quietAt;rw[he w];exact⟨rfl,hc w hC⟩,h⟩
theorem exec_bin {P:Program}{o:Oper}{a:Act}{w:World}{op:BinOp}{t t2:TypeId}{x y:Operand}{v:Value}(ho:o.op=.binOp op t x y t2)(hg:(eqGuard op t x y (a.eval x) (a.eval y)).run P w=.ok () w)
 (h:(binOp op t (a.eval x) (a.eval y)).run P w=.ok v w):(execOp a.eval o).run P w=.ok (.value v) w:=by
 simp[execOp,ho,hg,h,Result.andThen]
theorem run_eql_of {P:Program}{w:World}{t:TypeId}{x y:Array Value}{b:Bool}(h:(Op.equal t (.agg x) (.agg y)).run P w=.ok b w):(binOp .eql t (.agg x) (.agg y)).run P w=.ok (.bool b) w:=by
 simp[binOp,h]
theorem run_neq_of {P:Program}{w:World}{t:TypeId}{x y:Array Value}{b:Bool}(h:(Op.equal t (.agg x) (.agg y)).run P w=.ok b w):(binOp .neq t (.agg x) (.agg y)).run P w=.ok (.bool (!b)) w:=by
 simp[binOp,h]
def msgCD (w:World)(g o:Nat)(x0 x1 x2 x3 x4:Int)(x5:Bool)(x6 x7 x8 x9 x10 x11:Int)(g' o':Nat)(y0 y1 y2 y3 y4:Int)(y5:Bool)(y6 y7 y8 y9 y10 y11:Int)(w':World):Prop:=
 Below w.heap.size w w'∧(w'.cell? ⟨g,o,none⟩=some (.int i64 x0)∧w'.cell? ⟨g,o+1,none⟩=some (.int i64 x1)∧w'.cell? ⟨g,o+2,none⟩=some (.int i64 x2)∧w'.cell? ⟨g,o+3,none⟩=some (.int i64 x3)∧w'.cell? ⟨g,o+4,none⟩=some (.int i64 x4)∧w'.cell? ⟨g,o+5,none⟩=some (.bool x5)∧w'.cell? ⟨g,o+6,none⟩=some (.int i64 x6)∧w'.cell? ⟨g,o+7,none⟩=some (.int i64 x7)∧w'.cell? ⟨g,o+8,none⟩=some (.int i64 x8)∧w'.cell? ⟨g,o+9,none⟩=some (.int i64 x9)∧w'.cell? ⟨g,o+10,none⟩=some (.int i64 x10)∧w'.cell? ⟨g,o+11,none⟩=some (.int i64 x11)) ∧
 w'.cell? ⟨g',o',none⟩=some (.int i64 y0)∧w'.cell? ⟨g',o'+1,none⟩=some (.int i64 y1)∧w'.cell? ⟨g',o'+2,none⟩=some (.int i64 y2)∧w'.cell? ⟨g',o'+3,none⟩=some (.int i64 y3)∧w'.cell? ⟨g',o'+4,none⟩=some (.int i64 y4)∧w'.cell? ⟨g',o'+5,none⟩=some (.bool y5)∧w'.cell? ⟨g',o'+6,none⟩=some (.int i64 y6)∧w'.cell? ⟨g',o'+7,none⟩=some (.int i64 y7)∧w'.cell? ⟨g',o'+8,none⟩=some (.int i64 y8)∧w'.cell? ⟨g',o'+9,none⟩=some (.int i64 y9)∧w'.cell? ⟨g',o'+10,none⟩=some (.int i64 y10)∧w'.cell? ⟨g',o'+11,none⟩=some (.int i64 y11)
theorem msgCD.later {w W W':World}{g o:Nat}{x0 x1 x2 x3 x4:Int}{x5:Bool}{x6 x7 x8 x9 x10 x11:Int}{g' o':Nat}{y0 y1 y2 y3 y4:Int}{y5:Bool}{y6 y7 y8 y9 y10 y11:Int}(hb:Below W.heap.size W W')(h:msgCD w g o x0 x1 x2 x3 x4 x5 x6 x7 x8 x9 x10 x11 g' o' y0 y1 y2 y3 y4 y5 y6 y7 y8 y9 y10 y11 W):msgCD w g o x0 x1 x2 x3 x4 x5 x6 x7 x8 x9 x10 x11 g' o' y0 y1 y2 y3 y4 y5 y6 y7 y8 y9 y10 y11 W':=by
 obtain⟨h0,⟨h1,h2,h3,h4,h5,h6,h7,h8,h9,h10,h11,h12⟩,k1,k2,k3,k4,k5,k6,k7,k8,k9,k10,k11,k12⟩:=h;exact⟨h0.trans (hb.mono h0.size),⟨cell_later hb h1,cell_later hb h2,cell_later hb h3,cell_later hb h4,cell_later hb h5,cell_later hb h6,cell_later hb h7,cell_later hb h8,cell_later hb h9,cell_later hb h10,cell_later hb h11,cell_later hb h12⟩,cell_later hb k1,cell_later hb k2,cell_later hb k3,cell_later hb k4,cell_later hb k5,cell_later hb k6,cell_later hb k7,cell_later hb k8,cell_later hb k9,cell_later hb k10,cell_later hb k11,cell_later hb k12⟩
end
end Go.Proofs.Ytpfgaibfangciaa
