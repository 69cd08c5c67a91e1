/- Contracts and facts on the way to TextTells, joined into one text: TextTkSw, TextTkLk, StrClone, TextTkHo, TextTkRl, WishAtoi, WishSplit, WishWhat, TopoPeer, WishParse, TextTkWi. -/
import Derived.Test.YtgddlpcacnolfaaGreatDoorTextTellsP5
namespace Go.Proofs.YtgddlpcacnolfaaGreatDoor
set_option linter.unusedSimpArgs false
set_option linter.unusedVariables false
set_option maxHeartbeats 16000000
set_option maxRecDepth 100000
open Go.Proofs.Tryz
open IntKind (i64)
section
open Go.RowKit
theorem tab_info:(Tryz.prog.info? 48).map (fun i=>(i.zero,i.size,i.bytes))=some (some (.slice none 0 0),1,24):=by kernel_rfl
theorem mk_tabs (k:Nat)(hk:k≤6)(V:World):(Instr.makeSlice 26 (.int i64 (k:Int)) (.int i64 (k:Int))).run prog V=.ok (.slice (some ⟨V.heap.size,0,none⟩) k k) (V.alloc (.cells (madeCells #[.slice none 0 0] k) 48)):=by
 obtain⟨i0,hi,hz0,hz1,hz2⟩:=info_parts tab_info;have h:=run_make (P:=prog) V 26 48 i0 (.slice none 0 0) underlying26 hi hz0 .i64 .i64 (k:Int) (k:Int) (by omega) (by omega) (by rw[hz2];omega) (by omega);rw[hz1] at h;simpa[Value.cells] using h
theorem own_tabs (k:Nat)(hk:k≤6)(V:World){B:Nat}(hB:B≤V.heap.size):(V.alloc (.cells (madeCells #[.slice none 0 0] k) 48)).ownsRow B 48 slE.n (.slice (some ⟨V.heap.size,0,none⟩) k k) k (cellsG slE (List.replicate k ((none,0,0):SlT))):=by
 refine⟨by rw[cellsG_len,List.length_replicate],.inr ⟨V.heap.size,k,madeCells #[.slice none 0 0] k,rfl,hB,heap_alloc_new V _,nLQ _,by unfold maxLen;omega,by rw[size_madeCells];exact (Nat.mul_one k).symm,?_⟩⟩;rw[toList_madeCells_one,sl_cells,List.map_replicate];rw[show k*slE.n=k from Nat.mul_one k,List.take_replicate,Nat.min_self];rfl
section
variable {W:World}{gd B:Nat}{d:RdT}{a l:Int}{v1 v2 v3 v7:Value}{vs:List SlT}
theorem takeSw_any (r:ByteArray)(hB:B≤W.heap.size)(h:DrB W gd B d a l v1 v2 v3 v7 vs):
 Calls prog 57 #[.pointer (some ⟨gd,0,none⟩),.string r] W fun e W'=>e=.returned (.bool (dcOk r))∧DrQ W gd B a l (DrX v1 v2 v3 v7 vs) { d with S:=dcN r,Ts:=List.replicate (min (dcN r) 6).toNat [] } W'∧Kb (fun b=>b≠gd) W W':=by
 obtain⟨n,hn⟩:∃n,n=dcN r:=⟨_,rfl⟩;obtain⟨q,hq⟩:∃q,q=dcOk r:=⟨_,rfl⟩;have HN:Hid (dcN r=n∧dcOk r=q):=⟨hn.symm,hq.symm⟩;have h0:0≤n:=by rw[hn];exact dcN_ge
 rw[←hn,←hq];obtain⟨c0,c1,c2,c3⟩:=h.m.c;have hf0:=h.m.f 0;have hf3:=h.m.f 3;have hlt:=h.lt;have HFIN:Hid (∀(n:Int) (k:Nat),k≤6→DrQ W gd B a l (DrX v1 v2 v3 v7 vs) { d with S:=n,Ts:=List.replicate k [] } (((W.setCell ⟨gd,0,none⟩ (.int i64 n)).alloc (.cells (madeCells #[.slice none 0 0] k) 48)).setCell ⟨gd,3,none⟩ (.slice (some ⟨W.heap.size,0,none⟩) k k))∧Kb (fun b=>b≠gd) W (((W.setCell ⟨gd,0,none⟩ (.int i64 n)).alloc (.cells (madeCells #[.slice none 0 0] k) 48)).setCell ⟨gd,3,none⟩ (.slice (some ⟨W.heap.size,0,none⟩) k k))):=fun n k hk6=>by
  have m1:=h.setS n;have hs1:(W.setCell ⟨gd,0,none⟩ (.int i64 n)).heap.size=W.heap.size:=by simp
  have ho:=own_tabs k hk6 (W.setCell ⟨gd,0,none⟩ (.int i64 n)) (B:=B) (by rw[hs1];exact hB);rw[hs1] at ho;have m2:=(m1.later ((bRQ _ _).alloc (nLQ _) _)).newT (oo_made ho);refine⟨⟨v1,v2,_,v7,_,m2,fun b hb=>?_⟩,kb_box (fun e=>e rfl) _ _ ((kb_box (fun e=>e rfl) _ _ (Kb.refl _ _)).alloc _)⟩
  rcases hb with hb | hb | hb | hb | ⟨x,hx,hb⟩
  ·exact .inl (.inl hb)
  ·exact .inl (.inr (.inl hb))
  ·right;have:W.heap.size=b:=by
    have:some W.heap.size=some b:=hb;cases this;rfl
   omega
  ·exact .inl (.inr (.inr (.inr (.inl hb))))
  rw[List.mem_replicate] at hx;rw[hx.2] at hb;cases hb
 clear h hn hq;by_cases h6:n≤6
 ·obtain⟨k,rfl⟩:∃k:Nat,n=(k:Int):=⟨n.toNat,by omega⟩;have hk6:k≤6:=by omega
  have hmk:=mk_tabs k hk6;have hmn:min (k:Int) 6=(k:Int):=by omega
  have HF:Hid _:=HFIN.out (k:Int) k hk6;have HK:Hid ((min (k:Int) 6).toNat=k):=by show _=_;omega
  clear h0 hk6;go_enter func57,ntmps57
  go_wp2_with fail
  refine (dec_any r W).mono ?_;rintro e w' ⟨rfl,hw'⟩;have hw'':=hw'.symm;subst hw'';clear hw';rw[HN.out.1,HN.out.2];go_wp2;go_ret;rw[HK.out]
  first | exact⟨rfl,HF.out⟩ | (have hF:=HF.out;rw[World.setCell_alloc_past _ _ _ _ (by simpa using hlt)] at hF;exact⟨rfl,hF⟩)
 have h7:6<n:=by omega
 have hmk:∀V:World,(Instr.makeSlice 26 (.int i64 6) (.int i64 6)).run prog V=.ok (.slice (some ⟨V.heap.size,0,none⟩) 6 6) (V.alloc (.cells (madeCells #[.slice none 0 0] 6) 48)):=mk_tabs 6 (nLQ _);have HF:Hid _:=HFIN.out n 6 (nLQ _);have hmn:min n 6=6:=by omega
 have HK:Hid ((min n 6).toNat=6):=by show _=_;omega
 clear h6 h0;go_enter func57,ntmps57
 go_wp2_with fail
 refine (dec_any r W).mono ?_;rintro e w' ⟨rfl,hw'⟩;have hw'':=hw'.symm;subst hw'';clear hw';rw[HN.out.1,HN.out.2];go_wp2;go_ret;rw[HK.out]
 first | exact⟨rfl,HF.out⟩ | (have hF:=HF.out;rw[World.setCell_alloc_past _ _ _ _ (by simpa using hlt)] at hF;exact⟨rfl,hF⟩)
end
section
variable {W:World}{gd B:Nat}{d:RdT}{a l:Int}{v1 v2 v3 v7:Value}{vs:List SlT}
theorem takeLk_any (r:ByteArray)(hr:r.size≤1000000)(hB:B≤W.heap.size)(hL:d.Ls.length≤1000000)(h:DrB W gd B d a l v1 v2 v3 v7 vs):
 Calls prog 58 #[.pointer (some ⟨gd,0,none⟩),.string r] W fun e W'=>e=.returned (.bool (spP (c1S 32 r)&&spP (c2S 32 r)))∧DrQ W gd B a l (DrX v1 v2 v3 v7 vs) { d with Ls:=d.Ls++[(xpV (c1S 32 r),xpV (c2S 32 r))] } W'∧Kb (fun b=>b≠gd∧v1.ownBlock≠some b) W W':=by
 have HS:Hid (r.size≤1000000):=hr;have hsz:=cs_size (c:=32) (s:=r);obtain⟨p,hp⟩:∃p,p=c1S 32 r:=⟨_,rfl⟩;obtain⟨q,hq⟩:∃q,q=c2S 32 r:=⟨_,rfl⟩;rw[←hp,←hq] at hsz;rw[←hp,←hq];have HPQ:Hid (c1S 32 r=p∧c2S 32 r=q):=⟨hp.symm,hq.symm⟩;have HSP:Hid (p.size≤1000000∧q.size≤1000000):=⟨by omega,by omega⟩;obtain⟨x1,x2,hx⟩:∃a b,xpV p=(a,b):=⟨_,_,rfl⟩;obtain⟨y1,y2,hy⟩:∃a b,xpV q=(a,b):=⟨_,_,rfl⟩;obtain⟨ka,hka⟩:∃k,k=spP p:=⟨_,rfl⟩;obtain⟨kb,hkb⟩:∃k,k=spP q:=⟨_,rfl⟩;have HV:Hid (xpV p=(x1,x2)∧xpV q=(y1,y2)∧spP p=ka∧spP q=kb):=⟨hx,hy,hka.symm,hkb.symm⟩;rw[hx,hy,←hka,←hkb];obtain⟨a1,c1,hv1⟩:=own_form h.m.l;obtain⟨n1,hn1⟩:∃n,n=d.Ls.length:=⟨_,rfl⟩;rw[←hn1] at hv1;subst hv1;have HD:Hid (DrB W gd B d a l (.slice a1 n1 c1) v2 v3 v7 vs):=h;have HBW:Hid (B≤W.heap.size):=hB;have HL:Hid (d.Ls.length≤1000000):=hL;obtain⟨j1,hj,hy0,hy1,hy2⟩:=info_parts lnk_info;have HI1:Hid (Tryz.prog.info? 57=some j1):=hj;have HI2:Hid (j1.zero=some (.agg #[.int i64 0,.int i64 0,.int i64 0,.int i64 0])):=hy0;have HI3:Hid (j1.size=4):=hy1;have HI4:Hid (j1.bytes=32):=hy2;have HLV1:Hid (d.Ls.length+1≤maxLen):=by
  show _≤_;unfold maxLen;omega
 have HLV2:Hid ((d.Ls.length+1)*32≤140737488355328):=by
  show _≤_;omega
 clear h hB hL hr hsz hp hq hx hy hka hkb hn1 hj hy0 hy1 hy2;go_enter func58,ntmps58
 go_wp2_with fail
 refine (cutBl_any r W HS.out).mono ?_;rintro e w1 ⟨⟨bb,rfl⟩,hb1⟩;rw[HPQ.out.1,HPQ.out.2];have HB1:Hid (Below W.heap.size W w1):=hb1;clear hb1
 go_wp2_with fail
 refine (parseSpot_any p w1 HSP.out.1).mono ?_;rintro e w2 ⟨rfl,hb2⟩;rw[HV.out.1,HV.out.2.2.1];have HB2:Hid (Below W.heap.size W w2):=HB1.out.trans (hb2.mono HB1.out.size);clear hb2
 dsimp only
 go_upto_region 3 with fail;obtain⟨w3,hw3⟩:∃V,w2.alloc (.cells #[.int i64 x1,.int i64 x2] 55)=V:=⟨_,rfl⟩;rw[hw3];have hb23:Below w2.heap.size w2 w3:=by rw[←hw3];exact (bRQ _ _).alloc (nLQ _) _
 have hA:=spo_new w2 x1 x2 55;rw[hw3] at hA
 go_wp2_with fail
 refine (parseSpot_any q w3 HSP.out.2).mono ?_;rintro e w4 ⟨rfl,hb4⟩;rw[HV.out.2.1,HV.out.2.2.2]
 dsimp only
 go_upto_region 4 with fail;obtain⟨w5,hw5⟩:∃V,w4.alloc (.cells #[.int i64 y1,.int i64 y2] 55)=V:=⟨_,rfl⟩;rw[hw5];have hb45:Below w4.heap.size w4 w5:=by rw[←hw5];exact (bRQ _ _).alloc (nLQ _) _
 have hC:=spo_new w4 y1 y2 55;rw[hw5] at hC;have hb35:Below w3.heap.size w3 w5:=hb4.trans (hb45.mono hb4.size);have hbW5:Below W.heap.size W w5:=(HB2.out.trans (hb23.mono HB2.out.size)).trans (hb35.mono (Nat.le_trans HB2.out.size hb23.size));have HBX:Hid (Below W.heap.size W w5):=hbW5;have HSA:Hid (∀V,Below w5.heap.size w5 V→(V.cell? ⟨w2.heap.size,0,none⟩=some (.int i64 x1)∧V.cell? ⟨w2.heap.size,1,none⟩=some (.int i64 x2))∧(V.cell? ⟨w4.heap.size,0,none⟩=some (.int i64 y1)∧V.cell? ⟨w4.heap.size,1,none⟩=some (.int i64 y2))):=fun V hV=>by
  have h1:=spo_cells ((hA.later hb35).later hV);have h2:=spo_cells (hC.later hV);simp only[Nat.zero_add] at h1 h2;exact⟨h1,h2⟩
 have HK5:Hid (∀V,Below w5.heap.size w5 V→DrB V gd B d a l (.slice a1 n1 c1) v2 v3 v7 vs):=fun V hV=>HD.out.later (HBX.out.trans (hV.mono HBX.out.size))
 have HST:Hid (∀V V2,Below w5.heap.size w5 V→V.grownBy V2 (Value.slice a1 n1 c1).ownBlock→V2.cell? ⟨gd,1,none⟩=some (.slice a1 n1 c1)∧V2.frozen? ⟨gd,1,none⟩=false):=fun V V2 hV hg=>by
  have m:=HK5.out V hV;have hne:=row_ne m.m.l m.m.gB;exact⟨hg.cell m.m.c.2.1 hne,fz_grown m.lt m.m.f hg hne 1⟩
 have HFIN:Hid (∀V V2 u,Below w5.heap.size w5 V→V.grownBy V2 (Value.slice a1 n1 c1).ownBlock→V2.ownsRow B 57 lnkE.n u (d.Ls++[((x1,x2),(y1,y2))]).length (cellsG lnkE (d.Ls++[((x1,x2),(y1,y2))]))→(u.ownBlock=(Value.slice a1 n1 c1).ownBlock∨u.ownBlock=some V.heap.size) →
  DrQ W gd B a l (DrX (.slice a1 n1 c1) v2 v3 v7 vs) { d with Ls:=d.Ls++[((x1,x2),(y1,y2))] } (V2.setCell ⟨gd,1,none⟩ u)∧Kb (fun b=>b≠gd∧(Value.slice a1 n1 c1).ownBlock≠some b) W (V2.setCell ⟨gd,1,none⟩ u)):=fun V V2 u hV hg ho hb=>by
  have hBV:Below W.heap.size W V:=HBX.out.trans (hV.mono HBX.out.size);refine⟨⟨u,v2,v3,v7,vs,(HK5.out V hV).addL hg ho,fun b hx=>?_⟩,kb_box (fun e=>e.1 rfl) _ _ ((Kb.of_below hBV fun b hb _=>hb).grown hg fun r hr _ hp=>hp.2 hr)⟩
  rcases hx with hx | hx
  ·rcases hb with hb | hb
   ·exact .inl (.inl (hb ▸ hx))
   right;rw[hb] at hx;cases hx;exact hBV.size
  exact .inl (.inr hx)
 clear hA hC hb23 hb45 hb35 hb4 hbW5 hw3 hw5 HB1 HB2;have HLB:Hid (B≤w5.heap.size):=Nat.le_trans HBW.out HBX.out.size;obtain⟨⟨i0,i1⟩,i2,i3⟩:=HSA.out w5 (bRQ _ _);have k1:=(HK5.out w5 (bRQ _ _)).m.c.2.1;have hlt:=(HK5.out w5 (bRQ _ _)).lt
 go_region_law ((refine step_append_blk (E:=lnkE) _ (by rfl) _ _ 22 57 (by rfl) underlying22 j1 _ 32 HI1.out HI2.out HI3.out HI4.out lnk_zero B (.slice a1 n1 c1) (by rfl) d.Ls (HK5.out _ (by first | exact (bRQ _ _).drew.alloc (nLQ _) _ | exact ((bRQ _ _).alloc (nLQ _) _).drew | exact (bRQ _ _).alloc (nLQ _) _)).m.l w5.heap.size 0 1 (by rfl) ((x1,x2),(y1,y2)) (lnk_new _ x1 x2 y1 y2 57) HLV1.out HLV2.out ?_ ?_;(focus (have:=HLB.out;simp;omega));intro v5 w6 ho5 hg5 hb5;obtain⟨z1,zf1⟩:=HST.out _ _ (by first | exact (bRQ _ _).drew.alloc (nLQ _) _ | exact ((bRQ _ _).alloc (nLQ _) _).drew | exact (bRQ _ _).alloc (nLQ _) _) hg5;have HG:Hid _:=HFIN.out _ _ _ (by first | exact (bRQ _ _).drew.alloc (nLQ _) _ | exact ((bRQ _ _).alloc (nLQ _) _).drew | exact (bRQ _ _).alloc (nLQ _) _) hg5 ho5 hb5;obtain⟨a6,m6,c6,rfl⟩:∃b1 m1 d1,v5=Value.slice b1 m1 d1:=(by obtain⟨a,c,h⟩:=own_form ho5;exact⟨a,_,c,h⟩);clear ho5 hg5 hb5))
 all_goals (clear k1 i0 i1 i2 i3)
 all_goals cases ka
 all_goals go_wp2
 all_goals go_ret
 all_goals exact⟨rfl,HG.out⟩
end
theorem infoByte:(Tryz.prog.info? 5).map (fun i=>(i.zero,i.size,i.bytes))=some (some (.int .u8 0),1,1):=by kernel_rfl
theorem liteClone (s:ByteArray)(w:World)(hlim:s.size≤1000000):
 Calls prog 112 #[.string s] w fun e w'=>e=.returned (.string s)∧Below w.heap.size w w':=by
 by_cases h0:s.size=0
 ·have hs:s=⟨#[]⟩:=by
   apply ByteArray.ext
   exact Array.eq_empty_of_size_eq_zero h0
  subst hs;go_enter func112,ntmps112;go_wp2;go_ret;exact⟨rfl,bRQ _ _⟩
 obtain⟨i0,hi,hz0,hz1,hz2⟩:=info_parts infoByte;have hinfo:(Tryz.prog.info? 5).map (·.size)=some 1:=by rw[hi];simp[hz1]
 have hco:Tryz.prog.cellsOf 5=1:=by simp[Program.cellsOf,hi,hz1]
 obtain⟨M,hM⟩:∃M,M=madeCells (Value.int .u8 0).cells (((s.size:Nat):Int).toNat*i0.size):=⟨_,rfl⟩;have hMs:M.size=s.size:=by rw[hM,size_madeCells,hz1];simp
 have hmk:(Instr.makeSlice 102 (.int i64 (s.size:Int)) (.int i64 (s.size:Int))).run prog w=.ok (.slice (some ⟨w.heap.size,0,none⟩) s.size s.size) (w.alloc (.cells M 5)):=by
  have h:=run_make (P:=prog) w 102 5 i0 (.int .u8 0) underlying102 hi hz0 .i64 .i64 (s.size:Int) (s.size:Int) (by omega) (by omega) (by rw[hz2];omega) (by omega);rw[←hM] at h;simpa using h
 clear hM;have hcp:=Lib.run_copy_row_string (P:=prog) (w.alloc (.cells M 5)) 102 9 3 5 w.heap.size 0 s.size s.size s M 5 underlying102 hinfo (heap_alloc_new w _) (nLQ _) (by omega);obtain⟨Y,hY⟩:∃Y,Y=(M.toList.take 0++Lib.byteCells s.data.toList++M.toList.drop (0+s.size)).toArray:=⟨_,rfl⟩;rw[←hY] at hcp;have hYl:Y.toList=Lib.byteCells s.data.toList:=by
  rw[hY,List.toList_toArray,List.take_zero,List.nil_append,List.drop_of_length_le (by rw[Array.length_toList];omega),List.append_nil]
 have hYs:Y.size=s.size:=by rw[←Array.length_toList,hYl,Lib.byteCells_length,←Lib.size_eq]
 have hgY:((w.alloc (.cells M 5)).setRow w.heap.size Y).heap[w.heap.size]?=some (.cells Y 5 (0,0)):=setRow_heap _ _ M _ 5 (0,0) (heap_alloc_new w _);have hne:s.data.toList≠[]:=fun e=>h0 (by rw[Lib.size_eq,e];rfl)
 have hUS:=Lib.run_unsafeString_row (P:=prog) ((w.alloc (.cells M 5)).setRow w.heap.size Y) 134 3 9 5 underlying134 hco w.heap.size Y.size (by unfold World.shape?;rw[hgY]) s.data.toList hne (by rw[←Lib.size_eq];omega) (by rw[←Lib.size_eq];omega)
  (fun j x hx=>Lib.cells_of_row hgY Y.size j _ (by rw[List.take_of_length_le (by rw[Array.length_toList];exact nLQ _),hYl];simp[Lib.byteCells,hx]))
 rw[←Lib.size_eq] at hUS;clear hY;go_enter func112,ntmps112;go_wp2;go_ret;have hb1:Below w.heap.size w (w.alloc (.cells M 5)):=(Below.refl _ w).alloc (nLQ _) _;have hb2:Below w.heap.size (w.alloc (.cells M 5)) ((w.alloc (.cells M 5)).setRow w.heap.size Y):=⟨rfl,rfl,rfl,by simp,fun k hk=>setRow_other _ _ _ _ (by omega)⟩;exact⟨rfl,Lib.below_freeze (hb1.trans hb2) (p:=⟨w.heap.size,0,none⟩) (nLQ _) _⟩
theorem clone_any (s:ByteArray)(w:World)(hlim:s.size≤1000000):
 Calls prog 88 #[.string s] w fun e w'=>e=.returned (.string s)∧Below w.heap.size w w':=by
 go_enter func88,ntmps88
 go_wp2_with fail
 refine (liteClone s _ hlim).mono ?_;rintro e w1 ⟨rfl,hb1⟩;go_wp2;go_ret;exact⟨rfl,hb1⟩
theorem hdrew {w w':World}(h:Below w.drew.heap.size w.drew w'):Below w.heap.size w w':=(Below.drew (bRQ _ _)).trans h
section
variable {W:World}{gd B:Nat}{d:RdT}{a l:Int}{v1 v2 v3 v7:Value}{vs:List SlT}
theorem takeHo_any (r:ByteArray)(hr:r.size≤1000000)(hB:B≤W.heap.size)(hL:d.Hs.length≤1000000)(h:DrB W gd B d a l v1 v2 v3 v7 vs):
 Calls prog 59 #[.pointer (some ⟨gd,0,none⟩),.string r] W fun e W'=>e=.returned (.bool (spP (c2S 32 r)))∧DrQ W gd B a l (DrX v1 v2 v3 v7 vs) { d with Hs:=d.Hs++[(c1S 32 r,xpV (c2S 32 r))] } W'∧Kb (fun b=>b≠gd∧v2.ownBlock≠some b) W W':=by
 have HS:Hid (r.size≤1000000):=hr;have hsz:=cs_size (c:=32) (s:=r);obtain⟨p,hp⟩:∃p,p=c1S 32 r:=⟨_,rfl⟩;obtain⟨q,hq⟩:∃q,q=c2S 32 r:=⟨_,rfl⟩;rw[←hp,←hq] at hsz;rw[←hp,←hq];have HPQ:Hid (c1S 32 r=p∧c2S 32 r=q):=⟨hp.symm,hq.symm⟩;have HSP:Hid (p.size≤1000000∧q.size≤1000000):=⟨by omega,by omega⟩;obtain⟨y1,y2,hy⟩:∃a b,xpV q=(a,b):=⟨_,_,rfl⟩;obtain⟨kb,hkb⟩:∃k,k=spP q:=⟨_,rfl⟩;have HV:Hid (xpV q=(y1,y2)∧spP q=kb):=⟨hy,hkb.symm⟩;rw[hy,←hkb];obtain⟨a1,c1,hv1⟩:=own_form h.m.h;obtain⟨n1,hn1⟩:∃n,n=d.Hs.length:=⟨_,rfl⟩;rw[←hn1] at hv1;subst hv1;have HD:Hid (DrB W gd B d a l v1 (.slice a1 n1 c1) v3 v7 vs):=h;have HBW:Hid (B≤W.heap.size):=hB;obtain⟨j1,hj,hy0,hy1,hy2⟩:=info_parts hst_info;have HI1:Hid (Tryz.prog.info? 59=some j1):=hj;have HI2:Hid (j1.zero=some (.agg #[.string ByteArray.empty,.int i64 0,.int i64 0])):=hy0;have HI3:Hid (j1.size=3):=hy1;have HI4:Hid (j1.bytes=32):=hy2;have HLV1:Hid (d.Hs.length+1≤maxLen):=by
  show _≤_;unfold maxLen;omega
 have HLV2:Hid ((d.Hs.length+1)*32≤140737488355328):=by
  show _≤_;omega
 clear h hB hL hr hsz hp hq hy hkb hn1 hj hy0 hy1 hy2;go_enter func59,ntmps59
 go_wp2_with fail
 refine (cutBl_any r W HS.out).mono ?_;rintro e w1 ⟨⟨bb,rfl⟩,hb1⟩;rw[HPQ.out.1,HPQ.out.2];have HB1:Hid (Below W.heap.size W w1):=hb1;clear hb1
 go_wp2_with fail
 refine (parseSpot_any q w1 HSP.out.2).mono ?_;rintro e w4 ⟨rfl,hb4⟩;rw[HV.out.1,HV.out.2]
 dsimp only
 go_upto_region 3 with fail;obtain⟨w5,hw5⟩:∃V,w4.alloc (.cells #[.int i64 y1,.int i64 y2] 55)=V:=⟨_,rfl⟩;rw[hw5];have hb45:Below w4.heap.size w4 w5:=by rw[←hw5];exact (bRQ _ _).alloc (nLQ _) _
 have hC:=spo_new w4 y1 y2 55;rw[hw5] at hC;have hbW5:Below W.heap.size W w5:=(HB1.out.trans (hb4.mono HB1.out.size)).trans (hb45.mono (Nat.le_trans HB1.out.size hb4.size));have HBX:Hid (Below W.heap.size W w5):=hbW5;have HSA:Hid (∀V,Below w5.heap.size w5 V→(V.cell? ⟨w4.heap.size,0,none⟩=some (.int i64 y1)∧V.cell? ⟨w4.heap.size,1,none⟩=some (.int i64 y2))):=fun V hV=>by
  have h2:=spo_cells (hC.later hV);simp only[Nat.zero_add] at h2;exact h2
 have HK5:Hid (∀V,Below w5.heap.size w5 V→DrB V gd B d a l v1 (.slice a1 n1 c1) v3 v7 vs):=fun V hV=>HD.out.later (HBX.out.trans (hV.mono HBX.out.size))
 have HST:Hid (∀V V2,Below w5.heap.size w5 V→V.grownBy V2 (Value.slice a1 n1 c1).ownBlock→V2.cell? ⟨gd,2,none⟩=some (.slice a1 n1 c1)∧V2.frozen? ⟨gd,2,none⟩=false):=fun V V2 hV hg=>by
  have m:=HK5.out V hV;have hne:=row_ne m.m.h m.m.gB;exact⟨hg.cell m.m.c.2.2.1 hne,fz_grown m.lt m.m.f hg hne 2⟩
 have HFIN:Hid (∀V V2 u,Below w5.heap.size w5 V→V.grownBy V2 (Value.slice a1 n1 c1).ownBlock→V2.ownsRow B 59 hstE.n u (d.Hs++[(p,(y1,y2))]).length (cellsG hstE (d.Hs++[(p,(y1,y2))]))→(u.ownBlock=(Value.slice a1 n1 c1).ownBlock∨u.ownBlock=some V.heap.size) →
  DrQ W gd B a l (DrX v1 (.slice a1 n1 c1) v3 v7 vs) { d with Hs:=d.Hs++[(p,(y1,y2))] } (V2.setCell ⟨gd,2,none⟩ u)∧Kb (fun b=>b≠gd∧(Value.slice a1 n1 c1).ownBlock≠some b) W (V2.setCell ⟨gd,2,none⟩ u)):=fun V V2 u hV hg ho hb=>by
  have hBV:Below W.heap.size W V:=HBX.out.trans (hV.mono HBX.out.size);refine⟨⟨v1,u,v3,v7,vs,(HK5.out V hV).addH hg ho,fun b hx=>?_⟩,kb_box (fun e=>e.1 rfl) _ _ ((Kb.of_below hBV fun b hb _=>hb).grown hg fun r hr _ hp=>hp.2 hr)⟩
  rcases hx with hx | hx | hx
  ·exact .inl (.inl hx)
  ·rcases hb with hb | hb
   ·exact .inl (.inr (.inl (hb ▸ hx)))
   right;rw[hb] at hx;cases hx;exact hBV.size
  exact .inl (.inr (.inr hx))
 clear hC hb45 hb4 hbW5 hw5 HB1;have HLB:Hid (B≤w5.heap.size):=Nat.le_trans HBW.out HBX.out.size;obtain⟨i2,i3⟩:=HSA.out w5 (bRQ _ _);have k1:=(HK5.out w5 (bRQ _ _)).m.c.2.2.1;have hlt:=(HK5.out w5 (bRQ _ _)).lt
 go_region_law (first
  | ((refine step_append_blk (E:=hstE) _ (by rfl) _ _ 23 59 (by rfl) underlying23 j1 _ 32 HI1.out HI2.out HI3.out HI4.out hst_zero B (.slice a1 n1 c1) (by rfl) d.Hs (HK5.out _ HBZ.out).m.h w'.heap.size 0 1 (by rfl) (p,(y1,y2)) (hst_new _ p y1 y2 59) HLV1.out HLV2.out ?_ ?_;(focus (have:=HLB.out;have:=HBZ.out.size;omega));intro v5 w6 ho5 hg5 hb5;obtain⟨z1,zf1⟩:=HST.out _ _ HBZ.out hg5;have HG:Hid _:=HFIN.out _ _ _ HBZ.out hg5 ho5 hb5;obtain⟨a6,m6,c6,rfl⟩:∃b1 m1 d1,v5=Value.slice b1 m1 d1:=(by obtain⟨a,c,h⟩:=own_form ho5;exact⟨a,_,c,h⟩);clear ho5 hg5 hb5))
  | (go_simp;go_at_call 88;refine (clone_any p _ HSP.out.1).mono ?_;rintro e w' ⟨rfl,hb⟩;have HBY:Hid (Below w5.heap.size w5 w'):=(by first | exact hdrew hb | exact hb);have HBZ:Hid (Below w5.heap.size w5 (w'.alloc (.cells #[.string p,.int i64 y1,.int i64 y2] 59))):=HBY.out.alloc HBY.out.size _;have x2:=(HK5.out w' HBY.out).m.c.2.2.1;have xlt:=(HK5.out w' HBY.out).lt;obtain⟨x5,x6⟩:=HSA.out w' HBY.out;clear hb;dsimp only))
 all_goals (clear k1 i2 i3)
 all_goals go_wp2
 all_goals go_ret
 all_goals exact⟨rfl,HG.out⟩
end
def tbK (W:World)(gd:Nat):Nat:=match W.cell? ⟨gd,3,none⟩ with
 | some (.slice _ n _)=>n
 | _=>0
def rgB (l:Int)(p:ByteArray):Bool:=dcOk p&&(swB 6 (dcN p)&&decide (l≤dcN p))
theorem no_0:noV 0=.nilIface:=rfl
theorem paN_two (s:ByteArray):paN (cutB 6 s)=0∨∃n,noV (paN (cutB 6 s))=.iface 72 (.int i64 n)∧paN (cutB 6 s)≠0:=by
 by_cases h:paN (cutB 6 s)=0
 ·exact .inl h
 exact .inr ⟨paN (cutB 6 s),by unfold noV;rw[if_neg h],h⟩
theorem cut_at {vs:List SlT}{i:Nat}(h:i<vs.length):∃x,vs[i]?=some x:=⟨vs[i],List.getElem?_eq_getElem h⟩
section
variable {W:World}{gd B:Nat}{d:RdT}{a l:Int}{v1 v2 v3 v7:Value}{vs:List SlT}
def upT (m:Nat)(Ts:TsQ):TsQ:=Ts++List.replicate (m-Ts.length) []
def riT (m:Nat)(Ts:TsQ)(r:Ru):TsQ:=(upT m Ts).set (m-1) ((upT m Ts).getD (m-1) []++[r])
theorem takeRl_any (r:ByteArray)(hr:r.size≤1000000)(hB:B≤W.heap.size)(hL:∀T∈d.Ts,T.length≤1000000)(h6:d.Ts.length≤6)(h:DrB W gd B d a l v1 v2 v3 v7 vs):
 Calls prog 60 #[.pointer (some ⟨gd,0,none⟩),.string r] W fun e W'=>e=.returned (.bool (rgB l (c1S 32 r)&&decide (paN (cutB 6 (c2S 32 r))=0)))∧((rgB l (c1S 32 r)&&decide (paN (cutB 6 (c2S 32 r))=0))=true→DrQ W gd B a (dcN (c1S 32 r)) (DrX v1 v2 v3 v7 vs) { d with Ts:=riT (dcN (c1S 32 r)).toNat d.Ts (ruT (c2S 32 r)) } W')∧Kb (fun b=>b≠gd∧¬DrX v1 v2 v3 v7 vs b) W W':=by
 have HS:Hid (r.size≤1000000):=hr;have hsz:=cs_size (c:=32) (s:=r);obtain⟨p,hp⟩:∃p,p=c1S 32 r:=⟨_,rfl⟩;obtain⟨q,hq⟩:∃q,q=c2S 32 r:=⟨_,rfl⟩;rw[←hp,←hq] at hsz;rw[←hp,←hq];have HPQ:Hid (c1S 32 r=p∧c2S 32 r=q):=⟨hp.symm,hq.symm⟩;have HSQ:Hid (q.size<4611686018427387904):=by show _<_;omega
 have HBW:Hid (B≤W.heap.size):=hB;have HD:Hid (DrB W gd B d a l v1 v2 v3 v7 vs):=h;have HL:Hid ((∀T∈d.Ts,T.length≤1000000)∧d.Ts.length≤6):=⟨hL,h6⟩;have HKB:Hid (∀V,Below W.heap.size W V→Kb (fun b=>b≠gd∧¬DrX v1 v2 v3 v7 vs b) W V):=fun V hV=>Kb.of_below hV fun b hb _=>hb
 obtain⟨n,hn⟩:∃n,n=dcN p:=⟨_,rfl⟩;obtain⟨k,hk⟩:∃k,k=dcOk p:=⟨_,rfl⟩;obtain⟨G,hG⟩:∃g,g=rgB l p:=⟨_,rfl⟩;have HG:Hid (G=(k&&(swB 6 n&&decide (l≤n)))):=by show _=_;rw[hG,hn,hk];rfl
 have HN:Hid (dcN p=n∧dcOk p=k):=⟨hn.symm,hk.symm⟩;rw[←hG,←hn];clear h hB hL h6 hr hsz hp hq hn hk hG;go_enter func60,ntmps60
 go_wp2_with fail
 refine (cutBl_any r W HS.out).mono ?_;rintro e w1 ⟨⟨bb,rfl⟩,hb1⟩;rw[HPQ.out.1,HPQ.out.2];have HB1:Hid (Below W.heap.size W w1):=hb1;clear hb1
 go_wp2_with fail
 refine (dec_any p w1).mono ?_;rintro e w' ⟨rfl,hw'⟩;have hw'':=hw'.symm;subst hw'';clear hw';rw[HN.out.1,HN.out.2];cases k with
 | false =>
   go_wp2;go_ret;have e:G=false:=by rw[HG.out];rfl
   subst e;exact⟨rfl,(fun e=>by cases e),HKB.out _ HB1.out⟩
 | true =>
   go_wp2_with fail
   refine (isSwitch_any 6 n w1).mono ?_;rintro e w2 ⟨rfl,hb2⟩;have HB2:Hid (Below W.heap.size W w2):=HB1.out.trans (hb2.mono HB1.out.size);clear hb2;cases hsw:swB 6 n with
   | false =>
     have HE:Hid (G=false):=by show _=_;rw[HG.out,hsw];rfl
     clear hsw;go_wp2;go_ret;have e:=HE.out;subst e;exact⟨rfl,(fun e=>by cases e),HKB.out _ HB2.out⟩
   | true =>
     have h16:=sw_of.1 hsw;have HSW:Hid (G=decide (l≤n)):=by show _=_;rw[HG.out,hsw];simp
     have k6:=(HD.out.later HB2.out).c6;have hlt:=(HD.out.later HB2.out).lt;clear hsw HG;by_cases hln:l≤n
     ·have HE:Hid (G=true):=by show _=_;rw[HSW.out,decide_eq_true hln]
      have e:=HE.out;subst e;clear HE HSW;obtain⟨m,rfl⟩:∃m:Nat,n=(m:Int):=⟨n.toNat,by omega⟩;have hd1:decide ((m:Int)<l)=false:=by simp;omega
      go_wp2_with fail
      refine (ruParse_any q w2 HSQ.out).mono ?_;rintro e w3 ⟨rfl,hb3⟩;have HB3:Hid (Below W.heap.size W w3):=HB2.out.trans (hb3.mono HB2.out.size);clear hb3
      rcases paN_two q with h0 | ⟨nn,hno,h0⟩
      ·rw[paV_yes h0,h0,no_0];have HP0:Hid (paN (cutB 6 q)=0):=h0;obtain⟨x0,hx0⟩:∃x,x=rP (cutB 6 q):=⟨_,rfl⟩;obtain⟨x1,hx1⟩:∃x,x=rM (cutB 6 q):=⟨_,rfl⟩;obtain⟨x2,hx2⟩:∃x,x=rB (cutB 6 q):=⟨_,rfl⟩;obtain⟨x3,hx3⟩:∃x,x=rO (cutB 6 q):=⟨_,rfl⟩;obtain⟨x4,hx4⟩:∃x,x=rS (cutB 6 q):=⟨_,rfl⟩;obtain⟨x5,hx5⟩:∃x,x=rV (cutB 6 q):=⟨_,rfl⟩;have HRU:Hid (ruT q=⟨x0,x1,x2,x3,x4,x5⟩):=by
        show _=_;rw[hx0,hx1,hx2,hx3,hx4,hx5];rfl
       rw[←hx0,←hx1,←hx2,←hx3,←hx4,←hx5];clear hx0 hx1 hx2 hx3 hx4 hx5 h0;have m3:=HD.out.later HB3.out;have k6':=m3.c6;have hlt':=m3.lt;have hf6:=m3.m.f 6;have HM:Hid (1≤m∧m≤6):=⟨by omega,by omega⟩;have HSZ:Hid (W.heap.size≤w3.heap.size):=HB3.out.size;have HAT:Hid (DrB ((w3.setCell ⟨gd,6,none⟩ (.int i64 (m:Int))).alloc (.cells #[.int i64 x0,.int i64 x1,.int i64 x2,.int i64 x3,.int i64 x4,.int i64 x5] 64)) gd B d a (m:Int) v1 v2 v3 v7 vs∧Kb (fun b=>b≠gd∧¬DrX v1 v2 v3 v7 vs b) W ((w3.setCell ⟨gd,6,none⟩ (.int i64 (m:Int))).alloc (.cells #[.int i64 x0,.int i64 x1,.int i64 x2,.int i64 x3,.int i64 x4,.int i64 x5] 64))∧VAt ((w3.setCell ⟨gd,6,none⟩ (.int i64 (m:Int))).alloc (.cells #[.int i64 x0,.int i64 x1,.int i64 x2,.int i64 x3,.int i64 x4,.int i64 x5] 64)) w3.heap.size 0 (rlE.c ⟨x0,x1,x2,x3,x4,x5⟩)):=by
        refine⟨(m3.set6 (m:Int)).later ((bRQ _ _).alloc (nLQ _) _),(kb_box (fun e=>e.1 rfl) _ _ (HKB.out _ HB3.out)).alloc _,?_⟩;have h:=rl_new (w3.setCell ⟨gd,6,none⟩ (.int i64 (m:Int))) x0 x1 x2 x3 x4 x5 64;simpa using h
       clear m3 k6 h16 hln;go_wp2
       go_loopw [] (fun wr=>∃(u3:Value) (us:List SlT) (j:Nat),j≤m-d.Ts.length∧DrB wr gd B { d with Ts:=d.Ts++List.replicate j [] } a (m:Int) v1 v2 u3 v7 us∧(∀b,DrX v1 v2 u3 v7 us b→DrX v1 v2 v3 v7 vs b∨w3.heap.size+1≤b)∧Kb (fun b=>b≠gd∧¬DrX v1 v2 v3 v7 vs b) W wr∧VAt wr w3.heap.size 0 (rlE.c ⟨x0,x1,x2,x3,x4,x5⟩)∧w3.heap.size+1≤wr.heap.size) (fun wr=>m-tbK wr gd)
       case atStart =>
        refine⟨v3,vs,0,Nat.zero_le _,?_,fun b hb=>.inl hb,HAT.out.2.1,HAT.out.2.2,by simp⟩;have h:=HAT.out.1;simpa using h
       case round =>
        obtain⟨u3,us,j,hj,hDB,hXX,hKK,hV,hsz⟩:=hrel;have hul:us.length=d.Ts.length+j:=by
         have:=hDB.m.t.lv;simpa using this
        obtain⟨a3,c3,hu3⟩:=own_form hDB.m.t.ov;obtain⟨N,hN⟩:∃N,N=us.length:=⟨_,rfl⟩;rw[←hN] at hu3;subst hu3;have hc3:=hDB.m.c.2.2.2;have hf3:=hDB.m.f 3;have hgl:=hDB.lt;have HDB:Hid (DrB wr gd B { d with Ts:=d.Ts++List.replicate j [] } a (m:Int) v1 v2 (.slice a3 N c3) v7 us):=hDB;have HXX:Hid (∀b,DrX v1 v2 (.slice a3 N c3) v7 us b→DrX v1 v2 v3 v7 vs b∨w3.heap.size+1≤b):=hXX;have HKK:Hid (Kb (fun b=>b≠gd∧¬DrX v1 v2 v3 v7 vs b) W wr):=hKK;have HV:Hid (VAt wr w3.heap.size 0 (rlE.c ⟨x0,x1,x2,x3,x4,x5⟩)):=hV;have HBR:Hid (B≤wr.heap.size):=Nat.le_trans HBW.out hKK.size;have HT0:Hid (tbK wr gd=N):=by
         show _=_;unfold tbK;rw[hc3]
        have HUN:Hid (N=d.Ts.length+j∧us.length=N∧j≤m-d.Ts.length):=⟨by omega,hN.symm,hj⟩;have HNB:Hid (∀b,DrX v1 v2 (.slice a3 N c3) v7 us b→b≠w3.heap.size):=fun b hb e=>by
         have h3:=HSZ.out
         rcases HXX.out b hb with h1 | h1
         ·have:=(HD.out.xlt h1).2;omega
         omega
        clear hDB hXX hKK hV hul hN hj;by_cases hNm:N<m
        ·have hNi:(N:Int)<(m:Int):=by omega
         obtain⟨j1,hj1,hy0,hy1,hy2⟩:=info_parts tab_info;have HI1:Hid (Tryz.prog.info? 48=some j1):=hj1;have HI2:Hid (j1.zero=some (.slice none 0 0)):=hy0;have HI3:Hid (j1.size=1):=hy1;have HI4:Hid (j1.bytes=24):=hy2;have HLV1:Hid (us.length+1≤maxLen):=by
          have:=HUN.out;have:=HM.out;show _≤_;unfold maxLen;omega
         have HLV2:Hid ((us.length+1)*24≤140737488355328):=by
          have:=HUN.out;have:=HM.out;show _≤_;omega
         clear hj1 hy0 hy1 hy2
         go_wp2_with (at_builtin;refine wpList_append_blk (E:=slE) _ rfl _ _ 26 48 rfl underlying26 j1 (.slice none 0 0) 24 HI1.out HI2.out HI3.out HI4.out (by rfl) B (.slice a3 N c3) rfl us (HDB.out.m.t.ov.alloc _) wr.heap.size 0 1 rfl ((none,0,0):SlT) (vat_new wr [.slice none 0 0] _) HLV1.out HLV2.out ?m3 ?_)
         case m3 =>
          have:=HBR.out;simp;omega
         intro v' w6 ho6 hg6 hb6
         replace ho6:w6.ownsRow B 48 slE.n v' (us++[((none,0,0):SlT)]).length (cellsG slE (us++[((none,0,0):SlT)])):=by
          rw[List.length_append];exact ho6
         have m1:=HDB.out.later ((Below.refl wr.heap.size wr).alloc (nLQ _) (Obj.cells #[.slice none 0 0] 48));have m2:=m1.addT hg6 ho6;have hne:=row_ne m1.m.t.ov m1.m.gB;have z3:=hg6.cell m1.m.c.2.2.2 hne;have zf3:=fz_grown m1.lt m1.m.f hg6 hne 3;have zl:=bLQ w6 ⟨gd,3,none⟩ z3;obtain⟨a6,c6,hv6⟩:=own_form ho6;obtain⟨N6,hN6⟩:∃n,n=(us++[((none,0,0):SlT)]).length:=⟨_,rfl⟩;rw[←hN6] at hv6;subst hv6;have HN6:Hid (N6=N+1):=by
          show _=_;rw[hN6,List.length_append,HUN.out.2.1];rfl
         have hw6:wr.heap.size+1≤w6.heap.size:=by
          have:=hg6.size;simpa using this
         have HFIN:Hid (DrB (w6.setCell ⟨gd,3,none⟩ (.slice a6 N6 c6)) gd B { d with Ts:=d.Ts++List.replicate (j+1) [] } a (m:Int) v1 v2 (.slice a6 N6 c6) v7 (us++[(none,0,0)])∧(∀b,DrX v1 v2 (.slice a6 N6 c6) v7 (us++[(none,0,0)]) b→DrX v1 v2 v3 v7 vs b∨w3.heap.size+1≤b)∧Kb (fun b=>b≠gd∧¬DrX v1 v2 v3 v7 vs b) W (w6.setCell ⟨gd,3,none⟩ (.slice a6 N6 c6))∧VAt (w6.setCell ⟨gd,3,none⟩ (.slice a6 N6 c6)) w3.heap.size 0 (rlE.c ⟨x0,x1,x2,x3,x4,x5⟩)∧w3.heap.size+1≤(w6.setCell ⟨gd,3,none⟩ (.slice a6 N6 c6)).heap.size):=by
          refine⟨?_,fun b hb=>?_,?_,?_,?_⟩
          ·have e:d.Ts++List.replicate (j+1) []=(d.Ts++List.replicate j [])++[[]]:=by
            rw[List.replicate_succ',List.append_assoc]
           rw[e];exact m2
          ·rcases hb with hb | hb | hb | hb | ⟨x,hx,hb⟩
           ·exact HXX.out b (.inl hb)
           ·exact HXX.out b (.inr (.inl hb))
           ·rcases hb6 with h6 | h6
            ·exact HXX.out b (.inr (.inr (.inl (h6 ▸ hb))))
            right;rw[h6] at hb;cases hb;simp;omega
           ·exact HXX.out b (.inr (.inr (.inr (.inl hb))))
           rw[List.mem_append,List.mem_singleton] at hx
           rcases hx with hx | hx
           ·exact HXX.out b (.inr (.inr (.inr (.inr ⟨x,hx,hb⟩))))
           rw[hx] at hb;cases hb
          ·refine kb_box (fun e=>e.1 rfl) _ _ ((HKK.out.alloc _).grown hg6 fun r hr hrl hp=>?_)
           rcases HXX.out r (.inr (.inr (.inl hr))) with h1 | h1
           ·exact hp.2 h1
           have:=HSZ.out;omega
          ·have hv:=(HV.out.later ((Below.refl wr.heap.size wr).alloc (nLQ _) (Obj.cells #[.slice none 0 0] 48)));intro q u hu;rw[World.cell?_setCell_other _ _ _ _ (by
            intro e;have e2:gd=w3.heap.size:=congrArg Addr.block e;omega)]
           refine hg6.cell (hv q u hu) fun e=>?_
           exact HNB.out _ (.inr (.inr (.inl e.symm))) rfl
          have:(w6.setCell ⟨gd,3,none⟩ (.slice a6 N6 c6)).heap.size=w6.heap.size:=by simp
          omega
         have HT1:Hid (tbK (w6.setCell ⟨gd,3,none⟩ (.slice a6 N6 c6)) gd=N6):=by
          show _=_;unfold tbK;rw[World.cell?_setCell_same _ _ _ z3]
         clear ho6 hg6 hb6 m1 m2 hne hN6 hw6;go_wp2;go_roundw
         case rel=>exact⟨_,_,j+1,by have:=HUN.out;omega,HFIN.out⟩
         case measure =>
          rw[HT1.out,HT0.out];have:=HN6.out;omega
        have hNi:¬(N:Int)<(m:Int):=by omega
        obtain⟨i,hmi⟩:∃i:Nat,(m:Int)-1=(i:Int):=⟨m-1,by have:=HM.out;omega⟩;have hi0:(0:Int)≤(i:Int):=by omega
        have hwr:IntKind.i64.wrap (i:Int)=(i:Int):=by
         have:=HM.out;rw[IntKind.wrap_i64];omega
        have hi1:(i:Int)<(N:Int):=by omega
        have HI:Hid (i=m-1∧i<N∧j=m-d.Ts.length):=⟨by omega,by omega,by have:=HUN.out;omega⟩;obtain⟨g,hg3⟩:∃g,a3=some ⟨g,0,none⟩:=by
         rcases HDB.out.m.t.ov.2 with ⟨h1,h2⟩ | ⟨g,cap,cur,h1,_⟩
         ·exfalso
          have:=HUN.out;omega
         cases h1;exact⟨g,rfl⟩
        subst hg3;obtain⟨⟨ax,nx,cx⟩,hx⟩:=cut_at (vs:=us) (i:=i) (by have:=HUN.out.2.1;omega);have hil:i<(d.Ts++List.replicate j ([]:List Ru)).length:=by
         rw[←HDB.out.m.t.lv,HUN.out.2.1];omega
        obtain⟨L,hL⟩:∃L,(d.Ts++List.replicate j ([]:List Ru))[i]?=some L:=⟨_,List.getElem?_eq_getElem hil⟩;have HLL:Hid (L.length≤1000000):=by
         show _≤_;have hm:=List.mem_of_getElem? hL;rw[List.mem_append,List.mem_replicate] at hm
         rcases hm with hm | hm
         ·exact HL.out.1 L hm
         rw[hm.2];exact Nat.zero_le _
        have HX:Hid (us[i]?=some (ax,nx,cx)∧(d.Ts++List.replicate j ([]:List Ru))[i]?=some L):=⟨hx,hL⟩;have HUT:Hid ((d.Ts++List.replicate j ([]:List Ru)).set i (L++[(⟨x0,x1,x2,x3,x4,x5⟩:Ru)])=riT m d.Ts (ruT q)):=by
         show _=_;rw[HRU.out,riT,upT,←HI.out.2.2,←HI.out.1,List.getD_eq_getElem?_getD,hL];rfl
        have HKD:Hid (∀V,Below wr.heap.size wr V→DrB V gd B { d with Ts:=d.Ts++List.replicate j [] } a (m:Int) v1 v2 (.slice (some ⟨g,0,none⟩) N c3) v7 us):=fun V hV=>HDB.out.later hV
        have HKC:Hid (∀V,Below wr.heap.size wr V→V.cell? ⟨g,i,none⟩=some (.slice ax nx cx)∧V.cell? ⟨gd,3,none⟩=some (.slice (some ⟨g,0,none⟩) N c3)):=fun V hV=>by
         have m1:=HKD.out V hV;refine⟨?_,m1.m.c.2.2.2⟩;have h:=World.ownsRow.cells m1.m.t.ov (g:=g) rfl i (slV (ax,nx,cx)) (by rw[sl_cells,List.getElem?_map,HX.out.1];rfl);by_cases h0:i=0 <;> simpa[Addr.add,h0,slV] using h
        have HKR:Hid (∀V,Below wr.heap.size wr V→V.cell? ⟨w3.heap.size,0,none⟩=some (.int i64 x0)∧V.cell? ⟨w3.heap.size,1,none⟩=some (.int i64 x1)∧V.cell? ⟨w3.heap.size,2,none⟩=some (.int i64 x2)∧V.cell? ⟨w3.heap.size,3,none⟩=some (.int i64 x3)∧V.cell? ⟨w3.heap.size,4,none⟩=some (.int i64 x4)∧V.cell? ⟨w3.heap.size,5,none⟩=some (.int i64 x5)):=fun V hV=>by
         have h:=rl_cells (HV.out.later hV);simpa only[Nat.zero_add] using h
        have HST:Hid (∀V V2,Below wr.heap.size wr V→V.grownBy V2 (slV (ax,nx,cx)).ownBlock→(V2.cell? ⟨g,i,none⟩=some (.slice ax nx cx)∧V2.cell? ⟨gd,3,none⟩=some (.slice (some ⟨g,0,none⟩) N c3))∧V2.frozen? ⟨g,i,none⟩=false):=fun V V2 hV hg=>by
         have m1:=HKD.out V hV;have hrx:=m1.m.t.rv i _ L HX.out.1 HX.out.2;have hov:=m1.m.t.ov.kept hg (oo_apart m1.m.t.ov hrx dr_types.2.1.2.2);have h:=World.ownsRow.cells hov (g:=g) rfl i (slV (ax,nx,cx)) (by rw[sl_cells,List.getElem?_map,HX.out.1];rfl);have hne:=row_ne hrx m1.m.gB;refine⟨⟨by by_cases h0:i=0 <;> simpa[Addr.add,h0,slV] using h,hg.cell m1.m.c.2.2.2 hne⟩,?_⟩;rw[HUN.out.2.1] at hov;exact hov.frozenAt i
        have HFIN:Hid (∀V V2 (y:SlT),Below wr.heap.size wr V→V.grownBy V2 (slV (ax,nx,cx)).ownBlock→V2.ownsRow B 64 rlE.n (slV y) (L++[(⟨x0,x1,x2,x3,x4,x5⟩:Ru)]).length (cellsG rlE (L++[(⟨x0,x1,x2,x3,x4,x5⟩:Ru)]))→((slV y).ownBlock=(slV (ax,nx,cx)).ownBlock∨(slV y).ownBlock=some V.heap.size) →
         DrQ W gd B a (m:Int) (DrX v1 v2 v3 v7 vs) { d with Ts:=riT m d.Ts (ruT q) } (V2.setCell ⟨g,i,none⟩ (slV y))∧Kb (fun b=>b≠gd∧¬DrX v1 v2 v3 v7 vs b) W (V2.setCell ⟨g,i,none⟩ (slV y))):=fun V V2 y hV hg ho hb=>by
         have m1:=HKD.out V hV;have m2:=m1.addR HX.out.1 HX.out.2 hg ho hb;have hxm:(ax,nx,cx)∈us:=List.mem_of_getElem? HX.out.1;have hszV:=hV.size;have hs3:=HSZ.out;have hold:∀b,DrX v1 v2 (.slice (some ⟨g,0,none⟩) N c3) v7 us b→DrX v1 v2 v3 v7 vs b∨W.heap.size≤b:=fun b hb=>(HXX.out b hb).imp id (fun h=>by omega)
         have hWr:=HKK.out.size;refine⟨⟨v1,v2,.slice (some ⟨g,0,none⟩) N c3,v7,us.set i y,?_,fun b hb2=>?_⟩,?_⟩
         ·rw[←HUT.out];exact m2
         ·rcases hb2 with hb2 | hb2 | hb2 | hb2 | ⟨x,hx,hb2⟩
          ·exact hold b (.inl hb2)
          ·exact hold b (.inr (.inl hb2))
          ·exact hold b (.inr (.inr (.inl hb2)))
          ·exact hold b (.inr (.inr (.inr (.inl hb2))))
          rcases List.mem_or_eq_of_mem_set hx with hx | hx
          ·exact hold b (.inr (.inr (.inr (.inr ⟨x,hx,hb2⟩))))
          rw[hx] at hb2
          rcases hb with hb | hb
          ·exact hold b (.inr (.inr (.inr (.inr ⟨_,hxm,hb ▸ hb2⟩))))
          right;rw[hb] at hb2;cases hb2;omega
         have hn:∀r,DrX v1 v2 (.slice (some ⟨g,0,none⟩) N c3) v7 us r→r<W.heap.size→¬(r≠gd∧¬DrX v1 v2 v3 v7 vs r):=fun r hr hrl hp=>by
          rcases hold r hr with h1 | h1
          ·exact hp.2 h1
          omega
         exact ((HKK.out.trans (Kb.of_below hV fun b hb _=>hb)).grown hg fun r hr hrl=>hn r (.inr (.inr (.inr (.inr ⟨_,hxm,hr⟩)))) hrl).setCell (q:=⟨g,i,none⟩) (fun hl=>hn g (.inr (.inr (.inl rfl))) hl) _
        obtain⟨j1,hj1,hy0,hy1,hy2⟩:=info_parts rl_info;have HI1:Hid (Tryz.prog.info? 64=some j1):=hj1;have HI2:Hid (j1.zero=some (.agg #[.int i64 0,.int i64 0,.int i64 0,.int i64 0,.int i64 0,.int i64 0])):=hy0;have HI3:Hid (j1.size=6):=hy1;have HI4:Hid (j1.bytes=48):=hy2;have HLV1:Hid (L.length+1≤maxLen):=by
         have:=HLL.out;show _≤_;unfold maxLen;omega
        have HLV2:Hid ((L.length+1)*48≤140737488355328):=by
         have:=HLL.out;show _≤_;omega
        obtain⟨k0,k3⟩:=HKC.out wr (bRQ _ _);obtain⟨i0,i1,i2,i3,i4,i5⟩:=HKR.out wr (bRQ _ _);have hgl2:=bLQ wr ⟨g,i,none⟩ k0;have hrl2:=bLQ wr ⟨w3.heap.size,0,none⟩ i0;clear hj1 hy0 hy1 hy2 hx hL hil hc3 hsz;go_upto_region 11 with fail
        go_region_law ((refine step_append_blk (E:=rlE) _ (by rfl) _ _ 48 64 (by rfl) underlying48 j1 _ 48 HI1.out HI2.out HI3.out HI4.out rl_zero B (.slice ax nx cx) (by rfl) L ((HKD.out _ (by first | exact (bRQ _ _).drew.alloc (nLQ _) _ | exact ((bRQ _ _).alloc (nLQ _) _).drew | exact (bRQ _ _).alloc (nLQ _) _)).m.t.rv i _ L HX.out.1 HX.out.2) wr.heap.size 0 1 (by rfl) (⟨x0,x1,x2,x3,x4,x5⟩:Ru) (rl_new _ x0 x1 x2 x3 x4 x5 64) HLV1.out HLV2.out ?_ ?_;(focus (have:=HBR.out;simp;omega));intro v5 w6 ho5 hg5 hb5;obtain⟨a6,m6,c6,rfl⟩:∃b1 m1 d1,v5=Value.slice b1 m1 d1:=(by obtain⟨a,c,h⟩:=own_form ho5;exact⟨a,_,c,h⟩);obtain⟨⟨z1,z3⟩,zf1⟩:=HST.out _ _ (by first | exact (bRQ _ _).drew.alloc (nLQ _) _ | exact ((bRQ _ _).alloc (nLQ _) _).drew | exact (bRQ _ _).alloc (nLQ _) _) hg5;have HG:Hid _:=HFIN.out _ _ (a6,m6,c6) (by first | exact (bRQ _ _).drew.alloc (nLQ _) _ | exact ((bRQ _ _).alloc (nLQ _) _).drew | exact (bRQ _ _).alloc (nLQ _) _) hg5 ho5 hb5;clear ho5 hg5 hb5))
        all_goals (clear k0 k3 i0 i1 i2 i3 i4 i5)
        all_goals go_wp2
        all_goals go_ret
        all_goals exact⟨by rw[HP0.out];rfl,fun _=>HG.out.1,HG.out.2⟩
      rw[hno,paV_no h0];have HP0:Hid (decide (paN (cutB 6 q)=0)=false):=decide_eq_false h0;clear hno h0;go_wp2;go_ret;refine⟨by rw[HP0.out];rfl,(fun e=>by rw[HP0.out] at e;cases e),?_⟩;exact HKB.out _ (HB3.out.alloc HB3.out.size _)
     have HE:Hid (G=false):=by show _=_;rw[HSW.out,decide_eq_false hln]
     have hd1:n<l:=by omega
     go_wp2;go_ret;have e:=HE.out;subst e;exact⟨rfl,(fun e=>by cases e),HKB.out _ HB2.out⟩
end
end
section
open Go.Shelf
def laysC172_ren:Go.Shelf.Ren:=⟨fun | 172=>117 | 244=>132 | 245=>133 | 247=>141 | 279=>142 | 280=>143 | 281=>144 | 282=>145 | 287=>149 | 316=>112 | 171=>21 | 205=>150 | 321=>152 | 322=>153 | 243=>42 | 246=>68 | 283=>98 | 284=>99 | 285=>100 | 286=>101 | 129=>123 | 317=>122 | 318=>124 | 319=>125 | 320=>126 | 337=>135 | 338=>136 | n=>n,fun | 9=>9 | 3=>3 | 75=>34 | 76=>106 | 4=>4 | 5=>5 | 167=>210 | 37=>102 | 0=>0 | 85=>211 | 2=>2 | 168=>213 | 53=>162 | 175=>220 | 46=>200 | 210=>223 | 127=>134 | 145=>228 | 143=>226 | 21=>21 | 171=>161 | 173=>165 | 212=>197 | 51=>198 | 20=>20 | 213=>199 | 232=>216 | 233=>217 | 80=>108 | n=>n,fun | 15=>6 | 16=>7 | 17=>2 | 18=>4 | 19=>5 | n=>n⟩
theorem laysC172:Go.Proofs.LaysC.n172 prog laysC172_ren:={
 mixed:=by kernel_rfl
 f129:=func123.trans (congrArg some (by kernel_rfl))
 f171:=func21.trans (congrArg some (by kernel_rfl))
 f172:=func117.trans (congrArg some (by kernel_rfl))
 f205:=func150.trans (congrArg some (by kernel_rfl))
 f243:=func42.trans (congrArg some (by kernel_rfl))
 f244:=func132.trans (congrArg some (by kernel_rfl))
 f245:=func133.trans (congrArg some (by kernel_rfl))
 f246:=func68.trans (congrArg some (by kernel_rfl))
 f247:=func141.trans (congrArg some (by kernel_rfl))
 f279:=func142.trans (congrArg some (by kernel_rfl))
 f280:=func143.trans (congrArg some (by kernel_rfl))
 f281:=func144.trans (congrArg some (by kernel_rfl))
 f282:=func145.trans (congrArg some (by kernel_rfl))
 f283:=func98.trans (congrArg some (by kernel_rfl))
 f284:=func99.trans (congrArg some (by kernel_rfl))
 f285:=func100.trans (congrArg some (by kernel_rfl))
 f286:=func101.trans (congrArg some (by kernel_rfl))
 f287:=func149.trans (congrArg some (by kernel_rfl))
 f316:=func112.trans (congrArg some (by kernel_rfl))
 f317:=func122.trans (congrArg some (by kernel_rfl))
 f318:=func124.trans (congrArg some (by kernel_rfl))
 f319:=func125.trans (congrArg some (by kernel_rfl))
 f320:=func126.trans (congrArg some (by kernel_rfl))
 f321:=func152.trans (congrArg some (by kernel_rfl))
 f322:=func153.trans (congrArg some (by kernel_rfl))
 f337:=func135.trans (congrArg some (by kernel_rfl))
 f338:=func136.trans (congrArg some (by kernel_rfl))
 t0:=underlying0
 a0:=Tryz.isAgg0
 z0:=Tryz.sizeOf0
 v0:=Tryz.zeroValue0
 t2:=underlying2
 a2:=Tryz.isAgg2
 z2:=Tryz.sizeOf2
 v2:=Tryz.zeroValue2
 t3:=underlying3
 a3:=Tryz.isAgg3
 z3:=Tryz.sizeOf3
 v3:=Tryz.zeroValue3
 t4:=underlying4
 a4:=Tryz.isAgg4
 z4:=Tryz.sizeOf4
 v4:=Tryz.zeroValue4
 t5:=underlying5
 a5:=Tryz.isAgg5
 z5:=Tryz.sizeOf5
 v5:=Tryz.zeroValue5
 t9:=underlying9
 a9:=Tryz.isAgg9
 z9:=Tryz.sizeOf9
 v9:=Tryz.zeroValue9
 t20:=underlying20
 a20:=Tryz.isAgg20
 z20:=Tryz.sizeOf20
 v20:=Tryz.zeroValue20
 t21:=underlying21
 a21:=Tryz.isAgg21
 z21:=Tryz.sizeOf21
 v21:=Tryz.zeroValue21
 t37:=underlying102
 a37:=Tryz.isAgg102
 z37:=Tryz.sizeOf102
 v37:=Tryz.zeroValue102
 t46:=underlying200
 a46:=Tryz.isAgg200
 z46:=Tryz.sizeOf200
 v46:=Tryz.zeroValue200
 t51:=underlying198
 a51:=Tryz.isAgg198
 z51:=Tryz.sizeOf198
 v51:=Tryz.zeroValue198
 t53:=underlying162
 a53:=Tryz.isAgg162
 z53:=Tryz.sizeOf162
 v53:=Tryz.zeroValue162
 t75:=underlying34
 a75:=Tryz.isAgg34
 z75:=Tryz.sizeOf34
 v75:=Tryz.zeroValue34
 t76:=underlying106
 a76:=Tryz.isAgg106
 z76:=Tryz.sizeOf106
 v76:=Tryz.zeroValue106
 t85:=underlying211
 a85:=Tryz.isAgg211
 z85:=Tryz.sizeOf211
 v85:=Tryz.zeroValue211
 t127:=underlying134
 a127:=Tryz.isAgg134
 z127:=Tryz.sizeOf134
 v127:=Tryz.zeroValue134
 t143:=underlying226
 a143:=Tryz.isAgg226
 z143:=Tryz.sizeOf226
 v143:=Tryz.zeroValue226
 t145:=underlying228
 a145:=Tryz.isAgg228
 z145:=Tryz.sizeOf228
 v145:=Tryz.zeroValue228
 t167:=underlying210
 a167:=Tryz.isAgg210
 z167:=Tryz.sizeOf210
 v167:=Tryz.zeroValue210
 t168:=underlying213
 a168:=Tryz.isAgg213
 z168:=Tryz.sizeOf213
 v168:=Tryz.zeroValue213
 t171:=underlying161
 a171:=Tryz.isAgg161
 z171:=Tryz.sizeOf161
 v171:=Tryz.zeroValue161
 t173:=underlying165
 a173:=Tryz.isAgg165
 z173:=Tryz.sizeOf165
 v173:=Tryz.zeroValue165
 t175:=underlying220
 a175:=Tryz.isAgg220
 z175:=Tryz.sizeOf220
 v175:=Tryz.zeroValue220
 t210:=underlying223
 a210:=Tryz.isAgg223
 z210:=Tryz.sizeOf223
 v210:=Tryz.zeroValue223
 t212:=underlying197
 a212:=Tryz.isAgg197
 z212:=Tryz.sizeOf197
 v212:=Tryz.zeroValue197
 t213:=underlying199
 a213:=Tryz.isAgg199
 z213:=Tryz.sizeOf199
 t232:=underlying216
 a232:=Tryz.isAgg216
 z232:=Tryz.sizeOf216
 v232:=Tryz.zeroValue216
 t233:=underlying217
 a233:=Tryz.isAgg217
 z233:=Tryz.sizeOf217
 v233:=Tryz.zeroValue217
 g15:=by kernel_rfl
 g16:=by kernel_rfl
 g17:=by kernel_rfl
 g18:=by kernel_rfl
 g19:=by kernel_rfl
 t80:=underlying108
 a80:=Tryz.isAgg108
 z80:=Tryz.sizeOf108
 v80:=Tryz.zeroValue108
 i0:=by kernel_rfl
 i2:=by kernel_rfl
 i3:=by kernel_rfl
 i4:=by kernel_rfl
 i5:=by kernel_rfl
 i9:=by kernel_rfl
 i20:=by kernel_rfl
 i21:=by kernel_rfl
 i37:=by kernel_rfl
 i46:=by kernel_rfl
 i51:=by kernel_rfl
 i53:=by kernel_rfl
 i75:=by kernel_rfl
 i76:=by kernel_rfl
 i80:=by kernel_rfl
 i85:=by kernel_rfl
 i127:=by kernel_rfl
 i143:=by kernel_rfl
 i145:=by kernel_rfl
 i167:=by kernel_rfl
 i168:=by kernel_rfl
 i171:=by kernel_rfl
 i173:=by kernel_rfl
 i175:=by kernel_rfl
 i210:=by kernel_rfl
 i212:=by kernel_rfl
 i232:=by kernel_rfl
 i233:=by kernel_rfl
 m15:=by kernel_rfl
 m16:=by kernel_rfl
 m17:=by kernel_rfl
 m18:=by kernel_rfl
 m19:=by kernel_rfl
 c0:=by kernel_rfl
 c2:=by kernel_rfl
 c3:=by kernel_rfl
 c4:=by kernel_rfl
 c5:=by kernel_rfl
 c9:=by kernel_rfl
 c20:=by kernel_rfl
 c21:=by kernel_rfl
 c37:=by kernel_rfl
 c46:=by kernel_rfl
 c51:=by kernel_rfl
 c53:=by kernel_rfl
 c75:=by kernel_rfl
 c76:=by kernel_rfl
 c80:=by kernel_rfl
 c85:=by kernel_rfl
 c127:=by kernel_rfl
 c143:=by kernel_rfl
 c145:=by kernel_rfl
 c167:=by kernel_rfl
 c168:=by kernel_rfl
 c171:=by kernel_rfl
 c173:=by kernel_rfl
 c175:=by kernel_rfl
 c210:=by kernel_rfl
 c212:=by kernel_rfl
 c213:=by kernel_rfl
 c232:=by kernel_rfl
 c233:=by kernel_rfl }
open Go.RowKit in
theorem strconv_Atoi_ok (s:ByteArray)(hmax:s.size≤9223372036854775806)(v:Int)(h:Lib.atoiAll s.data.toList=.ok v)(w:World):
 Calls prog 117 #[.string s] w fun e w'=>e=.returned (.tuple #[.int i64 v,.nilIface])∧(w'=w∨∃t,w'=Lib.bytesWorld w 5 t):=Any.strconv_Atoi_ok laysC172 s hmax v h w
open Go.RowKit in
theorem strconv_Atoi_range (s:ByteArray)(hlim:s.size≤281474976710656)(h:Lib.atoiAll s.data.toList=.range)(ev:Value)(w:World)(hv:w.cell? ⟨7,0,none⟩=some ev)(hev:ev=.nilIface∨∃te pe,ev=.iface te pe):
 Calls prog 117 #[.string s] w fun e w'=>∃N,e=.returned (.tuple #[.int i64 (Lib.atoiSat s.data.toList),.iface 213 (.pointer (some ⟨N,0,none⟩))])∧w.heap.size≤N∧w'.heap[N]?=some (.cells #[.string ⟨#[65,116,111,105]⟩,.string s,ev] 223 (0,0))∧Below w.heap.size w w':=Any.strconv_Atoi_range laysC172 s hlim h ev w hv hev
end
section
open Go.RowKit
theorem genSplit4_any (s:ByteArray)(N:Nat)(w:World)(hs:s.size<4611686018427387904)(hN:(N:Int)=min 4 ((s.size:Int)+1)):
 Calls prog 131 #[.string s,.string ⟨#[32]⟩,.int i64 0,.int i64 4] w fun e w' =>
  e=.returned (.slice (some ⟨w.heap.size,0,none⟩) (cutB (N-1) s).length N)∧w'=w.alloc (.cells (Lib.cellsOf (cutB (N-1) s) N) 9):=by
 have hNs:(N:Int)≤(s.size:Int)+1:=by omega
 have hN1:(1:Int)≤(N:Int):=by omega
 have hmk:=run_make_row' (P:=prog) 68 9 (.string ByteArray.empty) 16 underlying68 infoStr rfl .i64 .i64 N (by omega) (by omega);have hmin:min (4:Int) ((s.size:Int)+1)=(N:Int):=hN.symm;clear hN;go_enter func131,ntmps131;go_upto_region 7 with fail
 go_cut [3] from 9 (fun v w'=>v=.int i64 N∧w'=w)
 case first =>
  clear hmk;by_cases h7:(4:Int)≤(s.size:Int)+1
  ·have e:(N:Int)=4:=by omega
   go_wp2
   go_meet
   case rel=>exact⟨by rw[e],rfl⟩
  have e:(N:Int)=(s.size:Int)+1:=by omega
  go_wp2
  go_meet
  case rel=>exact⟨by rw[e],rfl⟩
 obtain⟨rfl,hw⟩:=hcut
 replace hw:=hw.symm
 subst hw
 go_wp2_with fail
 clear hmk
 go_loopg [0,10] (N-1) (fun g s0 s10 wr=>∃(done:List ByteArray) (rest:ByteArray),s0=.string rest∧s10=.int i64 done.length∧done.length≤N-1∧g=N-1-done.length∧rest.size≤s.size ∧
  wr=w.alloc (.cells (Lib.cellsOf done N) 9)∧done++cutB (N-1-done.length) rest=cutB (N-1) s)
 case atStart=>exact⟨[],s,rfl,rfl,Nat.zero_le _,rfl,nLQ _,by rw[Lib.cellsOf_nil],rfl⟩
 case round =>
  obtain⟨done,rest,rfl,rfl,hd,rfl,hrs,rfl,hsp⟩:=hrel;have hnext:(Lib.cellsOf done N)[done.length]?=some (.string ByteArray.empty):=Lib.cellsOf_next (by omega);have HS:Hid (done++cutB (N-1-done.length) rest=cutB (N-1) s):=hsp;clear hsp;have fin:cutB (N-1-done.length) rest=[rest]→(cutB (N-1) s).length=done.length+1∧(Lib.cellsOf done N).setIfInBounds done.length (.string rest)=Lib.cellsOf (cutB (N-1) s) N:=fun h=>by
   have e:=HS.out;rw[h] at e;rw[←e];exact⟨by simp,Lib.cellsOf_set (by omega) rest⟩
  by_cases hlt:done.length<N-1
  ·have hltz:((done.length:Nat):Int)<(N:Int)-1:=by omega
   rcases bl_cases rest with hix | ⟨i,hix,hroom⟩
   ·go_wp2_with fail
    refine (sindex_any _ _).mono ?_;rintro e w' ⟨rfl,rfl⟩;rw[hix];go_wp2;go_ret;obtain⟨f1,f2⟩:=fin (cut_miss _ hix);rw[f1,←f2];exact⟨by first | rfl | (congr 2 <;> omega),rfl⟩
   have c0:¬((i:Int)<0):=by omega
   have c1:(0:Int) ≤ ↑i+0:=by omega
   have c2:(↑i+0:Int) ≤ ↑rest.size:=by omega
   have c3:(0:Int) ≤ ↑i+1:=by omega
   have c4:(↑i+1:Int) ≤ ↑rest.size:=by omega
   go_wp2_with fail
   refine (sindex_any _ _).mono ?_;rintro e w' ⟨rfl,rfl⟩;rw[hix];go_wp2
   go_roundg (N-1-(done.length+1))
   case measure=>omega
   case rel =>
    refine⟨done++[rest.extract 0 i],rest.extract (i+1) rest.size,rfl,by simp,by simp;omega,by simp,by rw[ByteArray.size_extract];omega,by rw[←Lib.cellsOf_set (by omega)],?_⟩;rw[←HS.out,show N-1-done.length=(N-1-(done.length+1))+1 by omega,cut_hit _ hix];simp
  have hltz:¬(((done.length:Nat):Int)<(N:Int)-1):=by omega
  go_wp2;go_ret;obtain⟨f1,f2⟩:=fin (by rw[show N-1-done.length=0 by omega];rfl);rw[f1,←f2];exact⟨by first | rfl | (congr 2 <;> omega),rfl⟩
theorem cut_three (s:ByteArray){N:Nat}(hN:(N:Int)=min 4 ((s.size:Int)+1)):cutB (N-1) s=cutB 3 s:=by
 by_cases h:s.size≤3
 ·obtain rfl:N=s.size+1:=by omega
  have:=cut_all s (3-s.size) s.size (nLQ _);rw[show s.size+(3-s.size)=3 by omega] at this;exact this.symm
 obtain rfl:N=4:=by omega
 rfl
theorem splitN4_any (s:ByteArray)(w:World)(hs:s.size<4611686018427387904):
 Calls prog 113 #[.string s,.string ⟨#[32]⟩,.int i64 4] w fun e w' =>
  ∃cap,e=.returned (.slice (some ⟨w.heap.size,0,none⟩) (cutB 3 s).length cap)∧(cutB 3 s).length≤cap∧cap≤4∧WAt w' w.heap.size 0 (cutB 3 s)∧Below w.heap.size w w':=by
 obtain⟨N,hN⟩:∃N:Nat,(N:Int)=min 4 ((s.size:Int)+1):=⟨(min 4 ((s.size:Int)+1)).toNat,by omega⟩;have hc:=cut_three s hN;have hl:=cut_len (N-1) s;rw[hc] at hl;go_enter func113,ntmps113
 go_wp2_with fail
 refine (genSplit4_any s N _ hs hN).mono ?_;rintro e w1 ⟨rfl,rfl⟩;rw[hc];have hW:WAt (w.alloc (.cells (Lib.cellsOf (cutB 3 s) N) 9)) w.heap.size 0 (cutB 3 s):=by
  intro i hi;simp only[World.cell?_alloc_new,Nat.zero_add,Lib.cellsOf];rw[List.getElem?_toArray,List.getElem?_append_left (by simpa using hi)];simp[hi]
 clear hc;go_wp2;go_ret;exact⟨N,rfl,by omega,by omega,hW,(bRQ _ _).alloc (nLQ _) _⟩
def whF (a:ByteArray):Nat→Int
 | 0=>if a==ByteArray.empty then 0 else if a==reaS then 1 else if a==apaS then 2 else if a==wayS then 3 else if a==looS then 4 else 0
 | 1=>if a==reaS then 1 else if a==apaS then 2 else if a==wayS then 3 else if a==looS then 4 else 0
 | 2=>if a==apaS then 2 else if a==wayS then 3 else if a==looS then 4 else 0
 | 3=>if a==wayS then 3 else if a==looS then 4 else 0
 | 4=>if a==looS then 4 else 0
 | _=>0
theorem beq_turn (a b:ByteArray):(a.toList==b.toList)=(b==a):=by
 rw[←beq_toListBytes];cases h:(b==a) with
 | true=>rw[ba_eq.1 h];exact ba_eq.2 rfl
 | false =>
   cases h2:(a==b) with
   | false=>rfl
   | true=>rw[ba_eq.1 h2] at h;rw[ba_eq.2 rfl] at h;cases h
theorem whatOf_any (a:ByteArray)(w:World)(hw:HasWords w):
 Calls prog 116 #[.string a] w fun e w'=>e=.returned (.int i64 (whW a))∧w'=w:=by
 obtain⟨R,hR⟩:∃R,R=whW a:=⟨_,rfl⟩;have HR:Hid (R=whF a 0):=hR;rw[←hR];obtain⟨B0,h0⟩:∃q,q=(a==ByteArray.empty):=⟨_,rfl⟩;obtain⟨B1,h1⟩:∃q,q=(reaS.toList==a.toList):=⟨_,rfl⟩;obtain⟨B2,h2⟩:∃q,q=(apaS.toList==a.toList):=⟨_,rfl⟩;obtain⟨B3,h3⟩:∃q,q=(wayS.toList==a.toList):=⟨_,rfl⟩;obtain⟨B4,h4⟩:∃q,q=(looS.toList==a.toList):=⟨_,rfl⟩;have e0:a.toList.isEmpty=B0:=by rw[h0,emp_lst]
 have H1:Hid ((a==reaS)=B1):=by show _=_;rw[h1,beq_turn]
 have H2:Hid ((a==apaS)=B2):=by show _=_;rw[h2,beq_turn]
 have H3:Hid ((a==wayS)=B3):=by show _=_;rw[h3,beq_turn]
 have H4:Hid ((a==looS)=B4):=by show _=_;rw[h4,beq_turn]
 have H0:Hid ((a==ByteArray.empty)=B0):=h0.symm;have E0:Hid (a.toList.isEmpty=B0):=e0;have E1:Hid ((reaS.toList==a.toList)=B1):=h1.symm;have E2:Hid ((apaS.toList==a.toList)=B2):=h2.symm;have E3:Hid ((wayS.toList==a.toList)=B3):=h3.symm;have E4:Hid ((looS.toList==a.toList)=B4):=h4.symm;obtain⟨d0,d1,d2,d3,d4⟩:=hw;have hlt:0<w.heap.size:=bLQ _ _ d0;clear hR h0 h1 h2 h3 h4 e0;have i0:∀w,(Instr.index 100 (.agg #[.string ⟨#[]⟩,.string reaS,.string apaS,.string wayS,.string looS]) (.int i64 0)).run prog w=.ok (.string ⟨#[]⟩) w:=fun _=>by kernel_rfl
 have i1:∀w,(Instr.index 100 (.agg #[.string ⟨#[]⟩,.string reaS,.string apaS,.string wayS,.string looS]) (.int i64 1)).run prog w=.ok (.string reaS) w:=fun _=>by kernel_rfl
 have i2:∀w,(Instr.index 100 (.agg #[.string ⟨#[]⟩,.string reaS,.string apaS,.string wayS,.string looS]) (.int i64 2)).run prog w=.ok (.string apaS) w:=fun _=>by kernel_rfl
 have i3:∀w,(Instr.index 100 (.agg #[.string ⟨#[]⟩,.string reaS,.string apaS,.string wayS,.string looS]) (.int i64 3)).run prog w=.ok (.string wayS) w:=fun _=>by kernel_rfl
 have i4:∀w,(Instr.index 100 (.agg #[.string ⟨#[]⟩,.string reaS,.string apaS,.string wayS,.string looS]) (.int i64 4)).run prog w=.ok (.string looS) w:=fun _=>by kernel_rfl
 go_enter func116,ntmps116;go_wp2
 go_loopw [6] (fun i wr=>∃j:Nat,j≤5∧i=.int i64 j∧R=whF a j∧wr=w) (fun i _=>5-(intOf i).toNat)
 case atStart=>exact⟨0,by omega,rfl,HR.out,rfl⟩
 case round =>
  obtain⟨j,hj,rfl,hrj,hwr⟩:=hrel;subst hwr;have HRJ:Hid (R=whF a j):=hrj;clear hrj HR
  rcases (by omega:j=0∨j=1∨j=2∨j=3∨j=4∨j=5) with rfl | rfl | rfl | rfl | rfl | rfl
  ·have q:=E0.out;cases B0 with
   | true =>
     go_wp2;go_ret;exact⟨by rw[HRJ.out,whF,H0.out];rfl,rfl⟩
   | false =>
     go_wp2;go_roundw
     case rel=>exact⟨1,by omega,by go_num,by rw[HRJ.out,whF,H0.out];rfl,by first | trivial | rfl⟩
     case measure=>simp[intOf]
  ·have q:=E1.out;cases B1 with
   | true =>
     go_wp2;go_ret;exact⟨by rw[HRJ.out,whF,H1.out];rfl,rfl⟩
   | false =>
     go_wp2;go_roundw
     case rel=>exact⟨2,by omega,by go_num,by rw[HRJ.out,whF,H1.out];rfl,by first | trivial | rfl⟩
     case measure=>simp[intOf]
  ·have q:=E2.out;cases B2 with
   | true =>
     go_wp2;go_ret;exact⟨by rw[HRJ.out,whF,H2.out];rfl,rfl⟩
   | false =>
     go_wp2;go_roundw
     case rel=>exact⟨3,by omega,by go_num,by rw[HRJ.out,whF,H2.out];rfl,by first | trivial | rfl⟩
     case measure=>simp[intOf]
  ·have q:=E3.out;cases B3 with
   | true =>
     go_wp2;go_ret;exact⟨by rw[HRJ.out,whF,H3.out];rfl,rfl⟩
   | false =>
     go_wp2;go_roundw
     case rel=>exact⟨4,by omega,by go_num,by rw[HRJ.out,whF,H3.out];rfl,by first | trivial | rfl⟩
     case measure=>simp[intOf]
  ·have q:=E4.out;cases B4 with
   | true =>
     go_wp2;go_ret;exact⟨by rw[HRJ.out,whF,H4.out];rfl,rfl⟩
   | false =>
     go_wp2;go_roundw
     case rel=>exact⟨5,by omega,by go_num,by rw[HRJ.out,whF,H4.out];rfl,by first | trivial | rfl⟩
     case measure=>simp[intOf]
  go_wp2;go_ret;exact⟨by rw[HRJ.out];rfl,rfl⟩
def HasNum (w:World):Prop:=(∃ev,w.cell? ⟨6,0,none⟩=some ev∧(ev=.nilIface∨∃te pe,ev=.iface te pe))∧∃ev,w.cell? ⟨7,0,none⟩=some ev∧(ev=.nilIface∨∃te pe,ev=.iface te pe)
theorem HasNum.later {w w':World}(h:HasNum w)(hb:Below w.heap.size w w'):HasNum w':=by
 obtain⟨⟨a,h1,h2⟩,b,h3,h4⟩:=h;exact⟨⟨a,cell_later hb h1,h2⟩,b,cell_later hb h3,h4⟩
theorem atoi_dg {p:Int}(h1:1≤p)(h6:p≤6):Lib.atoiAll (dgS p).data.toList=.ok p:=by
 rcases (by omega:p=1∨p=2∨p=3∨p=4∨p=5∨p=6) with rfl | rfl | rfl | rfl | rfl | rfl <;> rfl
theorem atoi_any (s:ByteArray)(w:World)(hlim:s.size≤281474976710656)(hn:HasNum w):
 Calls prog 117 #[.string s] w fun e w'=>(∃v ev,e=.returned (.tuple #[.int i64 v,ev])∧∀p:Int,1≤p→p≤6→s=dgS p→v=p)∧Below w.heap.size w w':=by
 obtain⟨⟨a,h1,h2⟩,b,h3,h4⟩:=hn
 rcases e:Lib.atoiAll s.data.toList with v | _ | _
 ·refine (strconv_Atoi_ok s (by omega) v e w).mono ?_;rintro x w' ⟨rfl,hw⟩;refine⟨⟨v,_,rfl,fun p p1 p6 hs=>?_⟩,?_⟩
  ·rw[hs,atoi_dg p1 p6] at e;cases e;rfl
  rcases hw with rfl | ⟨t,rfl⟩
  ·exact bRQ _ _
  exact Lib.bytesWorld_below _ _ _
 ·refine (Any.strconv_Atoi_syntax laysC172 s hlim e a w h1 h2).mono ?_;rintro x w' ⟨N,rfl,_,_,hb⟩;refine⟨⟨0,_,rfl,fun p p1 p6 hs=>?_⟩,hb⟩;rw[hs,atoi_dg p1 p6] at e;cases e
 refine (strconv_Atoi_range s hlim e b w h3 h4).mono ?_;rintro x w' ⟨N,rfl,_,_,hb⟩;refine⟨⟨_,_,rfl,fun p p1 p6 hs=>?_⟩,hb⟩;rw[hs,atoi_dg p1 p6] at e;cases e
theorem bdrew {w w':World}(hb:Below w.drew.heap.size w.drew w'):Below w.heap.size w w':=(Below.drew (bRQ _ _)).trans hb
def paE (s:ByteArray):Int:=if (rdO s).isSome then 0 else 2
def paW (s:ByteArray):Wi:=(rdO s).getD zeW
structure PK (w W:World)(gW gB:Nat)(c:List ByteArray)(k:Int)(f t:ByteArray)(v:Int):Prop where
 below:Below w.heap.size w W
 ws:WAt W gW 0 c
 wd:HasWords W
 nm:HasNum W
 r:WiBox W w.heap.size 0 ⟨#[]⟩ ⟨#[]⟩ 0
 rf:∀i,W.frozen? ⟨w.heap.size,i,none⟩=false
 x:WiBox W gB k f t v
 xf:∀i,W.frozen? ⟨gB,i,none⟩=false
theorem froz_later {W W':World}{g:Nat}{a:Value}(h:∀i,W.frozen? ⟨g,i,none⟩=false)(hc:W.cell? ⟨g,0,none⟩=some a)(hb:Below W.heap.size W W'):∀i,W'.frozen? ⟨g,i,none⟩=false:=
 fun i=>(hb.frozen (p:=⟨g,i,none⟩) (show (⟨g,0,none⟩:Addr).block<W.heap.size from bLQ W ⟨g,0,none⟩ hc)).trans (h i)
theorem PK.later {w W W':World}{gW gB:Nat}{c:List ByteArray}{k:Int}{f t:ByteArray}{v:Int}(h:PK w W gW gB c k f t v)(hb:Below W.heap.size W W'):PK w W' gW gB c k f t v:=
 ⟨h.below.trans (hb.mono h.below.size),h.ws.later hb,h.wd.later hb,h.nm.later hb,h.r.later hb,froz_later h.rf h.r.1 hb,h.x.later hb,froz_later h.xf h.x.1 hb⟩
theorem other {W:World}{g b o j:Nat}{u v:Value}(hne:b≠g)(h:W.cell? ⟨b,o,none⟩=some u):(W.setCell ⟨g,j,none⟩ v).cell? ⟨b,o,none⟩=some u:=by
 rw[World.cell?_setCell_other _ _ _ _ (by simp[hne])];exact h
theorem other2 {W:World}{g o j:Nat}{u v:Value}(hne:o≠j)(h:W.cell? ⟨g,o,none⟩=some u):(W.setCell ⟨g,j,none⟩ v).cell? ⟨g,o,none⟩=some u:=by
 rw[World.cell?_setCell_other _ _ _ _ (by simp[hne])];exact h
theorem froz_set {W:World}{g j:Nat}{v:Value}(b i:Nat):(W.setCell ⟨g,j,none⟩ v).frozen? ⟨b,i,none⟩=W.frozen? ⟨b,i,none⟩:=by simp
structure PA (w W:World)(gW gB:Nat)(c:List ByteArray):Prop where
 below:Below w.heap.size w W
 ws:WAt W gW 0 c
 wd:HasWords W
 nm:HasNum W
 r:WiBox W w.heap.size 0 ⟨#[]⟩ ⟨#[]⟩ 0
 rf:∀i,W.frozen? ⟨w.heap.size,i,none⟩=false
 xf:∀i,W.frozen? ⟨gB,i,none⟩=false
theorem PA.set {w W:World}{gW gB:Nat}{c:List ByteArray}(h:PA w W gW gB c)(h1:w.heap.size<gB)(h2:gW≠gB)(hg:0<w.heap.size∧6<w.heap.size∧7<w.heap.size)(j:Nat)(u:Value):PA w (W.setCell ⟨gB,j,none⟩ u) gW gB c:=by
 obtain⟨b,ws,⟨d0,d1,d2,d3,d4⟩,⟨⟨a,n1,n2⟩,a',n3,n4⟩,⟨r0,r1,r2,r3⟩,rf,xf⟩:=h;have g0:0≠gB:=by omega
 have g1:6≠gB:=by omega
 have g2:7≠gB:=by omega
 have g3:w.heap.size≠gB:=by omega
 exact⟨b.setCell (p:=⟨gB,j,none⟩) (Nat.le_of_lt h1) u,fun i hi=>other h2 (ws i hi),⟨other g0 d0,other g0 d1,other g0 d2,other g0 d3,other g0 d4⟩,⟨⟨a,other g1 n1,n2⟩,a',other g2 n3,n4⟩,
  ⟨other g3 r0,other g3 r1,other g3 r2,other g3 r3⟩,fun i=>by rw[froz_set];exact rf i,fun i=>by rw[froz_set];exact xf i⟩
theorem PK.pa {w W:World}{gW gB:Nat}{c:List ByteArray}{k:Int}{f t:ByteArray}{v:Int}(h:PK w W gW gB c k f t v):PA w W gW gB c:=⟨h.below,h.ws,h.wd,h.nm,h.r,h.rf,h.xf⟩
theorem PA.pk {w W:World}{gW gB:Nat}{c:List ByteArray}{k:Int}{f t:ByteArray}{v:Int}(h:PA w W gW gB c)(hx:WiBox W gB k f t v):PK w W gW gB c k f t v:=⟨h.below,h.ws,h.wd,h.nm,h.r,h.rf,hx,h.xf⟩
theorem same_cell {W:World}{g j:Nat}{u v:Value}(h:W.cell? ⟨g,j,none⟩=some u):(W.setCell ⟨g,j,none⟩ v).cell? ⟨g,j,none⟩=some v:=World.cell?_setCell_same _ _ _ h
theorem PK.set12 {w W:World}{gW gB:Nat}{c:List ByteArray}{k:Int}{f t:ByteArray}{v:Int}(h:PK w W gW gB c k f t v)(h1:w.heap.size<gB)(h2:gW≠gB)(hg:0<w.heap.size∧6<w.heap.size∧7<w.heap.size)(a b:ByteArray):PK w ((W.setCell ⟨gB,1,none⟩ (.string a)).setCell ⟨gB,2,none⟩ (.string b)) gW gB c k a b v:=by
 obtain⟨x0,x1,x2,x3⟩:=h.x;refine ((h.pa.set h1 h2 hg 1 _).set h1 h2 hg 2 _).pk ⟨?_,?_,?_,?_⟩
 ·exact other2 (by decide) (other2 (by decide) x0)
 ·exact other2 (by decide) (same_cell x1)
 ·exact same_cell (other2 (by decide) x2)
 exact other2 (by decide) (other2 (by decide) x3)
theorem PK.set21 {w W:World}{gW gB:Nat}{c:List ByteArray}{k:Int}{f t:ByteArray}{v:Int}(h:PK w W gW gB c k f t v)(h1:w.heap.size<gB)(h2:gW≠gB)(hg:0<w.heap.size∧6<w.heap.size∧7<w.heap.size)(a b:ByteArray):PK w ((W.setCell ⟨gB,2,none⟩ (.string b)).setCell ⟨gB,1,none⟩ (.string a)) gW gB c k a b v:=by
 obtain⟨x0,x1,x2,x3⟩:=h.x;refine ((h.pa.set h1 h2 hg 2 _).set h1 h2 hg 1 _).pk ⟨?_,?_,?_,?_⟩
 ·exact other2 (by decide) (other2 (by decide) x0)
 ·exact same_cell (other2 (by decide) x1)
 ·exact other2 (by decide) (same_cell x2)
 exact other2 (by decide) (other2 (by decide) x3)
theorem PK.set3 {w W:World}{gW gB:Nat}{c:List ByteArray}{k:Int}{f t:ByteArray}{v:Int}(h:PK w W gW gB c k f t v)(h1:w.heap.size<gB)(h2:gW≠gB)(hg:0<w.heap.size∧6<w.heap.size∧7<w.heap.size)(a:Int):PK w (W.setCell ⟨gB,3,none⟩ (.int i64 a)) gW gB c k f t a:=by
 obtain⟨x0,x1,x2,x3⟩:=h.x;refine (h.pa.set h1 h2 hg 3 _).pk ⟨?_,?_,?_,?_⟩
 ·exact other2 (by decide) x0
 ·exact other2 (by decide) x1
 ·exact other2 (by decide) x2
 exact same_cell x3
theorem pk_drew {w W:World}{gW gB:Nat}{c:List ByteArray}{k:Int}{f t:ByteArray}{v:Int}(h:PK w W gW gB c k f t v):PK w W.drew gW gB c k f t v:=h.later (Below.drew (bRQ _ _))
theorem below_put4 {B:Nat}{w W:World}(h:Below B w W)(g:Nat)(hg:B≤g)(u v x y:Value):Below B w ((((W.setCell ⟨g,0,none⟩ u).setCell ⟨g,1,none⟩ v).setCell ⟨g,2,none⟩ x).setCell ⟨g,3,none⟩ y):=(((h.setCell (p:=⟨g,0,none⟩) hg u).setCell (p:=⟨g,1,none⟩) hg v).setCell (p:=⟨g,2,none⟩) hg x).setCell (p:=⟨g,3,none⟩) hg y
theorem sh_small {w:Wi}(h:shN w=0):w.f.size≤6∧w.t.size≤6:=by
 rcases shw_0 h with ⟨_,e1,e2,_⟩ | ⟨_,e1,e2,_⟩ | ⟨_,e1,e2,_⟩
 ·rw[e1,e2];exact⟨Nat.zero_le _,Nat.zero_le _⟩
 ·exact⟨nm_size e1,nm_size e2⟩
 exact⟨nm_size e1,nm_size e2⟩
theorem dg_ne {p:Int}(h1:1≤p)(h6:p≤6):ByteArray.empty≠dgS p:=by
 intro e;have h:=(via_back (p:=p) ⟨by omega,h6⟩).1;rw[←e] at h
 revert h
 decide
theorem getB {c:List ByteArray}{k:Nat}(hk:k<c.length):c.getD k ByteArray.empty=c[k]:=by simp[List.getD,hk]
theorem getB_no {c:List ByteArray}{k:Nat}(hk:c.length≤k):c.getD k ByteArray.empty=ByteArray.empty:=by simp[List.getD,hk]
theorem cut_size:∀(k:Nat) (s:ByteArray) (a:ByteArray),a∈cutB k s→a.size≤s.size
 | 0,s,a,h=>by
   simp only[cutB,List.mem_singleton] at h;rw[h];exact nLQ _
 | k+1,s,a,h=>by
   rcases bl_cases s with e | ⟨i,e,hi⟩
   ·rw[cut_miss _ e,List.mem_singleton] at h;rw[h];exact nLQ _
   rw[cut_hit _ e,List.mem_cons] at h
   rcases h with rfl | h
   ·rw[ByteArray.size_extract];omega
   have:=cut_size k _ a h;rw[ByteArray.size_extract] at this;omega
theorem parse_any (s:ByteArray)(w:World)(hs:s.size≤281474976710656)(hw:HasWords w)(hn:HasNum w):
 Calls prog 91 #[.string s] w fun e w'=>e=.returned (.tuple #[.agg #[.int i64 (paW s).k,.string (paW s).f,.string (paW s).t,.int i64 (paW s).v],noV (paE s)])∧Below w.heap.size w w':=by
 obtain⟨E,hE⟩:∃q,q=paE s:=⟨_,rfl⟩;obtain⟨X,hX⟩:∃q,q=paW s:=⟨_,rfl⟩;have HE:Hid (E=paE s):=hE;have HW:Hid (X=paW s):=hX;rw[←hE,←hX];have HGL:Hid (0<w.heap.size∧6<w.heap.size∧7<w.heap.size):=by
  obtain⟨⟨a,h1,_⟩,b,h2,_⟩:=hn;exact⟨bLQ _ _ hw.1,bLQ _ _ h1,bLQ _ _ h2⟩
 have hb0:Below w.heap.size w (w.alloc (.cells #[.int i64 0,.string ⟨#[]⟩,.string ⟨#[]⟩,.int i64 0] 50)):=(bRQ _ _).alloc (nLQ _) _;have hr0:=wibox_new w 0 ⟨#[]⟩ ⟨#[]⟩ 0 50;have hrf0:∀i,(w.alloc (.cells #[.int i64 0,.string ⟨#[]⟩,.string ⟨#[]⟩,.int i64 0] 50)).frozen? ⟨w.heap.size,i,none⟩=false:=fun i=>by simp
 obtain⟨w0,hw0⟩:∃W,w.alloc (.cells #[.int i64 0,.string ⟨#[]⟩,.string ⟨#[]⟩,.int i64 0] 50)=W:=⟨_,rfl⟩;rw[hw0] at hb0 hr0 hrf0;have HW0:Hid (w.alloc (.cells #[.int i64 0,.string ⟨#[]⟩,.string ⟨#[]⟩,.int i64 0] 50)=w0):=hw0;have HB0:Hid (Below w.heap.size w w0):=hb0;have HR0:Hid (WiBox w0 w.heap.size 0 ⟨#[]⟩ ⟨#[]⟩ 0):=hr0;have HF0:Hid (∀i,w0.frozen? ⟨w.heap.size,i,none⟩=false):=hrf0;have HWD0:Hid (HasWords w0):=hw.later hb0;have HNM0:Hid (HasNum w0):=hn.later hb0;have HSZ:Hid (s.size≤281474976710656):=hs;clear hE hX hb0 hr0 hrf0 hw0 hw hn hs;go_enter func91,ntmps91;go_upto_region 1 with fail;rw[HW0.out];clear HW0
 go_wp2_with fail
 refine (splitN4_any s _ (by have:=HSZ.out;omega)).mono ?_;rintro e w1 ⟨cap,rfl,hc1,hc2,hws,hb1⟩;obtain⟨c,hc⟩:∃q,q=cutB 3 s:=⟨_,rfl⟩;have HCS:Hid (cutB 3 s=c):=hc.symm;have hcl:=cut_len 3 s;have hcz:∀a∈c,a.size≤s.size:=fun a ha=>cut_size 3 s a (by rw[←hc];exact ha)
 rw[←hc] at hws hc1 hcl ⊢;obtain⟨n,hn⟩:∃q,q=c.length:=⟨_,rfl⟩;have HCN:Hid (c.length=n):=hn.symm;have HCZ:Hid (∀a∈c,a.size≤s.size):=hcz;rw[←hn] at hc1 hcl ⊢;obtain⟨gW,hgW⟩:∃q,q=w0.heap.size:=⟨_,rfl⟩;rw[←hgW] at hws ⊢;have HWS:Hid (WAt w1 gW 0 c):=hws;have hn4:n≤4:=hcl.1;have hn1:1≤n:=hcl.2;have hn0:¬n=0:=by omega
 have hni:(0:Int)<(n:Int):=by omega
 have q0:w1.cell? ⟨gW,0,none⟩=some (.string (c.getD 0 ByteArray.empty)):=by
  have:=hws 0 (by rw[←hn];omega);rw[getB (by rw[←hn];omega)];simpa using this
 obtain⟨a0,ha0⟩:∃q,q=c.getD 0 ByteArray.empty:=⟨_,rfl⟩;have HA0:Hid (c.getD 0 ByteArray.empty=a0):=ha0.symm;rw[←ha0] at q0;obtain⟨K,hK⟩:∃q,q=whW a0:=⟨_,rfl⟩;have HKW:Hid (whW a0=K):=hK.symm;have HB1:Hid (Below w.heap.size w w1):=HB0.out.trans (hb1.mono HB0.out.size);have HR1:Hid (WiBox w1 w.heap.size 0 ⟨#[]⟩ ⟨#[]⟩ 0):=HR0.out.later hb1;have HF1':Hid (∀i,w1.frozen? ⟨w.heap.size,i,none⟩=false):=froz_later HF0.out HR0.out.1 hb1;have HWD1:Hid (HasWords w1):=HWD0.out.later hb1;have HNM1:Hid (HasNum w1):=HNM0.out.later hb1;have HGW:Hid (gW<w1.heap.size):=bLQ _ _ q0;clear hc hn hcl hcz hws hgW ha0 hK hb1 HR0 HF0 HWD0 HNM0 HB0
 go_wp2_with fail
 refine (whatOf_any a0 _ HWD1.out).mono ?_;rintro e w2 ⟨rfl,hw2⟩;subst hw2;rw[HKW.out];have ha2:Below w2.heap.size w2 (w2.alloc (.cells #[.int i64 K,.string ⟨#[]⟩,.string ⟨#[]⟩,.int i64 0] 50)):=(bRQ _ _).alloc (nLQ _) _;have hx2:=wibox_new w2 K ⟨#[]⟩ ⟨#[]⟩ 0 50;have hxf2:∀i,(w2.alloc (.cells #[.int i64 K,.string ⟨#[]⟩,.string ⟨#[]⟩,.int i64 0] 50)).frozen? ⟨w2.heap.size,i,none⟩=false:=fun i=>by simp
 have hk2:PK w (w2.alloc (.cells #[.int i64 K,.string ⟨#[]⟩,.string ⟨#[]⟩,.int i64 0] 50)) gW w2.heap.size c K ⟨#[]⟩ ⟨#[]⟩ 0:=
  ⟨HB1.out.trans (ha2.mono HB1.out.size),HWS.out.later ha2,HWD1.out.later ha2,HNM1.out.later ha2,HR1.out.later ha2,froz_later HF1'.out HR1.out.1 ha2,hx2,hxf2⟩
 obtain⟨w3,hw3⟩:∃W,w2.alloc (.cells #[.int i64 K,.string ⟨#[]⟩,.string ⟨#[]⟩,.int i64 0] 50)=W:=⟨_,rfl⟩;obtain⟨gB,hgB⟩:∃q,q=w2.heap.size:=⟨_,rfl⟩;rw[hw3,←hgB] at hk2;have HK3:Hid (PK w w3 gW gB c K ⟨#[]⟩ ⟨#[]⟩ 0):=hk2;have HW3:Hid (w2.alloc (.cells #[.int i64 K,.string ⟨#[]⟩,.string ⟨#[]⟩,.int i64 0] 50)=w3):=hw3;have HGB:Hid (w2.heap.size=gB):=hgB.symm;have hne:¬gW=gB:=by have:=HGW.out;rw[hgB];omega
 have HNE:Hid (gW≠gB):=hne;have HLB:Hid (w.heap.size<gB):=by
  show _<_;rw[hgB];exact bLQ _ _ HR1.out.1
 clear ha2 hx2 hxf2 hk2 hw3 hgB HR1 HF1' HWD1 HNM1 HB1 HWS HGW q0;go_upto_region 3 with fail;rw[HW3.out,HGB.out];clear HW3 HGB;by_cases hn2:2<n
 ·have hni2:(2:Int)<(n:Int):=by omega
  have hni1:(1:Int)<(n:Int):=by omega
  have q1:w3.cell? ⟨gW,1,none⟩=some (.string (c.getD 1 ByteArray.empty)):=by
   have:=HK3.out.ws 1 (by rw[HCN.out];omega);rw[getB (by rw[HCN.out];omega)];simpa using this
  have q2:w3.cell? ⟨gW,2,none⟩=some (.string (c.getD 2 ByteArray.empty)):=by
   have:=HK3.out.ws 2 (by rw[HCN.out];omega);rw[getB (by rw[HCN.out];omega)];simpa using this
  obtain⟨f,hf⟩:∃q,q=c.getD 1 ByteArray.empty:=⟨_,rfl⟩;obtain⟨t,ht⟩:∃q,q=c.getD 2 ByteArray.empty:=⟨_,rfl⟩;have HFC:Hid (c.getD 1 ByteArray.empty=f):=hf.symm;have HTC:Hid (c.getD 2 ByteArray.empty=t):=ht.symm;rw[←hf] at q1;rw[←ht] at q2;have hx3:=HK3.out.x;obtain⟨x0,x1,x2,x3⟩:=hx3;have xf1:=HK3.out.xf 1;have xf2:=HK3.out.xf 2;have hlb:gB<w3.heap.size:=bLQ _ _ x0;have hlw:gW<w3.heap.size:=bLQ _ _ q1;clear hf ht;go_upto_region 4 with fail
  go_cut [5] from 18 to 26 (fun p w'=>p=.pointer (some ⟨gB,0,none⟩)∧PK w w' gW gB c K f t 0)
  case first =>
   go_region
   all_goals
    go_wp2_with fail
    go_meet
    first
     | exact⟨rfl,(pk_drew HK3.out).set12 HLB.out HNE.out HGL.out f t⟩
     | exact⟨rfl,(pk_drew HK3.out).set21 HLB.out HNE.out HGL.out f t⟩
  case rest =>
   obtain⟨rfl,hk4⟩:=hcut;have HK4:Hid (PK w wc gW gB c K f t 0):=hk4;clear hk4 HK3 q1 q2 x0 x1 x2 x3 xf1 xf2 hlb hlw;by_cases hn3:3<n
   ·have hni3:(3:Int)<(n:Int):=by omega
    have q3:wc.cell? ⟨gW,3,none⟩=some (.string (c.getD 3 ByteArray.empty)):=by
     have:=HK4.out.ws 3 (by rw[HCN.out];omega);rw[getB (by rw[HCN.out];omega)];simpa using this
    obtain⟨d,hd⟩:∃q,q=c.getD 3 ByteArray.empty:=⟨_,rfl⟩;have HDC:Hid (c.getD 3 ByteArray.empty=d):=hd.symm;rw[←hd] at q3;have HDZ:Hid (d.size≤281474976710656):=by
     show _≤_;have h1:d∈c:=by
      rw[hd,getB (by rw[HCN.out];omega)];exact List.getElem_mem _
     exact Nat.le_trans (HCZ.out _ h1) HSZ.out
    clear hd
    go_wp2_with fail
    refine (atoi_any d _ HDZ.out HK4.out.nm).mono ?_;rintro e w5 ⟨⟨V,ev,rfl,hV⟩,hb5⟩;have hk5:=HK4.out.later hb5;have HV:Hid (∀p:Int,1≤p→p≤6→(cutB 3 s).getD 3 ByteArray.empty=dgS p→V=p):=fun p h1 h6 he=>hV p h1 h6 (by rw[←HDC.out,←HCS.out];exact he)
    have HK:Hid (PK w (w5.setCell ⟨gB,3,none⟩ (.int i64 V)) gW gB c K f t V):=hk5.set3 HLB.out HNE.out HGL.out V;have hwx:=hk5.x;obtain⟨x0,x1,x2,x3⟩:=hwx;have xf3:=hk5.xf 3;obtain⟨v,hvV⟩:∃q:Int,q=V:=⟨_,rfl⟩;clear hV hb5 hk5 q3 HK4;go_upto_region 7 with fail
    generalize w5.setCell ⟨gB,3,none⟩ (.int i64 V)=w7 at *
    subst hvV;clear x0 x1 x2 x3 xf3;have HWK:Hid (wkW c v=⟨K,f,t,v⟩):=by
     show _=_;rw[wkW,if_pos (by rw[HCN.out];exact hn2),if_pos (by rw[HCN.out];exact hn2),if_pos (by rw[HCN.out];exact hn3),HA0.out,HKW.out,HFC.out,HTC.out]
    obtain⟨PS,hPS⟩:∃q,q=shV ⟨K,f,t,v⟩:=⟨_,rfl⟩;obtain⟨PN,hPN⟩:∃q,q=shN ⟨K,f,t,v⟩:=⟨_,rfl⟩;have HPS:Hid (shV ⟨K,f,t,v⟩=PS):=hPS.symm;have HPN:Hid (shN ⟨K,f,t,v⟩=PN):=hPN.symm;have hwx:=HK.out.x;obtain⟨x0,x1,x2,x3⟩:=hwx;clear hPS hPN
    go_wp2_with fail
    refine (print_any K f t v _ HK.out.wd).mono ?_;rintro e w6 ⟨rfl,hb6⟩;rw[HPS.out,HPN.out];have HK6:Hid (PK w w6 gW gB c K f t v):=HK.out.later hb6;clear hb6 HK x0 x1 x2 x3;have HBAD:Hid (¬(PN=0∧(PS.toList==s.toList)=true)→rdO s=none):=fun h=>(wk_rd s HV.out).2 (fun hh=>h (by
     rw[HCS.out,HWK.out] at hh;refine⟨HPN.out.symm.trans hh.1,?_⟩;rw[←HPS.out,shV,if_pos hh.1,hh.2];simp))
    have HGOOD:Hid (PN=0→(PS.toList==s.toList)=true→rdO s=some ⟨K,f,t,v⟩):=fun h1 h2=>by
     have hq:shN ⟨K,f,t,v⟩=0:=HPN.out.trans h1;have h3:=(wk_rd s HV.out).1 (by
      rw[HCS.out,HWK.out];refine⟨hq,?_⟩;have h4:PS=s:=ba_eq.1 (by rw[beq_toListBytes];exact h2);rw[←h4,←HPS.out,shV,if_pos hq])
     rw[HCS.out,HWK.out] at h3;exact h3
    by_cases h0:PN=0
    ·cases hq:(PS.toList==s.toList)
     ·have HN:Hid (rdO s=none):=HBAD.out (fun h=>by rw[hq] at h;cases h.2);have hq2:(PS.toList != s.toList)=true:=by simp[bne,hq]
      subst h0;rw[no_ok rfl];have hr:=HK6.out.r;obtain⟨r0,r1,r2,r3⟩:=hr;have f0:=HK6.out.rf 0;have f1:=HK6.out.rf 1;have f2:=HK6.out.rf 2;have f3:=HK6.out.rf 3;have HB6:Hid (Below w.heap.size w w6):=HK6.out.below;clear HBAD HGOOD;go_wp2;refine bodyPost_ret (v:=.tuple #[.agg #[.int i64 0,.string ⟨#[]⟩,.string ⟨#[]⟩,.int i64 0],.iface 72 (.int i64 2)]) (by simp[results,results91,go_sem, *]) rfl ⟨by rw[HE.out,HW.out,paE,paW,HN.out];rfl,below_put4 HB6.out _ (nLQ _) _ _ _ _⟩
     have HS:Hid (rdO s=some ⟨K,f,t,v⟩):=HGOOD.out h0 hq;have hq2:(PS.toList != s.toList)=false:=by simp[bne,hq]
     have HSH:Hid (shN ⟨K,f,t,v⟩=0):=HPN.out.trans h0;have hfs:f.size≤6∧t.size≤6:=sh_small HSH.out;have HF1:Hid (f.size≤1000000):=by show _≤_;omega
     have HT1:Hid (t.size≤1000000):=by show _≤_;omega
     subst h0;rw[no_ok rfl];clear HBAD HGOOD hfs;go_upto_region 10 with fail;clear hq hq2;obtain⟨x0,x1,x2,x3⟩:=HK6.out.x;have xf1:=HK6.out.xf 1;have xf2:=HK6.out.xf 2;have hlb:gB<w6.heap.size:=bLQ _ _ x0
     go_cut [5] from 51 to 59 (fun p w'=>p=.pointer (some ⟨gB,0,none⟩)∧PK w w' gW gB c K f t v)
     case first =>
      go_region_with (go_at_call 88;(first | refine (clone_any f _ HF1.out).mono ?_ | refine (clone_any t _ HT1.out).mono ?_);rintro e wz ⟨rfl,hb⟩;have HKz:Hid (PK w wz gW gB c K f t v):=(by first | exact HKz.out.later hb | exact HK6.out.later (bdrew hb) | exact HK6.out.later hb);clear hb x0 x1 x2 x3 xf1 xf2 hlb;obtain⟨x0,x1,x2,x3⟩:=HKz.out.x;have xf1:=HKz.out.xf 1;have xf2:=HKz.out.xf 2;have hlb:gB<wz.heap.size:=bLQ _ _ x0)
      all_goals
       go_wp2_with fail
       go_meet
       first
        | exact⟨rfl,HKz.out.set12 HLB.out HNE.out HGL.out f t⟩
        | exact⟨rfl,HKz.out.set21 HLB.out HNE.out HGL.out f t⟩
     case rest =>
      obtain⟨rfl,hk7⟩:=hcut;have HK7:Hid (PK w wc gW gB c K f t v):=hk7;clear hk7 HK6 x0 x1 x2 x3 xf1 xf2 hlb;obtain⟨x0,x1,x2,x3⟩:=HK7.out.x;obtain⟨r0,r1,r2,r3⟩:=HK7.out.r;have f0:=HK7.out.rf 0;have f1:=HK7.out.rf 1;have f2:=HK7.out.rf 2;have f3:=HK7.out.rf 3;have HB7:Hid (Below w.heap.size w wc):=HK7.out.below;go_wp2;refine bodyPost_ret (v:=.tuple #[.agg #[.int i64 K,.string f,.string t,.int i64 v],.nilIface]) (by simp[results,results91,go_sem, *]) rfl ⟨by rw[HE.out,HW.out,paE,paW,HS.out];rfl,below_put4 HB7.out _ (nLQ _) _ _ _ _⟩
    have HN:Hid (rdO s=none):=HBAD.out (fun h=>h0 h.1);rw[no_ne h0];have hr:=HK6.out.r;obtain⟨r0,r1,r2,r3⟩:=hr;have f0:=HK6.out.rf 0;have f1:=HK6.out.rf 1;have f2:=HK6.out.rf 2;have f3:=HK6.out.rf 3;have HB6:Hid (Below w.heap.size w w6):=HK6.out.below;clear HBAD HGOOD h0;go_wp2;refine bodyPost_ret (v:=.tuple #[.agg #[.int i64 0,.string ⟨#[]⟩,.string ⟨#[]⟩,.int i64 0],.iface 72 (.int i64 2)]) (by simp[results,results91,go_sem, *]) rfl ⟨by rw[HE.out,HW.out,paE,paW,HN.out];rfl,below_put4 HB6.out _ (nLQ _) _ _ _ _⟩
   have hni3:¬(3:Int)<(n:Int):=by omega
   obtain⟨v,hv0⟩:∃q:Int,q=0:=⟨_,rfl⟩;obtain⟨V,hV0⟩:∃q:Int,q=0:=⟨_,rfl⟩;have HV:Hid (∀p:Int,1≤p→p≤6→(cutB 3 s).getD 3 ByteArray.empty=dgS p→V=p):=fun p h1 h6 he=>by
    rw[HCS.out,getB_no (by rw[HCN.out];omega)] at he;exact absurd he (dg_ne h1 h6)
   have HK:Hid (PK w wc gW gB c K f t v):=by rw[hv0];exact HK4.out
   have HV0:Hid (v=0):=hv0;clear hV0 hv0 HK4;go_upto_region 7 with fail;have HWK:Hid (wkW c V=⟨K,f,t,v⟩):=by
    show _=_;rw[wkW,if_pos (by rw[HCN.out];exact hn2),if_pos (by rw[HCN.out];exact hn2),if_neg (by rw[HCN.out];exact hn3),HA0.out,HKW.out,HFC.out,HTC.out,HV0.out]
   obtain⟨PS,hPS⟩:∃q,q=shV ⟨K,f,t,v⟩:=⟨_,rfl⟩;obtain⟨PN,hPN⟩:∃q,q=shN ⟨K,f,t,v⟩:=⟨_,rfl⟩;have HPS:Hid (shV ⟨K,f,t,v⟩=PS):=hPS.symm;have HPN:Hid (shN ⟨K,f,t,v⟩=PN):=hPN.symm;have hwx:=HK.out.x;obtain⟨x0,x1,x2,x3⟩:=hwx;clear hPS hPN
   go_wp2_with fail
   refine (print_any K f t v _ HK.out.wd).mono ?_;rintro e w6 ⟨rfl,hb6⟩;rw[HPS.out,HPN.out];have HK6:Hid (PK w w6 gW gB c K f t v):=HK.out.later hb6;clear hb6 HK x0 x1 x2 x3;have HBAD:Hid (¬(PN=0∧(PS.toList==s.toList)=true)→rdO s=none):=fun h=>(wk_rd s HV.out).2 (fun hh=>h (by
    rw[HCS.out,HWK.out] at hh;refine⟨HPN.out.symm.trans hh.1,?_⟩;rw[←HPS.out,shV,if_pos hh.1,hh.2];simp))
   have HGOOD:Hid (PN=0→(PS.toList==s.toList)=true→rdO s=some ⟨K,f,t,v⟩):=fun h1 h2=>by
    have hq:shN ⟨K,f,t,v⟩=0:=HPN.out.trans h1;have h3:=(wk_rd s HV.out).1 (by
     rw[HCS.out,HWK.out];refine⟨hq,?_⟩;have h4:PS=s:=ba_eq.1 (by rw[beq_toListBytes];exact h2);rw[←h4,←HPS.out,shV,if_pos hq])
    rw[HCS.out,HWK.out] at h3;exact h3
   by_cases h0:PN=0
   ·cases hq:(PS.toList==s.toList)
    ·have HN:Hid (rdO s=none):=HBAD.out (fun h=>by rw[hq] at h;cases h.2);have hq2:(PS.toList != s.toList)=true:=by simp[bne,hq]
     subst h0;rw[no_ok rfl];have hr:=HK6.out.r;obtain⟨r0,r1,r2,r3⟩:=hr;have f0:=HK6.out.rf 0;have f1:=HK6.out.rf 1;have f2:=HK6.out.rf 2;have f3:=HK6.out.rf 3;have HB6:Hid (Below w.heap.size w w6):=HK6.out.below;clear HBAD HGOOD;go_wp2;refine bodyPost_ret (v:=.tuple #[.agg #[.int i64 0,.string ⟨#[]⟩,.string ⟨#[]⟩,.int i64 0],.iface 72 (.int i64 2)]) (by simp[results,results91,go_sem, *]) rfl ⟨by rw[HE.out,HW.out,paE,paW,HN.out];rfl,below_put4 HB6.out _ (nLQ _) _ _ _ _⟩
    have HS:Hid (rdO s=some ⟨K,f,t,v⟩):=HGOOD.out h0 hq;have hq2:(PS.toList != s.toList)=false:=by simp[bne,hq]
    have HSH:Hid (shN ⟨K,f,t,v⟩=0):=HPN.out.trans h0;have hfs:f.size≤6∧t.size≤6:=sh_small HSH.out;have HF1:Hid (f.size≤1000000):=by show _≤_;omega
    have HT1:Hid (t.size≤1000000):=by show _≤_;omega
    subst h0;rw[no_ok rfl];clear HBAD HGOOD hfs;go_upto_region 10 with fail;clear hq hq2;obtain⟨x0,x1,x2,x3⟩:=HK6.out.x;have xf1:=HK6.out.xf 1;have xf2:=HK6.out.xf 2;have hlb:gB<w6.heap.size:=bLQ _ _ x0
    go_cut [5] from 51 to 59 (fun p w'=>p=.pointer (some ⟨gB,0,none⟩)∧PK w w' gW gB c K f t v)
    case first =>
     go_region_with (go_at_call 88;(first | refine (clone_any f _ HF1.out).mono ?_ | refine (clone_any t _ HT1.out).mono ?_);rintro e wz ⟨rfl,hb⟩;have HKz:Hid (PK w wz gW gB c K f t v):=(by first | exact HKz.out.later hb | exact HK6.out.later (bdrew hb) | exact HK6.out.later hb);clear hb x0 x1 x2 x3 xf1 xf2 hlb;obtain⟨x0,x1,x2,x3⟩:=HKz.out.x;have xf1:=HKz.out.xf 1;have xf2:=HKz.out.xf 2;have hlb:gB<wz.heap.size:=bLQ _ _ x0)
     all_goals
      go_wp2_with fail
      go_meet
      first
       | exact⟨rfl,HKz.out.set12 HLB.out HNE.out HGL.out f t⟩
       | exact⟨rfl,HKz.out.set21 HLB.out HNE.out HGL.out f t⟩
    case rest =>
     obtain⟨rfl,hk7⟩:=hcut;have HK7:Hid (PK w wc gW gB c K f t v):=hk7;clear hk7 HK6 x0 x1 x2 x3 xf1 xf2 hlb;obtain⟨x0,x1,x2,x3⟩:=HK7.out.x;obtain⟨r0,r1,r2,r3⟩:=HK7.out.r;have f0:=HK7.out.rf 0;have f1:=HK7.out.rf 1;have f2:=HK7.out.rf 2;have f3:=HK7.out.rf 3;have HB7:Hid (Below w.heap.size w wc):=HK7.out.below;go_wp2;refine bodyPost_ret (v:=.tuple #[.agg #[.int i64 K,.string f,.string t,.int i64 v],.nilIface]) (by simp[results,results91,go_sem, *]) rfl ⟨by rw[HE.out,HW.out,paE,paW,HS.out];rfl,below_put4 HB7.out _ (nLQ _) _ _ _ _⟩
   have HN:Hid (rdO s=none):=HBAD.out (fun h=>h0 h.1);rw[no_ne h0];have hr:=HK6.out.r;obtain⟨r0,r1,r2,r3⟩:=hr;have f0:=HK6.out.rf 0;have f1:=HK6.out.rf 1;have f2:=HK6.out.rf 2;have f3:=HK6.out.rf 3;have HB6:Hid (Below w.heap.size w w6):=HK6.out.below;clear HBAD HGOOD h0;go_wp2;refine bodyPost_ret (v:=.tuple #[.agg #[.int i64 0,.string ⟨#[]⟩,.string ⟨#[]⟩,.int i64 0],.iface 72 (.int i64 2)]) (by simp[results,results91,go_sem, *]) rfl ⟨by rw[HE.out,HW.out,paE,paW,HN.out];rfl,below_put4 HB6.out _ (nLQ _) _ _ _ _⟩
 have hni2:¬(2:Int)<(n:Int):=by omega
 have hni3:¬(3:Int)<(n:Int):=by omega
 obtain⟨v,hv0⟩:∃q:Int,q=0:=⟨_,rfl⟩;obtain⟨V,hV0⟩:∃q:Int,q=0:=⟨_,rfl⟩;obtain⟨f,hf⟩:∃q:ByteArray,q=⟨#[]⟩:=⟨_,rfl⟩;obtain⟨t,ht⟩:∃q:ByteArray,q=⟨#[]⟩:=⟨_,rfl⟩;have HV:Hid (∀p:Int,1≤p→p≤6→(cutB 3 s).getD 3 ByteArray.empty=dgS p→V=p):=fun p h1 h6 he=>by
  rw[HCS.out,getB_no (by rw[HCN.out];omega)] at he;exact absurd he (dg_ne h1 h6)
 have HK:Hid (PK w w3 gW gB c K f t v):=by rw[hv0,hf,ht];exact HK3.out
 have HV0:Hid (v=0∧f=ByteArray.empty∧t=ByteArray.empty):=⟨hv0,hf,ht⟩;clear hV0 hv0 hf ht HK3;go_upto_region 7 with fail;have HWK:Hid (wkW c V=⟨K,f,t,v⟩):=by
  show _=_;rw[wkW,if_neg (by rw[HCN.out];exact hn2),if_neg (by rw[HCN.out];exact hn2),if_neg (by rw[HCN.out];omega),HA0.out,HKW.out,HV0.out.1,HV0.out.2.1,HV0.out.2.2]
 obtain⟨PS,hPS⟩:∃q,q=shV ⟨K,f,t,v⟩:=⟨_,rfl⟩;obtain⟨PN,hPN⟩:∃q,q=shN ⟨K,f,t,v⟩:=⟨_,rfl⟩;have HPS:Hid (shV ⟨K,f,t,v⟩=PS):=hPS.symm;have HPN:Hid (shN ⟨K,f,t,v⟩=PN):=hPN.symm;have hwx:=HK.out.x;obtain⟨x0,x1,x2,x3⟩:=hwx;clear hPS hPN
 go_wp2_with fail
 refine (print_any K f t v _ HK.out.wd).mono ?_;rintro e w6 ⟨rfl,hb6⟩;rw[HPS.out,HPN.out];have HK6:Hid (PK w w6 gW gB c K f t v):=HK.out.later hb6;clear hb6 HK x0 x1 x2 x3;have HBAD:Hid (¬(PN=0∧(PS.toList==s.toList)=true)→rdO s=none):=fun h=>(wk_rd s HV.out).2 (fun hh=>h (by
  rw[HCS.out,HWK.out] at hh;refine⟨HPN.out.symm.trans hh.1,?_⟩;rw[←HPS.out,shV,if_pos hh.1,hh.2];simp))
 have HGOOD:Hid (PN=0→(PS.toList==s.toList)=true→rdO s=some ⟨K,f,t,v⟩):=fun h1 h2=>by
  have hq:shN ⟨K,f,t,v⟩=0:=HPN.out.trans h1;have h3:=(wk_rd s HV.out).1 (by
   rw[HCS.out,HWK.out];refine⟨hq,?_⟩;have h4:PS=s:=ba_eq.1 (by rw[beq_toListBytes];exact h2);rw[←h4,←HPS.out,shV,if_pos hq])
  rw[HCS.out,HWK.out] at h3;exact h3
 by_cases h0:PN=0
 ·cases hq:(PS.toList==s.toList)
  ·have HN:Hid (rdO s=none):=HBAD.out (fun h=>by rw[hq] at h;cases h.2);have hq2:(PS.toList != s.toList)=true:=by simp[bne,hq]
   subst h0;rw[no_ok rfl];have hr:=HK6.out.r;obtain⟨r0,r1,r2,r3⟩:=hr;have f0:=HK6.out.rf 0;have f1:=HK6.out.rf 1;have f2:=HK6.out.rf 2;have f3:=HK6.out.rf 3;have HB6:Hid (Below w.heap.size w w6):=HK6.out.below;clear HBAD HGOOD;go_wp2;refine bodyPost_ret (v:=.tuple #[.agg #[.int i64 0,.string ⟨#[]⟩,.string ⟨#[]⟩,.int i64 0],.iface 72 (.int i64 2)]) (by simp[results,results91,go_sem, *]) rfl ⟨by rw[HE.out,HW.out,paE,paW,HN.out];rfl,below_put4 HB6.out _ (nLQ _) _ _ _ _⟩
  have HS:Hid (rdO s=some ⟨K,f,t,v⟩):=HGOOD.out h0 hq;have hq2:(PS.toList != s.toList)=false:=by simp[bne,hq]
  have HSH:Hid (shN ⟨K,f,t,v⟩=0):=HPN.out.trans h0;have hfs:f.size≤6∧t.size≤6:=sh_small HSH.out;have HF1:Hid (f.size≤1000000):=by show _≤_;omega
  have HT1:Hid (t.size≤1000000):=by show _≤_;omega
  subst h0;rw[no_ok rfl];clear HBAD HGOOD hfs;go_upto_region 10 with fail;clear hq hq2;obtain⟨x0,x1,x2,x3⟩:=HK6.out.x;have xf1:=HK6.out.xf 1;have xf2:=HK6.out.xf 2;have hlb:gB<w6.heap.size:=bLQ _ _ x0
  go_cut [5] from 51 to 59 (fun p w'=>p=.pointer (some ⟨gB,0,none⟩)∧PK w w' gW gB c K f t v)
  case first =>
   go_region_with (go_at_call 88;(first | refine (clone_any f _ HF1.out).mono ?_ | refine (clone_any t _ HT1.out).mono ?_);rintro e wz ⟨rfl,hb⟩;have HKz:Hid (PK w wz gW gB c K f t v):=(by first | exact HKz.out.later hb | exact HK6.out.later (bdrew hb) | exact HK6.out.later hb);clear hb x0 x1 x2 x3 xf1 xf2 hlb;obtain⟨x0,x1,x2,x3⟩:=HKz.out.x;have xf1:=HKz.out.xf 1;have xf2:=HKz.out.xf 2;have hlb:gB<wz.heap.size:=bLQ _ _ x0)
   all_goals
    go_wp2_with fail
    go_meet
    first
     | exact⟨rfl,HKz.out.set12 HLB.out HNE.out HGL.out f t⟩
     | exact⟨rfl,HKz.out.set21 HLB.out HNE.out HGL.out f t⟩
  case rest =>
   obtain⟨rfl,hk7⟩:=hcut;have HK7:Hid (PK w wc gW gB c K f t v):=hk7;clear hk7 HK6 x0 x1 x2 x3 xf1 xf2 hlb;obtain⟨x0,x1,x2,x3⟩:=HK7.out.x;obtain⟨r0,r1,r2,r3⟩:=HK7.out.r;have f0:=HK7.out.rf 0;have f1:=HK7.out.rf 1;have f2:=HK7.out.rf 2;have f3:=HK7.out.rf 3;have HB7:Hid (Below w.heap.size w wc):=HK7.out.below;go_wp2;refine bodyPost_ret (v:=.tuple #[.agg #[.int i64 K,.string f,.string t,.int i64 v],.nilIface]) (by simp[results,results91,go_sem, *]) rfl ⟨by rw[HE.out,HW.out,paE,paW,HS.out];rfl,below_put4 HB7.out _ (nLQ _) _ _ _ _⟩
 have HN:Hid (rdO s=none):=HBAD.out (fun h=>h0 h.1);rw[no_ne h0];have hr:=HK6.out.r;obtain⟨r0,r1,r2,r3⟩:=hr;have f0:=HK6.out.rf 0;have f1:=HK6.out.rf 1;have f2:=HK6.out.rf 2;have f3:=HK6.out.rf 3;have HB6:Hid (Below w.heap.size w w6):=HK6.out.below;clear HBAD HGOOD h0;go_wp2;refine bodyPost_ret (v:=.tuple #[.agg #[.int i64 0,.string ⟨#[]⟩,.string ⟨#[]⟩,.int i64 0],.iface 72 (.int i64 2)]) (by simp[results,results91,go_sem, *]) rfl ⟨by rw[HE.out,HW.out,paE,paW,HN.out];rfl,below_put4 HB6.out _ (nLQ _) _ _ _ _⟩
theorem pae_two (s:ByteArray):paE s=0∨paE s=2:=by
 unfold paE;cases (rdO s).isSome
 ·exact .inr rfl
 exact .inl rfl
section
variable {W:World}{gd B:Nat}{d:RdT}{a l:Int}{v1 v2 v3 v7:Value}{vs:List SlT}
theorem takeWi_any (s:ByteArray)(hr:s.size≤1000000)(hB:B≤W.heap.size)(hL:d.ws.length≤1000000)(hw:HasWords W)(hn:HasNum W)(h:DrB W gd B d a l v1 v2 v3 v7 vs):
 Calls prog 61 #[.pointer (some ⟨gd,0,none⟩),.string s] W fun e W'=>e=.returned (.bool (decide (paE s=0)))∧DrQ W gd B a l (DrX v1 v2 v3 v7 vs) { d with ws:=d.ws++[paW s] } W'∧Kb (fun b=>b≠gd∧v7.ownBlock≠some b) W W':=by
 have HS:Hid (s.size≤281474976710656):=by show _≤_;omega
 have HW:Hid (HasWords W∧HasNum W):=⟨hw,hn⟩;obtain⟨x,hx⟩:∃x,x=paW s:=⟨_,rfl⟩;obtain⟨E,hE⟩:∃x,x=paE s:=⟨_,rfl⟩;have HX:Hid (paW s=x∧paE s=E):=⟨hx.symm,hE.symm⟩;have hE2:E=0∨E=2:=by rw[hE];exact pae_two s
 rw[←hx,←hE];obtain⟨y0,y1,y2,y3⟩:=x;obtain⟨a1,c1,hv1⟩:=own_form h.m.w;obtain⟨n1,hn1⟩:∃n,n=d.ws.length:=⟨_,rfl⟩;rw[←hn1] at hv1;subst hv1;have HD:Hid (DrB W gd B d a l v1 v2 v3 (.slice a1 n1 c1) vs):=h;have HBW:Hid (B≤W.heap.size):=hB;obtain⟨j1,hj,hy0,hy1,hy2⟩:=info_parts wis_info;have HI1:Hid (Tryz.prog.info? 50=some j1):=hj;have HI2:Hid (j1.zero=some (.agg #[.int i64 0,.string ByteArray.empty,.string ByteArray.empty,.int i64 0])):=hy0;have HI3:Hid (j1.size=4):=hy1;have HI4:Hid (j1.bytes=48):=hy2;have HLV1:Hid (d.ws.length+1≤maxLen):=by
  show _≤_;unfold maxLen;omega
 have HLV2:Hid ((d.ws.length+1)*48≤140737488355328):=by
  show _≤_;omega
 clear h hB hL hr hx hE hn1 hj hy0 hy1 hy2 hw hn;go_enter func61,ntmps61
 go_wp2_with fail
 refine (parse_any s W HS.out HW.out.1 HW.out.2).mono ?_;rintro e w4 ⟨rfl,hb4⟩;rw[HX.out.1,HX.out.2]
 dsimp only
 go_upto_region 2 with fail;obtain⟨w5,hw5⟩:∃V,w4.alloc (.cells #[.int i64 y0,.string y1,.string y2,.int i64 y3] 50)=V:=⟨_,rfl⟩;rw[hw5];have hb45:Below w4.heap.size w4 w5:=by rw[←hw5];exact (bRQ _ _).alloc (nLQ _) _
 have hC:=wis_new w4 y0 y1 y2 y3 50;rw[hw5] at hC;have hbW5:Below W.heap.size W w5:=hb4.trans (hb45.mono hb4.size);have HBX:Hid (Below W.heap.size W w5):=hbW5;have HSA:Hid (∀V,Below w5.heap.size w5 V→(V.cell? ⟨w4.heap.size,0,none⟩=some (.int i64 y0)∧V.cell? ⟨w4.heap.size,1,none⟩=some (.string y1)∧V.cell? ⟨w4.heap.size,2,none⟩=some (.string y2)∧V.cell? ⟨w4.heap.size,3,none⟩=some (.int i64 y3))):=fun V hV=>by
  have h2:=wis_cells (hC.later hV);simp only[Nat.zero_add] at h2;exact h2
 have HK5:Hid (∀V,Below w5.heap.size w5 V→DrB V gd B d a l v1 v2 v3 (.slice a1 n1 c1) vs):=fun V hV=>HD.out.later (HBX.out.trans (hV.mono HBX.out.size))
 have HST:Hid (∀V V2,Below w5.heap.size w5 V→V.grownBy V2 (Value.slice a1 n1 c1).ownBlock→V2.cell? ⟨gd,4,none⟩=some (.slice a1 n1 c1)∧V2.frozen? ⟨gd,4,none⟩=false):=fun V V2 hV hg=>by
  have m:=HK5.out V hV;have hne:=row_ne m.m.w m.m.gB;exact⟨hg.cell m.c4 hne,fz_grown m.lt m.m.f hg hne 4⟩
 have HFIN:Hid (∀V V2 u,Below w5.heap.size w5 V→V.grownBy V2 (Value.slice a1 n1 c1).ownBlock→V2.ownsRow B 50 wisE.n u (d.ws++[(⟨y0,y1,y2,y3⟩:Wi)]).length (cellsG wisE (d.ws++[(⟨y0,y1,y2,y3⟩:Wi)]))→(u.ownBlock=(Value.slice a1 n1 c1).ownBlock∨u.ownBlock=some V.heap.size) →
  DrQ W gd B a l (DrX v1 v2 v3 (.slice a1 n1 c1) vs) { d with ws:=d.ws++[(⟨y0,y1,y2,y3⟩:Wi)] } (V2.setCell ⟨gd,4,none⟩ u)∧Kb (fun b=>b≠gd∧(Value.slice a1 n1 c1).ownBlock≠some b) W (V2.setCell ⟨gd,4,none⟩ u)):=fun V V2 u hV hg ho hb=>by
  have hBV:Below W.heap.size W V:=HBX.out.trans (hV.mono HBX.out.size);refine⟨⟨v1,v2,v3,u,vs,(HK5.out V hV).addW hg ho,fun b hx=>?_⟩,kb_box (fun e=>e.1 rfl) _ _ ((Kb.of_below hBV fun b hb _=>hb).grown hg fun r hr _ hp=>hp.2 hr)⟩
  rcases hx with hx | hx | hx | hx | hx
  ·exact .inl (.inl hx)
  ·exact .inl (.inr (.inl hx))
  ·exact .inl (.inr (.inr (.inl hx)))
  ·rcases hb with hb | hb
   ·exact .inl (.inr (.inr (.inr (.inl (hb ▸ hx)))))
   right;rw[hb] at hx;cases hx;exact hBV.size
  exact .inl (.inr (.inr (.inr (.inr hx))))
 clear hC hb45 hb4 hbW5 hw5;have HLB:Hid (B≤w5.heap.size):=Nat.le_trans HBW.out HBX.out.size;obtain⟨i0,i1,i2,i3⟩:=HSA.out w5 (bRQ _ _);have k1:=(HK5.out w5 (bRQ _ _)).c4;have hlt:=(HK5.out w5 (bRQ _ _)).lt
 go_region_law ((refine step_append_blk (E:=wisE) _ (by rfl) _ _ 29 50 (by rfl) underlying29 j1 _ 48 HI1.out HI2.out HI3.out HI4.out wis_zero B (.slice a1 n1 c1) (by rfl) d.ws (HK5.out _ (by first | exact (bRQ _ _).drew.alloc (nLQ _) _ | exact ((bRQ _ _).alloc (nLQ _) _).drew | exact (bRQ _ _).alloc (nLQ _) _)).m.w w5.heap.size 0 1 (by rfl) (⟨y0,y1,y2,y3⟩:Wi) (wis_new _ y0 y1 y2 y3 50) HLV1.out HLV2.out ?_ ?_;(focus (have:=HLB.out;simp;omega));intro v5 w6 ho5 hg5 hb5;obtain⟨z1,zf1⟩:=HST.out _ _ (by first | exact (bRQ _ _).drew.alloc (nLQ _) _ | exact ((bRQ _ _).alloc (nLQ _) _).drew | exact (bRQ _ _).alloc (nLQ _) _) hg5;have HG:Hid _:=HFIN.out _ _ _ (by first | exact (bRQ _ _).drew.alloc (nLQ _) _ | exact ((bRQ _ _).alloc (nLQ _) _).drew | exact (bRQ _ _).alloc (nLQ _) _) hg5 ho5 hb5;obtain⟨a6,m6,c6,rfl⟩:∃b1 m1 d1,v5=Value.slice b1 m1 d1:=(by obtain⟨a,c,h⟩:=own_form ho5;exact⟨a,_,c,h⟩);clear ho5 hg5 hb5))
 all_goals (clear k1 i0 i1 i2 i3)
 all_goals rcases hE2 with rfl | rfl
 all_goals first | rw[show noV 0=.nilIface from rfl] | rw[show noV 2=.iface 72 (.int i64 2) from rfl]
 all_goals go_wp2
 all_goals go_ret
 all_goals exact⟨rfl,HG.out⟩
end
end
end Go.Proofs.YtgddlpcacnolfaaGreatDoor
