/- What Shadowed of package rule answers, called with any table. -/
import Derived.Test.YtbieljcoaocfkabGreatDoorRuleLook
import Derived.Test.YtbieljcoaocfkabGreatDoorRuleRefMath
import Derived.Test.YtbieljcoaocfkabGreatDoorOwnRow
namespace Go.Proofs.YtbieljcoaocfkabGreatDoor
open Go.RowKit
set_option linter.unusedSimpArgs false

/-- Which rules count for one of the first k headers, as it stands in an array. -/
structure CN (w : World) (B : Nat) (L : List Ru) (k : Nat) (w' : World) : Prop where
  below : Below w.heap.size w w'
  le : w.heap.size ≤ B
  lt : B < w'.heap.size
  c : ∀ j, j < 12 → w'.cell? ⟨B, j, none⟩ = some (.bool (shB L j k))
  f : ∀ j, w'.frozen? ⟨B, j, none⟩ = false
theorem CN.later {w w1 w2 : World} {B k : Nat} {L : List Ru} (h : CN w B L k w1) (hb : Below w1.heap.size w1 w2) : CN w B L k w2 :=
  ⟨h.below.trans (hb.mono h.below.size), h.le, Nat.lt_of_lt_of_le h.lt hb.size, fun j hj => cell_later hb (h.c j hj), fun j => (hb.frozen (p := ⟨B, j, none⟩) h.lt).trans (h.f j)⟩
theorem CN.grow {w w1 w2 : World} {B k : Nat} {L : List Ru} (h : CN w B L k w1) (hb : Below (B + 1) w1 w2) : CN w B L k w2 :=
  ⟨h.below.trans (hb.mono (by have := h.le; omega)), h.le, Nat.lt_of_lt_of_le h.lt hb.size, fun j hj => (hb.cell (p := ⟨B, j, none⟩) (by simp)).trans (h.c j hj), fun j => (hb.frozen (p := ⟨B, j, none⟩) (by simp)).trans (h.f j)⟩
theorem CN.next {w w1 : World} {B k : Nat} {L : List Ru} (h : CN w B L k w1) (hb : beTo L (k : Int) L.length < 0) : CN w B L (k + 1) w1 :=
  ⟨h.below, h.le, h.lt, fun j hj => by
    rw [h.c j hj, shB_next, show (beTo L (k : Int) L.length == (j : Int)) = false by simp; omega, Bool.or_false], h.f⟩
theorem CN.set {w w1 : World} {B k y : Nat} {L : List Ru} (h : CN w B L k w1) (hb : beTo L (k : Int) L.length = (y : Int)) (hy : y < 12) : CN w B L (k + 1) (w1.setCell ⟨B, y, none⟩ (.bool true)) := by
  refine ⟨h.below.setCell (by simpa using h.le) _, h.le, by simpa using h.lt, fun j hj => ?_, fun j => by simpa using h.f j⟩
  rw [shB_next, hb]
  by_cases e : j = y
  · subst e
    rw [World.cell?_setCell_same _ _ _ (h.c j hj)]
    simp
  · rw [World.cell?_setCell_other _ _ _ _ (by first | (simp; done) | (simp; omega)), h.c j hj]
    rw [show (((y : Nat) : Int) == (j : Int)) = false by simp; omega, Bool.or_false]
theorem SR.shape {w : World} {v : Value} {L : List Ru} (h : SR w v L) : ∃ ao cap, v = .slice ao L.length cap := by
  rcases h with ⟨ao, cap, rfl, rfl⟩ | ⟨g, o, cap, rfl, _⟩
  · exact ⟨ao, cap, rfl⟩
  · exact ⟨_, cap, rfl⟩
theorem CN.start {w w1 : World} (L : List Ru) (t : TypeId) (hb : Below w.heap.size w w1) :
    CN w w1.heap.size L 0 (w1.alloc (Obj.cells #[.bool false, .bool false, .bool false, .bool false, .bool false, .bool false, .bool false, .bool false, .bool false, .bool false, .bool false, .bool false] t)) := by
  refine ⟨hb.alloc hb.size _, hb.size, by simp, fun j hj => ?_, fun j => by simp⟩
  rcases (by omega : j = 0 ∨ j = 1 ∨ j = 2 ∨ j = 3 ∨ j = 4 ∨ j = 5 ∨ j = 6 ∨ j = 7 ∨ j = 8 ∨ j = 9 ∨ j = 10 ∨ j = 11) with rfl | rfl | rfl | rfl | rfl | rfl | rfl | rfl | rfl | rfl | rfl | rfl <;> simp [sh_0]
theorem de_hit {L : List Ru} {k : Nat} (h : shB L k 16 = true) : deTo L (k + 1) = deTo L k := by rw [deTo, if_pos h]
theorem de_miss {L : List Ru} {k : Nat} (h : shB L k 16 = false) : deTo L (k + 1) = deTo L k ++ [(k : Int)] := by rw [deTo, if_neg (by rw [h]; exact Bool.false_ne_true)]

set_option maxRecDepth 100000 in
set_option maxHeartbeats 4000000 in
theorem shadowed_any (x : Value) (L : List Ru) (w : World) (hs : SR w x L) :
    Calls Tryz.prog 18 #[x] w fun e w' => ∃ v, e = .returned (.tuple #[v, noV (tbN L)]) ∧ w'.ownsRow w.heap.size 3 1 v (deadL L).length ((deadL L).map (Value.int .i64)) ∧ Below w.heap.size w w' := by
  obtain ⟨i0, hi, hz0, hz1, hz2⟩ := info_parts infoInt
  have HS : Hid (SR w x L) := hs
  by_cases ht : tbN L = 0
  · have HD : Hid (deadL L = deTo L L.length) := by show deadL L = deTo L L.length; simp [deadL, ht]
    have hl12 := tb_le ht
    obtain ⟨ao, cap, rfl⟩ := hs.shape
    rw [HD.out, no_ok ht]
    generalize hn : L.length = n at *
    have HN : Hid (L.length = n) := hn
    clear hn
    go_enter Tryz.func18, Tryz.ntmps18
    go_wp2_with fail
    refine (table_any _ L _ HS.out).mono ?_
    rintro e w1 ⟨rfl, hb1⟩
    rw [no_ok ht]
    have HC0 : Hid (CN w w1.heap.size L 0 (w1.alloc (Obj.cells #[.bool false, .bool false, .bool false, .bool false, .bool false, .bool false, .bool false, .bool false, .bool false, .bool false, .bool false, .bool false] 76))) := CN.start L _ hb1
    have hsz0 := hb1.size
    clear hb1 hs ht
    go_wp2
    go_loopw [15] (fun i wr => ∃ k : Nat, k ≤ 16 ∧ i = .int .i64 k ∧ CN w w1.heap.size L k wr) (fun i _ => 16 - (intOf i).toNat)
    case atStart => exact ⟨0, by omega, rfl, HC0.out⟩
    case round =>
      obtain ⟨k, hk, rfl, hC⟩ := hrel
      have HC : Hid (CN w w1.heap.size L k wr) := hC
      clear hC HC0
      by_cases hlt : k < 16
      · go_wp2_with fail
        refine (counting_any _ L _ _ (HS.out.later HC.out.below)).mono ?_
        rintro e w2 ⟨rfl, hb2⟩
        have hC2 := HC.out.later hb2
        have hbd := be_bd L (k : Int) L.length
        clear hb2
        by_cases h0 : beTo L (k : Int) L.length < 0
        · have hd : decide (0 ≤ beTo L (k : Int) L.length) = false := by simp; omega
          have HC3 : Hid (CN w w1.heap.size L (k + 1) w2) := hC2.next h0
          clear hC2
          generalize beTo L (k : Int) L.length = X at *
          go_wp2
          go_roundw
          case rel => exact ⟨k + 1, by omega, by go_num, HC3.out⟩
          case measure => simp [intOf]; omega
        · obtain ⟨y, hy⟩ : ∃ y : Nat, beTo L (k : Int) L.length = (y : Int) := ⟨(beTo L (k : Int) L.length).toNat, by omega⟩
          have hN := HN.out
          have hy12 : y < 12 := by omega
          have hyb : (y : Int) < 12 := by omega
          have HC3 : Hid (CN w w1.heap.size L (k + 1) (w2.setCell ⟨w1.heap.size, y, none⟩ (.bool true))) := hC2.set hy hy12
          have qc := hC2.c y hy12
          have qf := hC2.f y
          rw [hy]
          clear hC2 hy h0 hbd hN
          go_wp2
          go_roundw
          case rel => exact ⟨k + 1, by omega, by go_num, HC3.out⟩
          case measure => simp [intOf]; omega
      · have HC16 : Hid (CN w w1.heap.size L 16 wr) := by
          have e16 : k = 16 := by omega
          have := HC.out
          rw [e16] at this
          exact this
        have hltB := HC.out.lt
        clear HC
        go_wp2
        go_loopw [8, 28] (fun v i wz => ∃ q : Nat, q ≤ n ∧ i = .int .i64 q ∧ wz.ownsRow (w1.heap.size + 1) 3 1 v (deTo L q).length ((deTo L q).map (Value.int .i64)) ∧ CN w w1.heap.size L 16 wz) (fun _ i _ => n - (intOf i).toNat)
        case atStart => exact ⟨0, by omega, rfl, World.ownsRow_nil _ _ _ _, HC16.out⟩
        case round =>
          obtain ⟨q, hq, rfl, hown, hC⟩ := hrel
          have HCQ : Hid (CN w w1.heap.size L 16 wr) := hC
          have HOWN : Hid (wr.ownsRow (w1.heap.size + 1) 3 1 u8 (deTo L q).length ((deTo L q).map (Value.int .i64))) := hown
          have hltQ := hC.lt
          clear hown
          by_cases hlt : q < n
          · have qc := hC.c q (by omega)
            have hq12 : (q : Int) < 12 := by omega
            have hle := deTo_len L q
            clear hC
            cases hsb : shB L q 16
            · have HSB : Hid (shB L q 16 = false) := hsb
              rw [hsb] at qc
              clear hsb
              go_wp2_with (at_builtin; refine wpList_append_own _ rfl _ _ 47 rfl (w1.heap.size + 1) 3 i0 (.int .i64 0) 1 8 Tryz.underlying47 hi hz0 hz1 hz2 rfl (by decide) _ _ _ rfl (HOWN.out.alloc _) ⟨wr.heap.size, 0, none⟩ 1 1 [.int .i64 q] rfl rfl ?c1 ?c2 ?c3 ?c4 ?c5 ?_)
              case c1 =>
                intro j u hj
                match j, hj with
                | 0, hj => simp at hj; subst hj; simp [Addr.add]
              case c2 => intro u hu; simp at hu; subst hu; rfl
              case c3 => unfold maxLen; omega
              case c4 => omega
              case c5 => simp; omega
              intro v' w3 hown3 hgrow _
              have HC3 : Hid (CN w w1.heap.size L 16 w3) := HCQ.out.grow (((Below.refl _ _).alloc (by omega) _).grown hgrow (by simp; omega) (fun g hg => (HOWN.out.lt g hg).1))
              clear hgrow
              go_wp2
              go_roundw
              case rel => exact ⟨q + 1, by omega, by go_num, by rw [de_miss HSB.out]; simpa using hown3, HC3.out⟩
              case measure => simp [intOf]; omega
            · have HSB : Hid (shB L q 16 = true) := hsb
              rw [hsb] at qc
              clear hsb
              go_wp2
              go_roundw
              case rel => exact ⟨q + 1, by omega, by go_num, by rw [de_hit HSB.out]; exact HOWN.out, HCQ.out⟩
              case measure => simp [intOf]; omega
          · obtain rfl : q = n := by omega
            clear hC
            go_wp2
            refine bodyPost_ret (v := .tuple #[u8, .nilIface]) (by simp [results, Tryz.results18, go_sem]) rfl ⟨u8, rfl, own_mono HOWN.out (by omega), HCQ.out.below⟩
  · have HD : Hid (deadL L = []) := by show deadL L = []; simp [deadL, ht]
    rw [HD.out, no_ne ht]
    go_enter Tryz.func18, Tryz.ntmps18
    go_wp2_with fail
    refine (table_any _ L _ HS.out).mono ?_
    rintro e w1 ⟨rfl, hb1⟩
    rw [no_ne ht]
    go_wp2
    refine bodyPost_ret (v := .tuple #[.slice none 0 0, .iface 55 (.int .i64 (tbN L))]) (by simp [results, Tryz.results18, go_sem]) rfl ⟨_, rfl, World.ownsRow_nil _ _ _ _, hb1⟩
end Go.Proofs.YtbieljcoaocfkabGreatDoor
