/- What Parse of package cube answers, called with any text. -/
import Derived.Test.YtpbfgfphcjmcbaaDoorCubeBit
import Derived.Deep.RegionHeld3
import Derived.Deep.CutRange
namespace Go.Proofs.YtpbfgfphcjmcbaaDoor
open Go.RowKit
set_option linter.unusedSimpArgs false

theorem byteN_at (s : ByteArray) (k : Nat) (h : k < s.size) : byteN s k = s[k].toNat := by
  unfold byteN
  have h' : k < s.data.toList.length := by simpa using h
  rw [List.getD_eq_getElem?_getD, List.getElem?_eq_getElem h']
  rfl

theorem mayTo_le (s : ByteArray) : ∀ (n k : Nat), k < n → mayTo s n = true → mayB (byteN s k) = true
  | 0, _, h, _ => absurd h (Nat.not_lt_zero _)
  | n + 1, k, h, hm => by
    simp only [mayTo, Bool.and_eq_true] at hm
    by_cases e : k = n
    · subst e; exact hm.2
    · exact mayTo_le s n k (by omega) hm.1

theorem bitN_pow (k : Nat) (h : k < 4) : (2 : Int) ^ (3 - (k : Int)).toNat = bitN k := by
  have e : (3 - (k : Int)).toNat = 3 - k := by omega
  rw [e]; rfl

/-- What holds in Parse's loop while Mask is M and Bits is D. -/
def PsC (w : World) (M D : Int) (w' : World) : Prop :=
  Below w.heap.size w w' ∧ w.heap.size + 1 < w'.heap.size ∧
      (w'.cell? ⟨w.heap.size, 0, none⟩ = some (.int .i64 0) ∧ w'.cell? ⟨w.heap.size, 1, none⟩ = some (.int .i64 0)) ∧
      (w'.cell? ⟨w.heap.size + 1, 0, none⟩ = some (.int .i64 M) ∧ w'.cell? ⟨w.heap.size + 1, 1, none⟩ = some (.int .i64 D)) ∧
      (w'.frozen? ⟨w.heap.size, 0, none⟩ = false ∧ w'.frozen? ⟨w.heap.size, 1, none⟩ = false ∧ w'.frozen? ⟨w.heap.size + 1, 0, none⟩ = false ∧ w'.frozen? ⟨w.heap.size + 1, 1, none⟩ = false)

theorem PsC.drew {w w' : World} {M D : Int} (h : PsC w M D w') : PsC w M D w'.drew := by
  obtain ⟨hB, hsz, ⟨r0, r1⟩, ⟨c0, c1⟩, ⟨f0, f1, f2, f3⟩⟩ := h
  exact ⟨hB.drew, hsz, ⟨r0, r1⟩, ⟨c0, c1⟩, ⟨f0, f1, f2, f3⟩⟩

theorem PsC.setM {w w' : World} {M D : Int} (h : PsC w M D w') (X Y : Int) (e : Y = X) : PsC w X D (w'.setCell ⟨w.heap.size + 1, 0, none⟩ (.int .i64 Y)) := by
  obtain ⟨hB, hsz, ⟨r0, r1⟩, ⟨c0, c1⟩, ⟨f0, f1, f2, f3⟩⟩ := h
  subst e
  refine ⟨hB.setCell (by simp) _, by simpa using hsz, ⟨?_, ?_⟩, ⟨?_, ?_⟩, ⟨?_, ?_, ?_, ?_⟩⟩
  · rw [World.cell?_setCell_other _ _ _ _ (by simp), r0]
  · rw [World.cell?_setCell_other _ _ _ _ (by simp), r1]
  · rw [World.cell?_setCell_same _ _ _ c0]
  · rw [World.cell?_setCell_other _ _ _ _ (by simp), c1]
  all_goals simp [*]

theorem PsC.setD {w w' : World} {M D : Int} (h : PsC w M D w') (X Y : Int) (e : Y = X) : PsC w M X (w'.setCell ⟨w.heap.size + 1, 1, none⟩ (.int .i64 Y)) := by
  obtain ⟨hB, hsz, ⟨r0, r1⟩, ⟨c0, c1⟩, ⟨f0, f1, f2, f3⟩⟩ := h
  subst e
  refine ⟨hB.setCell (by simp) _, by simpa using hsz, ⟨?_, ?_⟩, ⟨?_, ?_⟩, ⟨?_, ?_, ?_, ?_⟩⟩
  · rw [World.cell?_setCell_other _ _ _ _ (by simp), r0]
  · rw [World.cell?_setCell_other _ _ _ _ (by simp), r1]
  · rw [World.cell?_setCell_other _ _ _ _ (by simp), c0]
  · rw [World.cell?_setCell_same _ _ _ c1]
  all_goals simp [*]

theorem psM_bit {s : ByteArray} {k : Nat} (hb : byteN s k = 49 ∨ byteN s k = 48) : psMTo s (k + 1) = bits .or .i64 (psMTo s k) (bitN k) := by
  rcases hb with hb | hb <;> simp [psMTo, rdM, hb]
theorem psB_one {s : ByteArray} {k : Nat} (hb : byteN s k = 49) : psBTo s (k + 1) = bits .or .i64 (psBTo s k) (bitN k) := by
  simp [psBTo, rdB, hb]
theorem psB_zero {s : ByteArray} {k : Nat} (hb : byteN s k = 48) : psBTo s (k + 1) = psBTo s k := by
  simp [psBTo, rdB, hb]
theorem psM_any {s : ByteArray} {k : Nat} (hb : byteN s k = 42) : psMTo s (k + 1) = psMTo s k := by
  simp [psMTo, rdM, hb]
theorem psB_any {s : ByteArray} {k : Nat} (hb : byteN s k = 42) : psBTo s (k + 1) = psBTo s k := by
  simp [psBTo, rdB, hb]

theorem may_next {s : ByteArray} {k : Nat} (h : mayTo s k = true) (hb : byteN s k = 49 ∨ byteN s k = 48 ∨ byteN s k = 42) : mayTo s (k + 1) = true := by
  rcases hb with hb | hb | hb <;> simp [mayTo, mayB, h, hb]

set_option maxHeartbeats 400000 in
theorem parse_long (s : ByteArray) (w : World) (h : s.size ≠ 4) :
    Calls Tryd.prog 10 #[.string s] w fun e w' => e = .returned (.tuple #[.agg #[.int .i64 0, .int .i64 0], .iface 40 (.int .i64 2)]) ∧ Below w.heap.size w w' := by
  have h4 : ((s.size : Int) == 4) = false := by simp; omega
  go_enter Tryd.func10, Tryd.ntmps10
  go_wp2
  refine bodyPost_ret (v := .tuple #[.agg #[.int .i64 0, .int .i64 0], .iface 40 (.int .i64 2)]) (by simp [results, Tryd.results10, go_sem]) rfl ⟨rfl, ?_⟩
  exact (Below.refl _ _).alloc (Nat.le_refl _) _

set_option maxRecDepth 100000 in
set_option maxHeartbeats 1000000 in
theorem parse_bad (s : ByteArray) (w : World) (h : s.size = 4) (hp : psOk s = false) :
    Calls Tryd.prog 10 #[.string s] w fun e w' => e = .returned (.tuple #[.agg #[.int .i64 0, .int .i64 0], .iface 40 (.int .i64 2)]) ∧ Below w.heap.size w w' := by
  have HP : Hid (psOk s = false) := hp
  clear hp
  have h4 : ((s.size : Int) == 4) = true := by simp; omega
  go_enter Tryd.func10, Tryd.ntmps10
  go_wp2
  have hI : PsC w 0 0 ((w.alloc (Obj.cells #[Value.int IntKind.i64 0, Value.int IntKind.i64 0] 23)).alloc (Obj.cells #[Value.int IntKind.i64 0, Value.int IntKind.i64 0] 23)) := by
    refine ⟨((Below.refl _ _).alloc (Nat.le_refl _) _).alloc (by simp) _, by simp, ?_, ?_, ?_⟩ <;> simp
  generalize ((w.alloc (Obj.cells #[Value.int IntKind.i64 0, Value.int IntKind.i64 0] 23)).alloc (Obj.cells #[Value.int IntKind.i64 0, Value.int IntKind.i64 0] 23)) = W1 at *
  go_loopw [11] (fun i w' => ∃ k : Nat, k ≤ 4 ∧ i = .int .i64 k ∧ mayTo s k = true ∧ PsC w (psMTo s k) (psBTo s k) w') (fun i _ => 4 - (intOf i).toNat)
  case atStart => exact ⟨0, by omega, rfl, rfl, hI⟩
  case round =>
    obtain ⟨k, hk, rfl, hmay, hI'⟩ := hrel
    have HM : Hid (mayTo s k = true) := hmay
    clear hI hmay
    have HI : Hid (PsC w (psMTo s k) (psBTo s k) wr) := hI'
    obtain ⟨hB, hsz, ⟨r0, r1⟩, ⟨c0, c1⟩, ⟨f0, f1, f2, f3⟩⟩ := hI'
    by_cases hlt : k < 4
    · have hks : k < s.size := by omega
      have hb := byteN_at s k hks
      have HB : Hid (byteN s k = s[k].toNat) := hb
      clear hb
      by_cases h49 : s[k].toNat = 49
      · have g : ((s[k].toNat : Int) == 49) = true := by simp; omega
        have HN : Hid (byteN s k = 49) := HB.out.trans h49
        go_wp2
        go_cut [11] from 11 to 43 (fun i w' => i = .int .i64 k ∧ PsC w (psMTo s (k + 1)) (psBTo s k) w')
        case first =>
          go_region_with (go_at_call 20; refine (bitAt_any _ _ (by omega) (by omega)).mono ?_; rintro e w' ⟨rfl, rfl⟩)
          all_goals
            go_wp2_with fail
            go_meet
            case rel => exact ⟨rfl, (HI.out.setM _ _ (psM_bit (.inl HN.out)).symm).drew⟩
        case rest =>
          obtain ⟨rfl, hC⟩ := hcut
          clear hB hsz r0 r1 c0 c1 f0 f1 f2 f3 HI h49 g h4
          have HI : Hid (PsC w (psMTo s (k + 1)) (psBTo s k) wc) := hC
          obtain ⟨hB, hsz, ⟨r0, r1⟩, ⟨c0, c1⟩, ⟨f0, f1, f2, f3⟩⟩ := hC
          go_wp2
          go_region_with (go_at_call 20; refine (bitAt_any _ _ (by omega) (by omega)).mono ?_; rintro e w' ⟨rfl, rfl⟩)
          all_goals
            go_wp2
            go_roundw
            case rel => exact ⟨k + 1, by omega, by go_num, may_next HM.out (.inl HN.out), (HI.out.setD _ _ (psB_one HN.out).symm).drew⟩
            case measure => simp [intOf]; omega
      · have g : ((s[k].toNat : Int) == 49) = false := by simp; omega
        by_cases h48 : s[k].toNat = 48
        · have HN : Hid (byteN s k = 48) := HB.out.trans h48
          go_wp2
          go_region_with (go_at_call 20; refine (bitAt_any _ _ (by omega) (by omega)).mono ?_; rintro e w' ⟨rfl, rfl⟩)
          all_goals
            go_wp2
            go_roundw
            case rel => exact ⟨k + 1, by omega, by go_num, may_next HM.out (.inr (.inl HN.out)), by rw [psB_zero HN.out]; exact (HI.out.setM _ _ (psM_bit (.inr HN.out)).symm).drew⟩
            case measure => simp [intOf]; omega
        · have g2 : ((s[k].toNat : Int) == 48) = false := by simp; omega
          by_cases h42 : s[k].toNat = 42
          · have HN : Hid (byteN s k = 42) := HB.out.trans h42
            go_wp2
            go_roundw
            case rel => exact ⟨k + 1, by omega, by go_num, may_next HM.out (.inr (.inr HN.out)), by rw [psB_any HN.out, psM_any HN.out]; exact HI.out⟩
            case measure => simp [intOf]; omega
          · have g3 : ((s[k].toNat : Int) == 42) = false := by simp; omega
            go_wp2
            refine bodyPost_ret (v := .tuple #[.agg #[.int .i64 0, .int .i64 0], .iface 40 (.int .i64 2)]) (by simp [results, Tryd.results10, go_sem, *]) rfl ⟨rfl, ?_⟩
            exact ((hB.setCell (by simp) _).setCell (by simp) _)
    · exfalso
      obtain rfl : k = 4 := by omega
      have := HM.out
      have := HP.out
      simp_all [psOk]

set_option maxRecDepth 100000 in
set_option maxHeartbeats 1000000 in
theorem parse_ok (s : ByteArray) (w : World) (h : s.size = 4) (hp : psOk s = true) :
    Calls Tryd.prog 10 #[.string s] w fun e w' => e = .returned (.tuple #[.agg #[.int .i64 (psM s), .int .i64 (psB s)], .nilIface]) ∧ Below w.heap.size w w' := by
  have HP : Hid (psOk s = true) := hp
  clear hp
  have h4 : ((s.size : Int) == 4) = true := by simp; omega
  go_enter Tryd.func10, Tryd.ntmps10
  go_wp2
  have hI : PsC w 0 0 ((w.alloc (Obj.cells #[Value.int IntKind.i64 0, Value.int IntKind.i64 0] 23)).alloc (Obj.cells #[Value.int IntKind.i64 0, Value.int IntKind.i64 0] 23)) := by
    refine ⟨((Below.refl _ _).alloc (Nat.le_refl _) _).alloc (by simp) _, by simp, ?_, ?_, ?_⟩ <;> simp
  generalize ((w.alloc (Obj.cells #[Value.int IntKind.i64 0, Value.int IntKind.i64 0] 23)).alloc (Obj.cells #[Value.int IntKind.i64 0, Value.int IntKind.i64 0] 23)) = W1 at *
  go_loopw [11] (fun i w' => ∃ k : Nat, k ≤ 4 ∧ i = .int .i64 k ∧ mayTo s k = true ∧ PsC w (psMTo s k) (psBTo s k) w') (fun i _ => 4 - (intOf i).toNat)
  case atStart => exact ⟨0, by omega, rfl, rfl, hI⟩
  case round =>
    obtain ⟨k, hk, rfl, hmay, hI'⟩ := hrel
    have HM : Hid (mayTo s k = true) := hmay
    clear hI hmay
    have HI : Hid (PsC w (psMTo s k) (psBTo s k) wr) := hI'
    obtain ⟨hB, hsz, ⟨r0, r1⟩, ⟨c0, c1⟩, ⟨f0, f1, f2, f3⟩⟩ := hI'
    by_cases hlt : k < 4
    · have hks : k < s.size := by omega
      have hb := byteN_at s k hks
      have HB : Hid (byteN s k = s[k].toNat) := hb
      clear hb
      by_cases h49 : s[k].toNat = 49
      · have g : ((s[k].toNat : Int) == 49) = true := by simp; omega
        have HN : Hid (byteN s k = 49) := HB.out.trans h49
        go_wp2
        go_cut [11] from 11 to 43 (fun i w' => i = .int .i64 k ∧ PsC w (psMTo s (k + 1)) (psBTo s k) w')
        case first =>
          go_region_with (go_at_call 20; refine (bitAt_any _ _ (by omega) (by omega)).mono ?_; rintro e w' ⟨rfl, rfl⟩)
          all_goals
            go_wp2_with fail
            go_meet
            case rel => exact ⟨rfl, (HI.out.setM _ _ (psM_bit (.inl HN.out)).symm).drew⟩
        case rest =>
          obtain ⟨rfl, hC⟩ := hcut
          clear hB hsz r0 r1 c0 c1 f0 f1 f2 f3 HI h49 g h4
          have HI : Hid (PsC w (psMTo s (k + 1)) (psBTo s k) wc) := hC
          obtain ⟨hB, hsz, ⟨r0, r1⟩, ⟨c0, c1⟩, ⟨f0, f1, f2, f3⟩⟩ := hC
          go_wp2
          go_region_with (go_at_call 20; refine (bitAt_any _ _ (by omega) (by omega)).mono ?_; rintro e w' ⟨rfl, rfl⟩)
          all_goals
            go_wp2
            go_roundw
            case rel => exact ⟨k + 1, by omega, by go_num, may_next HM.out (.inl HN.out), (HI.out.setD _ _ (psB_one HN.out).symm).drew⟩
            case measure => simp [intOf]; omega
      · have g : ((s[k].toNat : Int) == 49) = false := by simp; omega
        by_cases h48 : s[k].toNat = 48
        · have HN : Hid (byteN s k = 48) := HB.out.trans h48
          go_wp2
          go_region_with (go_at_call 20; refine (bitAt_any _ _ (by omega) (by omega)).mono ?_; rintro e w' ⟨rfl, rfl⟩)
          all_goals
            go_wp2
            go_roundw
            case rel => exact ⟨k + 1, by omega, by go_num, may_next HM.out (.inr (.inl HN.out)), by rw [psB_zero HN.out]; exact (HI.out.setM _ _ (psM_bit (.inr HN.out)).symm).drew⟩
            case measure => simp [intOf]; omega
        · have g2 : ((s[k].toNat : Int) == 48) = false := by simp; omega
          by_cases h42 : s[k].toNat = 42
          · have HN : Hid (byteN s k = 42) := HB.out.trans h42
            go_wp2
            go_roundw
            case rel => exact ⟨k + 1, by omega, by go_num, may_next HM.out (.inr (.inr HN.out)), by rw [psB_any HN.out, psM_any HN.out]; exact HI.out⟩
            case measure => simp [intOf]; omega
          · exfalso
            have hp := HP.out
            simp only [psOk, Bool.and_eq_true] at hp
            have := mayTo_le s 4 k hlt hp.2
            simp [mayB, HB.out] at this
            omega
    · obtain rfl : k = 4 := by omega
      go_wp2
      have e1 : psM s = psMTo s 4 := by simp only [psM, HP.out]; rfl
      have e2 : psB s = psBTo s 4 := by simp only [psB, HP.out]; rfl
      refine bodyPost_ret (v := .tuple #[.agg #[.int .i64 (psMTo s 4), .int .i64 (psBTo s 4)], .nilIface]) (by simp [results, Tryd.results10, go_sem, *]) rfl ⟨by rw [e1, e2], ?_⟩
      exact ((hB.setCell (by simp) _).setCell (by simp) _)

theorem ps_size {s : ByteArray} (h : psOk s = true) : s.size = 4 := by
  simp only [psOk, Bool.and_eq_true, beq_iff_eq] at h; exact h.1

theorem parse_no (s : ByteArray) (w : World) (hp : psOk s = false) :
    Calls Tryd.prog 10 #[.string s] w fun e w' => e = .returned (.tuple #[.agg #[.int .i64 0, .int .i64 0], .iface 40 (.int .i64 2)]) ∧ Below w.heap.size w w' := by
  by_cases h : s.size = 4
  · exact parse_bad s w h hp
  · exact parse_long s w h

theorem parse_yes (s : ByteArray) (w : World) (hp : psOk s = true) :
    Calls Tryd.prog 10 #[.string s] w fun e w' => e = .returned (.tuple #[.agg #[.int .i64 (psM s), .int .i64 (psB s)], .nilIface]) ∧ Below w.heap.size w w' :=
  parse_ok s w (ps_size hp) hp
end Go.Proofs.YtpbfgfphcjmcbaaDoor
