/- What the document's own reading of a text as a cube answers. -/
import Derived.Test.YtbieljcoaocfkabGreatDoorRefText
namespace Go.Proofs.YtbieljcoaocfkabGreatDoor
open Go.RowKit
set_option linter.unusedSimpArgs false

theorem rcM_bit {s : ByteArray} {k : Nat} (hb : byteN s k = 49 ∨ byteN s k = 48) : rcM s (k + 1) = rcM s k * 2 + 1 := by simp [rcM, hb]
theorem rcD_one {s : ByteArray} {k : Nat} (hb : byteN s k = 49) : rcD s (k + 1) = rcD s k * 2 + 1 := by simp [rcD, hb]
theorem rcD_zero {s : ByteArray} {k : Nat} (hb : byteN s k ≠ 49) : rcD s (k + 1) = rcD s k * 2 := by simp [rcD, hb]
theorem rcM_any {s : ByteArray} {k : Nat} (hb : byteN s k = 42) : rcM s (k + 1) = rcM s k * 2 := by simp [rcM, hb]

set_option maxHeartbeats 400000 in
theorem refRead_long (s : ByteArray) (w : World) (h : s.size ≠ 4) :
    Calls Tryz.prog 31 #[.string s] w fun e w' => e = .returned (.tuple #[.agg #[.int .i64 0, .int .i64 0], .bool false]) ∧ Below w.heap.size w w' := by
  have h4 : ((s.size : Int) == 4) = false := by simp; omega
  go_enter Tryz.func31, Tryz.ntmps31
  go_wp2
  refine bodyPost_ret (v := .tuple #[.agg #[.int .i64 0, .int .i64 0], .bool false]) (by simp [results, Tryz.results31, go_sem]) rfl ⟨rfl, ?_⟩
  first
    | exact ((Below.refl _ _).alloc (Nat.le_refl _) _).alloc (by simp) _
    | exact ((((Below.refl _ _).alloc (Nat.le_refl _) _).alloc (by simp) _).setCell (by simp) _).setCell (by simp) _

set_option maxRecDepth 100000 in
set_option maxHeartbeats 1000000 in
theorem refRead_four (s : ByteArray) (w : World) (M D : Int) (o : Bool) (h : s.size = 4)
    (hok : psOk s = true → M = rcM s 4 ∧ D = rcD s 4 ∧ o = true) (hno : psOk s = false → M = 0 ∧ D = 0 ∧ o = false) :
    Calls Tryz.prog 31 #[.string s] w fun e w' => e = .returned (.tuple #[.agg #[.int .i64 M, .int .i64 D], .bool o]) ∧ Below w.heap.size w w' := by
  have h4 : ((s.size : Int) == 4) = true := by simp; omega
  have HOK : Hid (psOk s = true → M = rcM s 4 ∧ D = rcD s 4 ∧ o = true) := hok
  have HNO : Hid (psOk s = false → M = 0 ∧ D = 0 ∧ o = false) := hno
  clear hok hno
  go_enter Tryz.func31, Tryz.ntmps31
  go_wp2
  have hI : PsC w 0 0 ((w.alloc (Obj.cells #[Value.int IntKind.i64 0, Value.int IntKind.i64 0] 23)).alloc (Obj.cells #[Value.int IntKind.i64 0, Value.int IntKind.i64 0] 23)) := by
    refine ⟨((Below.refl _ _).alloc (Nat.le_refl _) _).alloc (by simp) _, by simp, ?_, ?_, ?_⟩ <;> simp
  generalize ((w.alloc (Obj.cells #[Value.int IntKind.i64 0, Value.int IntKind.i64 0] 23)).alloc (Obj.cells #[Value.int IntKind.i64 0, Value.int IntKind.i64 0] 23)) = W1 at *
  go_loopw [5] (fun i w' => ∃ k : Nat, k ≤ 4 ∧ i = .int .i64 k ∧ mayTo s k = true ∧ PsC w (rcM s k) (rcD s k) w') (fun i _ => 4 - (intOf i).toNat)
  case atStart => exact ⟨0, by omega, rfl, rfl, hI⟩
  case round =>
    obtain ⟨k, hk, rfl, hmay, hI'⟩ := hrel
    have HM : Hid (mayTo s k = true) := hmay
    clear hI hmay
    have HI : Hid (PsC w (rcM s k) (rcD s k) wr) := hI'
    obtain ⟨hB, hsz, ⟨r0, r1⟩, ⟨c0, c1⟩, ⟨f0, f1, f2, f3⟩⟩ := hI'
    have hM := rcM_bd s k
    have hD := rcD_bd s k
    have hp := pow_le16 hk
    have bM0 := hM.1
    have bM1 : rcM s k < 16 := by omega
    have bD0 := hD.1
    have bD1 : rcD s k < 16 := by omega
    clear hM hD hp
    by_cases hlt : k < 4
    · have hks : k < s.size := by omega
      have HB : Hid (byteN s k = s[k].toNat) := byteN_at s k hks
      generalize hxM : rcM s k = x at *
      generalize hyD : rcD s k = y at *
      have HX : Hid (rcM s k = x) := hxM
      have HY : Hid (rcD s k = y) := hyD
      clear hxM hyD
      by_cases h49 : s[k].toNat = 49
      · have g : ((s[k].toNat : Int) == 49) = true := by simp; omega
        have HN : Hid (byteN s k = 49) := HB.out.trans h49
        go_wp2
        go_roundw
        case rel => exact ⟨k + 1, by omega, by go_num, may_next HM.out (.inl HN.out), by rw [rcM_bit (.inl HN.out), rcD_one HN.out, HX.out, HY.out]; exact (((HI.out.setM _ _ rfl).setD _ _ rfl).setM _ _ rfl).setD _ _ rfl⟩
        case measure => simp [intOf]; omega
      · have g : ((s[k].toNat : Int) == 49) = false := by simp; omega
        by_cases h48 : s[k].toNat = 48
        · have g2 : ((s[k].toNat : Int) == 48) = true := by simp; omega
          have HN : Hid (byteN s k = 48) := HB.out.trans h48
          go_wp2
          go_roundw
          case rel => exact ⟨k + 1, by omega, by go_num, may_next HM.out (.inr (.inl HN.out)), by rw [rcM_bit (.inr HN.out), rcD_zero (by rw [HN.out]; decide), HX.out, HY.out]; exact ((HI.out.setM _ _ rfl).setD _ _ rfl).setM _ _ rfl⟩
          case measure => simp [intOf]; omega
        · have g2 : ((s[k].toNat : Int) == 48) = false := by simp; omega
          by_cases h42 : s[k].toNat = 42
          · have g3 : ((s[k].toNat : Int) == 42) = true := by simp; omega
            have HN : Hid (byteN s k = 42) := HB.out.trans h42
            go_wp2
            go_roundw
            case rel => exact ⟨k + 1, by omega, by go_num, may_next HM.out (.inr (.inr HN.out)), by rw [rcM_any HN.out, rcD_zero (by rw [HN.out]; decide), HX.out, HY.out]; exact (HI.out.setM _ _ rfl).setD _ _ rfl⟩
            case measure => simp [intOf]; omega
          · have g3 : ((s[k].toNat : Int) == 42) = false := by simp; omega
            have HP : psOk s = false := by
              cases hp : psOk s
              · rfl
              · simp only [psOk, Bool.and_eq_true] at hp
                have := mayTo_le s 4 k hlt hp.2
                simp [mayB, HB.out] at this
                omega
            obtain ⟨rfl, rfl, rfl⟩ := HNO.out HP
            clear HP
            go_wp2
            refine bodyPost_ret (v := .tuple #[.agg #[.int .i64 0, .int .i64 0], .bool false]) (by simp [results, Tryz.results31, go_sem, *]) rfl ⟨rfl, ?_⟩
            exact ((((hB.setCell (by simp) _).setCell (by simp) _).setCell (by simp) _).setCell (by simp) _)
    · obtain rfl : k = 4 := by omega
      obtain ⟨rfl, rfl, rfl⟩ := HOK.out (by simp [psOk, h, HM.out])
      clear HOK HNO bM0 bM1 bD0 bD1
      go_wp2
      refine bodyPost_ret (v := .tuple #[.agg #[.int .i64 (rcM s 4), .int .i64 (rcD s 4)], .bool true]) (by simp [results, Tryz.results31, go_sem, *]) rfl ⟨rfl, ?_⟩
      exact ((hB.setCell (by simp) _).setCell (by simp) _)

theorem refRead_any (s : ByteArray) (w : World) :
    Calls Tryz.prog 31 #[.string s] w fun e w' => e = .returned (.tuple #[.agg #[.int .i64 (psM s), .int .i64 (psB s)], .bool (psOk s)]) ∧ Below w.heap.size w w' := by
  by_cases h : s.size = 4
  · refine refRead_four s w _ _ _ h (fun hp => ⟨(rc_ps hp).1.symm, (rc_ps hp).2.symm, hp⟩) (fun hp => ⟨by simp [psM, hp], by simp [psB, hp], hp⟩)
  · have hp : psOk s = false := by simp [psOk, h]
    have e1 : psM s = 0 := by simp [psM, hp]
    have e2 : psB s = 0 := by simp [psB, hp]
    rw [e1, e2, hp]
    exact refRead_long s w h
end Go.Proofs.YtbieljcoaocfkabGreatDoor
