/- What the document's own Cut answers: all words of a text of at most 2^20 bytes. -/
import Derived.Test.YtbieljcoaocfkabGreatDoorRuleCut
import Derived.Test.YtbieljcoaocfkabGreatDoorRuleDec
import Derived.Test.YtbieljcoaocfkabGreatDoorRuleDeed
import Derived.Test.YtbieljcoaocfkabGreatDoorOwnRow
namespace Go.Proofs.YtbieljcoaocfkabGreatDoor
open Go.RowKit
set_option linter.unusedSimpArgs false

theorem infoStrC : (Tryz.prog.info? 9).map (fun i => (i.zero, i.size, i.bytes)) = some (some (.string ⟨#[]⟩), 1, 16) := by kernel_rfl
/-- Words that a call owns lie where their slice says. -/
theorem own_words {w : World} {B e : Nat} {v : Value} {ws : List ByteArray} (h : w.ownsRow B e 1 v ws.length (ws.map Value.string)) (h1 : 1 ≤ ws.length) : ∃ g cap, v = .slice (some ⟨g, 0, none⟩) ws.length cap ∧ B ≤ g ∧ ws.length ≤ cap ∧ cap ≤ maxLen ∧ WAt w g 0 ws := by
  rcases h.2 with ⟨rfl, h0⟩ | ⟨g, cap, cur, rfl, hB, _, h3, h4, _⟩
  · omega
  · refine ⟨g, cap, rfl, hB, h3, h4, fun i hi => ?_⟩
    have := h.cellAt i (by simpa using hi)
    simpa [hi] using this

set_option maxRecDepth 100000 in
set_option maxHeartbeats 2000000 in
theorem cut_any (s : ByteArray) (w : World) (hs : s.size ≤ 1048576) :
    Calls Tryz.prog 29 #[.string s, .int .u8 32] w fun e w' => ∃ v, e = .returned v ∧ w'.ownsRow w.heap.size 9 1 v (cutA s).length ((cutA s).map Value.string) ∧ Below w.heap.size w w' := by
  obtain ⟨i0, hi, hz0, hz1, hz2⟩ := info_parts infoStrC
  go_enter Tryz.func29, Tryz.ntmps29
  go_wp2
  go_loopw [5, 6, 7] (fun v f i wr => ∃ (k j : Nat) (D : List ByteArray), k ≤ s.size ∧ j ≤ k ∧ f = .int .i64 j ∧ i = .int .i64 k ∧ D.length ≤ j ∧ D ++ cutA (s.extract j s.size) = cutA s ∧ noBl s j k ∧ wr.ownsRow w.heap.size 9 1 v D.length (D.map Value.string) ∧ Below w.heap.size w wr)
    (fun _ _ i _ => s.size - (intOf i).toNat)
  case atStart => exact ⟨0, 0, [], by omega, by omega, rfl, rfl, by simp, by simp, fun j h1 h2 => by omega, World.ownsRow_nil _ _ _ _, Below.refl _ _⟩
  case round =>
    obtain ⟨k, j, D, hk, hj, rfl, rfl, hD, hcut, hno, hown, hB⟩ := hrel
    have HB : Hid (Below w.heap.size w wr) := hB
    have HOWN : Hid (wr.ownsRow w.heap.size 9 1 u5 D.length (D.map Value.string)) := hown
    have HCUT : Hid (D ++ cutA (s.extract j s.size) = cutA s) := hcut
    have HNO : Hid (noBl s j k) := hno
    have hsz : w.heap.size ≤ wr.heap.size := hB.size
    clear hB hown hcut hno
    by_cases hlt : k < s.size
    · have hb := byteN_at s k hlt
      have HBY : Hid (byteN s k = s[k].toNat) := hb
      clear hb
      cases e1 : ((s[k].toNat : Int) == 32)
      · have HNO2 : Hid (noBl s j (k + 1)) := noBl_next HNO.out (by rw [HBY.out]; simp at e1; omega)
        go_wp2
        go_roundw
        case rel => exact ⟨k + 1, j, D, by omega, by omega, rfl, by go_num, hD, HCUT.out, HNO2.out, HOWN.out, HB.out⟩
        case measure => simp [intOf]; omega
      · have HST : Hid (cutA (s.extract j s.size) = s.extract j k :: cutA (s.extract (k + 1) s.size)) := cutA_step hj hlt HNO.out (by rw [HBY.out]; simp at e1; omega)
        have hj1 : (j : Int) ≤ (k : Int) := by omega
        have hk1 : (k : Int) ≤ (s.size : Int) := by omega
        go_wp2_with (at_builtin; refine wpList_append_own _ rfl _ _ 61 rfl w.heap.size 9 i0 (.string ⟨#[]⟩) 1 16 Tryz.underlying61 hi hz0 hz1 hz2 rfl (by decide) _ _ _ rfl (HOWN.out.alloc _) ⟨wr.heap.size, 0, none⟩ 1 1 [.string (s.extract j k)] rfl rfl ?c1 ?c2 ?c3 ?c4 ?c5 ?_)
        case c1 =>
          intro j u hj
          match j, hj with
          | 0, hj => simp at hj; subst hj; simp [Addr.add]
        case c2 => intro u hu; simp at hu; subst hu; rfl
        case c3 => unfold maxLen; omega
        case c4 => omega
        case c5 => simp; omega
        intro v' w3 hown3 hgrow _
        have hB3 : Below w.heap.size w w3 := (HB.out.alloc hsz _).grown hgrow (by simp; omega) (fun g hg => (HOWN.out.lt g hg).1)
        clear hgrow
        have HO3 : Hid (w3.ownsRow w.heap.size 9 1 v' (D ++ [s.extract j k]).length ((D ++ [s.extract j k]).map Value.string)) := by
          show w3.ownsRow w.heap.size 9 1 v' (D ++ [s.extract j k]).length ((D ++ [s.extract j k]).map Value.string)
          simpa using hown3
        clear hown3
        go_wp2
        go_roundw
        case rel => exact ⟨k + 1, k + 1, D ++ [s.extract j k], by omega, by omega, by go_num, by go_num, by simp; omega, by rw [← HCUT.out, HST.out]; simp, fun a h1 h2 => by omega, HO3.out, hB3⟩
        case measure => simp [intOf]; omega
    · obtain rfl : k = s.size := by omega
      have HEND : Hid (cutA s = D ++ [s.extract j s.size]) := by
        show cutA s = _
        rw [← HCUT.out, cutA_end HNO.out]
      have hj1 : (j : Int) ≤ (s.size : Int) := by omega
      go_wp2_with (at_builtin; refine wpList_append_own _ rfl _ _ 61 rfl w.heap.size 9 i0 (.string ⟨#[]⟩) 1 16 Tryz.underlying61 hi hz0 hz1 hz2 rfl (by decide) _ _ _ rfl (HOWN.out.alloc _) ⟨wr.heap.size, 0, none⟩ 1 1 [.string (s.extract j s.size)] rfl rfl ?c1 ?c2 ?c3 ?c4 ?c5 ?_)
      case c1 =>
        intro j u hj
        match j, hj with
        | 0, hj => simp at hj; subst hj; simp [Addr.add]
      case c2 => intro u hu; simp at hu; subst hu; rfl
      case c3 => unfold maxLen; omega
      case c4 => omega
      case c5 => simp; omega
      intro v' w3 hown3 hgrow _
      have hB3 : Below w.heap.size w w3 := (HB.out.alloc hsz _).grown hgrow (by simp; omega) (fun g hg => (HOWN.out.lt g hg).1)
      clear hgrow
      have HO3 : Hid (w3.ownsRow w.heap.size 9 1 v' (cutA s).length ((cutA s).map Value.string)) := by
        show w3.ownsRow w.heap.size 9 1 v' (cutA s).length ((cutA s).map Value.string)
        rw [HEND.out]
        simpa using hown3
      clear hown3
      go_wp2
      go_ret
      exact ⟨_, rfl, HO3.out, hB3⟩
end Go.Proofs.YtbieljcoaocfkabGreatDoor
