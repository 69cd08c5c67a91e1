/- What Check of package cubes answers: contracts for the walks above it. -/
import Derived.Test.YtclecpcnmfhhcaaDoorCubeHas
import Derived.Test.YtclecpcnmfhhcaaDoorCubeCon2
import Derived.Test.YtclecpcnmfhhcaaDoorCubesMath
import Derived.Deep.AppendLies
import Derived.Laws.AppendOwnNone
namespace Go.Proofs.YtclecpcnmfhhcaaDoor
open Go.RowKit
set_option linter.unusedSimpArgs false

/-- These cubes lie from an address on. -/
structure CAt (w : World) (b o : Nat) (L : List (Int × Int)) : Prop where
  c0 : ∀ i (h : i < L.length), w.cell? ⟨b, o + i * 2, none⟩ = some (.int .i64 (L[i]).1)
  c1 : ∀ i (h : i < L.length), w.cell? ⟨b, o + i * 2 + 1, none⟩ = some (.int .i64 (L[i]).2)
/-- A value is a slice of these cubes. -/
def SL (w : World) (v : Value) (L : List (Int × Int)) : Prop :=
  (∃ ao cap, v = .slice ao 0 cap ∧ L = []) ∨ ∃ b o cap, v = .slice (some ⟨b, o, none⟩) L.length cap ∧ L.length ≤ cap ∧ cap ≤ maxLen ∧ CAt w b o L

theorem CAt.later {w w' : World} {b o : Nat} {L : List (Int × Int)} (h : CAt w b o L) (hb : Below w.heap.size w w') : CAt w' b o L :=
  ⟨fun i hi => (hb.cell (World.block_lt_of_cell? _ _ (h.c0 i hi))).trans (h.c0 i hi), fun i hi => (hb.cell (World.block_lt_of_cell? _ _ (h.c1 i hi))).trans (h.c1 i hi)⟩
theorem SL.later {w w' : World} {v : Value} {L : List (Int × Int)} (h : SL w v L) (hb : Below w.heap.size w w') : SL w' v L := by
  rcases h with h | ⟨b, o, cap, h1, h2, h3, h4⟩
  · exact .inl h
  · exact .inr ⟨b, o, cap, h1, h2, h3, h4.later hb⟩

theorem SL.nil (w : World) : SL w (.slice none 0 0) [] := .inl ⟨none, 0, rfl, rfl⟩
/-- The error of some. -/
def csV (L : List (Int × Int)) : Value := if fcN L = 0 then .nilIface else .iface 59 (.int .i64 (fcN L))

/-- The cube at a place. -/
theorem CAt.at {w : World} {b o : Nat} {L : List (Int × Int)} (h : CAt w b o L) {n k : Nat} (hn : L.length = n) (hk : k < n) :
    ∃ (m c : Int) (hl : k < L.length), L[k] = (m, c) ∧ w.cell? ⟨b, o + k * 2, none⟩ = some (.int .i64 m) ∧ w.cell? ⟨b, o + k * 2 + 1, none⟩ = some (.int .i64 c) :=
  have hl : k < L.length := by omega
  ⟨(L[k]).1, (L[k]).2, hl, rfl, h.c0 k hl, h.c1 k hl⟩

/-- The error of one. -/
def ceV (m b : Int) : Value := if okB m b then .nilIface else .iface 59 (.int .i64 (refN m b))
theorem check_ce (m b : Int) (w : World) :
    Calls Tryd.prog 7 #[.agg #[.int .i64 m, .int .i64 b]] w fun e w' => e = .returned (ceV m b) ∧ Below w.heap.size w w' := by
  cases hr : rngB m b
  · have e : ceV m b = .iface 59 (.int .i64 1) := by simp [ceV, refN, okB, hr]
    rw [e]; exact check_range m b w hr
  · cases ho : okB m b
    · have e : ceV m b = .iface 59 (.int .i64 3) := by simp [ceV, refN, ho, hr]
      rw [e]; exact check_shape m b w hr ho
    · have e : ceV m b = .nilIface := by simp [ceV, ho]
      rw [e]; exact check_ok m b w ho
theorem ce_ok {m b : Int} (h : okB m b = true) : ceV m b = .nilIface := by simp [ceV, h]
theorem ce_no {m b : Int} (h : okB m b = false) : ceV m b = .iface 59 (.int .i64 (refN m b)) := by simp [ceV, h]
theorem ref_ne {m b : Int} (h : okB m b = false) : refN m b ≠ 0 := by have := ok_refN m b; rw [h] at this; simpa using this
theorem cs_long {L : List (Int × Int)} (h : 40 < L.length) : csV L = .iface 59 (.int .i64 4) := by simp [csV, fcN, h]
theorem cs_ok {L : List (Int × Int)} (h : L.length ≤ 40) (h2 : okL L = true) : csV L = .nilIface := by
  have : ¬ 40 < L.length := by omega
  simp [csV, fcN, this, faN_ok h2]
theorem cs_at {L : List (Int × Int)} (h : L.length ≤ 40) {k : Nat} (hk : k < L.length) {m c : Int} (hL : L[k] = (m, c)) (h1 : okL (L.take k) = true) (h2 : okB m c = false) : csV L = .iface 59 (.int .i64 (refN m c)) := by
  have h3 : ¬ 40 < L.length := by omega
  have h4 := (faN_at hk h1 (by rw [hL]; exact h2)).1
  rw [hL] at h4
  simp [csV, fcN, h3, h4, ref_ne h2]

set_option maxHeartbeats 1000000 in
theorem csCheck_some (b o cap n : Nat) (L : List (Int × Int)) (w : World) (hc : CAt w b o L) (hn : L.length = n) (hl : n ≤ 40) :
    Calls Tryd.prog 20 #[.slice (some ⟨b, o, none⟩) n cap] w fun e w' => e = .returned (csV L) ∧ Below w.heap.size w w' := by
  have HN : Hid (L.length = n) := hn
  clear hn
  go_enter Tryd.func20, Tryd.ntmps20
  go_wp2
  go_loopw [12] (fun i wr => ∃ k : Nat, k ≤ n ∧ i = .int .i64 k ∧ okL (L.take k) = true ∧ Below w.heap.size w wr)
    (fun i _ => n - (intOf i).toNat)
  case atStart => exact ⟨0, by omega, rfl, by simp [okL], Below.refl _ _⟩
  case round =>
    obtain ⟨k, hk, rfl, hok, hB⟩ := hrel
    have HB : Hid (Below w.heap.size w wr) := hB
    have HOK : Hid (okL (L.take k) = true) := hok
    clear hok
    by_cases hlt : k < n
    · obtain ⟨m, c, hkl, hL, q0, q1⟩ := (hc.later hB).at HN.out hlt
      have HL : Hid (L[k] = (m, c)) := hL
      clear hL hB
      cases ho : okB m c
      · go_wp2_with fail
        refine (check_ce _ _ _).mono ?_
        rintro e w1 ⟨rfl, hb1⟩
        rw [ce_no ho]
        go_wp2
        go_ret
        exact ⟨by rw [cs_at (by rw [HN.out]; exact hl) hkl HL.out HOK.out ho]; rfl, HB.out.trans (((Below.refl _ _).alloc (Nat.le_refl _) _).trans (hb1.mono (by simp)) |>.mono HB.out.size)⟩
      · go_wp2_with fail
        refine (check_ce _ _ _).mono ?_
        rintro e w1 ⟨rfl, hb1⟩
        rw [ce_ok ho]
        have HB1 := HB.out.trans (((Below.refl _ _).alloc (Nat.le_refl _) _).trans (hb1.mono (by simp)) |>.mono HB.out.size)
        clear hb1
        go_wp2
        go_roundw
        case rel => exact ⟨k + 1, by omega, by go_num, okL_next hkl HOK.out (by rw [HL.out]; exact ho), HB1⟩
        case measure => simp [intOf]; omega
    · obtain rfl : k = n := by omega
      go_wp2
      go_ret
      exact ⟨by rw [cs_ok (by rw [HN.out]; exact hl) (by have := HOK.out; rw [← HN.out, List.take_length] at this; exact this)]; rfl, HB.out⟩

set_option maxHeartbeats 1000000 in
theorem csCheck_long (ao : Option Addr) (cap n : Nat) (w : World) (hl : 40 < n) :
    Calls Tryd.prog 20 #[.slice ao n cap] w fun e w' => e = .returned (.iface 59 (.int .i64 4)) ∧ Below w.heap.size w w' := by
  go_enter Tryd.func20, Tryd.ntmps20
  go_wp2
  go_ret
  exact ⟨rfl, Below.refl _ _⟩

set_option maxHeartbeats 1000000 in
theorem csCheck_nil (ao : Option Addr) (cap : Nat) (w : World) :
    Calls Tryd.prog 20 #[.slice ao 0 cap] w fun e w' => e = .returned .nilIface ∧ Below w.heap.size w w' := by
  go_enter Tryd.func20, Tryd.ntmps20
  go_wp2
  go_loopw [12] (fun i wr => i = .int .i64 0 ∧ wr = w) (fun i _ => 0)
  case atStart => exact ⟨rfl, rfl⟩
  case round =>
    obtain ⟨rfl, rfl⟩ := hrel
    go_wp2
    go_ret
    exact ⟨rfl, Below.refl _ _⟩

theorem csCheck_any (v : Value) (L : List (Int × Int)) (w : World) (h : SL w v L) :
    Calls Tryd.prog 20 #[v] w fun e w' => e = .returned (csV L) ∧ Below w.heap.size w w' := by
  rcases h with ⟨ao, cap, rfl, rfl⟩ | ⟨b, o, cap, rfl, _, _, hc⟩
  · exact csCheck_nil ao cap w
  · by_cases h40 : 40 < L.length
    · rw [cs_long h40]; exact csCheck_long _ _ _ _ h40
    · exact csCheck_some _ _ _ _ L w hc rfl (by omega)

set_option maxHeartbeats 1000000 in
theorem has1_any (m b h : Int) (B : Nat) (w : World) (hc : w.cell? ⟨B, 0, none⟩ = some (.int .i64 h)) :
    Calls Tryd.prog 39 #[.agg #[.int .i64 m, .int .i64 b], .pointer (some ⟨B, 0, none⟩)] w fun e w' => e = .returned (.bool (hasB m b h)) ∧ Below w.heap.size w w' := by
  have hlt : B < w.heap.size := World.block_lt_of_cell? _ _ hc
  go_enter Tryd.func39, Tryd.ntmps39
  go_wp2_with fail
  refine (has_any _ _ _ _).mono ?_
  rintro e w1 ⟨rfl, hb1⟩
  go_wp2
  go_ret
  exact ⟨rfl, ((Below.refl _ _).alloc (Nat.le_refl _) _).trans (hb1.mono (by simp))⟩

end Go.Proofs.YtclecpcnmfhhcaaDoor
