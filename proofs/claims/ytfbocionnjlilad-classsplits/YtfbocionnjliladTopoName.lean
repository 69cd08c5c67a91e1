/- What topo.isName answers: a contract for the walks above it. -/
import Derived.Test.YtfbocionnjliladTopoCon
import Derived.Test.YtfbocionnjliladSlByte
import Derived.Laws.IdiomStrings
namespace Go.Proofs.Ytfbocionnjlilad
open Go.RowKit
set_option linter.unusedSimpArgs false
set_option linter.unusedVariables false

/-- Is a byte none of a to z? -/
def noL (b : UInt8) : Bool := decide ((b.toNat : Int) < 97) || decide ((122 : Int) < (b.toNat : Int))
set_option maxHeartbeats 1000000 in
theorem isName1_any (b : UInt8) (w : World) : Calls Try.prog 41 #[.int .u8 (b.toNat : Int)] w fun e w' => e = .returned (.bool (noL b)) ∧ Below w.heap.size w w' := by
  have hn : noL b = (decide ((b.toNat : Int) < 97) || decide ((122 : Int) < (b.toNat : Int))) := rfl
  generalize (b.toNat : Int) = x at *
  rw [hn]
  clear hn
  by_cases h : x < 97
  · have e : (decide (x < 97) || decide (122 < x)) = true := by simp [h]
    rw [e]
    go_enter Try.func41, Try.ntmps41
    go_wp2
    go_ret
    exact ⟨rfl, Below.refl _ _⟩
  · have e : (decide (x < 97) || decide (122 < x)) = decide (122 < x) := by simp [h]
    rw [e]
    go_enter Try.func41, Try.ntmps41
    go_wp2
    go_ret
    exact ⟨rfl, Below.refl _ _⟩
theorem isName1_asks (w : World) : byAsks w 41 noL := fun x W _ => isName1_any x W
theorem bytes_conv (s : ByteArray) (w : World) : ∃ cap w1, (convert 9 88 (.string s)).run Try.prog w = .ok (.slice (some ⟨w.heap.size, 0, none⟩) s.size cap) w1 ∧ Below w.heap.size w w1 ∧ GAt byE w1 w.heap.size 0 s.data.toList ∧ (s.size ≤ maxLen → cap ≤ maxLen) := by
  refine ⟨_, _, run_bytes_of_string w _ _ 5 s Try.underlying9 Try.underlying88 Try.underlying5, ?_, ?_, fun h => grownCap_le_maxLen w _ _ _ h⟩
  · exact (Below.drew (Below.refl _ _)).alloc (Nat.le_refl _) _
  · intro i hi j u hu
    have hj : j = 0 := by
      have := (List.getElem?_eq_some_iff.1 hu).1
      have e : (byE.c s.data.toList[i]).length = 1 := rfl
      omega
    subst hj
    have hu2 : u = .int .u8 (s.data.toList[i].toNat : Int) := by
      have : some (Value.int .u8 (s.data.toList[i].toNat : Int)) = some u := hu
      exact (Option.some.inj this).symm
    subst hu2
    have hi2 : i < s.data.size := by simpa using hi
    have e : 0 + i * byE.n + 0 = i := by show 0 + i * 1 + 0 = i; omega
    rw [e]
    simp only [World.cell?, World.alloc, World.drew]
    simp [bytesRow]
    rw [Array.getElem?_append_left (by simpa using hi2), Array.getElem?_map, Array.getElem?_eq_getElem hi2]
    rfl
theorem nm_eq {s : ByteArray} (h1 : 1 ≤ s.size) (h6 : s.size ≤ 6) : nmB s = !(s.data.toList.any noL) := by
  have e : nmB s = (s.data.toList.all fun c => decide (97 ≤ c.toNat) && decide (c.toNat ≤ 122)) := by simp [nmB, h1, h6]
  rw [e, List.not_any_eq_all_not]
  congr 1
  funext c
  rw [Bool.eq_iff_iff]
  simp [noL]
  omega
set_option maxHeartbeats 1000000 in
theorem name_ok (s : ByteArray) (w : World) (h1 : 1 ≤ s.size) (h6 : s.size ≤ 6) :
    Calls Try.prog 36 #[.string s] w fun e w' => e = .returned (.bool (nmB s)) ∧ Below w.heap.size w w' := by
  have hs1 : ¬ ((s.size : Int) < 1) := by omega
  have hs6 : ¬ ((6 : Int) < (s.size : Int)) := by omega
  obtain ⟨cap, w1, hcv, hb1, hG, hcap⟩ := bytes_conv s w
  have HCAP : Hid (s.size ≤ maxLen → cap ≤ maxLen) := hcap
  have HB1 : Hid (Below w.heap.size w w1) := hb1
  have HG : Hid (GAt byE w1 w.heap.size 0 s.data.toList) := hG
  have HE : Hid (nmB s = !(s.data.toList.any noL)) := nm_eq h1 h6
  rw [HE.out]
  obtain ⟨r, hr⟩ : ∃ r, r = s.data.toList.any noL := ⟨_, rfl⟩
  have HR : Hid (r = s.data.toList.any noL) := hr
  rw [← hr]
  clear hr hb1 hG HE hcap
  obtain ⟨n, hn⟩ : ∃ n, n = s.size := ⟨_, rfl⟩
  have HN : Hid (n = s.size) := hn
  rw [← hn] at hcv hs1 hs6 h1 h6
  clear hn
  have hsz : s.size = n := HN.out.symm
  go_enter Try.func36, Try.ntmps36
  go_wp2_with fail
  refine (by_hasF _ n cap _ noL s.data.toList _ (by rw [HN.out]; simp) (by unfold maxLen; omega) (fun _ => ⟨_, _, rfl, HG.out, HCAP.out (by rw [← HN.out]; unfold maxLen; omega)⟩) (enters_of Try.func41 (by kernel_rfl) rfl) (isName1_asks _)).mono ?_
  rintro e w2 ⟨rfl, hb2⟩
  rw [← HR.out]
  have HB2 : Hid (Below w.heap.size w w2) := HB1.out.trans (hb2.mono HB1.out.size)
  clear hb2
  go_wp2
  go_ret
  exact ⟨rfl, HB2.out⟩
set_option maxHeartbeats 1000000 in
theorem name_bad (s : ByteArray) (w : World) (h : s.size < 1 ∨ 6 < s.size) :
    Calls Try.prog 36 #[.string s] w fun e w' => e = .returned (.bool false) ∧ Below w.heap.size w w' := by
  obtain ⟨n, hn⟩ : ∃ n, n = s.size := ⟨_, rfl⟩
  have hsz : s.size = n := hn.symm
  rw [hsz] at h
  clear hn
  by_cases h1 : (n : Int) < 1
  · go_enter Try.func36, Try.ntmps36
    go_wp2
    go_ret
    exact ⟨rfl, Below.refl _ _⟩
  · have h6 : (6 : Int) < (n : Int) := by omega
    clear h
    go_enter Try.func36, Try.ntmps36
    go_wp2
    go_ret
    exact ⟨rfl, Below.refl _ _⟩
theorem name_any (s : ByteArray) (w : World) :
    Calls Try.prog 36 #[.string s] w fun e w' => e = .returned (.bool (nmB s)) ∧ Below w.heap.size w w' := by
  by_cases h : 1 ≤ s.size ∧ s.size ≤ 6
  · exact name_ok s w h.1 h.2
  · have e : nmB s = false := by
      unfold nmB
      by_cases h1 : 1 ≤ s.size
      · have : ¬ s.size ≤ 6 := fun h2 => h ⟨h1, h2⟩
        simp [this]
      · simp [h1]
    rw [e]
    exact name_bad s w (by omega)
end Go.Proofs.Ytfbocionnjlilad
