/- What slices.Contains answers at hops. -/
import Derived.Test.YtfbocionnjlilacSlHop
namespace Go.Proofs.Ytfbocionnjlilac
open Go.RowKit
set_option linter.unusedSimpArgs false
set_option linter.unusedVariables false

set_option maxHeartbeats 1000000 in
set_option maxRecDepth 100000 in
theorem hop_has (ao : Option Addr) (n cap : Nat) (x y h : Int) (L : List ((Int × Int) × Int)) (w : World) (hs : GS hopE w (.slice ao n cap) L) :
    Calls Try.prog 36 #[.slice ao n cap, .agg #[.int .i64 x, .int .i64 y, .int .i64 h]] w fun e w' => e = .returned (.bool (L.any fun a => hopB ((x, y), h) a)) ∧ Below w.heap.size w w' := by
  obtain ⟨ao', n', cap', e, hn, hn2, hn3, ha⟩ := hs.form
  cases e
  have HN : Hid (L.length = n) := hn
  have hB0 : Below w.heap.size w (w.alloc (Obj.cells #[Value.int IntKind.i64 x, Value.int IntKind.i64 y, Value.int IntKind.i64 h] 58)) := (Below.refl _ _).alloc (Nat.le_refl _) _
  have HA : Hid (0 < n → ∃ g o, ao = some ⟨g, o, none⟩ ∧ GAt hopE w g o L ∧ cap ≤ maxLen) := ha
  have HB0 : Hid (Below w.heap.size w (w.alloc (Obj.cells #[Value.int IntKind.i64 x, Value.int IntKind.i64 y, Value.int IntKind.i64 h] 58))) := hB0
  have HM : Hid (n ≤ maxLen) := hn2
  have HX : Hid ((L.any fun a => hopB ((x, y), h) a) = decide (0 ≤ ixG (fun a => hopB ((x, y), h) a) L)) := (ixG_any L (fun a => hopB ((x, y), h) a)).symm
  rw [HX.out]
  clear hn ha hs hn2 hB0 HX
  obtain ⟨z, hz⟩ : ∃ z, z = ixG (fun a => hopB ((x, y), h) a) L := ⟨_, rfl⟩
  rw [← hz]
  have HX : Hid (z = ixG (fun a => hopB ((x, y), h) a) L) := hz
  clear hz
  go_enter Try.func36, Try.ntmps36
  go_wp2_with fail
  refine (hop_idx ao n cap x y h L _ HN.out HM.out (fun h0 => by
    obtain ⟨g, o, e1, e2, e3⟩ := HA.out h0
    exact ⟨g, o, e1, e2.later HB0.out, e3⟩)).mono ?_
  rintro e w2 ⟨rfl, hb2⟩
  have HB2 : Hid (Below w.heap.size w w2) := HB0.out.trans (hb2.mono HB0.out.size)
  rw [← HX.out]
  clear hb2
  go_wp2
  go_ret
  exact ⟨rfl, HB2.out⟩
end Go.Proofs.Ytfbocionnjlilac
