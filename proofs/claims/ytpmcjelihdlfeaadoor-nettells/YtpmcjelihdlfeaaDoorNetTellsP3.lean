/- Contracts and facts on the way to NetTells, joined into one text: RefPeer, CubeMath, CubeCon, CubeHas, RefCube, RuleMath, RuleCon, RuleTabMath, RuleTab, RuleTwo, RuleText, RuleRefMath, Quiet, RefFind, RefBit, RefTurned. -/
import Derived.Test.YtpmcjelihdlfeaaDoorNetTellsP2
import Derived.WalkKit
import Derived.Laws.BytesArg
import Derived.Test.YtpmcjelihdlfeaaDoorRows
import Derived.WalkSpells
import Derived.Below
import Derived.Shelf.Abstract
import Derived.Lib.Bytealg
import Derived.Lib.IndexLaws
import Derived.BigQuiet
import Derived.Deep.QuietTactic
import Derived.Deep.CutRange
import Derived.Deep.CutBlock
/- What railref1.Peer answers: a contract for the walks above it. -/
namespace Go.Proofs.YtpmcjelihdlfeaaDoor
open Go.RowKit
set_option linter.unusedSimpArgs false
set_option linter.unusedVariables false

/-- The boxes: a topology, a spot, the answer's. -/
structure B3 (w W : World) (S : Int) (v1 v2 : Value) (x y : Int) : Prop where
  b : B2 w W S v1 v2 x y
  r0 : W.cell? ⟨w.heap.size + 1 + 1, 0, none⟩ = some (.int .i64 0)
  r1 : W.cell? ⟨w.heap.size + 1 + 1, 1, none⟩ = some (.int .i64 0)
  f : ∀ i, W.frozen? ⟨w.heap.size + 1 + 1, i, none⟩ = false
theorem B3.later {w W W' : World} {S : Int} {v1 v2 : Value} {x y : Int} (h : B3 w W S v1 v2 x y) (hb : Below W.heap.size W W') : B3 w W' S v1 v2 x y :=
  ⟨h.b.later hb, cell_later hb h.r0, cell_later hb h.r1, fun i => (hb.frozen (p := ⟨w.heap.size + 1 + 1, i, none⟩) (show (⟨w.heap.size + 1 + 1, 0, none⟩ : Addr).block < W.heap.size from World.block_lt_of_cell? W ⟨w.heap.size + 1 + 1, 0, none⟩ h.r0)).trans (h.f i)⟩
theorem b3_new (w : World) (S : Int) (v1 v2 : Value) (x y : Int) : B3 w (((w.alloc (Obj.cells #[.int .i64 S, v1, v2] 25)).alloc (Obj.cells #[.int .i64 x, .int .i64 y] 30)).alloc (Obj.cells #[.int .i64 0, .int .i64 0] 30)) S v1 v2 x y := by
  have h := b2_new w S v1 v2 x y
  have e2 : ((w.alloc (Obj.cells #[.int .i64 S, v1, v2] 25)).alloc (Obj.cells #[.int .i64 x, .int .i64 y] 30)).heap.size = w.heap.size + 1 + 1 := by simp
  generalize (w.alloc (Obj.cells #[.int .i64 S, v1, v2] 25)).alloc (Obj.cells #[.int .i64 x, .int .i64 y] 30) = X at h e2
  have hs := vat_new X [.int .i64 0, .int .i64 0] 30
  have hf : ∀ k, (X.alloc (Obj.cells #[.int .i64 0, .int .i64 0] 30)).frozen? ⟨X.heap.size, k, none⟩ = false := fun k => by simp
  rw [e2] at hs hf
  exact ⟨h.later ((Below.refl _ _).alloc (Nat.le_refl _) _), hs 0 _ rfl, hs 1 _ rfl, hf⟩
theorem below2 {w W : World} (h : Below w.heap.size w W) (g : Nat) (hg : w.heap.size ≤ g) (u v : Value) : Below w.heap.size w ((W.setCell ⟨g, 0, none⟩ u).setCell ⟨g, 1, none⟩ v) := (h.setCell (p := ⟨g, 0, none⟩) hg u).setCell (p := ⟨g, 1, none⟩) hg v
theorem peer_at {Ls : List ((Int × Int) × (Int × Int))} {k : Nat} (hk : k < Ls.length) {s : Int × Int} : peerO (Ls.drop k) s = if (Ls[k]).1 == s then some (Ls[k]).2 else if (Ls[k]).2 == s then some (Ls[k]).1 else peerO (Ls.drop (k + 1)) s := by
  rw [List.drop_eq_getElem_cons hk]
  rfl

theorem eq_ways2 {a b : Bool} (h : (a && b) = false) : (a = true ∧ b = false) ∨ a = false := by
  cases a
  · exact .inr rfl
  · exact .inl ⟨rfl, by simpa using h⟩
set_option maxHeartbeats 4000000 in
set_option maxRecDepth 100000 in
theorem rpeer_any (S : Int) (ao : Option Addr) (n cap : Nat) (ao2 : Option Addr) (n2 cap2 : Nat) (Ls : List ((Int × Int) × (Int × Int))) (x y : Int) (w : World) (hL : GS lnkE w (.slice ao n cap) Ls) :
    Calls Tryd.prog 57 #[.agg #[.int .i64 S, .slice ao n cap, .slice ao2 n2 cap2], .agg #[.int .i64 x, .int .i64 y]] w fun e w' => e = .returned (.tuple #[.agg #[.int .i64 ((peerO Ls (x, y)).getD (0, 0)).1, .int .i64 ((peerO Ls (x, y)).getD (0, 0)).2], .bool (peerO Ls (x, y)).isSome]) ∧ Below w.heap.size w w' := by
  obtain ⟨_, _, _, e1, hLn, hLm, _, hLa⟩ := hL.form
  cases e1
  have HLN : Hid (Ls.length = n) := hLn
  have n63 : n ≤ 9223372036854775807 := by unfold maxLen at hLm; omega
  have HLA : Hid (0 < n → ∃ g o, ao = some ⟨g, o, none⟩ ∧ GAt lnkE w g o Ls ∧ cap ≤ maxLen) := hLa
  obtain ⟨P, hP⟩ : ∃ P, P = peerO Ls (x, y) := ⟨_, rfl⟩
  have HP : Hid (P = peerO Ls (x, y)) := hP
  rw [← hP]
  have hX := b3_new w S (.slice ao n cap) (.slice ao2 n2 cap2) x y
  obtain ⟨w0, hw0⟩ : ∃ W, ((w.alloc (Obj.cells #[.int .i64 S, .slice ao n cap, .slice ao2 n2 cap2] 25)).alloc (Obj.cells #[.int .i64 x, .int .i64 y] 30)).alloc (Obj.cells #[.int .i64 0, .int .i64 0] 30) = W := ⟨_, rfl⟩
  rw [hw0] at hX
  have HX : Hid (B3 w w0 S (.slice ao n cap) (.slice ao2 n2 cap2) x y) := hX
  have HW0 : Hid (((w.alloc (Obj.cells #[.int .i64 S, .slice ao n cap, .slice ao2 n2 cap2] 25)).alloc (Obj.cells #[.int .i64 x, .int .i64 y] 30)).alloc (Obj.cells #[.int .i64 0, .int .i64 0] 30) = w0) := hw0
  clear hL hLn hLm hLa hP hX hw0
  go_enter Tryd.func57, Tryd.ntmps57
  go_wp2
  rw [HW0.out]
  go_loopw [6] (fun i wr => ∃ k : Nat, k ≤ n ∧ i = .int .i64 k ∧ P = peerO (Ls.drop k) (x, y) ∧ B3 w wr S (.slice ao n cap) (.slice ao2 n2 cap2) x y) (fun i _ => n - (intOf i).toNat)
  case atStart => exact ⟨0, by omega, rfl, HP.out, HX.out⟩
  case round =>
    obtain ⟨k, hk, rfl, hpk, hXr⟩ := hrel
    have HX2 : Hid (B3 w wr S (.slice ao n cap) (.slice ao2 n2 cap2) x y) := hXr
    have HPK : Hid (P = peerO (Ls.drop k) (x, y)) := hpk
    have HB : Hid (Below w.heap.size w wr) := hXr.b.below
    obtain ⟨⟨_, ⟨b0, b1, b2⟩, s0, s1⟩, r0, r1, f⟩ := hXr
    have hlt1 : w.heap.size < wr.heap.size := World.block_lt_of_cell? _ _ b0
    have hlt2 : w.heap.size + 1 < wr.heap.size := World.block_lt_of_cell? _ _ s0
    have hlt3 : w.heap.size + 1 + 1 < wr.heap.size := World.block_lt_of_cell? _ _ r0
    have f0 := f 0
    have f1 := f 1
    clear hpk HW0 HX HP f
    by_cases hlt : k < n
    · obtain ⟨g, o, hao, hc, _⟩ := HLA.out (by omega)
      subst hao
      obtain ⟨x0, x1, x2, x3, hkl, hLk, q0, q1, q2, q3⟩ := lnk_at (hc.later HB.out) HLN.out hlt
      have hgl : g < wr.heap.size := World.block_lt_of_cell? _ _ q0
      have HST : Hid (P = if (x0 == x && x1 == y) = true then some (x2, x3) else if (x2 == x && x3 == y) = true then some (x0, x1) else peerO (Ls.drop (k + 1)) (x, y)) := by
        show _ = _
        rw [HPK.out, peer_at hkl, hLk]
        rfl
      clear hLk hc
      cases ho : (x0 == x && x1 == y)
      · have HNO : Hid ((x0 == x && x1 == y) = false) := ho
        cases hu : (x2 == x && x3 == y)
        · have HP1 : Hid (P = peerO (Ls.drop (k + 1)) (x, y)) := by
            show _ = _
            rw [HST.out, ho, hu]
            rfl
          rcases eq_ways2 ho with ⟨g1, g2⟩ | g1
          · rcases eq_ways2 hu with ⟨g3, g4⟩ | g3
            · go_wp2_with fail
              go_region
              go_wp2_with fail
              go_region
              go_wp2
              go_roundw
              case rel => exact ⟨k + 1, by omega, by go_num, HP1.out, (HX2.out.later (Below.drew (Below.refl _ _))).later (Below.drew (Below.refl _ _))⟩
              case measure => simp [intOf]; omega
            · go_wp2_with fail
              go_region
              go_wp2_with fail
              go_region
              go_wp2
              go_roundw
              case rel => exact ⟨k + 1, by omega, by go_num, HP1.out, (HX2.out.later (Below.drew (Below.refl _ _))).later (Below.drew (Below.refl _ _))⟩
              case measure => simp [intOf]; omega
          · rcases eq_ways2 hu with ⟨g3, g4⟩ | g3
            · go_wp2_with fail
              go_region
              go_wp2_with fail
              go_region
              go_wp2
              go_roundw
              case rel => exact ⟨k + 1, by omega, by go_num, HP1.out, (HX2.out.later (Below.drew (Below.refl _ _))).later (Below.drew (Below.refl _ _))⟩
              case measure => simp [intOf]; omega
            · go_wp2_with fail
              go_region
              go_wp2_with fail
              go_region
              go_wp2
              go_roundw
              case rel => exact ⟨k + 1, by omega, by go_num, HP1.out, (HX2.out.later (Below.drew (Below.refl _ _))).later (Below.drew (Below.refl _ _))⟩
              case measure => simp [intOf]; omega
        · have HP1 : Hid (P = some (x0, x1)) := by
            show _ = _
            rw [HST.out, ho, hu]
            rfl
          rw [Bool.and_eq_true] at hu
          obtain ⟨g3, g4⟩ := hu
          rcases eq_ways2 ho with ⟨g1, g2⟩ | g1
          · go_wp2_with fail
            go_region
            go_wp2_with fail
            go_region
            go_wp2
            refine bodyPost_ret (v := .tuple #[.agg #[.int .i64 x0, .int .i64 x1], .bool true]) (by simp [results, Tryd.results57, go_sem, *]) rfl ⟨by rw [HP1.out]; rfl, below2 (HB.out.trans (((Below.drew (Below.drew (Below.refl _ _))).mono HB.out.size))) _ (by omega) _ _⟩
          · go_wp2_with fail
            go_region
            go_wp2_with fail
            go_region
            go_wp2
            refine bodyPost_ret (v := .tuple #[.agg #[.int .i64 x0, .int .i64 x1], .bool true]) (by simp [results, Tryd.results57, go_sem, *]) rfl ⟨by rw [HP1.out]; rfl, below2 (HB.out.trans (((Below.drew (Below.drew (Below.refl _ _))).mono HB.out.size))) _ (by omega) _ _⟩
      · have HP1 : Hid (P = some (x2, x3)) := by
          show _ = _
          rw [HST.out, ho]
          rfl
        rw [Bool.and_eq_true] at ho
        obtain ⟨g1, g2⟩ := ho
        go_wp2_with fail
        go_region
        go_wp2
        refine bodyPost_ret (v := .tuple #[.agg #[.int .i64 x2, .int .i64 x3], .bool true]) (by simp [results, Tryd.results57, go_sem, *]) rfl ⟨by rw [HP1.out]; rfl, below2 (HB.out.trans ((Below.drew (Below.refl _ _)).mono HB.out.size)) _ (by omega) _ _⟩
    · obtain rfl : k = n := by omega
      have HPN : Hid (P = none) := by
        show _ = _
        rw [HPK.out, ← HLN.out, List.drop_length]
        rfl
      go_wp2
      refine bodyPost_ret (v := .tuple #[.agg #[.int .i64 0, .int .i64 0], .bool false]) (by simp [results, Tryd.results57, go_sem, *]) rfl ⟨by rw [HPN.out]; rfl, below2 HB.out _ (by omega) _ _⟩
end Go.Proofs.YtpmcjelihdlfeaaDoor
/- What cubes of headers come to, in plain numbers: no program in it. -/
namespace Go.Proofs.YtpmcjelihdlfeaaDoor
open Go.RowKit

/-- Is it a header? -/
def hdrB (n : Int) : Bool := decide (0 ≤ n) && decide (n < 16)
/-- Are both numbers of a cube headers? -/
def rngB (m b : Int) : Bool := hdrB m && hdrB b
/-- Is a cube right? -/
def okB (m b : Int) : Bool := rngB m b && (bits .andNot .i64 b m == 0)
/-- Do two cubes meet? -/
def mtOk (m b n c : Int) : Bool := okB m b && okB n c && (bits .and .i64 (bits .and .i64 (bits .xor .i64 b c) m) n == 0)
def mtM (m b n c : Int) : Int := if mtOk m b n c then bits .or .i64 m n else 0
def mtB (m b n c : Int) : Int := if mtOk m b n c then bits .or .i64 b c else 0
/-- Is the one in the other? -/
def insB (m b n c : Int) : Bool := mtOk m b n c && (mtM m b n c == m && mtB m b n c == b)
/-- How many bits a small number has. -/
def pop (m : Int) : Int := m % 2 + m / 2 % 2 + m / 4 % 2 + m / 8 % 2
def cntN (m b : Int) : Int := if okB m b then 2 ^ (4 - pop m).toNat else 0
def fstN (m b : Int) : Int := if okB m b then b else 0

theorem hdr_of {n : Int} (h : hdrB n = true) : 0 ≤ n ∧ n < 16 := by simpa [hdrB] using h
theorem hdr_no {n : Int} (h : hdrB n = false) : n < 0 ∨ 16 ≤ n := by simp [hdrB] at h; omega
theorem hdr_mk {n : Int} (h : 0 ≤ n ∧ n < 16) : hdrB n = true := by simpa [hdrB] using h
theorem rng_of {m b : Int} (h : rngB m b = true) : (0 ≤ m ∧ m < 16) ∧ (0 ≤ b ∧ b < 16) := by
  simp only [rngB, Bool.and_eq_true] at h; exact ⟨hdr_of h.1, hdr_of h.2⟩
theorem ok_rng {m b : Int} (h : okB m b = true) : rngB m b = true := by
  simp only [okB, Bool.and_eq_true] at h; exact h.1
theorem ok_of {m b : Int} (h : okB m b = true) : (0 ≤ m ∧ m < 16) ∧ (0 ≤ b ∧ b < 16) := rng_of (ok_rng h)

/-- A small number is the cast of one of sixteen. -/
theorem small {n : Int} (h : 0 ≤ n ∧ n < 16) : ∃ k : Fin 16, n = ((k : Nat) : Int) := ⟨⟨n.toNat, by omega⟩, by simp; omega⟩

theorem pop_le (m : Int) : 0 ≤ pop m ∧ pop m ≤ 4 := by unfold pop; omega

/-- The letter of one bit. -/
def ltr (m b x : Int) : Int := if bits .and .i64 m x == 0 then 42 else if bits .and .i64 b x == 0 then 48 else 49
def bitN (i : Nat) : Int := 2 ^ (3 - i)
def ltrAt (m b : Int) (i : Nat) : Int := ltr m b (bitN i)
theorem ltr_bd (m b x : Int) : 42 ≤ ltr m b x ∧ ltr m b x ≤ 49 := by unfold ltr; split <;> (try split) <;> omega
/-- A cube as text. -/
def prS (m b : Int) : ByteArray := strOfNums [ltrAt m b 0, ltrAt m b 1, ltrAt m b 2, ltrAt m b 3]
/-- What has been written of a cube's text behind k rounds. -/
def ltrTo (m b : Int) (k j : Nat) : Int := if j < k then ltrAt m b j else 0

/-- One byte of a text read: Mask, Bits. -/
def rdM (c : Nat) (i : Nat) (m : Int) : Int := if c = 49 ∨ c = 48 then bits .or .i64 m (bitN i) else m
def rdB (c : Nat) (i : Nat) (b : Int) : Int := if c = 49 then bits .or .i64 b (bitN i) else b
/-- May a byte stand in a cube's text? -/
def mayB (c : Nat) : Bool := c == 49 || c == 48 || c == 42
def byteN (s : ByteArray) (i : Nat) : Nat := (s.data.toList.getD i 0).toNat
def psMTo (s : ByteArray) : Nat → Int
  | 0 => 0
  | k + 1 => rdM (byteN s k) k (psMTo s k)
def psBTo (s : ByteArray) : Nat → Int
  | 0 => 0
  | k + 1 => rdB (byteN s k) k (psBTo s k)
def mayTo (s : ByteArray) : Nat → Bool
  | 0 => true
  | k + 1 => mayTo s k && mayB (byteN s k)
/-- Is a text a cube's? -/
def psOk (s : ByteArray) : Bool := s.size == 4 && mayTo s 4
def psM (s : ByteArray) : Int := if psOk s then psMTo s 4 else 0
def psB (s : ByteArray) : Int := if psOk s then psBTo s 4 else 0

/-- Is a header in a cube? -/
def hasB (m b h : Int) : Bool := hdrB h && (okB m b && (bits .and .i64 h m == b))
/-- The fault's number of a cube. -/
def refN (m b : Int) : Int := if okB m b then 0 else if rngB m b then 3 else 1
theorem refN_ok {m b : Int} (h : okB m b = true) : refN m b = 0 := by simp [refN, h]
theorem refN_shape {m b : Int} (h : okB m b = false) (h2 : rngB m b = true) : refN m b = 3 := by simp [refN, h, h2]
theorem refN_range {m b : Int} (h2 : rngB m b = false) : refN m b = 1 := by simp [refN, okB, h2]
theorem refN_bd (m b : Int) : 0 ≤ refN m b ∧ refN m b ≤ 3 := by unfold refN; split <;> (try split) <;> omega
theorem ok_refN (m b : Int) : (refN m b == 0) = okB m b := by
  cases h : okB m b
  · cases h2 : rngB m b
    · simp [refN_range h2]
    · simp [refN_shape h h2]
  · simp [refN_ok h]
theorem andEq_fin : ∀ m b : Fin 16, (bits .and .i64 ((b : Nat) : Int) ((m : Nat) : Int) == ((b : Nat) : Int)) = (bits .andNot .i64 ((b : Nat) : Int) ((m : Nat) : Int) == 0) := by decide +kernel
theorem andEq {m b : Int} (h : rngB m b = true) : (bits .and .i64 b m == b) = okB m b := by
  obtain ⟨h1, h2⟩ := rng_of h
  have e : okB m b = (bits .andNot .i64 b m == 0) := by simp [okB, h]
  rw [e]
  obtain ⟨x, rfl⟩ := small h1
  obtain ⟨y, rfl⟩ := small h2
  exact andEq_fin x y
/-- The i-th bit of a small number. -/
def bitB (x : Int) (i : Nat) : Bool := x / 2 ^ i % 2 == 1
end Go.Proofs.YtpmcjelihdlfeaaDoor
/- What each function of package cube answers, called with any cubes: contracts for the walks above them. -/
namespace Go.Proofs.YtpmcjelihdlfeaaDoor
open Go.RowKit
set_option linter.unusedSimpArgs false

theorem bcell {W w1 : World} (hb : Below W.heap.size W w1) : (∀ b o, b < W.heap.size → w1.cell? ⟨b, o, none⟩ = W.cell? ⟨b, o, none⟩) ∧ (∀ b o, b < W.heap.size → w1.frozen? ⟨b, o, none⟩ = W.frozen? ⟨b, o, none⟩) :=
  ⟨fun b o h => hb.cell (p := ⟨b, o, none⟩) h, fun b o h => hb.frozen (p := ⟨b, o, none⟩) h⟩

/-- What a call left alone below B: cells and marks. -/
theorem bcellB {B : Nat} {W w1 : World} (hb : Below B W w1) : (∀ b o, b < B → w1.cell? ⟨b, o, none⟩ = W.cell? ⟨b, o, none⟩) ∧ (∀ b o, b < B → w1.frozen? ⟨b, o, none⟩ = W.frozen? ⟨b, o, none⟩) :=
  ⟨fun b o h => hb.cell (p := ⟨b, o, none⟩) h, fun b o h => hb.frozen (p := ⟨b, o, none⟩) h⟩

set_option maxHeartbeats 400000 in
theorem isHeader_yes (n : Int) (w : World) (h : hdrB n = true) :
    Calls Tryd.prog 36 #[.int .i64 n] w fun e w' => e = .returned (.bool true) ∧ w' = w := by
  obtain ⟨h1, h2⟩ := hdr_of h
  clear h
  go_enter Tryd.func36, Tryd.ntmps36
  go_wp2
  go_ret
  exact ⟨rfl, rfl⟩

set_option maxHeartbeats 400000 in
theorem isHeader_no (n : Int) (w : World) (h : hdrB n = false) :
    Calls Tryd.prog 36 #[.int .i64 n] w fun e w' => e = .returned (.bool false) ∧ w' = w := by
  rcases hdr_no h with h1 | h1
  · clear h
    go_enter Tryd.func36, Tryd.ntmps36
    go_wp2
    go_ret
    exact ⟨rfl, rfl⟩
  · have h2 : 0 ≤ n := by omega
    have h3 : decide (n < 16) = false := by simp; omega
    clear h
    go_enter Tryd.func36, Tryd.ntmps36
    go_wp2
    go_ret
    exact ⟨rfl, rfl⟩

set_option maxHeartbeats 400000 in
theorem check_range (m b : Int) (w : World) (h : rngB m b = false) :
    Calls Tryd.prog 76 #[.agg #[.int .i64 m, .int .i64 b]] w fun e w' => e = .returned (.iface 75 (.int .i64 1)) ∧ Below w.heap.size w w' := by
  by_cases hm : hdrB m = true
  · have hb : hdrB b = false := by simpa [rngB, hm] using h
    clear h
    go_enter Tryd.func76, Tryd.ntmps76
    go_wp2_with fail
    refine (isHeader_yes _ _ hm).mono ?_
    rintro e w' ⟨rfl, rfl⟩
    go_wp2_with fail
    refine (isHeader_no _ _ hb).mono ?_
    rintro e w' ⟨rfl, rfl⟩
    go_wp2
    go_ret
    exact ⟨rfl, (Below.refl _ _).alloc (Nat.le_refl _) _⟩
  · have hm' : hdrB m = false := by simpa using hm
    clear h hm
    go_enter Tryd.func76, Tryd.ntmps76
    go_wp2_with fail
    refine (isHeader_no _ _ hm').mono ?_
    rintro e w' ⟨rfl, rfl⟩
    go_wp2
    go_ret
    exact ⟨rfl, (Below.refl _ _).alloc (Nat.le_refl _) _⟩

set_option maxHeartbeats 400000 in
theorem check_shape (m b : Int) (w : World) (h : rngB m b = true) (h2 : okB m b = false) :
    Calls Tryd.prog 76 #[.agg #[.int .i64 m, .int .i64 b]] w fun e w' => e = .returned (.iface 75 (.int .i64 3)) ∧ Below w.heap.size w w' := by
  have hm : hdrB m = true := by simp only [rngB, Bool.and_eq_true] at h; exact h.1
  have hb : hdrB b = true := by simp only [rngB, Bool.and_eq_true] at h; exact h.2
  have hz : (bits .andNot .i64 b m == 0) = false := by simpa [okB, h] using h2
  clear h h2
  go_enter Tryd.func76, Tryd.ntmps76
  go_wp2_with fail
  refine (isHeader_yes _ _ hm).mono ?_
  rintro e w' ⟨rfl, rfl⟩
  go_wp2_with fail
  refine (isHeader_yes _ _ hb).mono ?_
  rintro e w' ⟨rfl, rfl⟩
  go_wp2
  go_ret
  exact ⟨rfl, (Below.refl _ _).alloc (Nat.le_refl _) _⟩

set_option maxHeartbeats 400000 in
theorem check_ok (m b : Int) (w : World) (h : okB m b = true) :
    Calls Tryd.prog 76 #[.agg #[.int .i64 m, .int .i64 b]] w fun e w' => e = .returned .nilIface ∧ Below w.heap.size w w' := by
  have hm : hdrB m = true := hdr_mk (ok_of h).1
  have hb : hdrB b = true := hdr_mk (ok_of h).2
  have hz : (bits .andNot .i64 b m == 0) = true := by simp only [okB, Bool.and_eq_true] at h; exact h.2
  clear h
  go_enter Tryd.func76, Tryd.ntmps76
  go_wp2_with fail
  refine (isHeader_yes _ _ hm).mono ?_
  rintro e w' ⟨rfl, rfl⟩
  go_wp2_with fail
  refine (isHeader_yes _ _ hb).mono ?_
  rintro e w' ⟨rfl, rfl⟩
  go_wp2
  go_ret
  exact ⟨rfl, (Below.refl _ _).alloc (Nat.le_refl _) _⟩

set_option maxHeartbeats 400000 in
theorem isRight_any (m b : Int) (w : World) :
    Calls Tryd.prog 95 #[.agg #[.int .i64 m, .int .i64 b]] w fun e w' => e = .returned (.bool (okB m b)) ∧ Below w.heap.size w w' := by
  cases hr : rngB m b
  · have ho : okB m b = false := by simp [okB, hr]
    rw [ho]
    clear ho
    go_enter Tryd.func95, Tryd.ntmps95
    go_wp2_with fail
    refine (check_range _ _ _ hr).mono ?_
    rintro e w' ⟨rfl, hb⟩
    go_wp2
    go_ret
    exact ⟨rfl, ((Below.refl _ _).alloc (Nat.le_refl _) _).trans (hb.mono (by simp))⟩
  · cases ho : okB m b
    · go_enter Tryd.func95, Tryd.ntmps95
      go_wp2_with fail
      refine (check_shape _ _ _ hr ho).mono ?_
      rintro e w' ⟨rfl, hb⟩
      go_wp2
      go_ret
      exact ⟨rfl, ((Below.refl _ _).alloc (Nat.le_refl _) _).trans (hb.mono (by simp))⟩
    · go_enter Tryd.func95, Tryd.ntmps95
      go_wp2_with fail
      refine (check_ok _ _ _ ho).mono ?_
      rintro e w' ⟨rfl, hb⟩
      go_wp2
      go_ret
      exact ⟨rfl, ((Below.refl _ _).alloc (Nat.le_refl _) _).trans (hb.mono (by simp))⟩

end Go.Proofs.YtpmcjelihdlfeaaDoor
/- What Has of package cube answers, called with any cube and number. -/
namespace Go.Proofs.YtpmcjelihdlfeaaDoor
open Go.RowKit
set_option linter.unusedSimpArgs false

theorem isHeader_any (n : Int) (w : World) :
    Calls Tryd.prog 36 #[.int .i64 n] w fun e w' => e = .returned (.bool (hdrB n)) ∧ w' = w := by
  cases h : hdrB n
  · exact isHeader_no n w h
  · exact isHeader_yes n w h

set_option maxHeartbeats 400000 in
theorem has_any (m b h : Int) (w : World) :
    Calls Tryd.prog 79 #[.agg #[.int .i64 m, .int .i64 b], .int .i64 h] w fun e w' => e = .returned (.bool (hasB m b h)) ∧ Below w.heap.size w w' := by
  cases ho : okB m b
  · have e : hasB m b h = false := by simp [hasB, ho]
    rw [e]; clear e
    go_enter Tryd.func79, Tryd.ntmps79
    go_wp2_with fail
    refine (isRight_any _ _ _).mono ?_
    rintro e w1 ⟨rfl, hb1⟩
    go_wp2
    go_ret
    exact ⟨rfl, ((Below.refl _ _).alloc (Nat.le_refl _) _).trans (hb1.mono (by simp))⟩
  · cases hh : hdrB h
    · have e : hasB m b h = false := by simp [hasB, hh]
      rw [e]; clear e
      go_enter Tryd.func79, Tryd.ntmps79
      go_wp2_with fail
      refine (isRight_any _ _ _).mono ?_
      rintro e w1 ⟨rfl, hb1⟩
      rw [ho]
      go_wp2_with fail
      refine (isHeader_any _ _).mono ?_
      rintro e w' ⟨rfl, rfl⟩
      go_wp2
      go_ret
      exact ⟨rfl, ((Below.refl _ _).alloc (Nat.le_refl _) _).trans (hb1.mono (by simp))⟩
    · have e : hasB m b h = (bits .and .i64 h m == b) := by simp [hasB, hh, ho]
      rw [e]; clear e
      go_enter Tryd.func79, Tryd.ntmps79
      go_wp2_with fail
      refine (isRight_any _ _ _).mono ?_
      rintro e w1 ⟨rfl, hb1⟩
      rw [ho]
      obtain ⟨hc1, hf1⟩ := bcell hb1
      go_wp2_with fail
      refine (isHeader_any _ _).mono ?_
      rintro e w' ⟨rfl, rfl⟩
      go_wp2
      go_ret
      exact ⟨rfl, ((Below.refl _ _).alloc (Nat.le_refl _) _).trans (hb1.mono (by simp))⟩
end Go.Proofs.YtpmcjelihdlfeaaDoor
/- What the document's own functions on one cube answer: contracts for the walks above them. -/
namespace Go.Proofs.YtpmcjelihdlfeaaDoor
open Go.RowKit
set_option linter.unusedSimpArgs false

set_option maxHeartbeats 400000 in
theorem header_yes (n : Int) (w : World) (h : hdrB n = true) :
    Calls Tryd.prog 11 #[.int .i64 n] w fun e w' => e = .returned (.bool true) ∧ w' = w := by
  obtain ⟨h1, h2⟩ := hdr_of h
  clear h
  go_enter Tryd.func11, Tryd.ntmps11
  go_wp2
  go_ret
  exact ⟨rfl, rfl⟩

set_option maxHeartbeats 400000 in
theorem header_no (n : Int) (w : World) (h : hdrB n = false) :
    Calls Tryd.prog 11 #[.int .i64 n] w fun e w' => e = .returned (.bool false) ∧ w' = w := by
  rcases hdr_no h with h1 | h1
  · clear h
    go_enter Tryd.func11, Tryd.ntmps11
    go_wp2
    go_ret
    exact ⟨rfl, rfl⟩
  · have h2 : 0 ≤ n := by omega
    have h3 : decide (n < 16) = false := by simp; omega
    clear h
    go_enter Tryd.func11, Tryd.ntmps11
    go_wp2
    go_ret
    exact ⟨rfl, rfl⟩

theorem header_any (n : Int) (w : World) :
    Calls Tryd.prog 11 #[.int .i64 n] w fun e w' => e = .returned (.bool (hdrB n)) ∧ w' = w := by
  cases h : hdrB n
  · exact header_no n w h
  · exact header_yes n w h

set_option maxHeartbeats 400000 in
theorem refCube_any (m b : Int) (w : World) :
    Calls Tryd.prog 55 #[.agg #[.int .i64 m, .int .i64 b]] w fun e w' => e = .returned (.int .i64 (refN m b)) ∧ Below w.heap.size w w' := by
  cases hr : rngB m b
  · rw [refN_range hr]
    have HH : hdrB m = false ∨ (hdrB m = true ∧ hdrB b = false) := by
      cases h1 : hdrB m
      · exact .inl rfl
      · exact .inr ⟨rfl, by simpa [rngB, h1] using hr⟩
    rcases HH with hm | ⟨hm, hb⟩
    all_goals
      clear hr
      go_enter Tryd.func55, Tryd.ntmps55
      go_wp2_with fail
      refine (header_any _ _).mono ?_
      rintro e w' ⟨rfl, rfl⟩
      go_wp2_with fail
      refine (header_any _ _).mono ?_
      rintro e w' ⟨rfl, rfl⟩
      go_wp2
      go_ret
      exact ⟨rfl, (Below.refl _ _).alloc (Nat.le_refl _) _⟩
  · have hm : hdrB m = true := hdr_mk (rng_of hr).1
    have hb : hdrB b = true := hdr_mk (rng_of hr).2
    cases ho : okB m b
    · rw [refN_shape ho hr]
      have hz : (bits .and .i64 b m == b) = false := by rw [andEq hr, ho]
      clear hr ho
      go_enter Tryd.func55, Tryd.ntmps55
      go_wp2_with fail
      refine (header_any _ _).mono ?_
      rintro e w' ⟨rfl, rfl⟩
      go_wp2_with fail
      refine (header_any _ _).mono ?_
      rintro e w' ⟨rfl, rfl⟩
      go_wp2
      go_ret
      exact ⟨rfl, (Below.refl _ _).alloc (Nat.le_refl _) _⟩
    · rw [refN_ok ho]
      have hz : (bits .and .i64 b m == b) = true := by rw [andEq hr, ho]
      clear hr ho
      go_enter Tryd.func55, Tryd.ntmps55
      go_wp2_with fail
      refine (header_any _ _).mono ?_
      rintro e w' ⟨rfl, rfl⟩
      go_wp2_with fail
      refine (header_any _ _).mono ?_
      rintro e w' ⟨rfl, rfl⟩
      go_wp2
      go_ret
      exact ⟨rfl, (Below.refl _ _).alloc (Nat.le_refl _) _⟩

set_option maxHeartbeats 400000 in
theorem refHas_any (m b h : Int) (w : World) :
    Calls Tryd.prog 29 #[.agg #[.int .i64 m, .int .i64 b], .int .i64 h] w fun e w' => e = .returned (.bool (hasB m b h)) ∧ Below w.heap.size w w' := by
  cases hh : hdrB h
  · have e : hasB m b h = false := by simp [hasB, hh]
    rw [e]; clear e
    go_enter Tryd.func29, Tryd.ntmps29
    go_wp2_with fail
    refine (header_any _ _).mono ?_
    rintro e w' ⟨rfl, rfl⟩
    go_wp2
    go_ret
    exact ⟨rfl, (Below.refl _ _).alloc (Nat.le_refl _) _⟩
  · cases ho : okB m b
    · have e : hasB m b h = false := by simp [hasB, ho]
      have hz : (refN m b == 0) = false := by rw [ok_refN, ho]
      rw [e]; clear e ho
      go_enter Tryd.func29, Tryd.ntmps29
      go_wp2_with fail
      refine (header_any _ _).mono ?_
      rintro e w' ⟨rfl, rfl⟩
      go_wp2_with fail
      refine (refCube_any _ _ _).mono ?_
      rintro e w1 ⟨rfl, hb1⟩
      go_wp2
      go_ret
      exact ⟨rfl, ((Below.refl _ _).alloc (Nat.le_refl _) _).trans (hb1.mono (by simp))⟩
    · have e : hasB m b h = (bits .and .i64 h m == b) := by simp [hasB, hh, ho]
      rw [e, ]; clear e
      go_enter Tryd.func29, Tryd.ntmps29
      go_wp2_with fail
      refine (header_any _ _).mono ?_
      rintro e w' ⟨rfl, rfl⟩
      go_wp2_with fail
      refine (refCube_any _ _ _).mono ?_
      rintro e w1 ⟨rfl, hb1⟩
      rw [refN_ok ho]
      obtain ⟨hc1, hf1⟩ := bcell hb1
      go_wp2
      go_ret
      exact ⟨rfl, ((Below.refl _ _).alloc (Nat.le_refl _) _).trans (hb1.mono (by simp))⟩

end Go.Proofs.YtpmcjelihdlfeaaDoor
/- What one rule comes to, in plain numbers: no program in it. A rule is Prio p, its Cube's Mask m and Bits b, Out o, Set s, Value v. -/
namespace Go.Proofs.YtpmcjelihdlfeaaDoor
open Go.RowKit

/-- Are a rule's own numbers in their bounds? -/
def ruP (p o : Int) : Bool := decide (0 ≤ p) && (decide (p ≤ 99) && (decide (0 ≤ o) && decide (o ≤ 4)))
def ruIn (p o s v : Int) : Bool := ruP p o && rngB s v
/-- Is what a rule sets right? -/
def ruSet (o s v : Int) : Bool := (bits .andNot .i64 v s == 0) && (!(o == 0) || s == 0)
/-- The fault's number of a rule. -/
def ruN (p m b o s v : Int) : Int := if ruIn p o s v then (if okB m b then (if ruSet o s v then 0 else 3) else refN m b) else 1
/-- Is a rule right? -/
def ruOk (p m b o s v : Int) : Bool := ruIn p o s v && (okB m b && ruSet o s v)
/-- The fault's number of a rule and a header that it is applied to. -/
def apN (p m b o s v h : Int) : Int := if ruOk p m b o s v then (if hdrB h then (if hasB m b h && !(o == 0) then 0 else 5) else 1) else ruN p m b o s v
/-- What a rule makes of a header. -/
def apV (s v h : Int) : Int := bits .or .i64 (bits .andNot .i64 h s) v
def apR (p m b o s v h : Int) : Int := if apN p m b o s v h = 0 then apV s v h else 0

theorem ru_ok {p m b o s v : Int} (h : ruOk p m b o s v = true) : ruIn p o s v = true ∧ okB m b = true ∧ ruSet o s v = true := by
  simpa [ruOk] using h
theorem ruN_ok {p m b o s v : Int} (h : ruOk p m b o s v = true) : ruN p m b o s v = 0 := by
  obtain ⟨h1, h2, h3⟩ := ru_ok h
  simp [ruN, h1, h2, h3]
theorem ruN_ne {p m b o s v : Int} (h : ruOk p m b o s v = false) : ruN p m b o s v ≠ 0 := by
  unfold ruN
  cases h1 : ruIn p o s v
  · simp
  · cases h2 : okB m b
    · simp only [if_true]
      have := ok_refN m b
      rw [h2] at this
      simpa using this
    · cases h3 : ruSet o s v
      · simp
      · simp [ruOk, h1, h2, h3] at h
theorem ruN_bd (p m b o s v : Int) : 0 ≤ ruN p m b o s v ∧ ruN p m b o s v ≤ 3 := by
  unfold ruN
  have := refN_bd m b
  split
  · split
    · split <;> omega
    · omega
  · omega
theorem ru_in {p o s v : Int} (h : ruIn p o s v = true) : ((0 ≤ p ∧ p ≤ 99) ∧ (0 ≤ o ∧ o ≤ 4)) ∧ (0 ≤ s ∧ s < 16) ∧ (0 ≤ v ∧ v < 16) := by
  simp only [ruIn, Bool.and_eq_true] at h
  obtain ⟨h1, h2⟩ := h
  have h3 := rng_of h2
  simp only [ruP, Bool.and_eq_true, decide_eq_true_eq] at h1
  exact ⟨⟨⟨h1.1, h1.2.1⟩, ⟨h1.2.2.1, h1.2.2.2⟩⟩, h3⟩
theorem apN_bad {p m b o s v : Int} (h : Int) (hr : ruOk p m b o s v = false) : apN p m b o s v h = ruN p m b o s v := by simp [apN, hr]
theorem apR_bad {p m b o s v h : Int} (hr : apN p m b o s v h ≠ 0) : apR p m b o s v h = 0 := by simp [apR, hr]
theorem ap_yes {p m b o s v h : Int} (hr : apN p m b o s v h = 0) : ruOk p m b o s v = true ∧ hdrB h = true ∧ hasB m b h = true ∧ (o == 0) = false := by
  cases h1 : ruOk p m b o s v
  · rw [apN_bad h h1] at hr
    exact absurd hr (ruN_ne h1)
  · cases h2 : hdrB h
    · simp [apN, h1, h2] at hr
    · simp only [apN, h1, h2, if_true] at hr
      cases h3 : (hasB m b h && !(o == 0))
      · simp [h3] at hr
      · simpa using h3
end Go.Proofs.YtpmcjelihdlfeaaDoor
/- What Check of package rule answers, called with any rule: contracts for the walks above them. -/
namespace Go.Proofs.YtpmcjelihdlfeaaDoor
open Go.RowKit
set_option linter.unusedSimpArgs false

/-- The cube's error by its number. -/
theorem check_no (m b : Int) (w : World) :
    Calls Tryd.prog 76 #[.agg #[.int .i64 m, .int .i64 b]] w fun e w' => e = .returned (noV (refN m b)) ∧ Below w.heap.size w w' := by
  cases hr : rngB m b
  · have e : noV (refN m b) = .iface 75 (.int .i64 1) := by rw [refN_range hr]; rfl
    rw [e]; exact check_range m b w hr
  · cases ho : okB m b
    · have e : noV (refN m b) = .iface 75 (.int .i64 3) := by rw [refN_shape ho hr]; rfl
      rw [e]; exact check_shape m b w hr ho
    · have e : noV (refN m b) = .nilIface := by rw [refN_ok ho]; rfl
      rw [e]; exact check_ok m b w ho

theorem below1 {w w1 : World} {o : Obj} (hb : Below (w.heap.size + 1) (w.alloc o) w1) : Below w.heap.size w w1 :=
  ((Below.refl _ _).alloc (Nat.le_refl _) o).trans (hb.mono (by omega))

set_option maxHeartbeats 1000000 in
theorem ruCheck_prio (p m b o s v : Int) (w : World) (h : ruP p o = false) :
    Calls Tryd.prog 51 #[.agg #[.int .i64 p, .int .i64 m, .int .i64 b, .int .i64 o, .int .i64 s, .int .i64 v]] w fun e w' => e = .returned (.iface 75 (.int .i64 1)) ∧ Below w.heap.size w w' := by
  have hc : p < 0 ∨ (0 ≤ p ∧ 99 < p) ∨ ((0 ≤ p ∧ p ≤ 99) ∧ o < 0) ∨ ((0 ≤ p ∧ p ≤ 99) ∧ (0 ≤ o ∧ 4 < o)) := by
    simp [ruP] at h
    omega
  clear h
  rcases hc with h1 | ⟨h1, h2⟩ | ⟨⟨h1, h2⟩, h3⟩ | ⟨⟨h1, h2⟩, h3, h4⟩
  · have e1 : decide (p < 0) = true := by simp; omega
    go_enter Tryd.func51, Tryd.ntmps51
    go_wp2
    go_ret
    exact ⟨rfl, (Below.refl _ _).alloc (Nat.le_refl _) _⟩
  · have e1 : decide (p < 0) = false := by simp; omega
    have e2 : decide (99 < p) = true := by simp; omega
    go_enter Tryd.func51, Tryd.ntmps51
    go_wp2
    go_ret
    exact ⟨rfl, (Below.refl _ _).alloc (Nat.le_refl _) _⟩
  · have e1 : decide (p < 0) = false := by simp; omega
    have e2 : decide (99 < p) = false := by simp; omega
    have e3 : decide (o < 0) = true := by simp; omega
    go_enter Tryd.func51, Tryd.ntmps51
    go_wp2
    go_ret
    exact ⟨rfl, (Below.refl _ _).alloc (Nat.le_refl _) _⟩
  · have e1 : decide (p < 0) = false := by simp; omega
    have e2 : decide (99 < p) = false := by simp; omega
    have e3 : decide (o < 0) = false := by simp; omega
    have e4 : decide (4 < o) = true := by simp; omega
    go_enter Tryd.func51, Tryd.ntmps51
    go_wp2
    go_ret
    exact ⟨rfl, (Below.refl _ _).alloc (Nat.le_refl _) _⟩

theorem ruP_of {p o : Int} (h : ruP p o = true) : decide (p < 0) = false ∧ decide (99 < p) = false ∧ decide (o < 0) = false ∧ decide (4 < o) = false := by
  simp only [ruP, Bool.and_eq_true, decide_eq_true_eq] at h
  refine ⟨?_, ?_, ?_, ?_⟩ <;> simp <;> omega

set_option maxHeartbeats 1000000 in
theorem ruCheck_set (p m b o s v : Int) (w : World) (h : ruP p o = true) (h2 : rngB s v = false) :
    Calls Tryd.prog 51 #[.agg #[.int .i64 p, .int .i64 m, .int .i64 b, .int .i64 o, .int .i64 s, .int .i64 v]] w fun e w' => e = .returned (.iface 75 (.int .i64 1)) ∧ Below w.heap.size w w' := by
  obtain ⟨e1, e2, e3, e4⟩ := ruP_of h
  clear h
  cases hs : hdrB s
  · clear h2
    go_enter Tryd.func51, Tryd.ntmps51
    go_wp2_with fail
    refine (isHeader_no _ _ hs).mono ?_
    rintro e w' ⟨rfl, rfl⟩
    go_wp2
    go_ret
    exact ⟨rfl, (Below.refl _ _).alloc (Nat.le_refl _) _⟩
  · have hv : hdrB v = false := by simpa [rngB, hs] using h2
    clear h2
    go_enter Tryd.func51, Tryd.ntmps51
    go_wp2_with fail
    refine (isHeader_yes _ _ hs).mono ?_
    rintro e w' ⟨rfl, rfl⟩
    go_wp2_with fail
    refine (isHeader_no _ _ hv).mono ?_
    rintro e w' ⟨rfl, rfl⟩
    go_wp2
    go_ret
    exact ⟨rfl, (Below.refl _ _).alloc (Nat.le_refl _) _⟩

set_option maxHeartbeats 1000000 in
theorem ruCheck_cube (p m b o s v : Int) (w : World) (h : ruP p o = true) (h2 : rngB s v = true) (h3 : okB m b = false) :
    Calls Tryd.prog 51 #[.agg #[.int .i64 p, .int .i64 m, .int .i64 b, .int .i64 o, .int .i64 s, .int .i64 v]] w fun e w' => e = .returned (.iface 75 (.int .i64 (refN m b))) ∧ Below w.heap.size w w' := by
  obtain ⟨e1, e2, e3, e4⟩ := ruP_of h
  have hs : hdrB s = true := by simp only [rngB, Bool.and_eq_true] at h2; exact h2.1
  have hv : hdrB v = true := by simp only [rngB, Bool.and_eq_true] at h2; exact h2.2
  have hn : refN m b ≠ 0 := by have := ok_refN m b; rw [h3] at this; simpa using this
  clear h h2 h3
  go_enter Tryd.func51, Tryd.ntmps51
  go_wp2_with fail
  refine (isHeader_yes _ _ hs).mono ?_
  rintro e w' ⟨rfl, rfl⟩
  go_wp2_with fail
  refine (isHeader_yes _ _ hv).mono ?_
  rintro e w' ⟨rfl, rfl⟩
  go_wp2_with fail
  refine (check_no _ _ _).mono ?_
  rintro e w1 ⟨rfl, hb1⟩
  rw [no_ne hn]
  go_wp2
  go_ret
  exact ⟨rfl, ((Below.refl _ _).alloc (Nat.le_refl _) _).trans (hb1.mono (by simp))⟩

set_option maxHeartbeats 1000000 in
theorem ruCheck_end (p m b o s v : Int) (w : World) (h : ruP p o = true) (h2 : rngB s v = true) (h3 : okB m b = true) :
    Calls Tryd.prog 51 #[.agg #[.int .i64 p, .int .i64 m, .int .i64 b, .int .i64 o, .int .i64 s, .int .i64 v]] w fun e w' => e = .returned (if ruSet o s v then .nilIface else .iface 75 (.int .i64 3)) ∧ Below w.heap.size w w' := by
  obtain ⟨e1, e2, e3, e4⟩ := ruP_of h
  have hs : hdrB s = true := by simp only [rngB, Bool.and_eq_true] at h2; exact h2.1
  have hv : hdrB v = true := by simp only [rngB, Bool.and_eq_true] at h2; exact h2.2
  have hn : refN m b = 0 := refN_ok h3
  have hlt : w.heap.size < (w.alloc (Obj.cells #[Value.int IntKind.i64 p, Value.int IntKind.i64 m, Value.int IntKind.i64 b, Value.int IntKind.i64 o, Value.int IntKind.i64 s, Value.int IntKind.i64 v] 47)).heap.size := by simp
  clear h h2 h3
  cases ha : (bits .andNot .i64 v s == 0)
  · have e : ruSet o s v = false := by simp [ruSet, ha]
    rw [e]; clear e
    simp only [Bool.false_eq_true, if_false]
    have ha2 : (bits .andNot .i64 v s != 0) = true := by simpa using ha
    go_enter Tryd.func51, Tryd.ntmps51
    go_wp2_with fail
    refine (isHeader_yes _ _ hs).mono ?_
    rintro e w' ⟨rfl, rfl⟩
    go_wp2_with fail
    refine (isHeader_yes _ _ hv).mono ?_
    rintro e w' ⟨rfl, rfl⟩
    go_wp2_with fail
    refine (check_no _ _ _).mono ?_
    rintro e w1 ⟨rfl, hb1⟩
    rw [no_ok hn]
    obtain ⟨hc1, hf1⟩ := bcell hb1
    have hB := ((Below.refl w.heap.size w).alloc (Nat.le_refl _) (Obj.cells #[Value.int IntKind.i64 p, Value.int IntKind.i64 m, Value.int IntKind.i64 b, Value.int IntKind.i64 o, Value.int IntKind.i64 s, Value.int IntKind.i64 v] 47)).trans (hb1.mono (by simp))
    clear hb1
    go_wp2
    go_ret
    exact ⟨rfl, hB⟩
  · cases ho : (o == 0)
    · have e : ruSet o s v = true := by simp [ruSet, ha, ho]
      rw [e]; clear e
      simp only [if_true]
      have ha2 : (bits .andNot .i64 v s != 0) = false := by simpa using ha
      go_enter Tryd.func51, Tryd.ntmps51
      go_wp2_with fail
      refine (isHeader_yes _ _ hs).mono ?_
      rintro e w' ⟨rfl, rfl⟩
      go_wp2_with fail
      refine (isHeader_yes _ _ hv).mono ?_
      rintro e w' ⟨rfl, rfl⟩
      go_wp2_with fail
      refine (check_no _ _ _).mono ?_
      rintro e w1 ⟨rfl, hb1⟩
      rw [no_ok hn]
      obtain ⟨hc1, hf1⟩ := bcell hb1
      have hB := ((Below.refl w.heap.size w).alloc (Nat.le_refl _) (Obj.cells #[Value.int IntKind.i64 p, Value.int IntKind.i64 m, Value.int IntKind.i64 b, Value.int IntKind.i64 o, Value.int IntKind.i64 s, Value.int IntKind.i64 v] 47)).trans (hb1.mono (by simp))
      clear hb1
      go_wp2
      go_ret
      exact ⟨rfl, hB⟩
    · cases hz : (s == 0)
      · have e : ruSet o s v = false := by simp [ruSet, ha, ho, hz]
        rw [e]; clear e
        simp only [Bool.false_eq_true, if_false]
        have ha2 : (bits .andNot .i64 v s != 0) = false := by simpa using ha
        go_enter Tryd.func51, Tryd.ntmps51
        go_wp2_with fail
        refine (isHeader_yes _ _ hs).mono ?_
        rintro e w' ⟨rfl, rfl⟩
        go_wp2_with fail
        refine (isHeader_yes _ _ hv).mono ?_
        rintro e w' ⟨rfl, rfl⟩
        go_wp2_with fail
        refine (check_no _ _ _).mono ?_
        rintro e w1 ⟨rfl, hb1⟩
        rw [no_ok hn]
        obtain ⟨hc1, hf1⟩ := bcell hb1
        have hB := ((Below.refl w.heap.size w).alloc (Nat.le_refl _) (Obj.cells #[Value.int IntKind.i64 p, Value.int IntKind.i64 m, Value.int IntKind.i64 b, Value.int IntKind.i64 o, Value.int IntKind.i64 s, Value.int IntKind.i64 v] 47)).trans (hb1.mono (by simp))
        clear hb1
        go_wp2
        go_ret
        exact ⟨rfl, hB⟩
      · have e : ruSet o s v = true := by simp [ruSet, ha, ho, hz]
        rw [e]; clear e
        simp only [if_true]
        have ha2 : (bits .andNot .i64 v s != 0) = false := by simpa using ha
        go_enter Tryd.func51, Tryd.ntmps51
        go_wp2_with fail
        refine (isHeader_yes _ _ hs).mono ?_
        rintro e w' ⟨rfl, rfl⟩
        go_wp2_with fail
        refine (isHeader_yes _ _ hv).mono ?_
        rintro e w' ⟨rfl, rfl⟩
        go_wp2_with fail
        refine (check_no _ _ _).mono ?_
        rintro e w1 ⟨rfl, hb1⟩
        rw [no_ok hn]
        obtain ⟨hc1, hf1⟩ := bcell hb1
        have hB := ((Below.refl w.heap.size w).alloc (Nat.le_refl _) (Obj.cells #[Value.int IntKind.i64 p, Value.int IntKind.i64 m, Value.int IntKind.i64 b, Value.int IntKind.i64 o, Value.int IntKind.i64 s, Value.int IntKind.i64 v] 47)).trans (hb1.mono (by simp))
        clear hb1
        go_wp2
        go_ret
        exact ⟨rfl, hB⟩

theorem ruCheck_any (p m b o s v : Int) (w : World) :
    Calls Tryd.prog 51 #[.agg #[.int .i64 p, .int .i64 m, .int .i64 b, .int .i64 o, .int .i64 s, .int .i64 v]] w fun e w' => e = .returned (noV (ruN p m b o s v)) ∧ Below w.heap.size w w' := by
  cases h1 : ruP p o
  · have e : noV (ruN p m b o s v) = .iface 75 (.int .i64 1) := by simp [ruN, ruIn, h1, noV]
    rw [e]; exact ruCheck_prio p m b o s v w h1
  · cases h2 : rngB s v
    · have e : noV (ruN p m b o s v) = .iface 75 (.int .i64 1) := by simp [ruN, ruIn, h2, noV]
      rw [e]; exact ruCheck_set p m b o s v w h1 h2
    · cases h3 : okB m b
      · have hn : refN m b ≠ 0 := by have := ok_refN m b; rw [h3] at this; simpa using this
        have e : noV (ruN p m b o s v) = .iface 75 (.int .i64 (refN m b)) := by simp [ruN, ruIn, h1, h2, h3, noV, hn]
        rw [e]; exact ruCheck_cube p m b o s v w h1 h2 h3
      · have e : noV (ruN p m b o s v) = (if ruSet o s v then .nilIface else .iface 75 (.int .i64 3)) := by
          cases h4 : ruSet o s v <;> simp [ruN, ruIn, h1, h2, h3, noV, h4]
        rw [e]; exact ruCheck_end p m b o s v w h1 h2 h3

end Go.Proofs.YtpmcjelihdlfeaaDoor
/- Tables of rules in plain lists: what is wrong with one, which rule counts. No program in it. -/
namespace Go.Proofs.YtpmcjelihdlfeaaDoor
open Go.RowKit

/-- -1, 0 or 1: is the one below, as great as, above the other? -/
def cmpN (a b : Int) : Int := if a < b then -1 else if b < a then 1 else 0
/-- The first of three numbers that is not 0. -/
def orN (x y z : Int) : Int := if x = 0 then (if y = 0 then z else y) else x
/-- Above 0: the one counts ahead of the other; 0: they have one Prio and one Cube. -/
def ordN (p m b p' m' b' : Int) : Int := orN (cmpN p p') (cmpN m m') (cmpN b b')

structure Ru where
  p : Int
  m : Int
  b : Int
  o : Int
  s : Int
  v : Int

def Ru.n (r : Ru) : Int := ruN r.p r.m r.b r.o r.s r.v
def Ru.ok (r : Ru) : Bool := ruOk r.p r.m r.b r.o r.s r.v
def Ru.has (r : Ru) (h : Int) : Bool := hasB r.m r.b h
def ordR (a b : Ru) : Int := ordN a.p a.m a.b b.p b.m b.b
/-- Have two rules one Prio and one Cube? -/
def keyB (a b : Ru) : Bool := ordR a b == 0
def zeR : Ru := ⟨0, 0, 0, 0, 0, 0⟩

theorem cmp_0 {a b : Int} : cmpN a b = 0 ↔ a = b := by unfold cmpN; split <;> (try split) <;> omega
theorem ord_0 {a b : Ru} : ordR a b = 0 ↔ a.p = b.p ∧ a.m = b.m ∧ a.b = b.b := by
  unfold ordR ordN orN
  by_cases h1 : a.p = b.p
  · rw [if_pos (cmp_0.2 h1)]
    by_cases h2 : a.m = b.m
    · rw [if_pos (cmp_0.2 h2), cmp_0]
      exact ⟨fun h => ⟨h1, h2, h⟩, fun h => h.2.2⟩
    · rw [if_neg (fun h => h2 (cmp_0.1 h)), cmp_0]
      exact ⟨fun h => absurd h h2, fun h => h.2.1⟩
  · rw [if_neg (fun h => h1 (cmp_0.1 h)), cmp_0]
    exact ⟨fun h => absurd h h1, fun h => h.1⟩
theorem ord_le {a b : Ru} : ordR a b ≤ 0 ↔ (a.p < b.p ∨ a.p = b.p ∧ (a.m < b.m ∨ a.m = b.m ∧ a.b ≤ b.b)) := by
  unfold ordR ordN orN cmpN
  split <;> split <;> (try split) <;> (try split) <;> (try split) <;> (try split) <;> omega
theorem ord_tr {a b c : Ru} (h1 : ordR a b ≤ 0) (h2 : 0 < ordR c b) : ordR a c ≤ 0 := by
  have h3 : ¬ ordR c b ≤ 0 := by omega
  rw [ord_le] at h1 h3 ⊢
  omega
theorem ord_as {a b : Ru} (h1 : ordR a b ≤ 0) (h2 : ordR b a ≤ 0) : ordR a b = 0 := by
  rw [ord_le] at h1 h2
  rw [ord_0]
  omega
theorem ord_rf (a : Ru) : ordR a a = 0 := ord_0.2 ⟨rfl, rfl, rfl⟩
theorem key_sym {a b : Ru} (h : keyB a b = false) : keyB b a = false := by
  simp only [keyB, beq_eq_false_iff_ne, ne_eq, ord_0] at h ⊢
  exact fun h' => h ⟨h'.1.symm, h'.2.1.symm, h'.2.2.symm⟩

theorem key_eq (a b : Ru) : keyB a b = (decide (a.p = b.p) && (decide (a.m = b.m) && decide (a.b = b.b))) := by
  rw [Bool.eq_iff_iff, keyB, beq_iff_eq, ord_0]
  simp

/-- Is there one among the first k that has the Prio and the Cube of one ahead? -/
def clTo (L : List Ru) : Nat → Bool
  | 0 => false
  | k + 1 => clTo L k || (L.take k).any (fun a => keyB a (L.getD k zeR))
def okR (L : List Ru) : Bool := L.all Ru.ok
/-- The fault of the first k rules: what is wrong with the first that has a fault: by itself, or that it has the Prio and the Cube of one ahead. -/
def tbTo (L : List Ru) : Nat → Int
  | 0 => 0
  | k + 1 => if tbTo L k = 0 then (if (L.getD k zeR).n = 0 then (if (L.take k).any (fun a => keyB a (L.getD k zeR)) then 7 else 0) else (L.getD k zeR).n) else tbTo L k
/-- The fault of a table. -/
def tbN (L : List Ru) : Int := if 12 < L.length then 4 else tbTo L L.length

theorem n_ne {r : Ru} (h : r.ok = false) : r.n ≠ 0 := ruN_ne h
theorem n_ok {r : Ru} (h : r.ok = true) : r.n = 0 := ruN_ok h
theorem ok_n {r : Ru} (h : r.n = 0) : r.ok = true := by
  cases e : r.ok
  · exact absurd h (n_ne e)
  · rfl
theorem okR_next {L : List Ru} {k : Nat} (hk : k < L.length) (h : okR (L.take k) = true) (h2 : (L[k]).ok = true) : okR (L.take (k + 1)) = true := by
  rw [List.take_succ_eq_append_getElem hk]
  simp only [okR, List.all_append, List.all_cons, List.all_nil, Bool.and_true, Bool.and_eq_true]
  exact ⟨h, h2⟩
/-- A fault among the first ones is the table's. -/
theorem to_le {L : List Ru} {k : Nat} (h : tbTo L k ≠ 0) : ∀ {n : Nat}, k ≤ n → tbTo L n = tbTo L k
  | 0, hn => by
    obtain rfl : k = 0 := by omega
    rfl
  | n + 1, hn => by
    by_cases e : k = n + 1
    · subst e; rfl
    · have := to_le h (show k ≤ n by omega)
      rw [tbTo, if_neg (by rw [this]; exact h), this]
theorem getD_at {L : List Ru} {k : Nat} (hk : k < L.length) : L.getD k zeR = L[k] := by simp [List.getD, hk]

theorem cl_le {L : List Ru} : ∀ {k n : Nat}, k ≤ n → clTo L n = false → clTo L k = false
  | k, 0, h, hc => by
    obtain rfl : k = 0 := by omega
    exact hc
  | k, n + 1, h, hc => by
    by_cases e : k = n + 1
    · subst e; exact hc
    · simp only [clTo, Bool.or_eq_false_iff] at hc
      exact cl_le (by omega) hc.1
theorem cl_hit {L : List Ru} {k : Nat} (hk : k < L.length) (h : (L.take k).any (fun a => keyB a (L.getD k zeR)) = true) : clTo L L.length = true := by
  cases e : clTo L L.length
  · have := cl_le (show k + 1 ≤ L.length by omega) e
    simp only [clTo, h, Bool.or_true] at this
    cases this
  · rfl
/-- No clash: no two have one Prio and one Cube. -/
theorem cl_no {L : List Ru} : clTo L L.length = false ↔ ∀ i j, i < j → j < L.length → keyB (L.getD i zeR) (L.getD j zeR) = false := by
  constructor
  · intro h i j hij hj
    have := cl_le (show j + 1 ≤ L.length by omega) h
    simp only [clTo, Bool.or_eq_false_iff] at this
    have h2 := this.2
    rw [List.any_eq_false] at h2
    have hm : L.getD i zeR ∈ L.take j := by
      rw [getD_at (by omega)]
      rw [List.mem_take_iff_getElem]
      exact ⟨i, by omega, rfl⟩
    simpa using h2 _ hm
  · intro h
    have : ∀ n, n ≤ L.length → clTo L n = false := by
      intro n
      induction n with
      | zero => intro _; rfl
      | succ n ih =>
        intro hn
        simp only [clTo, Bool.or_eq_false_iff]
        refine ⟨ih (by omega), ?_⟩
        rw [List.any_eq_false]
        intro a ha
        rw [List.mem_take_iff_getElem] at ha
        obtain ⟨i, hi, rfl⟩ := ha
        have := h i n (by omega) (by omega)
        rw [getD_at (by omega)] at this
        simpa using this
    exact this _ (Nat.le_refl _)
theorem to_0 {L : List Ru} : ∀ {k : Nat}, k ≤ L.length → (tbTo L k = 0 ↔ okR (L.take k) = true ∧ clTo L k = false)
  | 0, _ => by simp [tbTo, okR, clTo]
  | k + 1, hk => by
    have ih := to_0 (show k ≤ L.length by omega)
    have hl : k < L.length := by omega
    rw [tbTo, clTo]
    by_cases h1 : tbTo L k = 0
    · obtain ⟨i1, i2⟩ := ih.1 h1
      rw [if_pos h1, i2, Bool.false_or]
      by_cases h2 : (L.getD k zeR).n = 0
      · rw [if_pos h2]
        have h3 := okR_next hl i1 (by rw [← getD_at hl]; exact ok_n h2)
        cases h4 : (L.take k).any (fun a => keyB a (L.getD k zeR))
        · simp [h3]
        · simp
      · rw [if_neg h2]
        refine ⟨fun h => absurd h h2, fun h => ?_⟩
        exfalso
        have h5 := h.1
        rw [okR, List.all_eq_true] at h5
        exact h2 (n_ok (by rw [getD_at hl]; exact h5 _ (by rw [List.mem_take_iff_getElem]; exact ⟨k, by omega, rfl⟩)))
    · rw [if_neg h1]
      refine ⟨fun h => absurd h h1, fun h => ?_⟩
      exfalso
      obtain ⟨h5, h6⟩ := h
      simp only [Bool.or_eq_false_iff] at h6
      refine h1 (ih.2 ⟨?_, h6.1⟩)
      rw [okR, List.all_eq_true] at h5 ⊢
      intro x hx
      refine h5 x ?_
      rw [List.mem_take_iff_getElem] at hx ⊢
      obtain ⟨i, hi, e⟩ := hx
      exact ⟨i, by omega, e⟩
/-- A table that is right. -/
theorem tb_0 {L : List Ru} : tbN L = 0 ↔ L.length ≤ 12 ∧ okR L = true ∧ clTo L L.length = false := by
  unfold tbN
  by_cases h1 : 12 < L.length
  · rw [if_pos h1]
    constructor
    · intro h; cases h
    · intro h; omega
  · rw [if_neg h1, to_0 (Nat.le_refl _), List.take_length]
    exact ⟨fun h => ⟨by omega, h⟩, fun h => h.2⟩

theorem rev_at {L : List Ru} {i : Nat} (h : i < L.length) : L.reverse.getD i zeR = L.getD (L.length - 1 - i) zeR := by
  rw [getD_at (by simpa using h), getD_at (by omega), List.getElem_reverse]
theorem tb_rev {L : List Ru} (h : tbN L = 0) : tbN L.reverse = 0 := by
  rw [tb_0] at h ⊢
  obtain ⟨h1, h2, h3⟩ := h
  refine ⟨by simpa using h1, by simpa [okR] using h2, ?_⟩
  rw [cl_no] at h3 ⊢
  intro i j hij hj
  rw [List.length_reverse] at hj
  rw [rev_at (by omega), rev_at hj]
  exact key_sym (h3 _ _ (by omega) (by omega))

/-- The place of the rule that counts among the first k; -1: none. -/
def beTo (L : List Ru) (h : Int) : Nat → Int
  | 0 => -1
  | k + 1 => if ((L.getD k zeR).has h && (decide (beTo L h k < 0) || decide (0 < ordR (L.getD k zeR) (L.getD (beTo L h k).toNat zeR)))) = true then (k : Int) else beTo L h k
theorem be_bd (L : List Ru) (h : Int) : ∀ k : Nat, -1 ≤ beTo L h k ∧ beTo L h k < k
  | 0 => by simp [beTo]
  | k + 1 => by
    have := be_bd L h k
    unfold beTo
    split <;> omega
theorem be_no {L : List Ru} {h : Int} : ∀ {k : Nat}, beTo L h k < 0 → ∀ j, j < k → (L.getD j zeR).has h = false
  | 0, _, j, hj => by omega
  | k + 1, hb, j, hj => by
    unfold beTo at hb
    split at hb
    · omega
    · next hn =>
      by_cases e : j = k
      · subst e
        cases hh : (L.getD j zeR).has h
        · rfl
        · exact absurd (by rw [hh]; simp [hb]) hn
      · exact be_no hb j (by omega)
theorem be_yes {L : List Ru} {h : Int} : ∀ {k : Nat}, 0 ≤ beTo L h k → (L.getD (beTo L h k).toNat zeR).has h = true ∧ ∀ j, j < k → (L.getD j zeR).has h = true → ordR (L.getD j zeR) (L.getD (beTo L h k).toNat zeR) ≤ 0
  | 0, hb => by simp [beTo] at hb
  | k + 1, hb => by
    unfold beTo at hb ⊢
    split
    · next hy =>
      simp only [Bool.and_eq_true, Bool.or_eq_true, decide_eq_true_eq] at hy
      obtain ⟨y1, y2⟩ := hy
      simp only [Int.toNat_natCast]
      refine ⟨y1, fun j hj hh => ?_⟩
      by_cases e : j = k
      · subst e
        rw [ord_rf]
        exact Int.le_refl _
      · rcases y2 with y2 | y2
        · rw [be_no y2 j (by omega)] at hh
          cases hh
        · have h0 : 0 ≤ beTo L h k := by
            rcases Int.lt_or_le (beTo L h k) 0 with h' | h'
            · rw [be_no h' j (by omega)] at hh
              cases hh
            · exact h'
          exact ord_tr ((be_yes h0).2 j (by omega) hh) y2
    · next hn =>
      rw [if_neg hn] at hb
      obtain ⟨i1, i2⟩ := be_yes hb
      refine ⟨i1, fun j hj hh => ?_⟩
      by_cases e : j = k
      · subst e
        rw [hh] at hn
        simp only [Bool.true_and, Bool.or_eq_true, decide_eq_true_eq, not_or] at hn
        omega
      · exact i2 j (by omega) hh

/-- The fault of a look into a table, and the place. -/
def luN (L : List Ru) (h : Int) : Int := if tbN L = 0 then (if hdrB h then (if beTo L h L.length < 0 then 5 else 0) else 1) else tbN L
def luI (L : List Ru) (h : Int) : Int := if luN L h = 0 then beTo L h L.length else 0
theorem lu_0 {L : List Ru} {h : Int} : luN L h = 0 ↔ tbN L = 0 ∧ hdrB h = true ∧ 0 ≤ beTo L h L.length := by
  unfold luN
  by_cases h1 : tbN L = 0
  · rw [if_pos h1]
    cases h2 : hdrB h
    · simp
    · by_cases h3 : beTo L h L.length < 0
      · simp [h1, h3] <;> omega
      · simp [h1, h3] <;> omega
  · rw [if_neg h1]
    simp [h1]
theorem lu_rev {L : List Ru} {h : Int} (h0 : luN L h = 0) : luN L.reverse h = 0 := by
  rw [lu_0] at h0 ⊢
  obtain ⟨h1, h2, h3⟩ := h0
  refine ⟨tb_rev h1, h2, ?_⟩
  rcases Int.lt_or_le (beTo L.reverse h L.reverse.length) 0 with h' | h'
  · exfalso
    have hb := be_bd L h L.length
    have := be_no h' (L.length - 1 - (beTo L h L.length).toNat) (by rw [List.length_reverse]; omega)
    rw [rev_at (by omega), show L.length - 1 - (L.length - 1 - (beTo L h L.length).toNat) = (beTo L h L.length).toNat by omega, (be_yes h3).1] at this
    cases this
  · exact h'
theorem lu_iff {L : List Ru} {h : Int} : luN L.reverse h = 0 ↔ luN L h = 0 :=
  ⟨fun e => by have := lu_rev e; rwa [List.reverse_reverse] at this, lu_rev⟩
/-- However a table stands, the same rule counts. -/
theorem lu_same {L : List Ru} {h : Int} (h0 : luN L h = 0) : L.reverse.getD (luI L.reverse h).toNat zeR = L.getD (luI L h).toNat zeR ∧ (luI L.reverse h).toNat < L.length ∧ (luI L h).toNat < L.length ∧ 0 ≤ luI L.reverse h ∧ 0 ≤ luI L h := by
  have h1 := lu_rev h0
  have e1 : luI L h = beTo L h L.length := by simp [luI, h0]
  have e2 : luI L.reverse h = beTo L.reverse h L.reverse.length := by rw [luI, if_pos h1]
  rw [e1, e2]
  obtain ⟨a1, _, a3⟩ := lu_0.1 h0
  obtain ⟨_, _, b3⟩ := lu_0.1 h1
  have c1 := be_bd L h L.length
  have c2 := be_bd L.reverse h L.reverse.length
  rw [List.length_reverse] at *
  obtain ⟨d1, d2⟩ := be_yes a3
  obtain ⟨f1, f2⟩ := be_yes b3
  generalize hi : (beTo L h L.length).toNat = i at *
  generalize hk : (beTo L.reverse h L.length).toNat = k at *
  have hil : i < L.length := by omega
  have hkl : k < L.length := by omega
  refine ⟨?_, hkl, hil, b3, a3⟩
  rw [rev_at hkl] at f1 f2 ⊢
  have g1 := d2 (L.length - 1 - k) (by omega) f1
  have g2 := f2 (L.length - 1 - i) (by omega) (by rw [rev_at (by omega), show L.length - 1 - (L.length - 1 - i) = i by omega]; exact d1)
  rw [rev_at (by omega), show L.length - 1 - (L.length - 1 - i) = i by omega] at g2
  have g3 := ord_as g2 g1
  have hc := cl_no.1 (tb_0.1 a1).2.2
  rcases Nat.lt_trichotomy i (L.length - 1 - k) with h' | h' | h'
  · have := hc _ _ h' (by omega)
    rw [keyB, g3] at this
    cases this
  · rw [← h']
  · have := key_sym (hc _ _ h' hil)
    rw [keyB, g3] at this
    cases this
/-- The rule that counts has the header, and none that has it has a greater Prio. -/
theorem lu_top {L : List Ru} {h : Int} (h0 : luN L h = 0) : (L.getD (luI L h).toNat zeR).has h = true ∧ ∀ j, j < L.length → (L.getD j zeR).has h = true → (L.getD j zeR).p ≤ (L.getD (luI L h).toNat zeR).p := by
  have e1 : luI L h = beTo L h L.length := by simp [luI, h0]
  rw [e1]
  obtain ⟨d1, d2⟩ := be_yes (lu_0.1 h0).2.2
  refine ⟨d1, fun j hj hh => ?_⟩
  have := d2 j hj hh
  rw [ord_le] at this
  omega
end Go.Proofs.YtpmcjelihdlfeaaDoor
/- What Table of package rule answers, called with any table. -/
namespace Go.Proofs.YtpmcjelihdlfeaaDoor
open Go.RowKit
set_option linter.unusedSimpArgs false

/-- A rule lies at an address. -/
structure C6 (w : World) (g o : Nat) (r : Ru) : Prop where
  c0 : w.cell? ⟨g, o, none⟩ = some (.int .i64 r.p)
  c1 : w.cell? ⟨g, o + 1, none⟩ = some (.int .i64 r.m)
  c2 : w.cell? ⟨g, o + 2, none⟩ = some (.int .i64 r.b)
  c3 : w.cell? ⟨g, o + 3, none⟩ = some (.int .i64 r.o)
  c4 : w.cell? ⟨g, o + 4, none⟩ = some (.int .i64 r.s)
  c5 : w.cell? ⟨g, o + 5, none⟩ = some (.int .i64 r.v)
theorem C6.later {w w' : World} {g o : Nat} {r : Ru} (h : C6 w g o r) (hb : Below w.heap.size w w') : C6 w' g o r :=
  ⟨cell_later hb h.c0, cell_later hb h.c1, cell_later hb h.c2, cell_later hb h.c3, cell_later hb h.c4, cell_later hb h.c5⟩
theorem C6.new (w : World) (p m b o s v : Int) (t : TypeId) : C6 (w.alloc (Obj.cells #[Value.int IntKind.i64 p, Value.int IntKind.i64 m, Value.int IntKind.i64 b, Value.int IntKind.i64 o, Value.int IntKind.i64 s, Value.int IntKind.i64 v] t)) w.heap.size 0 ⟨p, m, b, o, s, v⟩ := by
  refine ⟨?_, ?_, ?_, ?_, ?_, ?_⟩ <;> simp
/-- These rules lie from an address on. -/
def RAt (w : World) (g o : Nat) (L : List Ru) : Prop := ∀ i (h : i < L.length), C6 w g (o + i * 6) L[i]
theorem RAt.later {w w' : World} {g o : Nat} {L : List Ru} (h : RAt w g o L) (hb : Below w.heap.size w w') : RAt w' g o L := fun i hi => (h i hi).later hb
theorem RAt.take {w : World} {g o : Nat} {L : List Ru} (h : RAt w g o L) (k : Nat) : RAt w g o (L.take k) := by
  intro i hi
  rw [List.getElem_take]
  exact h i (by simp at hi; omega)
/-- A value is a slice of these rules. -/
def SR (w : World) (v : Value) (L : List Ru) : Prop :=
  (∃ ao cap, v = .slice ao 0 cap ∧ L = []) ∨ ∃ g o cap, v = .slice (some ⟨g, o, none⟩) L.length cap ∧ L.length ≤ cap ∧ cap ≤ maxLen ∧ RAt w g o L
theorem SR.later {w w' : World} {v : Value} {L : List Ru} (h : SR w v L) (hb : Below w.heap.size w w') : SR w' v L := by
  rcases h with h | ⟨g, o, cap, h1, h2, h3, h4⟩
  · exact .inl h
  · exact .inr ⟨g, o, cap, h1, h2, h3, h4.later hb⟩
/-- The rule at a place, in letters. -/
theorem RAt.at {w : World} {g o : Nat} {L : List Ru} (h : RAt w g o L) {n k : Nat} (hn : L.length = n) (hk : k < n) :
    ∃ (p m b q s v : Int) (hl : k < L.length), L[k] = ⟨p, m, b, q, s, v⟩ ∧ (w.cell? ⟨g, o + k * 6, none⟩ = some (.int .i64 p) ∧ w.cell? ⟨g, o + k * 6 + 1, none⟩ = some (.int .i64 m) ∧ w.cell? ⟨g, o + k * 6 + 2, none⟩ = some (.int .i64 b) ∧
      w.cell? ⟨g, o + k * 6 + 3, none⟩ = some (.int .i64 q) ∧ w.cell? ⟨g, o + k * 6 + 4, none⟩ = some (.int .i64 s) ∧ w.cell? ⟨g, o + k * 6 + 5, none⟩ = some (.int .i64 v)) :=
  have hl : k < L.length := by omega
  have c := h k hl
  ⟨_, _, _, _, _, _, hl, rfl, c.c0, c.c1, c.c2, c.c3, c.c4, c.c5⟩

theorem key_ways (p m b o s v p' m' b' o' s' v' : Int) :
    ((p == p') = false ∧ keyB ⟨p, m, b, o, s, v⟩ ⟨p', m', b', o', s', v'⟩ = false) ∨ ((p == p') = true ∧ (m == m') = false ∧ keyB ⟨p, m, b, o, s, v⟩ ⟨p', m', b', o', s', v'⟩ = false) ∨
    ((p == p') = true ∧ (m == m') = true ∧ (b == b') = false ∧ keyB ⟨p, m, b, o, s, v⟩ ⟨p', m', b', o', s', v'⟩ = false) ∨ ((p == p') = true ∧ (m == m') = true ∧ (b == b') = true ∧ keyB ⟨p, m, b, o, s, v⟩ ⟨p', m', b', o', s', v'⟩ = true) := by
  rw [key_eq]
  by_cases h1 : p = p' <;> by_cases h2 : m = m' <;> by_cases h3 : b = b' <;> simp [h1, h2, h3]
set_option maxHeartbeats 1000000 in
theorem clash_any (p m b o s v p' m' b' o' s' v' : Int) (w : World) :
    Calls Tryd.prog 54 #[.agg #[.int .i64 p, .int .i64 m, .int .i64 b, .int .i64 o, .int .i64 s, .int .i64 v], .agg #[.int .i64 p', .int .i64 m', .int .i64 b', .int .i64 o', .int .i64 s', .int .i64 v']] w fun e w' => e = .returned (.bool (keyB ⟨p, m, b, o, s, v⟩ ⟨p', m', b', o', s', v'⟩)) ∧ Below w.heap.size w w' := by
  have HB : Hid (∀ o1 o2, Below w.heap.size w ((w.alloc o1).alloc o2)) := fun o1 o2 => ((Below.refl _ _).alloc (Nat.le_refl _) o1).alloc (by simp) o2
  rcases key_ways p m b o s v p' m' b' o' s' v' with ⟨e1, e⟩ | ⟨e1, e2, e⟩ | ⟨e1, e2, e3, e⟩ | ⟨e1, e2, e3, e⟩
  all_goals
    rw [e]
    clear e
    go_enter Tryd.func54, Tryd.ntmps54
    go_wp2
    go_ret
    exact ⟨rfl, HB.out _ _⟩

/-- A closure that asks something of a rule, in whatever world behind this one. -/
def Asks (w : World) (f : FuncId) (c : Value) (P : Ru → Bool) : Prop :=
  ∀ (p m b o s v : Int) (W : World), Below w.heap.size w W →
    Calls Tryd.prog f #[.agg #[.int .i64 p, .int .i64 m, .int .i64 b, .int .i64 o, .int .i64 s, .int .i64 v], c] W fun e w' => e = .returned (.bool (P ⟨p, m, b, o, s, v⟩)) ∧ Below W.heap.size W w'
theorem Asks.later {w w' : World} {f : FuncId} {c : Value} {P : Ru → Bool} (h : Asks w f c P) (hb : Below w.heap.size w w') : Asks w' f c P :=
  fun p m b o s v W hW => h p m b o s v W (hb.trans (hW.mono hb.size))

set_option maxHeartbeats 1000000 in
theorem table1_any (p m b o s v : Int) (r : Ru) (B : Nat) (w : World) (hc : C6 w B 0 r) :
    Calls Tryd.prog 53 #[.agg #[.int .i64 p, .int .i64 m, .int .i64 b, .int .i64 o, .int .i64 s, .int .i64 v], .pointer (some ⟨B, 0, none⟩)] w fun e w' => e = .returned (.bool (keyB ⟨p, m, b, o, s, v⟩ r)) ∧ Below w.heap.size w w' := by
  obtain ⟨p', m', b', o', s', v'⟩ := r
  obtain ⟨c0, c1, c2, c3, c4, c5⟩ := hc
  simp only [Nat.zero_add] at c0 c1 c2 c3 c4 c5
  have hlt : B < w.heap.size := World.block_lt_of_cell? _ _ c0
  go_enter Tryd.func53, Tryd.ntmps53
  go_wp2_with fail
  refine (clash_any _ _ _ _ _ _ _ _ _ _ _ _ _).mono ?_
  rintro e w1 ⟨rfl, hb1⟩
  go_wp2
  go_ret
  exact ⟨rfl, ((Below.refl _ _).alloc (Nat.le_refl _) _).trans (hb1.mono (by simp))⟩
theorem table1_asks (r : Ru) (B : Nat) (w : World) (hc : C6 w B 0 r) : Asks w 53 (.pointer (some ⟨B, 0, none⟩)) (fun a => keyB a r) :=
  fun p m b o s v W hW => table1_any p m b o s v r B W (hc.later hW)

theorem any_nextR {L : List Ru} {f : Ru → Bool} {k : Nat} (hk : k < L.length) (h : (L.take k).any f = false) (h2 : f L[k] = false) : (L.take (k + 1)).any f = false := by
  rw [List.take_succ_eq_append_getElem hk]
  simp only [List.any_append, h, List.any_cons, List.any_nil, h2, Bool.or_false]
theorem any_hitR {L : List Ru} {f : Ru → Bool} {k : Nat} (hk : k < L.length) (h2 : f L[k] = true) : L.any f = true := List.any_eq_true.2 ⟨_, List.getElem_mem hk, h2⟩
/-- The first place where something is so, or -1. -/
def ixP (f : Ru → Bool) (L : List Ru) : Int := if L.any f then (L.findIdx f : Int) else -1
theorem ixP_hit {L : List Ru} {f : Ru → Bool} {k : Nat} (hk : k < L.length) (h : (L.take k).any f = false) (h2 : f L[k] = true) : ixP f L = k := by
  rw [ixP, any_hitR hk h2, if_pos rfl]
  congr 1
  rw [List.findIdx_eq hk]
  refine ⟨h2, fun j hj => ?_⟩
  rw [List.any_eq_false] at h
  have := h L[j] (by rw [List.mem_take_iff_getElem]; exact ⟨j, by omega, rfl⟩)
  simpa using this
theorem ixP_no {L : List Ru} {f : Ru → Bool} (h : L.any f = false) : ixP f L = -1 := by simp [ixP, h]
theorem ixP_any (L : List Ru) (f : Ru → Bool) : decide (0 ≤ ixP f L) = L.any f := by
  unfold ixP
  cases L.any f
  · simp
  · simp
theorem SR.form {w : World} {v : Value} {L : List Ru} (h : SR w v L) : ∃ ao n cap, v = .slice ao n cap ∧ L.length = n ∧ n ≤ maxLen ∧ n ≤ cap ∧ (0 < n → ∃ g o, ao = some ⟨g, o, none⟩ ∧ RAt w g o L ∧ cap ≤ maxLen) := by
  rcases h with ⟨ao, cap, rfl, rfl⟩ | ⟨g, o, cap, rfl, h1, h2, h3⟩
  · exact ⟨ao, 0, cap, rfl, rfl, Nat.zero_le _, Nat.zero_le _, fun h => absurd h (by omega)⟩
  · exact ⟨_, _, cap, rfl, rfl, Nat.le_trans h1 h2, h1, fun _ => ⟨g, o, rfl, h3, h2⟩⟩

set_option maxHeartbeats 1000000 in
theorem idxF (ao : Option Addr) (n cap : Nat) (f : FuncId) (c : Value) (P : Ru → Bool) (L : List Ru) (w : World) (hn : L.length = n) (hn2 : n ≤ maxLen) (ha : 0 < n → ∃ g o, ao = some ⟨g, o, none⟩ ∧ RAt w g o L ∧ cap ≤ maxLen) (he : ∀ args w, (callFunc f args).run Tryd.prog w = .ok (.enter f args) w) (hf : Asks w f c P) :
    Calls Tryd.prog 77 #[.slice ao n cap, .func (Fn.func f) #[] #[c]] w fun e w' => e = .returned (.int .i64 (ixP P L)) ∧ Below w.heap.size w w' := by
  have HN : Hid (L.length = n) := hn
  have HF : Hid (Asks w f c P) := hf
  have HA : Hid (0 < n → ∃ g o, ao = some ⟨g, o, none⟩ ∧ RAt w g o L ∧ cap ≤ maxLen) := ha
  unfold maxLen at hn2
  clear hn hf ha
  go_enter Tryd.func77, Tryd.ntmps77
  go_wp2
  go_loopw [8] (fun i wr => ∃ k : Nat, k ≤ n ∧ i = .int .i64 k ∧ (L.take k).any P = false ∧ Below w.heap.size w wr)
    (fun i _ => n - (intOf i).toNat)
  case atStart => exact ⟨0, by omega, rfl, by simp, Below.refl _ _⟩
  case round =>
    obtain ⟨k, hk, rfl, hno, hB⟩ := hrel
    have HB : Hid (Below w.heap.size w wr) := hB
    have HNO : Hid ((L.take k).any P = false) := hno
    clear hno
    by_cases hlt : k < n
    · obtain ⟨g, o, hao, hc, _⟩ := HA.out (by omega)
      subst hao
      obtain ⟨p, m, b, q, s, v, hkl, hL, q0, q1, q2, q3, q4, q5⟩ := (hc.later hB).at HN.out hlt
      have HL : Hid (L[k] = ⟨p, m, b, q, s, v⟩) := hL
      clear hL hB
      cases ho : P ⟨p, m, b, q, s, v⟩
      · go_wp2_with fail
        refine (HF.out p m b q s v _ HB.out).mono ?_
        rintro e w1 ⟨rfl, hb1⟩
        rw [ho]
        have HB1 := HB.out.trans (hb1.mono HB.out.size)
        clear hb1
        go_wp2
        go_roundw
        case rel => exact ⟨k + 1, by omega, by go_num, any_nextR hkl HNO.out (by rw [HL.out]; exact ho), HB1⟩
        case measure => simp [intOf]; omega
      · go_wp2_with fail
        refine (HF.out p m b q s v _ HB.out).mono ?_
        rintro e w1 ⟨rfl, hb1⟩
        rw [ho]
        go_wp2
        go_ret
        exact ⟨by rw [ixP_hit hkl HNO.out (by rw [HL.out]; exact ho)]; rfl, HB.out.trans (hb1.mono HB.out.size)⟩
    · obtain rfl : k = n := by omega
      go_wp2
      go_ret
      exact ⟨by have := HNO.out; rw [← HN.out, List.take_length] at this; rw [ixP_no this]; rfl, HB.out⟩

set_option maxHeartbeats 1000000 in
theorem containsF (ao : Option Addr) (n cap : Nat) (f : FuncId) (c : Value) (P : Ru → Bool) (L : List Ru) (w : World) (hn : L.length = n) (hn2 : n ≤ maxLen) (ha : 0 < n → ∃ g o, ao = some ⟨g, o, none⟩ ∧ RAt w g o L ∧ cap ≤ maxLen) (he : ∀ args w, (callFunc f args).run Tryd.prog w = .ok (.enter f args) w) (hf : Asks w f c P) :
    Calls Tryd.prog 52 #[.slice ao n cap, .func (Fn.func f) #[] #[c]] w fun e w' => e = .returned (.bool (L.any P)) ∧ Below w.heap.size w w' := by
  rw [← ixP_any]
  obtain ⟨x, hx⟩ : ∃ x, x = ixP P L := ⟨_, rfl⟩
  have HX : Hid (x = ixP P L) := hx
  rw [← hx]
  clear hx
  go_enter Tryd.func52, Tryd.ntmps52
  go_wp2_with fail
  refine (idxF ao n cap f c P L _ hn hn2 ha he hf).mono ?_
  rintro e w1 ⟨rfl, hb1⟩
  rw [← HX.out]
  go_wp2
  go_ret
  exact ⟨rfl, hb1⟩
theorem containsR_any (g o cap n B : Nat) (r : Ru) (L : List Ru) (w : World) (hc : RAt w g o L) (hn : L.length = n) (hn2 : n ≤ maxLen) (hcap : cap ≤ maxLen) (hr : C6 w B 0 r) :
    Calls Tryd.prog 52 #[.slice (some ⟨g, o, none⟩) n cap, .func (Fn.func 53) #[] #[.pointer (some ⟨B, 0, none⟩)]] w fun e w' => e = .returned (.bool (L.any (fun a => keyB a r))) ∧ Below w.heap.size w w' :=
  containsF _ n cap _ _ _ L w hn hn2 (fun _ => ⟨g, o, rfl, hc, hcap⟩) (enters_of Tryd.func53 (by kernel_rfl) rfl) (table1_asks r B w hr)
end Go.Proofs.YtpmcjelihdlfeaaDoor
/- Two rules at two addresses: a class of worlds. -/
namespace Go.Proofs.YtpmcjelihdlfeaaDoor
open Go.RowKit

/-- Two rules at two addresses. -/
def CD (w : World) (g o : Nat) (p m b q s v : Int) (g' o' : Nat) (p' m' b' q' s' v' : Int) (w' : World) : Prop :=
  Below w.heap.size w w' ∧ (w'.cell? ⟨g, o, none⟩ = some (.int .i64 p) ∧ w'.cell? ⟨g, o + 1, none⟩ = some (.int .i64 m) ∧ w'.cell? ⟨g, o + 2, none⟩ = some (.int .i64 b) ∧
    w'.cell? ⟨g, o + 3, none⟩ = some (.int .i64 q) ∧ w'.cell? ⟨g, o + 4, none⟩ = some (.int .i64 s) ∧ w'.cell? ⟨g, o + 5, none⟩ = some (.int .i64 v)) ∧
  w'.cell? ⟨g', o', none⟩ = some (.int .i64 p') ∧ w'.cell? ⟨g', o' + 1, none⟩ = some (.int .i64 m') ∧ w'.cell? ⟨g', o' + 2, none⟩ = some (.int .i64 b') ∧
    w'.cell? ⟨g', o' + 3, none⟩ = some (.int .i64 q') ∧ w'.cell? ⟨g', o' + 4, none⟩ = some (.int .i64 s') ∧ w'.cell? ⟨g', o' + 5, none⟩ = some (.int .i64 v')
theorem CD.later {w W W' : World} {g o : Nat} {p m b q s v : Int} {g' o' : Nat} {p' m' b' q' s' v' : Int} (hb : Below W.heap.size W W') (h : CD w g o p m b q s v g' o' p' m' b' q' s' v' W) : CD w g o p m b q s v g' o' p' m' b' q' s' v' W' := by
  obtain ⟨h0, ⟨h1, h2, h3, h4, h5, h6⟩, k1, k2, k3, k4, k5, k6⟩ := h
  exact ⟨h0.trans (hb.mono h0.size), ⟨cell_later hb h1, cell_later hb h2, cell_later hb h3, cell_later hb h4, cell_later hb h5, cell_later hb h6⟩, cell_later hb k1, cell_later hb k2, cell_later hb k3, cell_later hb k4, cell_later hb k5, cell_later hb k6⟩

end Go.Proofs.YtpmcjelihdlfeaaDoor
/- Rules as text, in plain bytes: no program in it. -/
namespace Go.Proofs.YtpmcjelihdlfeaaDoor
open Go.RowKit

/-- A number from 0 to 99 in digits. -/
def dgS (p : Int) : ByteArray := if p < 10 then strOfNums [48 + p] else strOfNums [48 + p / 10, 48 + p % 10]
/-- The number that the first digits of a text come to. -/
def dcTo (s : ByteArray) : Nat → Int
  | 0 => 0
  | k + 1 => 10 * dcTo s k + ((byteN s k : Nat) - 48)
def digB (c : Nat) : Bool := decide (48 ≤ c) && decide (c ≤ 57)
def dgTo (s : ByteArray) : Nat → Bool
  | 0 => true
  | k + 1 => dgTo s k && digB (byteN s k)
/-- Is the length of a number's text right, and has it no needless 0? -/
def dcHd (s : ByteArray) : Bool := decide (1 ≤ s.size) && (decide (s.size ≤ 9) && (!(byteN s 0 == 48) || s.size == 1))
/-- Is a text a number's? -/
def dcOk (s : ByteArray) : Bool := dcHd s && dgTo s s.size
def dcN (s : ByteArray) : Int := if dcOk s then dcTo s s.size else 0

theorem dg_le {s : ByteArray} : ∀ {n k : Nat}, k < n → dgTo s n = true → digB (byteN s k) = true
  | 0, _, h, _ => absurd h (Nat.not_lt_zero _)
  | n + 1, k, h, hm => by
    simp only [dgTo, Bool.and_eq_true] at hm
    by_cases e : k = n
    · subst e; exact hm.2
    · exact dg_le (by omega) hm.1
theorem dig_of {c : Nat} (h : digB c = true) : 48 ≤ c ∧ c ≤ 57 := by simpa [digB] using h
theorem dc_bd {s : ByteArray} : ∀ {k : Nat}, dgTo s k = true → 0 ≤ dcTo s k ∧ dcTo s k < 10 ^ k
  | 0, _ => by simp [dcTo]
  | k + 1, h => by
    simp only [dgTo, Bool.and_eq_true] at h
    have h1 := dc_bd h.1
    have h2 := dig_of h.2
    simp only [dcTo, Int.pow_succ]
    omega

/-- The place of the first blank. -/
def blAt (s : ByteArray) : Int := Lib.indexByte s.data.toList 32
/-- A text cut at its first k blanks. -/
def cutB : Nat → ByteArray → List ByteArray
  | 0, s => [s]
  | k + 1, s => if blAt s = -1 then [s] else s.extract 0 (blAt s).toNat :: cutB k (s.extract ((blAt s).toNat + 1) s.size)

theorem cut_miss {s : ByteArray} (k : Nat) (h : blAt s = -1) : cutB k s = [s] := by
  cases k with
  | zero => rfl
  | succ k => rw [cutB, if_pos h]
theorem cut_hit {s : ByteArray} (k : Nat) {i : Nat} (h : blAt s = i) : cutB (k + 1) s = s.extract 0 i :: cutB k (s.extract (i + 1) s.size) := by
  have hm : ¬ blAt s = -1 := by omega
  have e : (blAt s).toNat = i := by omega
  rw [cutB, if_neg hm, e]
theorem bl_cases (s : ByteArray) : blAt s = -1 ∨ ∃ i : Nat, blAt s = i ∧ i < s.size := by
  have h := Lib.indexByte_ge s.data.toList 32
  by_cases e : blAt s = -1
  · exact .inl e
  · right
    have e' : 0 ≤ blAt s := by unfold blAt at *; omega
    obtain ⟨i, hi⟩ := Int.eq_ofNat_of_zero_le e'
    refine ⟨i, hi, ?_⟩
    have := (Lib.indexByte_some hi).1
    have hlt := (List.getElem?_eq_some_iff.1 this).1
    simpa using hlt
theorem cut_len : ∀ (k : Nat) (s : ByteArray), (cutB k s).length ≤ k + 1 ∧ 1 ≤ (cutB k s).length
  | 0, _ => by simp [cutB]
  | k + 1, s => by
    rcases bl_cases s with h | ⟨i, h, _⟩
    · rw [cut_miss _ h]; simp
    · rw [cut_hit _ h]
      have := cut_len k (s.extract (i + 1) s.size)
      simp
      omega
end Go.Proofs.YtpmcjelihdlfeaaDoor
/- What the document's own functions on rules and tables come to, in plain numbers: no program in it. -/
namespace Go.Proofs.YtpmcjelihdlfeaaDoor
open Go.RowKit

/-- Is the i-th bit of what a rule makes of a header set? -/
def tuB (s v h : Int) (i : Nat) : Bool := bitB s i && bitB v i || !bitB s i && bitB h i
/-- The upper k bits of it. -/
def tuTo (s v h : Int) : Nat → Int
  | 0 => 0
  | k + 1 => if tuB s v h (3 - k) then tuTo s v h k * 2 + 1 else tuTo s v h k * 2
theorem tu_bd (s v h : Int) : ∀ k, 0 ≤ tuTo s v h k ∧ tuTo s v h k < 2 ^ k
  | 0 => by simp [tuTo]
  | k + 1 => by
    have := tu_bd s v h k
    have e : (2 : Int) ^ (k + 1) = 2 ^ k * 2 := Int.pow_succ ..
    unfold tuTo
    split <;> omega
set_option maxRecDepth 100000 in
theorem tu_fin : ∀ (s v h : Fin 16), ((bits .andNot .i64 ((v : Nat) : Int) ((s : Nat) : Int) == 0) && !(tuTo ((s : Nat) : Int) ((v : Nat) : Int) ((h : Nat) : Int) 4 == apV ((s : Nat) : Int) ((v : Nat) : Int) ((h : Nat) : Int))) = false := by decide +kernel
theorem fin16 {x : Int} (h : 0 ≤ x ∧ x < 16) : ∃ i : Fin 16, x = ((i : Nat) : Int) := ⟨⟨x.toNat, by omega⟩, by simp; omega⟩
/-- Bit by bit it is what the program reckons at once. -/
theorem tu_ap {s v h : Int} (hs : 0 ≤ s ∧ s < 16) (hv : 0 ≤ v ∧ v < 16) (hh : 0 ≤ h ∧ h < 16) (hz : (bits .andNot .i64 v s == 0) = true) : tuTo s v h 4 = apV s v h := by
  obtain ⟨a, rfl⟩ := fin16 hs
  obtain ⟨b, rfl⟩ := fin16 hv
  obtain ⟨c, rfl⟩ := fin16 hh
  have := tu_fin a b c
  rw [hz] at this
  simpa using this
/-- Does a header count for the rule at a place, among the first k headers? -/
def shB (L : List Ru) (i k : Nat) : Bool := (List.range k).any fun h => beTo L (h : Int) L.length == (i : Int)
theorem sh_0 (L : List Ru) (i : Nat) : shB L i 0 = false := rfl
theorem shB_next (L : List Ru) (i k : Nat) : shB L i (k + 1) = (shB L i k || (beTo L (k : Int) L.length == (i : Int))) := by
  simp [shB, List.range_succ]
/-- The places of rules among the first k that count for no header. -/
def deTo (L : List Ru) : Nat → List Int
  | 0 => []
  | k + 1 => if shB L k 16 then deTo L k else deTo L k ++ [(k : Int)]
theorem deTo_len (L : List Ru) : ∀ k, (deTo L k).length ≤ k
  | 0 => by simp [deTo]
  | k + 1 => by
    have := deTo_len L k
    unfold deTo
    split
    · omega
    · simp; omega
def deadL (L : List Ru) : List Int := if tbN L = 0 then deTo L L.length else []
theorem tb_le {L : List Ru} (h : tbN L = 0) : L.length ≤ 12 := (tb_0.1 h).1
theorem dead_len (L : List Ru) : (deadL L).length ≤ 12 := by
  unfold deadL
  split
  · next h => exact Nat.le_trans (deTo_len L _) (tb_le h)
  · simp
/-- Does a rule count ahead of another one, in the document's words? -/
def abB (a b : Ru) : Bool := if a.p = b.p then (if a.m = b.m then decide (b.b < a.b) else decide (b.m < a.m)) else decide (b.p < a.p)
theorem ab_ord (a b : Ru) : abB a b = decide (0 < ordR a b) := by
  have h : ordR a b ≤ 0 ↔ _ := ord_le (a := a) (b := b)
  unfold abB
  split
  · split <;> (rw [decide_eq_decide]; omega)
  · rw [decide_eq_decide]; omega
end Go.Proofs.YtpmcjelihdlfeaaDoor
/- A region that draws its order and only reads, in a class of worlds: its operations, one by one, in the order of the text. -/
namespace Go.Proofs.YtpmcjelihdlfeaaDoor
open Go.RowKit

theorem quiet_val {P : Program} {o : Oper} {a : Act} {C : World → Prop} {K : Act → Prop} {v : Value}
    (hy : ∀ w, C w → (execOp a.eval o).run P w = .ok (.value v) w) (h : K (a.put o.dst v)) : o.quiet P a C K :=
  ⟨v, fun w hC => by unfold Oper.quietAt; rw [hy w hC]; exact ⟨rfl, rfl⟩, h⟩
theorem quiet_call {P : Program} {o : Oper} {a : Act} {C : World → Prop} {K : Act → Prop} {v : Value} {f : FuncId} {args : Array Value}
    (he : ∀ w, (execOp a.eval o).run P w = .ok (.enter f args) w) (hc : ∀ w, C w → Calls P f args w fun e w'' => e = .returned v ∧ C w'') (h : K (a.put o.dst v)) : o.quiet P a C K :=
  ⟨v, fun w hC => by unfold Oper.quietAt; rw [he w]; exact ⟨rfl, hc w hC⟩, h⟩
theorem q_want {P : Program} {ops : Array Oper} {C : World → Prop} {Q : Act → Prop} {a : Act} {o : Oper} {rest : List Oper} (hw : Region.wanted o (yielded ops a.tmps) = true)
    (h : ∀ K : Act → Prop, (∀ a, wpQuiet P ops C Q rest a → K a) → o.quiet P a C K) : wpQuiet P ops C Q (o :: rest) a :=
  wpQuiet_step (fun K hK => by rw [if_pos hw]; exact h K hK)
theorem q_skip {P : Program} {ops : Array Oper} {C : World → Prop} {Q : Act → Prop} {a : Act} {o : Oper} {rest : List Oper} (hw : Region.wanted o (yielded ops a.tmps) = false)
    (h : wpQuiet P ops C Q rest (a.put o.dst undef)) : wpQuiet P ops C Q (o :: rest) a := by
  unfold wpQuiet
  rw [if_neg (by rw [hw]; exact Bool.false_ne_true)]
  exact h
/-- An operation on two values whose run is known. -/
theorem exec_bin {P : Program} {o : Oper} {a : Act} {w : World} {op : BinOp} {t t2 : TypeId} {x y : Operand} {v : Value} (ho : o.op = .binOp op t x y t2) (hg : (eqGuard op t x y (a.eval x) (a.eval y)).run P w = .ok () w)
    (h : (binOp op t (a.eval x) (a.eval y)).run P w = .ok v w) : (execOp a.eval o).run P w = .ok (.value v) w := by
  simp [execOp, ho, hg, h, Result.andThen]
theorem run_eql_of {P : Program} {w : World} {t : TypeId} {x y : Array Value} {b : Bool} (h : (Op.equal t (.agg x) (.agg y)).run P w = .ok b w) : (binOp .eql t (.agg x) (.agg y)).run P w = .ok (.bool b) w := by
  simp [binOp, h]
theorem run_neq_of {P : Program} {w : World} {t : TypeId} {x y : Array Value} {b : Bool} (h : (Op.equal t (.agg x) (.agg y)).run P w = .ok b w) : (binOp .neq t (.agg x) (.agg y)).run P w = .ok (.bool (!b)) w := by
  simp [binOp, h]
end Go.Proofs.YtpmcjelihdlfeaaDoor
/- What the document's own above and Find answer, called with any rules and any table. -/
namespace Go.Proofs.YtpmcjelihdlfeaaDoor
open Go.RowKit
set_option linter.unusedSimpArgs false

set_option maxHeartbeats 1000000 in
theorem above_abB (p m b o s v p' m' b' o' s' v' : Int) (w : World) :
    Calls Tryd.prog 30 #[.agg #[.int .i64 p, .int .i64 m, .int .i64 b, .int .i64 o, .int .i64 s, .int .i64 v], .agg #[.int .i64 p', .int .i64 m', .int .i64 b', .int .i64 o', .int .i64 s', .int .i64 v']] w fun e w' => e = .returned (.bool (abB ⟨p, m, b, o, s, v⟩ ⟨p', m', b', o', s', v'⟩)) ∧ Below w.heap.size w w' := by
  by_cases h1 : p = p'
  · subst h1
    by_cases h2 : m = m'
    · subst h2
      have e : abB ⟨p, m, b, o, s, v⟩ ⟨p, m, b', o', s', v'⟩ = decide (b' < b) := by simp [abB]
      rw [e]; clear e
      go_enter Tryd.func30, Tryd.ntmps30
      go_wp2
      go_ret
      exact ⟨rfl, ((Below.refl _ _).alloc (Nat.le_refl _) _).alloc (by simp) _⟩
    · have e : abB ⟨p, m, b, o, s, v⟩ ⟨p, m', b', o', s', v'⟩ = decide (m' < m) := by simp [abB, h2]
      have h3 : (m != m') = true := by simpa using h2
      rw [e]; clear e
      go_enter Tryd.func30, Tryd.ntmps30
      go_wp2
      go_ret
      exact ⟨rfl, ((Below.refl _ _).alloc (Nat.le_refl _) _).alloc (by simp) _⟩
  · have e : abB ⟨p, m, b, o, s, v⟩ ⟨p', m', b', o', s', v'⟩ = decide (p' < p) := by simp [abB, h1]
    have h3 : (p != p') = true := by simpa using h1
    rw [e]; clear e
    go_enter Tryd.func30, Tryd.ntmps30
    go_wp2
    go_ret
    exact ⟨rfl, ((Below.refl _ _).alloc (Nat.le_refl _) _).alloc (by simp) _⟩

theorem above_any (p m b o s v p' m' b' o' s' v' : Int) (w : World) :
    Calls Tryd.prog 30 #[.agg #[.int .i64 p, .int .i64 m, .int .i64 b, .int .i64 o, .int .i64 s, .int .i64 v], .agg #[.int .i64 p', .int .i64 m', .int .i64 b', .int .i64 o', .int .i64 s', .int .i64 v']] w fun e w' => e = .returned (.bool (decide (0 < ordR ⟨p, m, b, o, s, v⟩ ⟨p', m', b', o', s', v'⟩))) ∧ Below w.heap.size w w' :=
  (above_abB p m b o s v p' m' b' o' s' v' w).mono fun e w' h => ⟨by rw [h.1, ab_ord], h.2⟩

theorem be_nextF {L : List Ru} {h : Int} {k : Nat} (x : Int) (hx : x = beTo L h k) (y : Bool) (hy : ((L.getD k zeR).has h && (decide (x < 0) || decide (0 < ordR (L.getD k zeR) (L.getD x.toNat zeR)))) = y) : beTo L h (k + 1) = if y then (k : Int) else x := by
  subst hx
  rw [beTo, hy]

set_option maxHeartbeats 1000000 in
theorem find_some (g o cap n : Nat) (h : Int) (L : List Ru) (w : World) (hc : RAt w g o L) (hn : L.length = n) (hcap2 : n ≤ maxLen) :
    Calls Tryd.prog 12 #[.slice (some ⟨g, o, none⟩) n cap, .int .i64 h] w fun e w' => e = .returned (.int .i64 (beTo L h n)) ∧ Below w.heap.size w w' := by
  have HN : Hid (L.length = n) := hn
  unfold maxLen at hcap2
  clear hn
  go_enter Tryd.func12, Tryd.ntmps12
  go_wp2
  go_loopw [5, 6] (fun x i wr => ∃ k : Nat, k ≤ n ∧ x = .int .i64 (beTo L h k) ∧ i = .int .i64 k ∧ Below w.heap.size w wr) (fun _ i _ => n - (intOf i).toNat)
  case atStart => exact ⟨0, by omega, rfl, rfl, Below.refl _ _⟩
  case round =>
    obtain ⟨k, hk, rfl, rfl, hB⟩ := hrel
    have hbd := be_bd L h k
    generalize hx : beTo L h k = x at *
    have HX : Hid (x = beTo L h k) := hx.symm
    obtain ⟨x0, x1⟩ := hbd
    clear hx
    have HB : Hid (Below w.heap.size w wr) := hB
    by_cases hlt : k < n
    · obtain ⟨p, m, b, q, s, v, hkl, hL, q0, q1, q2, q3, q4, q5⟩ := (hc.later hB).at HN.out hlt
      have HK : Hid (L.getD k zeR = ⟨p, m, b, q, s, v⟩) := (getD_at hkl).trans hL
      have HCC : Hid (RAt wr g o L) := hc.later hB
      clear hL hB
      go_wp2_with fail
      refine (refHas_any _ _ _ _).mono ?_
      rintro e w1 ⟨rfl, hb1⟩
      have HCC1 : Hid (RAt w1 g o L) := HCC.out.later hb1
      have HB1 : Hid (Below w.heap.size w w1) := HB.out.trans (hb1.mono HB.out.size)
      clear hb1 q0 q1 q2 q3 q4 q5 HCC
      generalize hY : hasB m b h = Y
      have HY : Hid (hasB m b h = Y) := hY
      clear hY
      go_upto_region 6 with fail
      have kb0 : (0 : Int) ≤ (k : Int) := by omega
      have kb1 : (k : Int) < (n : Int) := by omega
      go_cut [36] from 8 to 37 (fun c w' => c = .bool (Y && (decide (x < 0) || decide (0 < ordR (L.getD k zeR) (L.getD x.toNat zeR)))) ∧ Below w.heap.size w w')
      case first =>
        cases Y
        · refine wp_region_quiet (C := fun w' => Below w.heap.size w w') (by kernel_rfl) (by kernel_rfl) (Below.drew HB1.out) ?_
          simp only [List.toList_toArray]
          go_big_quiet_want
          refine quiet_val (v := .bool false) (fun w' hC => ?_) ?_
          · obtain z0 := hC
            go_simp
          simp only [Act.put, List.setIfInBounds_toArray, List.set_cons_zero, List.set_cons_succ]
          go_big_quiet_on
          go_big_quiet_want
          refine quiet_val (v := .bool false) (fun w' hC => ?_) ?_
          · obtain z0 := hC
            go_simp
          simp only [Act.put, List.setIfInBounds_toArray, List.set_cons_zero, List.set_cons_succ]
          go_big_quiet_on
          go_big_quiet_skip
          go_big_quiet_skip
          go_big_quiet_skip
          go_big_quiet_skip
          go_big_quiet_skip
          go_big_quiet_skip
          go_big_quiet_skip
          go_big_quiet_skip
          go_big_quiet_skip
          go_big_quiet_skip
          go_big_quiet_skip
          go_big_quiet_skip
          go_big_quiet_skip
          go_big_quiet_want
          refine quiet_val (v := .bool false) (fun w' hC => ?_) ?_
          · obtain z0 := hC
            go_simp
          simp only [Act.put, List.setIfInBounds_toArray, List.set_cons_zero, List.set_cons_succ]
          go_big_quiet_on
          refine wpQuiet_nil ?_
          intro w' hC
          go_wp2_with fail
          go_meet
          case rel => exact ⟨rfl, hC⟩
        · by_cases hx0 : x < 0
          · have hx1 : decide (x < 0) = true := by simpa using hx0
            refine wp_region_quiet (C := fun w' => Below w.heap.size w w') (by kernel_rfl) (by kernel_rfl) (Below.drew HB1.out) ?_
            simp only [List.toList_toArray]
            go_big_quiet_want
            refine quiet_val (v := .bool true) (fun w' hC => ?_) ?_
            · obtain z0 := hC
              go_simp
            simp only [Act.put, List.setIfInBounds_toArray, List.set_cons_zero, List.set_cons_succ]
            go_big_quiet_on
            go_big_quiet_want
            refine quiet_val (v := .bool true) (fun w' hC => ?_) ?_
            · obtain z0 := hC
              go_simp
            simp only [Act.put, List.setIfInBounds_toArray, List.set_cons_zero, List.set_cons_succ]
            go_big_quiet_on
            go_big_quiet_want
            refine quiet_val (v := .int .i64 x) (fun w' hC => ?_) ?_
            · obtain z0 := hC
              go_simp
            simp only [Act.put, List.setIfInBounds_toArray, List.set_cons_zero, List.set_cons_succ]
            go_big_quiet_on
            go_big_quiet_want
            refine quiet_val (v := .bool true) (fun w' hC => ?_) ?_
            · obtain z0 := hC
              go_simp
            simp only [Act.put, List.setIfInBounds_toArray, List.set_cons_zero, List.set_cons_succ]
            go_big_quiet_on
            go_big_quiet_want
            refine quiet_val (v := .bool true) (fun w' hC => ?_) ?_
            · obtain z0 := hC
              go_simp
            simp only [Act.put, List.setIfInBounds_toArray, List.set_cons_zero, List.set_cons_succ]
            go_big_quiet_on
            go_big_quiet_skip
            go_big_quiet_skip
            go_big_quiet_skip
            go_big_quiet_skip
            go_big_quiet_skip
            go_big_quiet_skip
            go_big_quiet_skip
            go_big_quiet_skip
            go_big_quiet_skip
            go_big_quiet_want
            refine quiet_val (v := .bool true) (fun w' hC => ?_) ?_
            · obtain z0 := hC
              go_simp
            simp only [Act.put, List.setIfInBounds_toArray, List.set_cons_zero, List.set_cons_succ]
            go_big_quiet_on
            go_big_quiet_want
            refine quiet_val (v := .bool true) (fun w' hC => ?_) ?_
            · obtain z0 := hC
              go_simp
            simp only [Act.put, List.setIfInBounds_toArray, List.set_cons_zero, List.set_cons_succ]
            go_big_quiet_on
            refine wpQuiet_nil ?_
            intro w' hC
            go_wp2_with fail
            go_meet
            case rel => exact ⟨by rw [hx1]; rfl, hC⟩
          · obtain ⟨y, hy⟩ : ∃ y : Nat, x = (y : Int) := ⟨x.toNat, by omega⟩
            have hx2 : decide ((y : Int) < 0) = false := by simp
            subst hy
            obtain ⟨p2, m2, b2, q2, s2, v2, hyl, hLy, y0, y1, y2, y3, y4, y5⟩ := HCC1.out.at HN.out (show y < n by omega)
            obtain ⟨p1, m1, b1, q1, s1, v1, hkl1, hLk, r0, r1, r2, r3, r4, r5⟩ := HCC1.out.at HN.out hlt
            have E := HK.out
            rw [getD_at hkl1, hLk] at E
            simp only [Ru.mk.injEq] at E
            obtain ⟨rfl, rfl, rfl, rfl, rfl, rfl⟩ := E
            have HYL : Hid (L.getD ((y : Nat) : Int).toNat zeR = ⟨p2, m2, b2, q2, s2, v2⟩) := by
              show L.getD ((y : Nat) : Int).toNat zeR = _
              rw [Int.toNat_natCast, getD_at hyl, hLy]
            have yb0 : (0 : Int) ≤ (y : Int) := by omega
            have yb1 : ((y : Int)) < (n : Int) := by omega
            have hS0 : CD w g (o + k * 6) p1 m1 b1 q1 s1 v1 g (o + y * 6) p2 m2 b2 q2 s2 v2 w1 := ⟨HB1.out, ⟨r0, r1, r2, r3, r4, r5⟩, y0, y1, y2, y3, y4, y5⟩
            clear y0 y1 y2 y3 y4 y5 r0 r1 r2 r3 r4 r5 hLy hLk
            refine wp_region_quiet (C := CD w g (o + k * 6) p1 m1 b1 q1 s1 v1 g (o + y * 6) p2 m2 b2 q2 s2 v2) (by kernel_rfl) (by kernel_rfl) (CD.later (W := w1) (Below.drew (Below.refl _ _)) hS0) ?_
            simp only [List.toList_toArray]
            go_big_quiet_want
            refine quiet_val (v := .bool true) (fun w' hC => ?_) ?_
            · obtain ⟨z0, ⟨z1, z2, z3, z4, z5, z6⟩, y1, y2, y3, y4, y5, y6⟩ := hC
              go_simp
            simp only [Act.put, List.setIfInBounds_toArray, List.set_cons_zero, List.set_cons_succ]
            go_big_quiet_on
            go_big_quiet_want
            refine quiet_val (v := .bool true) (fun w' hC => ?_) ?_
            · obtain ⟨z0, ⟨z1, z2, z3, z4, z5, z6⟩, y1, y2, y3, y4, y5, y6⟩ := hC
              go_simp
            simp only [Act.put, List.setIfInBounds_toArray, List.set_cons_zero, List.set_cons_succ]
            go_big_quiet_on
            go_big_quiet_want
            refine quiet_val (v := .int .i64 (y : Int)) (fun w' hC => ?_) ?_
            · obtain ⟨z0, ⟨z1, z2, z3, z4, z5, z6⟩, y1, y2, y3, y4, y5, y6⟩ := hC
              go_simp
            simp only [Act.put, List.setIfInBounds_toArray, List.set_cons_zero, List.set_cons_succ]
            go_big_quiet_on
            go_big_quiet_want
            refine quiet_val (v := .bool false) (fun w' hC => ?_) ?_
            · obtain ⟨z0, ⟨z1, z2, z3, z4, z5, z6⟩, y1, y2, y3, y4, y5, y6⟩ := hC
              go_simp
            simp only [Act.put, List.setIfInBounds_toArray, List.set_cons_zero, List.set_cons_succ]
            go_big_quiet_on
            go_big_quiet_want
            refine quiet_val (v := .bool false) (fun w' hC => ?_) ?_
            · obtain ⟨z0, ⟨z1, z2, z3, z4, z5, z6⟩, y1, y2, y3, y4, y5, y6⟩ := hC
              go_simp
            simp only [Act.put, List.setIfInBounds_toArray, List.set_cons_zero, List.set_cons_succ]
            go_big_quiet_on
            go_big_quiet_want
            refine quiet_val (v := .slice (some ⟨g, o, none⟩) n cap) (fun w' hC => ?_) ?_
            · obtain ⟨z0, ⟨z1, z2, z3, z4, z5, z6⟩, y1, y2, y3, y4, y5, y6⟩ := hC
              go_simp
            simp only [Act.put, List.setIfInBounds_toArray, List.set_cons_zero, List.set_cons_succ]
            go_big_quiet_on
            go_big_quiet_want
            refine quiet_val (v := .int .i64 (k : Int)) (fun w' hC => ?_) ?_
            · obtain ⟨z0, ⟨z1, z2, z3, z4, z5, z6⟩, y1, y2, y3, y4, y5, y6⟩ := hC
              go_simp
            simp only [Act.put, List.setIfInBounds_toArray, List.set_cons_zero, List.set_cons_succ]
            go_big_quiet_on
            go_big_quiet_want
            refine quiet_val (v := .pointer (some ⟨g, o + k * 6, none⟩)) (fun w' hC => ?_) ?_
            · obtain ⟨z0, ⟨z1, z2, z3, z4, z5, z6⟩, y1, y2, y3, y4, y5, y6⟩ := hC
              go_simp
            simp only [Act.put, List.setIfInBounds_toArray, List.set_cons_zero, List.set_cons_succ]
            go_big_quiet_on
            go_big_quiet_want
            refine quiet_val (v := .agg #[.int .i64 p1, .int .i64 m1, .int .i64 b1, .int .i64 q1, .int .i64 s1, .int .i64 v1]) (fun w' hC => ?_) ?_
            · obtain ⟨z0, ⟨z1, z2, z3, z4, z5, z6⟩, y1, y2, y3, y4, y5, y6⟩ := hC
              go_simp
            simp only [Act.put, List.setIfInBounds_toArray, List.set_cons_zero, List.set_cons_succ]
            go_big_quiet_on
            go_big_quiet_want
            refine quiet_val (v := .slice (some ⟨g, o, none⟩) n cap) (fun w' hC => ?_) ?_
            · obtain ⟨z0, ⟨z1, z2, z3, z4, z5, z6⟩, y1, y2, y3, y4, y5, y6⟩ := hC
              go_simp
            simp only [Act.put, List.setIfInBounds_toArray, List.set_cons_zero, List.set_cons_succ]
            go_big_quiet_on
            go_big_quiet_want
            refine quiet_val (v := .int .i64 (y : Int)) (fun w' hC => ?_) ?_
            · obtain ⟨z0, ⟨z1, z2, z3, z4, z5, z6⟩, y1, y2, y3, y4, y5, y6⟩ := hC
              go_simp
            simp only [Act.put, List.setIfInBounds_toArray, List.set_cons_zero, List.set_cons_succ]
            go_big_quiet_on
            go_big_quiet_want
            refine quiet_val (v := .pointer (some ⟨g, o + y * 6, none⟩)) (fun w' hC => ?_) ?_
            · obtain ⟨z0, ⟨z1, z2, z3, z4, z5, z6⟩, y1, y2, y3, y4, y5, y6⟩ := hC
              go_simp
            simp only [Act.put, List.setIfInBounds_toArray, List.set_cons_zero, List.set_cons_succ]
            go_big_quiet_on
            go_big_quiet_want
            refine quiet_val (v := .agg #[.int .i64 p2, .int .i64 m2, .int .i64 b2, .int .i64 q2, .int .i64 s2, .int .i64 v2]) (fun w' hC => ?_) ?_
            · obtain ⟨z0, ⟨z1, z2, z3, z4, z5, z6⟩, y1, y2, y3, y4, y5, y6⟩ := hC
              go_simp
            simp only [Act.put, List.setIfInBounds_toArray, List.set_cons_zero, List.set_cons_succ]
            go_big_quiet_on
            go_big_quiet_want
            refine quiet_call (f := 30) (args := #[.agg #[.int .i64 p1, .int .i64 m1, .int .i64 b1, .int .i64 q1, .int .i64 s1, .int .i64 v1], .agg #[.int .i64 p2, .int .i64 m2, .int .i64 b2, .int .i64 q2, .int .i64 s2, .int .i64 v2]]) (v := .bool (decide (0 < ordR ⟨p1, m1, b1, q1, s1, v1⟩ ⟨p2, m2, b2, q2, s2, v2⟩))) (fun w' => ?_) (fun w' hC => (above_any p1 m1 b1 q1 s1 v1 p2 m2 b2 q2 s2 v2 w').mono (fun e w2 h2 => ⟨h2.1, CD.later h2.2 hC⟩)) ?_
            · go_simp
            simp only [Act.put, List.setIfInBounds_toArray, List.set_cons_zero, List.set_cons_succ]
            go_big_quiet_on
            go_big_quiet_want
            refine quiet_val (v := .bool (decide (0 < ordR ⟨p1, m1, b1, q1, s1, v1⟩ ⟨p2, m2, b2, q2, s2, v2⟩))) (fun w' hC => ?_) ?_
            · obtain ⟨z0, ⟨z1, z2, z3, z4, z5, z6⟩, y1, y2, y3, y4, y5, y6⟩ := hC
              go_simp
            simp only [Act.put, List.setIfInBounds_toArray, List.set_cons_zero, List.set_cons_succ]
            go_big_quiet_on
            go_big_quiet_want
            refine quiet_val (v := .bool (decide (0 < ordR ⟨p1, m1, b1, q1, s1, v1⟩ ⟨p2, m2, b2, q2, s2, v2⟩))) (fun w' hC => ?_) ?_
            · obtain ⟨z0, ⟨z1, z2, z3, z4, z5, z6⟩, y1, y2, y3, y4, y5, y6⟩ := hC
              go_simp
            simp only [Act.put, List.setIfInBounds_toArray, List.set_cons_zero, List.set_cons_succ]
            go_big_quiet_on
            refine wpQuiet_nil ?_
            intro w' hC
            go_wp2_with fail
            go_meet
            case rel => exact ⟨by rw [HYL.out, HK.out, hx2]; rfl, hC.1⟩
      case rest =>
        obtain ⟨hc2, hB2⟩ := hcut
        have HYY : Hid (beTo L h (k + 1) = if (Y && (decide (x < 0) || decide (0 < ordR (L.getD k zeR) (L.getD x.toNat zeR)))) then (k : Int) else x) := be_nextF x HX.out _ (by rw [HK.out, ← HY.out]; rfl)
        clear HCC1
        generalize (Y && (decide (x < 0) || decide (0 < ordR (L.getD k zeR) (L.getD x.toNat zeR)))) = Z at *
        subst hc2
        cases Z
        · go_wp2
          go_roundw
          case rel => exact ⟨k + 1, by omega, by rw [HYY.out]; rfl, by go_num, hB2⟩
          case measure => simp [intOf]; omega
        · go_wp2
          go_roundw
          case rel => exact ⟨k + 1, by omega, by rw [HYY.out]; rfl, by go_num, hB2⟩
          case measure => simp [intOf]; omega
    · obtain rfl : k = n := by omega
      go_wp2
      go_ret
      exact ⟨by rw [← HX.out]; rfl, HB.out⟩

set_option maxHeartbeats 1000000 in
theorem find_nil (ao : Option Addr) (cap : Nat) (h : Int) (w : World) :
    Calls Tryd.prog 12 #[.slice ao 0 cap, .int .i64 h] w fun e w' => e = .returned (.int .i64 (-1)) ∧ Below w.heap.size w w' := by
  go_enter Tryd.func12, Tryd.ntmps12
  go_wp2
  go_loopw [5, 6] (fun x i wr => x = .int .i64 (-1) ∧ i = .int .i64 0 ∧ wr = w) (fun _ i _ => 0)
  case atStart => exact ⟨rfl, rfl, rfl⟩
  case round =>
    obtain ⟨rfl, rfl, rfl⟩ := hrel
    go_wp2
    go_ret
    exact ⟨rfl, Below.refl _ _⟩

theorem find_any (x : Value) (L : List Ru) (h : Int) (w : World) (hs : SR w x L) :
    Calls Tryd.prog 12 #[x, .int .i64 h] w fun e w' => e = .returned (.int .i64 (beTo L h L.length)) ∧ Below w.heap.size w w' := by
  rcases hs with ⟨ao, cap, rfl, rfl⟩ | ⟨g, o, cap, rfl, h1, h2, hc⟩
  · exact find_nil ao cap h w
  · exact find_some g o cap _ h L w hc rfl (Nat.le_trans h1 h2)
end Go.Proofs.YtpmcjelihdlfeaaDoor
/- What the document's own bit answers: a contract for the walks above it. -/
namespace Go.Proofs.YtpmcjelihdlfeaaDoor
open Go.RowKit
set_option linter.unusedSimpArgs false

theorem ediv_pow (x : Int) (k : Nat) : x / 2 ^ k / 2 = x / 2 ^ (k + 1) := by
  rw [Int.ediv_ediv_of_nonneg (Int.pow_nonneg (by decide)), ← Int.pow_succ]

set_option maxHeartbeats 400000 in
theorem refBit_any (x i : Int) (w : World) (hx : 0 ≤ x ∧ x < 16) (hi : 0 ≤ i ∧ i ≤ 3) :
    Calls Tryd.prog 31 #[.int .i64 x, .int .i64 i] w fun e w' => e = .returned (.bool (bitB x i.toNat)) ∧ w' = w := by
  obtain ⟨hx0, hx1⟩ := hx
  obtain ⟨hi0, hi1⟩ := hi
  go_enter Tryd.func31, Tryd.ntmps31
  go_wp2
  go_loop [0, 5] (fun v p => ∃ k : Nat, (k : Int) ≤ i ∧ p = .int .i64 k ∧ v = .int .i64 (x / 2 ^ k)) (fun _ p => (i - intOf p).toNat)
  case atStart => exact ⟨0, by omega, rfl, by simp⟩
  case round =>
    obtain ⟨k, hk, rfl, rfl⟩ := hrel
    have hE : 0 ≤ x / 2 ^ k := Int.ediv_nonneg hx0 (Int.pow_nonneg (by decide))
    have hE2 : x / 2 ^ k < 16 := Int.lt_of_le_of_lt (Int.ediv_le_self _ hx0) hx1
    have HP : Hid (x / 2 ^ k / 2 = x / 2 ^ (k + 1)) := ediv_pow x k
    by_cases hlt : (k : Int) < i
    · generalize x / 2 ^ k = y at *
      go_wp2
      go_round
      case rel => exact ⟨k + 1, by omega, by go_num, by rw [← HP.out]⟩
      case measure => simp [intOf]; omega
    · have hk2 : i.toNat = k := by omega
      have HB : Hid (bitB x i.toNat = (x / 2 ^ k % 2 == 1)) := by show _ = _; rw [hk2]; rfl
      clear hk2
      generalize x / 2 ^ k = y at *
      go_wp2
      go_ret
      refine ⟨?_, rfl⟩
      rw [HB.out]
      rfl
end Go.Proofs.YtpmcjelihdlfeaaDoor
/- What the document's own Turned answers, of a rule and a header that are right. -/
namespace Go.Proofs.YtpmcjelihdlfeaaDoor
open Go.RowKit
set_option linter.unusedSimpArgs false

set_option maxHeartbeats 2000000 in
theorem turned_any (p m b o s v h : Int) (w : World) (hs : 0 ≤ s ∧ s < 16) (hv : 0 ≤ v ∧ v < 16) (hh : 0 ≤ h ∧ h < 16) :
    Calls Tryd.prog 13 #[.agg #[.int .i64 p, .int .i64 m, .int .i64 b, .int .i64 o, .int .i64 s, .int .i64 v], .int .i64 h] w fun e w' => e = .returned (.int .i64 (tuTo s v h 4)) ∧ Below w.heap.size w w' := by
  go_enter Tryd.func13, Tryd.ntmps13
  go_wp2
  go_loop [5, 6] (fun t i => ∃ k : Nat, k ≤ 4 ∧ i = .int .i64 (3 - k) ∧ t = .int .i64 (tuTo s v h k)) (fun _ i => (intOf i + 1).toNat)
  case atStart => exact ⟨0, by omega, rfl, rfl⟩
  case round =>
    obtain ⟨k, hk, rfl, rfl⟩ := hrel
    have hbd := tu_bd s v h k
    have hp : (2 : Int) ^ k ≤ 16 := by
      rcases (by omega : k = 0 ∨ k = 1 ∨ k = 2 ∨ k = 3 ∨ k = 4) with rfl | rfl | rfl | rfl | rfl <;> decide
    have b0 := hbd.1
    have b1 : tuTo s v h k < 16 := Int.lt_of_lt_of_le hbd.2 hp
    clear hp hbd
    by_cases hlt : k < 4
    · have hi : (3 - (k : Int)).toNat = 3 - k := by omega
      have HI : Hid ((3 - (k : Int)).toNat = 3 - k) := hi
      have HT : Hid (tuTo s v h (k + 1) = if (bitB s (3 - k) && bitB v (3 - k) || !bitB s (3 - k) && bitB h (3 - k)) then tuTo s v h k * 2 + 1 else tuTo s v h k * 2) := by
        show tuTo s v h (k + 1) = _
        rfl
      clear hi
      generalize tuTo s v h k = T at *
      go_wp2_with fail
      refine (refBit_any _ _ _ hs (by omega)).mono ?_
      rintro e w' ⟨rfl, rfl⟩
      rw [HI.out]
      go_wp2_with fail
      refine (refBit_any _ _ _ hv (by omega)).mono ?_
      rintro e w' ⟨rfl, rfl⟩
      rw [HI.out]
      go_wp2_with fail
      refine (refBit_any _ _ _ hh (by omega)).mono ?_
      rintro e w' ⟨rfl, rfl⟩
      rw [HI.out]
      generalize bitB s (3 - k) = X at *
      generalize bitB v (3 - k) = Y at *
      generalize bitB h (3 - k) = Z at *
      cases X <;> cases Y <;> cases Z
      all_goals
        go_wp2
        go_round
        case rel => exact ⟨k + 1, by omega, by go_num, by rw [HT.out]; rfl⟩
        case measure => simp [intOf]; omega
    · obtain rfl : k = 4 := by omega
      go_wp2
      go_ret
      exact ⟨rfl, (Below.refl _ _).alloc (Nat.le_refl _) _⟩
end Go.Proofs.YtpmcjelihdlfeaaDoor
