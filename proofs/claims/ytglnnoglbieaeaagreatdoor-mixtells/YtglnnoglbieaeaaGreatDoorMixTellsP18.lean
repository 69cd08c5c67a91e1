/- Contracts and facts on the way to MixTells, joined into one text: WishText, RuleItoa, RefDigits, WishPrint, RefWishes, SmInts, RefFate, SmFates, AsErr, AsErr2, SameNo, ChangeBN. -/
import Derived.Test.YtglnnoglbieaeaaGreatDoorMixTellsP9
import Derived.Test.YtglnnoglbieaeaaGreatDoorMixTellsP17
import Derived.Test.YtglnnoglbieaeaaGreatDoorMixTellsP13
import Derived.Test.YtglnnoglbieaeaaGreatDoorMixTellsP3
import Derived.Test.YtglnnoglbieaeaaGreatDoorMixTellsP7
import Derived.Test.YtglnnoglbieaeaaGreatDoorMixTellsP4
import Derived.Test.YtglnnoglbieaeaaGreatDoorMixTellsP2
import Derived.Test.YtglnnoglbieaeaaGreatDoorMixTellsP14
import Derived.Test.YtglnnoglbieaeaaGreatDoorMixTellsP8
import Derived.Test.YtglnnoglbieaeaaGreatDoorRows
import Derived.WalkKit
import Derived.WalkSpells
import Derived.Below
import Derived.Lib.Strings
import Derived.BigQuiet
import Derived.Deep.QuietTactic
import Derived.Deep.CutRange
import Derived.Deep.CutBlock
import Derived.LaidEql
import Derived.Stop.Asserts
import Derived.RowKitTokens
/- Wishes as text, in plain bytes: what is shown, what is read, and that these are one another's. No program in it. -/
namespace Go.Proofs.YtglnnoglbieaeaaGreatDoor
open Go.RowKit
set_option linter.unusedVariables false

theorem wa_ext {a b : ByteArray} (h : a.data.toList = b.data.toList) : a = b := by
  obtain ⟨⟨l⟩⟩ := a
  obtain ⟨⟨r⟩⟩ := b
  simp at h
  rw [h]
theorem wa_app (a b : ByteArray) : (a ++ b).data.toList = a.data.toList ++ b.data.toList := by simp [ByteArray.data_append]
theorem wa_as (a b c : ByteArray) : a ++ (b ++ c) = a ++ b ++ c := ByteArray.append_assoc.symm
/-- One blank. -/
def blW : ByteArray := ⟨#[32]⟩
theorem blW_lst : blW.data.toList = [32] := rfl
def reaS : ByteArray := ⟨#[114, 101, 97, 99, 104]⟩
def apaS : ByteArray := ⟨#[97, 112, 97, 114, 116]⟩
def wayS : ByteArray := ⟨#[119, 97, 121]⟩
def looS : ByteArray := ⟨#[108, 111, 111, 112, 115]⟩
/-- The word of a kind. -/
def woW (k : Int) : ByteArray := if k = 1 then reaS else if k = 2 then apaS else if k = 3 then wayS else if k = 4 then looS else ByteArray.empty
/-- The kind that a word means. -/
def whW (a : ByteArray) : Int := if a == ByteArray.empty then 0 else if a == reaS then 1 else if a == apaS then 2 else if a == wayS then 3 else if a == looS then 4 else 0
/-- Why a wish can't be written. -/
def shN (w : Wi) : Int :=
  if !wkB w.k || !viB w 6 then 1 else if (w.k != 4) && !(nmB w.f && nmB w.t) then 2 else if veB w || ((w.k == 4) && !nlB w) then 3 else 0
/-- The text of one that can. -/
def shT (w : Wi) : ByteArray :=
  if w.k = 4 then looS else if w.k = 3 then woW w.k ++ (blW ++ (w.f ++ (blW ++ (w.t ++ (blW ++ dgS w.v))))) else woW w.k ++ (blW ++ (w.f ++ (blW ++ w.t)))
def shV (w : Wi) : ByteArray := if shN w = 0 then shT w else ByteArray.empty

theorem jx_none : ∀ {l : List UInt8}, 32 ∉ l → Lib.indexByte l 32 = -1
  | [], _ => rfl
  | a :: l, h => by
    have h1 : (a == 32) = false := by
      rw [beq_eq_false_iff_ne]
      exact fun e => h (by rw [e]; exact List.mem_cons_self)
    rw [Lib.indexByte, h1, jx_none (fun e => h (List.mem_cons_of_mem _ e))]
    rfl
theorem jx_some : ∀ {l r : List UInt8}, 32 ∉ l → Lib.indexByte (l ++ 32 :: r) 32 = (l.length : Nat)
  | [], _, _ => rfl
  | a :: l, r, h => by
    have h1 : (a == 32) = false := by
      rw [beq_eq_false_iff_ne]
      exact fun e => h (by rw [e]; exact List.mem_cons_self)
    rw [List.cons_append, Lib.indexByte, h1, jx_some (fun e => h (List.mem_cons_of_mem _ e))]
    have : ¬ (((l.length : Nat) : Int) == -1) = true := by simp
    simp only [Bool.false_eq_true, if_false, this, List.length_cons]
    simp
/-- A text with no blank is one word. -/
theorem wut_one {a : ByteArray} (k : Nat) (h : 32 ∉ a.data.toList) : cutB k a = [a] := cut_miss k (jx_none h)
theorem wut_at {a r : ByteArray} (h : 32 ∉ a.data.toList) : blAt (a ++ (blW ++ r)) = (a.size : Nat) ∧ (a ++ (blW ++ r)).extract 0 a.size = a ∧ (a ++ (blW ++ r)).extract (a.size + 1) (a ++ (blW ++ r)).size = r := by
  have e : (a ++ (blW ++ r)).data.toList = a.data.toList ++ 32 :: r.data.toList := by rw [wa_app, wa_app, blW_lst]; rfl
  refine ⟨by rw [blAt, e, jx_some h, Lib.size_eq], wa_ext (by rw [Lib.extract_data, e, Lib.size_eq]; simp), wa_ext (by
    rw [Lib.extract_to_end, e, Lib.size_eq]
    rw [List.drop_append, List.drop_eq_nil_of_le (by omega)]
    simp)⟩
/-- A word, a blank, and the rest. -/
theorem wut_word {a r : ByteArray} (k : Nat) (h : 32 ∉ a.data.toList) : cutB (k + 1) (a ++ (blW ++ r)) = a :: cutB k r := by
  obtain ⟨h1, h2, h3⟩ := wut_at (r := r) h
  rw [cut_hit k h1, h2, h3]
theorem wutA_word {a r : ByteArray} (h : 32 ∉ a.data.toList) : cutA (a ++ (blW ++ r)) = a :: cutA r := by
  obtain ⟨h1, h2, h3⟩ := wut_at (r := r) h
  rw [cutA_hit h1, h2, h3]
theorem wutA_one {a : ByteArray} (h : 32 ∉ a.data.toList) : cutA a = [a] := cutA_miss (jx_none h)
/-- Words with blanks between. -/
def jnW : List ByteArray → ByteArray
  | [] => ByteArray.empty
  | [a] => a
  | a :: b :: r => a ++ (blW ++ jnW (b :: r))
theorem wut_ne (k : Nat) (s : ByteArray) : ∃ a r, cutB k s = a :: r := by
  match h : cutB k s with
  | [] => have := (cut_len k s).2; rw [h] at this; simp at this
  | a :: r => exact ⟨a, r, rfl⟩
theorem wut_join : ∀ (k : Nat) (s : ByteArray), jnW (cutB k s) = s
  | 0, _ => rfl
  | k + 1, s => by
    rcases bl_cases s with h | ⟨i, h, hi⟩
    · rw [cut_miss _ h]; rfl
    · rw [cut_hit _ h]
      obtain ⟨a, r, e⟩ := wut_ne k (s.extract (i + 1) s.size)
      have ih := wut_join k (s.extract (i + 1) s.size)
      rw [e] at ih ⊢
      rw [jnW, ih]
      apply wa_ext
      rw [wa_app, wa_app, blW_lst, Lib.extract_data, Lib.extract_to_end]
      have hg := (Lib.indexByte_some h).1
      have hlt : i < s.data.toList.length := by rw [← Lib.size_eq]; exact hi
      have hd : s.data.toList.drop i = 32 :: s.data.toList.drop (i + 1) := by
        rw [List.drop_eq_getElem_cons hlt]
        rw [List.getElem?_eq_getElem hlt] at hg
        rw [Option.some.inj hg]
      simp only [Nat.sub_zero, List.drop_zero]
      rw [List.singleton_append, ← hd, List.take_append_drop]
theorem nm_bl {a : ByteArray} (h : nmB a = true) : 32 ∉ a.data.toList := by
  simp only [nmB, Bool.and_eq_true, List.all_eq_true] at h
  intro hm
  have := h.2.2 _ hm
  simp at this
theorem via_fin : ∀ k : Fin 7, (dcOk (dgS ((k : Nat) : Int)) && (dcN (dgS ((k : Nat) : Int)) == ((k : Nat) : Int) && !((dgS ((k : Nat) : Int)).data.toList.contains 32))) = true := by decide +kernel
theorem via_back {p : Int} (h : 0 ≤ p ∧ p ≤ 6) : dcOk (dgS p) = true ∧ dcN (dgS p) = p ∧ 32 ∉ (dgS p).data.toList := by
  obtain ⟨k, rfl⟩ : ∃ k : Fin 7, p = ((k : Nat) : Int) := ⟨⟨p.toNat, by omega⟩, by simp; omega⟩
  have := via_fin k
  simp only [Bool.and_eq_true, beq_iff_eq] at this
  exact ⟨this.1, this.2.1, by simpa using this.2.2⟩
theorem via_big {s : ByteArray} (h0 : byteN s 0 ≠ 48) : ∀ {k : Nat}, dgTo s (k + 1) = true → 10 ^ k ≤ dcTo s (k + 1)
  | 0, h => by
    simp only [dgTo, Bool.and_eq_true] at h
    have := dig_of h.2
    simp [dcTo]
    omega
  | k + 1, h => by
    simp only [dgTo, Bool.and_eq_true] at h
    have h1 := via_big h0 (k := k) (by simp only [dgTo, Bool.and_eq_true]; exact h.1)
    have h2 := dig_of h.2
    have e : dcTo s (k + 1 + 1) = 10 * dcTo s (k + 1) + ((byteN s (k + 1) : Nat) - 48) := rfl
    rw [e, Int.pow_succ]
    omega
theorem via1_fin : ∀ i : Fin 10, (dgS (dcN ⟨#[UInt8.ofNat (48 + i)]⟩)).data.toList = [UInt8.ofNat (48 + i)] := by decide +kernel
theorem via_byte {c : UInt8} (h : digB c.toNat = true) : ∃ i : Fin 10, c = UInt8.ofNat (48 + i) := by
  have h1 := dig_of h
  refine ⟨⟨c.toNat - 48, by omega⟩, ?_⟩
  apply UInt8.toNat_inj.1
  simp only [UInt8.toNat_ofNat']
  omega
theorem via_read {a : ByteArray} (h : dcOk a = true) (h2 : dcN a ≤ 9) : dgS (dcN a) = a := by
  simp only [dcOk, Bool.and_eq_true] at h
  obtain ⟨hh, hd⟩ := h
  have hN : dcN a = dcTo a a.size := by simp [dcN, dcOk, hh, hd]
  simp only [dcHd, Bool.and_eq_true, decide_eq_true_eq] at hh
  obtain ⟨z1, z9, z0⟩ := hh
  have hs : a.size = 1 := by
    by_cases hs : a.size = 1
    · exact hs
    · exfalso
      have h0 : byteN a 0 ≠ 48 := by
        simp [hs] at z0
        exact z0
      obtain ⟨k, hk⟩ : ∃ k, a.size = k + 1 := ⟨a.size - 1, by omega⟩
      rw [hk] at hd hN
      have hb := via_big h0 hd
      rcases (by omega : k = 1 ∨ k = 2 ∨ k = 3 ∨ k = 4 ∨ k = 5 ∨ k = 6 ∨ k = 7 ∨ k = 8) with rfl | rfl | rfl | rfl | rfl | rfl | rfl | rfl <;> simp at hb hN <;> omega
  have hl : a.data.toList.length = 1 := by rw [← Lib.size_eq]; exact hs
  match hq : a.data.toList, hl with
  | [c], _ =>
    have hb : byteN a 0 = c.toNat := by simp [byteN, hq]
    obtain ⟨i, rfl⟩ := via_byte (c := c) (by rw [← hb]; exact dg_le (n := a.size) (by omega) hd)
    have e : a = ⟨#[UInt8.ofNat (48 + i)]⟩ := wa_ext hq
    exact wa_ext (by rw [hq, e]; exact via1_fin i)
/-- What a right wish is. -/
theorem shw_0 {w : Wi} (h : shN w = 0) : (w.k = 4 ∧ w.f = ByteArray.empty ∧ w.t = ByteArray.empty ∧ w.v = 0) ∨ ((w.k = 1 ∨ w.k = 2) ∧ nmB w.f = true ∧ nmB w.t = true ∧ w.v = 0) ∨ (w.k = 3 ∧ nmB w.f = true ∧ nmB w.t = true ∧ 1 ≤ w.v ∧ w.v ≤ 6) := by
  unfold shN at h
  split at h
  · cases h
  · next h1 =>
    split at h
    · cases h
    · next h2 =>
      split at h
      · cases h
      · next h3 =>
        simp only [wkB, viB, swB, Bool.or_eq_true, Bool.not_eq_true', Bool.and_eq_false_iff, Bool.or_eq_false_iff, decide_eq_false_iff_not, bne_eq_false_iff_eq, not_or, not_and] at h1
        simp only [Bool.and_eq_true, bne_iff_ne, Bool.not_eq_true', Bool.and_eq_false_iff, not_and, not_or, Bool.not_eq_false] at h2
        simp only [veB, nlB, Bool.or_eq_true, Bool.and_eq_true, bne_iff_ne, beq_iff_eq, Bool.not_eq_true', Bool.and_eq_false_iff, not_or, not_and, Bool.not_eq_false, ne_eq, Decidable.not_not, ba_eq] at h3
        obtain ⟨⟨a1, a2⟩, a3⟩ := h1
        rcases (by omega : w.k = 4 ∨ w.k = 3 ∨ (w.k = 1 ∨ w.k = 2)) with e | e | e
        · exact .inl ⟨e, (h3.2 e).1, (h3.2 e).2, h3.1 (by omega)⟩
        · have := h2 (by omega)
          have := a3 e
          exact .inr (.inr ⟨e, (h2 (by omega)).1, (h2 (by omega)).2, by omega, by omega⟩)
        · exact .inr (.inl ⟨e, (h2 (by omega)).1, (h2 (by omega)).2, h3.1 (by omega)⟩)
theorem sh_mk1 {k : Int} {f t : ByteArray} (hk : k = 1 ∨ k = 2) (hf : nmB f = true) (ht : nmB t = true) : shN ⟨k, f, t, 0⟩ = 0 := by
  rcases hk with rfl | rfl <;> simp [shN, wkB, viB, veB, hf, ht]
theorem sh_mk3 {v : Int} {f t : ByteArray} (hf : nmB f = true) (ht : nmB t = true) (h1 : 1 ≤ v) (h6 : v ≤ 6) : shN ⟨3, f, t, v⟩ = 0 := by
  simp [shN, wkB, viB, veB, swB, hf, ht, h1, h6]
theorem sh_mk4 : shN ⟨4, ByteArray.empty, ByteArray.empty, 0⟩ = 0 := by decide +kernel
/-- The kind that the document's reading has of a word. -/
def wrK (a : ByteArray) : Int := if a == wayS then 3 else if a == apaS then 2 else if a == reaS then 1 else 0
/-- A wish, if it can be written. -/
def okW (w : Wi) : Option Wi := if shN w = 0 then some w else none
/-- The wish of the words of a text. -/
def rdL : List ByteArray → Option Wi
  | [a, b, c] => okW ⟨wrK a, b, c, 0⟩
  | [a, b, c, d] => if dcOk d && ((a == wayS) && !(dcN d == 0)) then okW ⟨wrK a, b, c, dcN d⟩ else none
  | _ => none
/-- The wish of a text. -/
def rdO (s : ByteArray) : Option Wi := if s == looS then some ⟨4, ByteArray.empty, ByteArray.empty, 0⟩ else rdL (cutA s)
theorem ok_some {w x : Wi} (h : okW w = some x) : w = x ∧ shN w = 0 := by
  unfold okW at h
  split at h
  · next e => cases h; exact ⟨rfl, e⟩
  · cases h
theorem rea_bl : 32 ∉ reaS.data.toList := by decide
theorem apa_bl : 32 ∉ apaS.data.toList := by decide
theorem way_bl : 32 ∉ wayS.data.toList := by decide
theorem loo_bl : 32 ∉ looS.data.toList := by decide
theorem wrK_c (a : ByteArray) : (a = wayS ∧ wrK a = 3) ∨ (a = apaS ∧ wrK a = 2) ∨ (a = reaS ∧ wrK a = 1) ∨ wrK a = 0 := by
  unfold wrK
  split
  · next e => exact .inl ⟨ba_eq.1 e, rfl⟩
  · split
    · next e => exact .inr (.inl ⟨ba_eq.1 e, rfl⟩)
    · split
      · next e => exact .inr (.inr (.inl ⟨ba_eq.1 e, rfl⟩))
      · exact .inr (.inr (.inr rfl))
theorem sh_no {f t : ByteArray} {v : Int} : shN ⟨0, f, t, v⟩ ≠ 0 := by simp [shN, wkB]
theorem sh_no3 {f t : ByteArray} : shN ⟨3, f, t, 0⟩ ≠ 0 := by simp [shN, wkB, viB, swB]
/-- What is read is what is written so. -/
theorem rd_text {s : ByteArray} {w : Wi} (h : rdO s = some w) : shN w = 0 ∧ shT w = s := by
  unfold rdO at h
  split at h
  · next e =>
    cases h
    exact ⟨sh_mk4, (ba_eq.1 e).symm⟩
  · have hj := wut_join s.size s
    rw [show cutB s.size s = cutA s from rfl] at hj
    unfold rdL at h
    split at h
    · next a b c e =>
      rw [e] at hj
      obtain ⟨h1, h2⟩ := ok_some h
      subst h1
      refine ⟨h2, ?_⟩
      have hj : a ++ (blW ++ (b ++ (blW ++ c))) = s := hj
      rcases wrK_c a with ⟨rfl, e1⟩ | ⟨rfl, e1⟩ | ⟨rfl, e1⟩ | e1
      · rw [e1] at h2; exact absurd h2 sh_no3
      · rw [e1, ← hj]; rfl
      · rw [e1, ← hj]; rfl
      · rw [e1] at h2; exact absurd h2 sh_no
    · next a b c d e =>
      rw [e] at hj
      split at h
      · next hd =>
        obtain ⟨h1, h2⟩ := ok_some h
        subst h1
        refine ⟨h2, ?_⟩
        simp only [Bool.and_eq_true, ba_eq] at hd
        obtain ⟨d1, rfl, d2⟩ := hd
        have hj : wayS ++ (blW ++ (b ++ (blW ++ (c ++ (blW ++ d))))) = s := hj
        have e1 : wrK wayS = 3 := rfl
        rw [e1] at h2 ⊢
        rcases shw_0 h2 with ⟨k, _⟩ | ⟨k, _⟩ | ⟨_, _, _, _, k6⟩
        · simp at k
        · simp at k
        · have := via_read d1 (by simp only at k6; omega)
          rw [← hj]
          show wayS ++ (blW ++ (b ++ (blW ++ (c ++ (blW ++ dgS (dcN d)))))) = _
          rw [this]
      · cases h
    · cases h
theorem ne_loo {a r : ByteArray} (h : 32 ∉ a.data.toList) : (a ++ (blW ++ r) == looS) = false := by
  cases e : (a ++ (blW ++ r) == looS) with
  | false => rfl
  | true =>
    exfalso
    have e2 := ba_eq.1 e
    have : 32 ∈ (a ++ (blW ++ r)).data.toList := by rw [wa_app, wa_app, blW_lst]; simp
    rw [e2] at this
    exact loo_bl this
/-- What is written is read as it was. -/
theorem text_rd {w : Wi} (h : shN w = 0) : rdO (shT w) = some w := by
  have hh := h
  obtain ⟨k, f, t, v⟩ := w
  rcases shw_0 h with ⟨e, e1, e2, e3⟩ | ⟨e, e1, e2, e3⟩ | ⟨e, e1, e2, e3, e4⟩
  · simp only at e e1 e2 e3
    subst e e1 e2 e3
    show rdO looS = _
    rw [rdO, if_pos (ba_eq.2 rfl)]
  · simp only at e e1 e2 e3
    subst e3
    rcases e with rfl | rfl
    · show rdO (reaS ++ (blW ++ (f ++ (blW ++ t)))) = _
      rw [rdO, ne_loo rea_bl, wutA_word rea_bl, wutA_word (nm_bl e1), wutA_one (nm_bl e2)]
      show okW ⟨wrK reaS, f, t, 0⟩ = _
      rw [show wrK reaS = 1 from rfl, okW, if_pos hh]
    · show rdO (apaS ++ (blW ++ (f ++ (blW ++ t)))) = _
      rw [rdO, ne_loo apa_bl, wutA_word apa_bl, wutA_word (nm_bl e1), wutA_one (nm_bl e2)]
      show okW ⟨wrK apaS, f, t, 0⟩ = _
      rw [show wrK apaS = 2 from rfl, okW, if_pos hh]
  · simp only at e e1 e2 e3 e4
    subst e
    obtain ⟨b1, b2, b3⟩ := via_back (p := v) ⟨by omega, e4⟩
    show rdO (wayS ++ (blW ++ (f ++ (blW ++ (t ++ (blW ++ dgS v)))))) = _
    rw [rdO, ne_loo way_bl, wutA_word way_bl, wutA_word (nm_bl e1), wutA_word (nm_bl e2), wutA_one b3]
    show (if dcOk (dgS v) && ((wayS == wayS) && !(dcN (dgS v) == 0)) then okW ⟨wrK wayS, f, t, dcN (dgS v)⟩ else none) = _
    rw [b1, b2, ba_eq.2 rfl, show wrK wayS = 3 from rfl, if_pos (by simp; omega), okW, if_pos hh]
/-- The wish that the program makes of the words ahead of the last test: V is the number of the fourth one. -/
def wkW (c : List ByteArray) (V : Int) : Wi := ⟨whW (c.getD 0 ByteArray.empty), if 2 < c.length then c.getD 1 ByteArray.empty else ByteArray.empty, if 2 < c.length then c.getD 2 ByteArray.empty else ByteArray.empty, if 3 < c.length then V else 0⟩
/-- Of a text that is written so it makes the wish again. -/
theorem text_wk {w : Wi} (h : shN w = 0) {V : Int} (hV : ∀ d, cutB 3 (shT w) = [d, w.f, w.t, dgS w.v] → V = w.v) : wkW (cutB 3 (shT w)) V = w := by
  obtain ⟨k, f, t, v⟩ := w
  rcases shw_0 h with ⟨e, e1, e2, e3⟩ | ⟨e, e1, e2, e3⟩ | ⟨e, e1, e2, e3, e4⟩
  · simp only at e e1 e2 e3
    subst e e1 e2 e3
    have : cutB 3 (shT ⟨4, ByteArray.empty, ByteArray.empty, 0⟩) = [looS] := wut_one 3 loo_bl
    rw [this]
    rfl
  · simp only at e e1 e2 e3
    subst e3
    rcases e with rfl | rfl
    · have : cutB 3 (shT ⟨1, f, t, 0⟩) = [reaS, f, t] := by
        show cutB 3 (reaS ++ (blW ++ (f ++ (blW ++ t)))) = _
        rw [wut_word 2 rea_bl, wut_word 1 (nm_bl e1), wut_one 1 (nm_bl e2)]
      rw [this]
      rfl
    · have : cutB 3 (shT ⟨2, f, t, 0⟩) = [apaS, f, t] := by
        show cutB 3 (apaS ++ (blW ++ (f ++ (blW ++ t)))) = _
        rw [wut_word 2 apa_bl, wut_word 1 (nm_bl e1), wut_one 1 (nm_bl e2)]
      rw [this]
      rfl
  · simp only at e e1 e2 e3 e4
    subst e
    obtain ⟨b1, b2, b3⟩ := via_back (p := v) ⟨by omega, e4⟩
    have : cutB 3 (shT ⟨3, f, t, v⟩) = [wayS, f, t, dgS v] := by
      show cutB 3 (wayS ++ (blW ++ (f ++ (blW ++ (t ++ (blW ++ dgS v)))))) = _
      rw [wut_word 2 way_bl, wut_word 1 (nm_bl e1), wut_word 0 (nm_bl e2)]
      rfl
    rw [this, hV _ this]
    rfl
/-- What the program reads is what the document reads: with whatever number it has of a word that is no number's text. -/
theorem wk_rd (s : ByteArray) {V : Int} (hV : ∀ p : Int, 1 ≤ p → p ≤ 6 → (cutB 3 s).getD 3 ByteArray.empty = dgS p → V = p) :
    (shN (wkW (cutB 3 s) V) = 0 ∧ shT (wkW (cutB 3 s) V) = s → rdO s = some (wkW (cutB 3 s) V)) ∧ (¬ (shN (wkW (cutB 3 s) V) = 0 ∧ shT (wkW (cutB 3 s) V) = s) → rdO s = none) := by
  constructor
  · rintro ⟨h1, h2⟩
    have := text_rd h1
    rw [h2] at this
    exact this
  · intro hn
    cases e : rdO s with
    | none => rfl
    | some w =>
      exfalso
      obtain ⟨h1, h2⟩ := rd_text e
      have hw : wkW (cutB 3 s) V = w := by
        rw [← h2]
        refine text_wk h1 (fun d hd => ?_)
        rcases shw_0 h1 with ⟨e, _⟩ | ⟨e, _⟩ | ⟨e, e1, e2, e3, e4⟩
        · exfalso
          have hx : shT w = looS := by rw [shT, if_pos e]
          rw [hx, wut_one 3 loo_bl] at hd
          simp at hd
        · exfalso
          rcases shw_0 h1 with ⟨k, _⟩ | ⟨_, e1, e2, _⟩ | ⟨k, _⟩
          · omega
          · have h32 : 32 ∉ (woW w.k).data.toList := by
              rcases e with e | e
              · rw [e]; exact rea_bl
              · rw [e]; exact apa_bl
            have hx : shT w = woW w.k ++ (blW ++ (w.f ++ (blW ++ w.t))) := by rw [shT, if_neg (by omega), if_neg (by omega)]
            rw [hx, wut_word 2 h32, wut_word 1 (nm_bl e1), wut_one 1 (nm_bl e2)] at hd
            simp at hd
          · omega
        · refine hV w.v e3 e4 ?_
          rw [← h2, hd]
          rfl
      rw [hw] at hn
      exact hn ⟨h1, h2⟩
end Go.Proofs.YtglnnoglbieaeaaGreatDoor
/- What strconv.Itoa answers at the numbers from 0 to 99, and where stringslite finds a blank. -/
namespace Go.Proofs.YtglnnoglbieaeaaGreatDoor
open Go.RowKit
set_option linter.unusedSimpArgs false

theorem ret_str {a b : ByteArray} (h : a = b) : Ending.returned (.string a) = .returned (.string b) := by rw [h]

theorem small1 : ∀ k : Fin 10, (⟨#[48, 49, 50, 51, 52, 53, 54, 55, 56, 57, 97, 98, 99, 100, 101, 102, 103, 104, 105, 106, 107, 108, 109, 110, 111, 112, 113, 114, 115, 116, 117, 118, 119, 120, 121, 122]⟩ : ByteArray).extract ((k : Nat) : Int).toNat (((k : Nat) : Int) + 1).toNat = dgS ((k : Nat) : Int) := by
  decide +kernel
set_option maxRecDepth 100000 in
theorem small2 : ∀ k : Fin 100, 10 ≤ k.val → (⟨#[48, 48, 48, 49, 48, 50, 48, 51, 48, 52, 48, 53, 48, 54, 48, 55, 48, 56, 48, 57, 49, 48, 49, 49, 49, 50, 49, 51, 49, 52, 49, 53, 49, 54, 49, 55, 49, 56, 49, 57, 50, 48, 50, 49, 50, 50, 50, 51, 50, 52, 50, 53, 50, 54, 50, 55, 50, 56, 50, 57, 51, 48, 51, 49, 51, 50, 51, 51, 51, 52, 51, 53, 51, 54, 51, 55, 51, 56, 51, 57, 52, 48, 52, 49, 52, 50, 52, 51, 52, 52, 52, 53, 52, 54, 52, 55, 52, 56, 52, 57, 53, 48, 53, 49, 53, 50, 53, 51, 53, 52, 53, 53, 53, 54, 53, 55, 53, 56, 53, 57, 54, 48, 54, 49, 54, 50, 54, 51, 54, 52, 54, 53, 54, 54, 54, 55, 54, 56, 54, 57, 55, 48, 55, 49, 55, 50, 55, 51, 55, 52, 55, 53, 55, 54, 55, 55, 55, 56, 55, 57, 56, 48, 56, 49, 56, 50, 56, 51, 56, 52, 56, 53, 56, 54, 56, 55, 56, 56, 56, 57, 57, 48, 57, 49, 57, 50, 57, 51, 57, 52, 57, 53, 57, 54, 57, 55, 57, 56, 57, 57]⟩ : ByteArray).extract (((k : Nat) : Int) * 2).toNat (((k : Nat) : Int) * 2 + 2).toNat = dgS ((k : Nat) : Int) := by
  decide +kernel

end Go.Proofs.YtglnnoglbieaeaaGreatDoor
/- What railref1.Digits answers: a number below 100 in digits. -/
namespace Go.Proofs.YtglnnoglbieaeaaGreatDoor
open Go.RowKit
set_option linter.unusedSimpArgs false
set_option linter.unusedVariables false

theorem dig1 : ∀ k : Fin 10, (⟨#[48, 49, 50, 51, 52, 53, 54, 55, 56, 57]⟩ : ByteArray).extract ((k : Nat) : Int).toNat (((k : Nat) : Int) + 1).toNat = dgS ((k : Nat) : Int) := by
  decide +kernel
end Go.Proofs.YtglnnoglbieaeaaGreatDoor
/- What checkText and Print of package wish answer: contracts for the walks above them. -/
namespace Go.Proofs.YtglnnoglbieaeaaGreatDoor
open Go.RowKit
set_option linter.unusedSimpArgs false
set_option linter.unusedVariables false

theorem nm_size {a : ByteArray} (h : nmB a = true) : a.size ≤ 6 := by
  simp only [nmB, Bool.and_eq_true, decide_eq_true_eq] at h
  exact h.2.1
theorem dgs_size (p : Int) : (dgS p).size ≤ 2 := by
  unfold dgS
  split <;> exact Nat.le_of_ble_eq_true rfl
theorem ret_two {a b : ByteArray} {x : Value} (h : a = b) : Ending.returned (.tuple #[.string a, x]) = .returned (.tuple #[.string b, x]) := by rw [h]
theorem shT_4 {f t : ByteArray} {v : Int} : shT ⟨4, f, t, v⟩ = looS := rfl
theorem shT_3 {f t : ByteArray} {v : Int} : shT ⟨3, f, t, v⟩ = wayS ++ (⟨#[32]⟩ ++ f ++ ⟨#[32]⟩ ++ t) ++ (⟨#[32]⟩ ++ dgS v) := by
  show wayS ++ (blW ++ (f ++ (blW ++ (t ++ (blW ++ dgS v))))) = _
  simp only [wa_as]
  rfl
theorem shT_2 {f t : ByteArray} {v : Int} : shT ⟨2, f, t, v⟩ = apaS ++ (⟨#[32]⟩ ++ f ++ ⟨#[32]⟩ ++ t) := by
  show apaS ++ (blW ++ (f ++ (blW ++ t))) = _
  simp only [wa_as]
  rfl
theorem shT_1 {f t : ByteArray} {v : Int} : shT ⟨1, f, t, v⟩ = reaS ++ (⟨#[32]⟩ ++ f ++ ⟨#[32]⟩ ++ t) := by
  show reaS ++ (blW ++ (f ++ (blW ++ t))) = _
  simp only [wa_as]
  rfl

end Go.Proofs.YtglnnoglbieaeaaGreatDoor
/- What railref1.Wishes and railref1.ShowWish answer: contracts for the walks above them. -/
namespace Go.Proofs.YtglnnoglbieaeaaGreatDoor
open Go.RowKit
set_option linter.unusedSimpArgs false
set_option linter.unusedVariables false

theorem ho_wh (Hs : List (ByteArray × (Int × Int))) (m : ByteArray) : decide (whN Hs m < 0) = !hoB Hs m := by
  have h := ixG_any Hs (fun h => h.1 == m)
  have e : hoB Hs m = decide (0 ≤ whN Hs m) := h.symm
  rw [e]
  by_cases h0 : whN Hs m < 0
  · simp [h0]
  · have : 0 ≤ whN Hs m := by omega
    simp [h0, this]
set_option maxHeartbeats 8000000 in
set_option maxRecDepth 100000 in
theorem rwishes_any (S : Int) (ao : Option Addr) (n cap : Nat) (ao2 : Option Addr) (n2 cap2 : Nat) (a4 : Option Addr) (n4 c4 : Nat) (Ls : List ((Int × Int) × (Int × Int))) (Hs : List (ByteArray × (Int × Int))) (l : List Wi) (w : World)
    (hL : GS lnkE w (.slice ao n cap) Ls) (hH : GS hstE w (.slice ao2 n2 cap2) Hs) (hl : GS wisE w (.slice a4 n4 c4) l) :
    Calls Tryz.prog 12 #[.agg #[.int .i64 S, .slice ao n cap, .slice ao2 n2 cap2], .slice a4 n4 c4] w fun e w' => e = .returned (.int .i64 (wsN S Ls Hs l)) ∧ Below w.heap.size w w' := by
  have hX := tbox_new w S (.slice ao n cap) (.slice ao2 n2 cap2) 25
  have hB0 : Below w.heap.size w (w.alloc (Obj.cells #[.int .i64 S, .slice ao n cap, .slice ao2 n2 cap2] 25)) := (Below.refl _ _).alloc (Nat.le_refl _) _
  obtain ⟨w0, hw0⟩ : ∃ W, w.alloc (Obj.cells #[.int .i64 S, .slice ao n cap, .slice ao2 n2 cap2] 25) = W := ⟨_, rfl⟩
  rw [hw0] at hX hB0
  have HX : Hid (TBox w0 w.heap.size S (.slice ao n cap) (.slice ao2 n2 cap2)) := hX
  have HW0 : Hid (w.alloc (Obj.cells #[.int .i64 S, .slice ao n cap, .slice ao2 n2 cap2] 25) = w0) := hw0
  have HB0 : Hid (Below w.heap.size w w0) := hB0
  have HLW : Hid (∀ W, Below w.heap.size w W → GS lnkE W (.slice ao n cap) Ls) := fun W hb => hL.later hb
  have HHW : Hid (∀ W, Below w.heap.size w W → GS hstE W (.slice ao2 n2 cap2) Hs) := fun W hb => hH.later hb
  obtain ⟨_, _, _, e5, hGn, hGm, _, hGa⟩ := hl.form
  cases e5
  have HGN : Hid (l.length = n4) := hGn
  have HGA : Hid (0 < n4 → ∃ g o, a4 = some ⟨g, o, none⟩ ∧ GAt wisE w g o l ∧ c4 ≤ maxLen) := hGa
  obtain ⟨R, hR⟩ : ∃ R, R = wsN S Ls Hs l := ⟨_, rfl⟩
  have HR : Hid (R = wsN S Ls Hs l) := hR
  rw [← hR]
  have hn4 : n4 ≤ maxLen := hGm
  unfold maxLen at hn4
  clear hX hB0 hw0 hL hH hl hGn hGm hGa hR
  go_enter Tryz.func12, Tryz.ntmps12
  go_upto_region 1 with fail
  rw [HW0.out]
  obtain ⟨b0, b1, b2⟩ := HX.out
  clear HW0
  go_wp2_with fail
  refine (rtopo_any S ao n cap ao2 n2 cap2 Ls Hs _ (HLW.out _ HB0.out) (HHW.out _ HB0.out)).mono ?_
  rintro e w1 ⟨rfl, hb1⟩
  obtain ⟨T, hT⟩ : ∃ T, T = tpN S Ls Hs := ⟨_, rfl⟩
  have HT : Hid (T = tpN S Ls Hs) := hT
  rw [← hT]
  have HB1 : Hid (Below w.heap.size w w1) := HB0.out.trans (hb1.mono HB0.out.size)
  have HX1 : Hid (TBox w1 w.heap.size S (.slice ao n cap) (.slice ao2 n2 cap2)) := HX.out.later hb1
  clear hT hb1 b0 b1 b2 HX
  by_cases h0 : T = 0
  · have HR1 : Hid (R = if 8 < l.length then 4 else wsTo S Hs l l.length) := by
      show _ = _
      rw [HR.out, wsN, if_pos (HT.out.symm.trans h0)]
    subst h0
    by_cases h8 : 8 < n4
    · have HR2 : Hid (R = 4) := by
        show _ = _
        rw [HR1.out, if_pos (by rw [HGN.out]; exact h8)]
      have h8' : (8 : Int) < (n4 : Int) := by omega
      go_wp2
      go_ret
      exact ⟨by rw [HR2.out]; rfl, HB1.out⟩
    · have HR2 : Hid (R = wsTo S Hs l n4) := by
        show _ = _
        rw [HR1.out, if_neg (by rw [HGN.out]; exact h8), HGN.out]
      have h8' : ¬ (8 : Int) < (n4 : Int) := by omega
      clear HR HR1
      go_wp2
      go_loopw [6] (fun i wr => ∃ j : Nat, j ≤ n4 ∧ i = .int .i64 j ∧ wsTo S Hs l j = 0 ∧ Below w1.heap.size w1 wr) (fun i _ => n4 - (intOf i).toNat)
      case atStart => exact ⟨0, by omega, rfl, rfl, Below.refl _ _⟩
      case round =>
        obtain ⟨j, hj, rfl, hno, hB⟩ := hrel
        have HB : Hid (Below w1.heap.size w1 wr) := hB
        have HBw : Hid (Below w.heap.size w wr) := HB1.out.trans (hB.mono HB1.out.size)
        have HNO : Hid (wsTo S Hs l j = 0) := hno
        have HXr : Hid (TBox wr w.heap.size S (.slice ao n cap) (.slice ao2 n2 cap2)) := HX1.out.later hB
        clear hno hB
        by_cases hlt : j < n4
        · obtain ⟨g, o, hao, hc, _⟩ := HGA.out (by omega)
          subst hao
          obtain ⟨k, f, t, v, hkl, hLk, q0, q1, q2, q3⟩ := wis_at (hc.later HBw.out) HGN.out hlt
          obtain ⟨N, hN⟩ : ∃ q, q = woN S Hs ⟨k, f, t, v⟩ := ⟨_, rfl⟩
          have HN : Hid (woN S Hs ⟨k, f, t, v⟩ = N) := hN.symm
          have HST : Hid (wsTo S Hs l (j + 1) = N) := by
            show _ = _
            rw [wsTo, if_pos HNO.out, getW hkl, hLk, ← hN]
          have hba : Below wr.heap.size wr (wr.alloc (Obj.cells #[Value.int IntKind.i64 k, Value.string f, Value.string t, Value.int IntKind.i64 v] 96)) := (Below.refl _ _).alloc (Nat.le_refl _) _
          have hwb := wibox_new wr k f t v 96
          have hxa := HXr.out.later hba
          obtain ⟨w2, hw2⟩ : ∃ W, wr.alloc (Obj.cells #[Value.int IntKind.i64 k, Value.string f, Value.string t, Value.int IntKind.i64 v] 96) = W := ⟨_, rfl⟩
          obtain ⟨gw, hgw⟩ : ∃ q, q = wr.heap.size := ⟨_, rfl⟩
          rw [hw2] at hba hwb hxa
          rw [← hgw] at hwb
          have HW2 : Hid (wr.alloc (Obj.cells #[Value.int IntKind.i64 k, Value.string f, Value.string t, Value.int IntKind.i64 v] 96) = w2) := hw2
          have HGW : Hid (wr.heap.size = gw) := hgw.symm
          have HWB : Hid (WiBox w2 gw k f t v) := hwb
          have HX2 : Hid (TBox w2 w.heap.size S (.slice ao n cap) (.slice ao2 n2 cap2)) := hxa
          have HB2 : Hid (Below w1.heap.size w1 w2) := HB.out.trans (hba.mono HB.out.size)
          have kb0 : (0 : Int) ≤ (j : Int) := by omega
          have kb1 : (j : Int) < (n4 : Int) := by omega
          clear hc hLk hN hba hwb hxa hw2 hgw
          go_upto_region 10 with fail
          rw [HW2.out, HGW.out]
          try rw [show decide ((j : Int) < (n4 : Int)) = true from by simp; omega]
          clear HW2 HGW q0 q1 q2 q3 HXr
          obtain ⟨x0, x1, x2, x3⟩ := HWB.out
          obtain ⟨b0, b1, b2⟩ := HX2.out
          obtain ⟨Q, hQ⟩ : ∃ q, q = (!wkB k || (!viB ⟨k, f, t, v⟩ S || veB ⟨k, f, t, v⟩)) := ⟨_, rfl⟩
          have HQ : Hid ((!wkB k || (!viB ⟨k, f, t, v⟩ S || veB ⟨k, f, t, v⟩)) = Q) := hQ.symm
          have HNQ : Hid (N = if Q then 1 else if k = 4 then (if nlB ⟨k, f, t, v⟩ then 0 else 3) else if hoB Hs f && hoB Hs t then 0 else 5) := by
            show _ = _
            rw [← HN.out, hQ]
            rfl
          clear hQ HN
          go_cut [60] from 26 to 61 (fun c w' => c = .bool Q ∧ w' = w2)
          case first =>
            by_cases k1 : k < 1
            · have hq : true = Q := by
                rw [← HQ.out]
                have : wkB k = false := by simp [wkB]; omega
                simp [this]
              subst hq
              go_wp2_with fail
              go_meet
              exact ⟨by first | rfl | simp [k1], rfl⟩
            · by_cases k4 : 4 < k
              · have hq : true = Q := by
                  rw [← HQ.out]
                  have : wkB k = false := by simp [wkB]; omega
                  simp [this]
                subst hq
                go_wp2_with fail
                go_meet
                exact ⟨by first | rfl | simp [k1, k4], rfl⟩
              · have hwk : wkB k = true := by simp [wkB]; omega
                by_cases k3 : k = 3
                · subst k3
                  by_cases v1 : v < 1
                  · have hq : true = Q := by
                      rw [← HQ.out]
                      have : viB ⟨3, f, t, v⟩ S = false := by simp [viB, swB]; omega
                      simp [this]
                    subst hq
                    go_wp2_with fail
                    go_meet
                    exact ⟨by first | rfl | simp [v1], rfl⟩
                  · by_cases v2 : S < v
                    · have hq : true = Q := by
                        rw [← HQ.out]
                        have : viB ⟨3, f, t, v⟩ S = false := by simp [viB, swB]; omega
                        simp [this]
                      subst hq
                      go_wp2_with fail
                      go_meet
                      exact ⟨by first | rfl | simp [v1, v2], rfl⟩
                    · have hq : false = Q := by
                        rw [← HQ.out]
                        have h1 : viB ⟨3, f, t, v⟩ S = true := by simp [viB, swB]; omega
                        have h2 : veB ⟨3, f, t, v⟩ = false := by simp [veB]
                        rw [hwk, h1, h2]
                        rfl
                      subst hq
                      go_wp2_with fail
                      go_meet
                      exact ⟨by first | rfl | simp [v1, v2], rfl⟩
                · have hvi : viB ⟨k, f, t, v⟩ S = true := by simp [viB, k3]
                  by_cases v0 : v = 0
                  · subst v0
                    have hq : false = Q := by
                      rw [← HQ.out]
                      have h2 : veB ⟨k, f, t, 0⟩ = false := by simp [veB]
                      rw [hwk, hvi, h2]
                      rfl
                    subst hq
                    go_wp2_with fail
                    go_meet
                    exact ⟨by first | rfl | simp [k1, k3, k4], rfl⟩
                  · have hq : true = Q := by
                      rw [← HQ.out]
                      have h2 : veB ⟨k, f, t, v⟩ = true := by simp [veB, k3, v0]
                      rw [h2]
                      simp
                    subst hq
                    go_wp2_with fail
                    go_meet
                    exact ⟨by first | rfl | simp [k1, k3, k4, v0], rfl⟩
          case rest =>
          obtain ⟨rfl, hwc⟩ := hcut
          subst hwc
          have HBw2 : Hid (Below w.heap.size w wc) := HB1.out.trans (HB2.out.mono HB1.out.size)
          cases Q with
          | true =>
            have HR3 : Hid (R = 1) := by
              show _ = _
              have h1 : N = 1 := by rw [HNQ.out, if_pos rfl]
              rw [HR2.out, ws_le (k := j + 1) (by rw [HST.out, h1]; decide) (by omega), HST.out, h1]
            go_wp2
            go_ret
            exact ⟨by rw [HR3.out]; rfl, HBw2.out⟩
          | false =>
            by_cases k4 : k = 4
            · subst k4
              have HN1 : Hid (N = if nlB ⟨4, f, t, v⟩ then 0 else 3) := by
                show _ = _
                rw [HNQ.out, if_neg (by decide), if_pos rfl]
              cases hf : f.toList.isEmpty
              · have HR3 : Hid (R = 3) := by
                  show _ = _
                  have h1 : nlB ⟨4, f, t, v⟩ = false := by simp [nlB, ← emp_lst, hf]
                  have h2 : N = 3 := by rw [HN1.out, h1]; rfl
                  rw [HR2.out, ws_le (k := j + 1) (by rw [HST.out, h2]; decide) (by omega), HST.out, h2]
                go_wp2
                go_ret
                exact ⟨by rw [HR3.out]; rfl, HBw2.out⟩
              · cases ht : t.toList.isEmpty
                · have HR3 : Hid (R = 3) := by
                    show _ = _
                    have h1 : nlB ⟨4, f, t, v⟩ = false := by simp [nlB, ← emp_lst, ht]
                    have h2 : N = 3 := by rw [HN1.out, h1]; rfl
                    rw [HR2.out, ws_le (k := j + 1) (by rw [HST.out, h2]; decide) (by omega), HST.out, h2]
                  go_wp2
                  go_ret
                  exact ⟨by rw [HR3.out]; rfl, HBw2.out⟩
                · have HS2 : Hid (wsTo S Hs l (j + 1) = 0) := by
                    show _ = _
                    have h1 : nlB ⟨4, f, t, v⟩ = true := by simp [nlB, ← emp_lst, hf, ht]
                    rw [HST.out, HN1.out, h1]
                    rfl
                  go_wp2
                  go_roundw
                  case rel => exact ⟨j + 1, by omega, by go_num, HS2.out, HB2.out⟩
                  case measure => simp [intOf]; omega
            · have HN1 : Hid (N = if hoB Hs f && hoB Hs t then 0 else 5) := by
                show _ = _
                rw [HNQ.out, if_neg (by decide), if_neg k4]
              have hk4 : (k == 4) = false := by simp [k4]
              clear HNQ
              go_wp2_with fail
              refine (rnamed_any S ao n cap ao2 n2 cap2 Hs f _ (HHW.out _ HBw2.out)).mono ?_
              rintro e w3 ⟨rfl, hb3⟩
              obtain ⟨I1, hI1⟩ : ∃ q, q = whN Hs f := ⟨_, rfl⟩
              have HI1 : Hid (decide (I1 < 0) = !hoB Hs f) := by
                show _ = _
                rw [hI1]
                exact ho_wh Hs f
              rw [← hI1]
              have HX3 : Hid (TBox w3 w.heap.size S (.slice ao n cap) (.slice ao2 n2 cap2)) := HX2.out.later hb3
              have HWB3 : Hid (WiBox w3 gw k f t v) := HWB.out.later hb3
              have HB3 : Hid (Below w1.heap.size w1 w3) := HB2.out.trans (hb3.mono HB2.out.size)
              have HBw3 : Hid (Below w.heap.size w w3) := HBw2.out.trans (hb3.mono HBw2.out.size)
              clear hI1 hb3 x0 x1 x2 x3 b0 b1 b2
              obtain ⟨x0, x1, x2, x3⟩ := HWB3.out
              obtain ⟨b0, b1, b2⟩ := HX3.out
              by_cases i1 : I1 < 0
              · have HR3 : Hid (R = 5) := by
                  show _ = _
                  have h0 := HI1.out
                  have h1 : hoB Hs f = false := by simpa [i1] using h0
                  have h2 : N = 5 := by rw [HN1.out, h1]; rfl
                  rw [HR2.out, ws_le (k := j + 1) (by rw [HST.out, h2]; decide) (by omega), HST.out, h2]
                go_wp2
                go_ret
                exact ⟨by rw [HR3.out]; rfl, HBw3.out⟩
              · have HF1 : Hid (hoB Hs f = true) := by
                  show _ = _
                  have h0 := HI1.out
                  simpa [i1] using h0
                go_wp2_with fail
                refine (rnamed_any S ao n cap ao2 n2 cap2 Hs t _ (HHW.out _ HBw3.out)).mono ?_
                rintro e w5 ⟨rfl, hb5⟩
                obtain ⟨I2, hI2⟩ : ∃ q, q = whN Hs t := ⟨_, rfl⟩
                have HI2 : Hid (decide (I2 < 0) = !hoB Hs t) := by
                  show _ = _
                  rw [hI2]
                  exact ho_wh Hs t
                rw [← hI2]
                have HB5 : Hid (Below w1.heap.size w1 w5) := HB3.out.trans (hb5.mono HB3.out.size)
                have HBw5 : Hid (Below w.heap.size w w5) := HBw3.out.trans (hb5.mono HBw3.out.size)
                clear hI2 hb5
                by_cases i2 : I2 < 0
                · have HR3 : Hid (R = 5) := by
                    show _ = _
                    have h0 := HI2.out
                    have h1 : hoB Hs t = false := by simpa [i2] using h0
                    have h2 : N = 5 := by rw [HN1.out, h1, Bool.and_false]; rfl
                    rw [HR2.out, ws_le (k := j + 1) (by rw [HST.out, h2]; decide) (by omega), HST.out, h2]
                  go_wp2
                  go_ret
                  exact ⟨by rw [HR3.out]; rfl, HBw5.out⟩
                · have HS2 : Hid (wsTo S Hs l (j + 1) = 0) := by
                    show _ = _
                    have h0 := HI2.out
                    have h1 : hoB Hs t = true := by simpa [i2] using h0
                    rw [HST.out, HN1.out, HF1.out, h1]
                    rfl
                  go_wp2
                  go_roundw
                  case rel => exact ⟨j + 1, by omega, by go_num, HS2.out, HB5.out⟩
                  case measure => simp [intOf]; omega
        · obtain rfl : j = n4 := by omega
          have HR3 : Hid (R = 0) := by
            show _ = _
            rw [HR2.out, HNO.out]
          have kb1 : ¬ (j : Int) < (j : Int) := by omega
          go_wp2
          go_ret
          exact ⟨by rw [HR3.out]; rfl, HBw.out⟩
  · have HR1 : Hid (R = T) := by
      show _ = _
      rw [HR.out, wsN, if_neg (by rw [← HT.out]; exact h0), HT.out]
    have hT0 : (T != 0) = true := by simp [h0]
    go_wp2
    go_ret
    exact ⟨by rw [HR1.out]; rfl, HB1.out⟩
end Go.Proofs.YtglnnoglbieaeaaGreatDoor
/- What railsame.Ints answers of two slices of numbers, whoever made them. -/
namespace Go.Proofs.YtglnnoglbieaeaaGreatDoor
open Go.RowKit
set_option linter.unusedSimpArgs false
set_option linter.unusedVariables false

theorem smi_next {xs ys : List Int} {k : Nat} (h : xs.take k = ys.take k) (hx : k < xs.length) (hy : k < ys.length) (he : xs[k] = ys[k]) : xs.take (k + 1) = ys.take (k + 1) := by
  rw [List.take_succ_eq_append_getElem hx, List.take_succ_eq_append_getElem hy, h, he]
set_option maxHeartbeats 2000000 in
theorem smints_any (ao bo : Option Addr) (n m c d : Nat) (xs ys : List Int) (w : World) (h1 : GS inE w (.slice ao n c) xs) (h2 : GS inE w (.slice bo m d) ys) :
    Calls Tryz.prog 15 #[.slice ao n c, .slice bo m d] w fun e w' => e = .returned (.bool (xs == ys)) ∧ Below w.heap.size w w' := by
  obtain ⟨_, _, _, e1, hn, hn2, _, ha⟩ := h1.form
  cases e1
  obtain ⟨_, _, _, e2, hm, hm2, _, hb⟩ := h2.form
  cases e2
  by_cases hl : n = m
  · subst hl
    have HX : Hid (xs.length = n) := hn
    have HY : Hid (ys.length = n) := hm
    have HA : Hid (0 < n → ∃ g o, ao = some ⟨g, o, none⟩ ∧ GAt inE w g o xs ∧ c ≤ maxLen) := ha
    have HB2 : Hid (0 < n → ∃ g o, bo = some ⟨g, o, none⟩ ∧ GAt inE w g o ys ∧ d ≤ maxLen) := hb
    unfold maxLen at hn2
    clear hn hm hm2 ha hb h1 h2
    go_enter Tryz.func15, Tryz.ntmps15
    go_wp2
    go_loopw [5] (fun i wr => ∃ k : Nat, k ≤ n ∧ i = .int .i64 k ∧ xs.take k = ys.take k ∧ Below w.heap.size w wr) (fun i _ => n - (intOf i).toNat)
    case atStart => exact ⟨0, by omega, rfl, by simp, Below.refl _ _⟩
    case round =>
      obtain ⟨k, hk, rfl, he, hB⟩ := hrel
      have HB : Hid (Below w.heap.size w wr) := hB
      have HE : Hid (xs.take k = ys.take k) := he
      clear he
      by_cases hlt : k < n
      · obtain ⟨g, o, hao, hc, _⟩ := HA.out (by omega)
        obtain ⟨f, q, hbo, hd, _⟩ := HB2.out (by omega)
        subst hao hbo
        obtain ⟨x, hkx, hxk, r0⟩ := in_at (hc.later hB) HX.out hlt
        obtain ⟨y, hky, hyk, r1⟩ := in_at (hd.later hB) HY.out hlt
        have HXK : Hid (xs[k] = x) := hxk
        have HYK : Hid (ys[k] = y) := hyk
        clear hxk hyk hc hd hB
        by_cases hne : x = y
        · subst hne
          go_wp2
          go_quiet (fail)
          go_wp2
          go_roundw
          case rel => exact ⟨k + 1, by omega, by go_num, smi_next HE.out hkx hky (HXK.out.trans HYK.out.symm), HB.out.trans ⟨rfl, rfl, rfl, Nat.le_refl _, fun _ _ => rfl⟩⟩
          case measure => simp [intOf]; omega
        · go_wp2
          go_quiet (fail)
          go_wp2
          go_ret
          exact ⟨by
            have : (xs == ys) = false := by
              simp only [beq_eq_false_iff_ne, ne_eq]
              intro h; subst h
              exact hne (HXK.out.symm.trans HYK.out)
            rw [this]; rfl, HB.out.trans ⟨rfl, rfl, rfl, Nat.le_refl _, fun _ _ => rfl⟩⟩
      · obtain rfl : k = n := by omega
        go_wp2
        go_ret
        exact ⟨by
          have h3 := HE.out
          rw [List.take_of_length_le (by rw [HX.out]; exact Nat.le_refl _), List.take_of_length_le (by rw [HY.out]; exact Nat.le_refl _)] at h3
          rw [h3]; simp, HB.out⟩
  · have e : (xs == ys) = false := by
      simp only [beq_eq_false_iff_ne, ne_eq]
      intro h; subst h; exact hl (hn.symm.trans hm)
    rw [e]
    have h3 : (n : Int) ≠ (m : Int) := by omega
    clear e ha hb h1 h2
    go_enter Tryz.func15, Tryz.ntmps15
    go_wp2
    go_ret
    exact ⟨rfl, Below.refl _ _⟩
end Go.Proofs.YtglnnoglbieaeaaGreatDoor
/- What railsame.Fate answers of two fates that are the same: a contract for the walks above it. -/
namespace Go.Proofs.YtglnnoglbieaeaaGreatDoor
open Go.RowKit
set_option linter.unusedSimpArgs false
set_option linter.unusedVariables false

theorem fate_drewN (w : World) (n : Nat) : Below w.heap.size w (w.drewN n) := ⟨rfl, rfl, rfl, Nat.le_refl _, fun _ _ => rfl⟩
/-- Two fates in their boxes. -/
structure FT (w W : World) (V1 : Int) (V2 : ByteArray) (u v : Value) : Prop where
  below : Below w.heap.size w W
  a0 : W.cell? ⟨w.heap.size, 0, none⟩ = some (.int .i64 V1)
  a1 : W.cell? ⟨w.heap.size, 1, none⟩ = some (.string V2)
  a2 : W.cell? ⟨w.heap.size, 2, none⟩ = some u
  b0 : W.cell? ⟨w.heap.size + 1, 0, none⟩ = some (.int .i64 V1)
  b1 : W.cell? ⟨w.heap.size + 1, 1, none⟩ = some (.string V2)
  b2 : W.cell? ⟨w.heap.size + 1, 2, none⟩ = some v
theorem FT.later {w W W' : World} {V1 : Int} {V2 : ByteArray} {u v : Value} (h : FT w W V1 V2 u v) (hb : Below W.heap.size W W') : FT w W' V1 V2 u v :=
  ⟨h.below.trans (hb.mono h.below.size), cell_later hb h.a0, cell_later hb h.a1, cell_later hb h.a2, cell_later hb h.b0, cell_later hb h.b1, cell_later hb h.b2⟩
theorem ft_new (w : World) (V1 : Int) (V2 : ByteArray) (u v : Value) : FT w ((w.alloc (Obj.cells #[.int .i64 V1, .string V2, u] 77)).alloc (Obj.cells #[.int .i64 V1, .string V2, v] 77)) V1 V2 u v := by
  have e1 : (w.alloc (Obj.cells #[.int .i64 V1, .string V2, u] 77)).heap.size = w.heap.size + 1 := by simp
  have hb : ∀ (W : World) (o : Obj), Below W.heap.size W (W.alloc o) := fun W o => (Below.refl _ _).alloc (Nat.le_refl _) _
  have ha := (vat_new w [.int .i64 V1, .string V2, u] 77).later (hb _ (Obj.cells #[.int .i64 V1, .string V2, v] 77))
  have hs := vat_new (w.alloc (Obj.cells #[.int .i64 V1, .string V2, u] 77)) [.int .i64 V1, .string V2, v] 77
  rw [e1] at hs
  exact ⟨((Below.refl _ _).alloc (Nat.le_refl _) _).alloc (by rw [e1]; omega) _, ha 0 _ rfl, ha 1 _ rfl, ha 2 _ rfl, hs 0 _ rfl, hs 1 _ rfl, hs 2 _ rfl⟩

set_option maxHeartbeats 2000000 in
set_option maxRecDepth 100000 in
theorem fate_any (V1 : Int) (V2 : ByteArray) (ao : Option Addr) (n cap : Nat) (bo : Option Addr) (m cbp : Nat) (L : List ((Int × Int) × Int)) (w : World) (hn1000 : L.length ≤ 1000)
    (h1 : GS hopE w (.slice ao n cap) L) (h2 : GS hopE w (.slice bo m cbp) L) :
    Calls Tryz.prog 32 #[.agg #[.int .i64 V1, .string V2, .slice ao n cap], .agg #[.int .i64 V1, .string V2, .slice bo m cbp]] w fun e w' => e = .returned (.bool true) ∧ Below w.heap.size w w' := by
  have hn := h1.len
  have hm := h2.len
  obtain rfl : m = n := by omega
  obtain ⟨_, _, _, e1, _, _, _, ha⟩ := h1.form
  cases e1
  obtain ⟨_, _, _, e2, _, _, _, hb⟩ := h2.form
  cases e2
  have HN : Hid (L.length = m) := hn
  have HA : Hid (0 < m → ∃ g o, ao = some ⟨g, o, none⟩ ∧ GAt hopE w g o L ∧ cap ≤ maxLen) := ha
  have HB : Hid (0 < m → ∃ g o, bo = some ⟨g, o, none⟩ ∧ GAt hopE w g o L ∧ cbp ≤ maxLen) := hb
  have hm1000 : m ≤ 1000 := by omega
  have hX := ft_new w V1 V2 (.slice ao m cap) (.slice bo m cbp)
  obtain ⟨w0, hw0⟩ : ∃ W, (w.alloc (Obj.cells #[.int .i64 V1, .string V2, .slice ao m cap] 77)).alloc (Obj.cells #[.int .i64 V1, .string V2, .slice bo m cbp] 77) = W := ⟨_, rfl⟩
  rw [hw0] at hX
  have HX : Hid (FT w w0 V1 V2 (.slice ao m cap) (.slice bo m cbp)) := hX
  have HW0 : Hid ((w.alloc (Obj.cells #[.int .i64 V1, .string V2, .slice ao m cap] 77)).alloc (Obj.cells #[.int .i64 V1, .string V2, .slice bo m cbp] 77) = w0) := hw0
  clear hn hm h1 h2 ha hb hX hw0 hn1000
  go_enter Tryz.func32, Tryz.ntmps32
  go_upto_region 1 with fail
  rw [HW0.out]
  obtain ⟨_, a0, a1, a2, b0, b1, b2⟩ := HX.out
  go_wp2
  clear a0 a1 a2 b0 b1 b2
  go_loopw [5] (fun i wr => ∃ k : Nat, k ≤ m ∧ i = .int .i64 k ∧ FT w wr V1 V2 (.slice ao m cap) (.slice bo m cbp)) (fun i _ => m - (intOf i).toNat)
  case atStart => exact ⟨0, by omega, rfl, HX.out⟩
  case round =>
    obtain ⟨k, hk, rfl, hF⟩ := hrel
    have HF : Hid (FT w wr V1 V2 (.slice ao m cap) (.slice bo m cbp)) := hF
    obtain ⟨hB, a0, a1, a2, b0, b1, b2⟩ := hF
    have HBe : Hid (Below w.heap.size w wr) := hB
    by_cases hlt : k < m
    · obtain ⟨g, o, hao, hc, _⟩ := HA.out (by omega)
      subst hao
      obtain ⟨g', o', hbo, hd, _⟩ := HB.out (by omega)
      subst hbo
      obtain ⟨x0, x1, x2, hkl, hLk, c0, c1, c2⟩ := hop_at (hc.later hB) HN.out hlt
      obtain ⟨y0, y1, y2, hkl', hLk', d0, d1, d2⟩ := hop_at (hd.later hB) HN.out hlt
      rw [hLk] at hLk'
      cases hLk'
      have m1 : g < wr.heap.size := World.block_lt_of_cell? _ _ c0
      have m2 : g' < wr.heap.size := World.block_lt_of_cell? _ _ d0
      have m3 : w.heap.size < wr.heap.size := World.block_lt_of_cell? _ _ a0
      have m4 : w.heap.size + 1 < wr.heap.size := World.block_lt_of_cell? _ _ b0
      have kb0 : (0 : Int) ≤ (k : Int) := by omega
      have kb1 : (k : Int) < (m : Int) := by omega
      clear hc hd hLk hB
      go_wp2_with fail
      go_quiet (fail)
      go_wp2
      go_roundw
      case rel => exact ⟨k + 1, by omega, by go_num, HF.out.later (fate_drewN _ _)⟩
      case measure => simp [intOf]; omega
    · obtain rfl : k = m := by omega
      go_wp2
      go_ret
      exact ⟨rfl, HBe.out⟩
end Go.Proofs.YtglnnoglbieaeaaGreatDoor
/- What railsame.Fates answers of two slices of fates that are the same: a contract for the walks above it. -/
namespace Go.Proofs.YtglnnoglbieaeaaGreatDoor
open Go.RowKit
set_option linter.unusedSimpArgs false
set_option linter.unusedVariables false

def CF2 (wr : World) (g q : Nat) (f p : Nat) (x : Ft) (a3 : Option Addr) (n3 c3 : Nat) (a4 : Option Addr) (n4 c4 : Nat) (w' : World) : Prop :=
  Below wr.heap.size wr w' ∧ w'.cell? ⟨g, q, none⟩ = some (.int .i64 x.1) ∧ w'.cell? ⟨g, q + 1, none⟩ = some (.string x.2.1) ∧ w'.cell? ⟨g, q + 2, none⟩ = some (.slice a3 n3 c3) ∧ w'.cell? ⟨f, p, none⟩ = some (.int .i64 x.1) ∧ w'.cell? ⟨f, p + 1, none⟩ = some (.string x.2.1) ∧ w'.cell? ⟨f, p + 2, none⟩ = some (.slice a4 n4 c4) ∧ GS hopE w' (.slice a3 n3 c3) x.2.2 ∧ GS hopE w' (.slice a4 n4 c4) x.2.2
theorem CF2.later {wr W W' : World} {g q f p : Nat} {x : Ft} {a3 : Option Addr} {n3 c3 : Nat} {a4 : Option Addr} {n4 c4 : Nat} (hb : Below W.heap.size W W') (h : CF2 wr g q f p x a3 n3 c3 a4 n4 c4 W) : CF2 wr g q f p x a3 n3 c3 a4 n4 c4 W' := by
  obtain ⟨h0, h1, h2, h3, h4, h5, h6, h7, h8⟩ := h
  exact ⟨h0.trans (hb.mono h0.size), cell_later hb h1, cell_later hb h2, cell_later hb h3, cell_later hb h4, cell_later hb h5, cell_later hb h6, h7.later hb, h8.later hb⟩
set_option maxHeartbeats 2000000 in
set_option maxRecDepth 100000 in
theorem smfates_any (ao bo : Option Addr) (n m c d : Nat) (L : List Ft) (w : World) (h1 : FTs w (.slice ao n c) L) (h2 : FTs w (.slice bo m d) L) (hs : ∀ x ∈ L, x.2.2.length ≤ 1000) :
    Calls Tryz.prog 11 #[.slice ao n c, .slice bo m d] w fun e w' => e = .returned (.bool true) ∧ Below w.heap.size w w' := by
  have hn := h1.len
  have hm := h2.len
  obtain ⟨_, _, _, e1, _, hn2, _⟩ := h1.form
  cases e1
  obtain rfl : m = n := by omega
  have HX : Hid (L.length = m) := hn
  have HA : Hid (FTs w (.slice ao m c) L) := h1
  have HB2 : Hid (FTs w (.slice bo m d) L) := h2
  have HS : Hid (∀ x ∈ L, x.2.2.length ≤ 1000) := hs
  unfold maxLen at hn2
  clear hn hm h1 h2 hs
  go_enter Tryz.func11, Tryz.ntmps11
  go_wp2
  go_loopw [5] (fun i wr => ∃ k : Nat, k ≤ m ∧ i = .int .i64 k ∧ Below w.heap.size w wr) (fun i _ => m - (intOf i).toNat)
  case atStart => exact ⟨0, by omega, rfl, Below.refl _ _⟩
  case round =>
    obtain ⟨k, hk, rfl, hB⟩ := hrel
    have HB : Hid (Below w.heap.size w wr) := hB
    by_cases hlt : k < m
    · obtain ⟨g, o, x, a3, n3, c3, hao, hx, r0, r1, r2, hG3⟩ := (HA.out.later hB).at hlt
      obtain ⟨f, q, y, a4, n4, c4, hbo, hy, s0, s1, s2, hG4⟩ := (HB2.out.later hB).at hlt
      rw [hx] at hy
      cases hy
      subst hao hbo
      have HSX : Hid (x.2.2.length ≤ 1000) := HS.out x (List.mem_of_getElem? hx)
      have HCL : Hid (CF2 wr g (o + k * 3) f (q + k * 3) x a3 n3 c3 a4 n4 c4 wr) := ⟨Below.refl _ _, r0, r1, r2, s0, s1, s2, hG3, hG4⟩
      have kb0 : (0 : Int) ≤ (k : Int) := by omega
      have kb1 : (k : Int) < (m : Int) := by omega
      clear hB r0 r1 r2 s0 s1 s2 hG3 hG4 hx
      go_upto_region 6 with fail
      refine wp_region_quiet (C := CF2 wr g (o + k * 3) f (q + k * 3) x a3 n3 c3 a4 n4 c4) (by kernel_rfl) (by kernel_rfl) (CF2.later (W := wr) (Below.drew (Below.refl _ _)) HCL.out) ?_
      simp only [List.toList_toArray]
      go_big_quiet_want
      refine quiet_val (v := .slice (some ⟨g, o, none⟩) m c) (fun w' hC => ?_) ?_
      · obtain ⟨z0, z1, z2, z3, z4, z5, z6, z7, z8⟩ := hC
        go_simp
      simp only [Act.put, List.setIfInBounds_toArray, List.set_cons_zero, List.set_cons_succ]
      go_big_quiet_on
      go_big_quiet_want
      refine quiet_val (v := .int .i64 (k : Int)) (fun w' hC => ?_) ?_
      · obtain ⟨z0, z1, z2, z3, z4, z5, z6, z7, z8⟩ := hC
        go_simp
      simp only [Act.put, List.setIfInBounds_toArray, List.set_cons_zero, List.set_cons_succ]
      go_big_quiet_on
      go_big_quiet_want
      refine quiet_val (v := .pointer (some ⟨g, o + k * 3, none⟩)) (fun w' hC => ?_) ?_
      · obtain ⟨z0, z1, z2, z3, z4, z5, z6, z7, z8⟩ := hC
        go_simp
      simp only [Act.put, List.setIfInBounds_toArray, List.set_cons_zero, List.set_cons_succ]
      go_big_quiet_on
      go_big_quiet_want
      refine quiet_val (v := .agg #[.int .i64 x.1, .string x.2.1, .slice a3 n3 c3]) (fun w' hC => ?_) ?_
      · obtain ⟨z0, z1, z2, z3, z4, z5, z6, z7, z8⟩ := hC
        go_simp
      simp only [Act.put, List.setIfInBounds_toArray, List.set_cons_zero, List.set_cons_succ]
      go_big_quiet_on
      go_big_quiet_want
      refine quiet_val (v := .slice (some ⟨f, q, none⟩) m d) (fun w' hC => ?_) ?_
      · obtain ⟨z0, z1, z2, z3, z4, z5, z6, z7, z8⟩ := hC
        go_simp
      simp only [Act.put, List.setIfInBounds_toArray, List.set_cons_zero, List.set_cons_succ]
      go_big_quiet_on
      go_big_quiet_want
      refine quiet_val (v := .int .i64 (k : Int)) (fun w' hC => ?_) ?_
      · obtain ⟨z0, z1, z2, z3, z4, z5, z6, z7, z8⟩ := hC
        go_simp
      simp only [Act.put, List.setIfInBounds_toArray, List.set_cons_zero, List.set_cons_succ]
      go_big_quiet_on
      go_big_quiet_want
      refine quiet_val (v := .pointer (some ⟨f, q + k * 3, none⟩)) (fun w' hC => ?_) ?_
      · obtain ⟨z0, z1, z2, z3, z4, z5, z6, z7, z8⟩ := hC
        go_simp
      simp only [Act.put, List.setIfInBounds_toArray, List.set_cons_zero, List.set_cons_succ]
      go_big_quiet_on
      go_big_quiet_want
      refine quiet_val (v := .agg #[.int .i64 x.1, .string x.2.1, .slice a4 n4 c4]) (fun w' hC => ?_) ?_
      · obtain ⟨z0, z1, z2, z3, z4, z5, z6, z7, z8⟩ := hC
        go_simp
      simp only [Act.put, List.setIfInBounds_toArray, List.set_cons_zero, List.set_cons_succ]
      go_big_quiet_on
      go_big_quiet_want
      refine quiet_call (f := 32) (args := #[.agg #[.int .i64 x.1, .string x.2.1, .slice a3 n3 c3], .agg #[.int .i64 x.1, .string x.2.1, .slice a4 n4 c4]]) (v := .bool true) (fun w' => ?_) (fun w' hC => (fate_any x.1 x.2.1 a3 n3 c3 a4 n4 c4 x.2.2 w' HSX.out hC.2.2.2.2.2.2.2.1 hC.2.2.2.2.2.2.2.2).mono (fun e w2 h2 => ⟨by rw [h2.1], CF2.later h2.2 hC⟩)) ?_
      · go_simp
      simp only [Act.put, List.setIfInBounds_toArray, List.set_cons_zero, List.set_cons_succ]
      go_big_quiet_on
      go_big_quiet_want
      refine quiet_val (v := .bool true) (fun w' hC => ?_) ?_
      · obtain ⟨z0, z1, z2, z3, z4, z5, z6, z7, z8⟩ := hC
        go_simp
      simp only [Act.put, List.setIfInBounds_toArray, List.set_cons_zero, List.set_cons_succ]
      go_big_quiet_on
      refine wpQuiet_nil ?_
      intro w' hC
      have HBY : Hid (Below wr.heap.size wr w') := hC.1
      clear hC
      go_wp2
      go_roundw
      case rel => exact ⟨k + 1, by omega, by go_num, HB.out.trans (HBY.out.mono HB.out.size)⟩
      case measure => simp [intOf]; omega
    · obtain rfl : k = m := by omega
      clear hB
      go_wp2
      go_ret
      exact ⟨rfl, HB.out⟩
end Go.Proofs.YtglnnoglbieaeaaGreatDoor
/- What errors.As, plain.Told and railsame.Error answer for no error and for an Errno: contracts for the walks above them. -/
namespace Go.Proofs.YtglnnoglbieaeaaGreatDoor
open Go.RowKit Go.Extern.Stop Go.Stop Go.Extern
set_option linter.unusedSimpArgs false

/-- What package errors' variable holds: the handle of the type error. -/
def HasErr (w : World) : Prop := w.cell? ⟨0, 0, none⟩ = some (.iface 216 (.agg #[.pointer (some ⟨1, 43, none⟩)]))
theorem HasErr.later {w w' : World} (h : HasErr w) (hb : Below w.heap.size w w') : HasErr w' := cell_later hb h
theorem HasErr.alloc {w : World} (h : HasErr w) (o : Obj) : HasErr (w.alloc o) := h.later ((Below.refl _ _).alloc (Nat.le_refl _) _)

theorem vOfP (t : Addr) (w : World) : (ReflectliteValue.unpack (.iface 133 (.pointer (some t)))).run Tryz.prog w
    = .ok (.agg #[.pointer (some ⟨1, 133, none⟩), .pointer (some ⟨w.heap.size, 0, none⟩), .int .u64 150]) (w.alloc (.cells #[.pointer (some t)] 133)) := by kernel_rfl
theorem typeP (a : Addr) (w : World) : (ReflectliteValue.methodAny (ReflectliteValue.valueError "reflectlite.Value.Type" 0) (fun t _ _ _ => ReflectliteType.toType t) #[.agg #[.pointer (some ⟨1, 133, none⟩), .pointer (some a), .int .u64 150]]).run Tryz.prog w
    = .ok (.iface 216 (.agg #[.pointer (some ⟨1, 133, none⟩)])) w := by kernel_rfl
theorem methKind (h : Value) (w : World) : (Go.method 383 216 (.agg #[h]) "Kind").run Tryz.prog w = .ok (180, h) w := by kernel_rfl
theorem kindP (w : World) : ((ReflectliteType.abiMethod fun t => Functor.map (fun a : Nat => Value.int IntKind.u8 (a : Int)) (Rtype.kind t)) #[.pointer (some ⟨1, 133, none⟩)]).run Tryz.prog w = .ok (.int .u8 22) w := by kernel_rfl
theorem kindE (w : World) : ((ReflectliteType.abiMethod fun t => Functor.map (fun a : Nat => Value.int IntKind.u8 (a : Int)) (Rtype.kind t)) #[.pointer (some ⟨1, 85, none⟩)]).run Tryz.prog w = .ok (.int .u8 2) w := by kernel_rfl
theorem partsP (a : Addr) (w : World) : (ReflectliteValue.parts (.agg #[.pointer (some ⟨1, 133, none⟩), .pointer (some a), .int .u64 150])).run Tryz.prog w = .ok (some (133, a, 150)) w := by kernel_rfl
theorem isNilP (a p : Addr) (W : World) (ha : W.cell? a = some (.pointer (some p))) :
    (ReflectliteValue.method (ReflectliteValue.valueError "reflectlite.Value.IsNil" 0) ReflectliteValue.isNil #[.agg #[.pointer (some ⟨1, 133, none⟩), .pointer (some a), .int .u64 150]]).run Tryz.prog W = .ok (.bool false) W := by
  change Sem.run _ (ReflectliteValue.parts (.agg #[.pointer (some ⟨1, 133, none⟩), .pointer (some a), .int .u64 150]) >>= _) _ = _
  rw [Sem.run_bind, partsP]
  simp only [Result.andThen]
  simp [ReflectliteValue.isNil, loadVar, isAgg, underlying, Tryz.underlying133, ha, Result.andThen]
theorem methElem (h : Value) (w : World) : (Go.method 383 216 (.agg #[h]) "Elem").run Tryz.prog w = .ok (190, .agg #[h]) w := by kernel_rfl
theorem methImpl (h : Value) (w : World) : (Go.method 383 216 (.agg #[h]) "Implements").run Tryz.prog w = .ok (191, .agg #[h]) w := by kernel_rfl
theorem methAssign (h : Value) (w : World) : (Go.method 383 216 (.agg #[h]) "AssignableTo").run Tryz.prog w = .ok (188, .agg #[h]) w := by kernel_rfl
theorem elemP (w : World) : (ReflectliteType.method ReflectliteType.elem #[.agg #[.pointer (some ⟨1, 133, none⟩)]]).run Tryz.prog w = .ok (.iface 216 (.agg #[.pointer (some ⟨1, 85, none⟩)])) w := by kernel_rfl
theorem implE (w : World) : (ReflectliteType.relation "Implements" ReflectliteType.implements_ #[.agg #[.pointer (some ⟨1, 85, none⟩)], .iface 216 (.agg #[.pointer (some ⟨1, 43, none⟩)])]).run Tryz.prog w = .ok (.bool true) w := by kernel_rfl
theorem typeOfE (v : Value) (w : World) : (ReflectliteType.typeOf #[.iface 85 v]).run Tryz.prog w = .ok (.iface 216 (.agg #[.pointer (some ⟨1, 85, none⟩)])) w := by kernel_rfl
theorem assignE (w : World) : (ReflectliteType.relation "AssignableTo" ReflectliteType.assignableTo #[.agg #[.pointer (some ⟨1, 85, none⟩)], .iface 216 (.agg #[.pointer (some ⟨1, 85, none⟩)])]).run Tryz.prog w = .ok (.bool true) w := by kernel_rfl
theorem vOfE (n : Int) (w : World) : (ReflectliteValue.unpack (.iface 85 (.int .i64 n))).run Tryz.prog w
    = .ok (.agg #[.pointer (some ⟨1, 85, none⟩), .pointer (some ⟨w.heap.size, 0, none⟩), .int .u64 130]) (w.alloc (.cells #[.int .i64 n] 85)) := by kernel_rfl
theorem elemOfP (w : World) : (Rtype.elem? 133).run Tryz.prog w = .ok (some 85) w := by kernel_rfl
theorem mkE (p : Addr) (w : World) : (ReflectliteValue.mk 85 p ReflectliteValue.flagAddr).run Tryz.prog w = .ok (.agg #[.pointer (some ⟨1, 85, none⟩), .pointer (some p), .int .u64 386]) w := by kernel_rfl
theorem elemVP (a p : Addr) (W : World) (ha : W.cell? a = some (.pointer (some p))) :
    (ReflectliteValue.method (ReflectliteValue.valueError "reflectlite.Value.Elem" 0) ReflectliteValue.elem #[.agg #[.pointer (some ⟨1, 133, none⟩), .pointer (some a), .int .u64 150]]).run Tryz.prog W
      = .ok (.agg #[.pointer (some ⟨1, 85, none⟩), .pointer (some p), .int .u64 386]) W := by
  change Sem.run _ (ReflectliteValue.parts (.agg #[.pointer (some ⟨1, 133, none⟩), .pointer (some a), .int .u64 150]) >>= _) _ = _
  rw [Sem.run_bind, partsP]
  simp only [Result.andThen]
  simp [ReflectliteValue.elem, loadVar, isAgg, underlying, Tryz.underlying133, ha, Result.andThen, elemOfP, mkE]
theorem partsEa (a : Addr) (w : World) : (ReflectliteValue.parts (.agg #[.pointer (some ⟨1, 85, none⟩), .pointer (some a), .int .u64 386])).run Tryz.prog w = .ok (some (85, a, 386)) w := by kernel_rfl
theorem partsE (a : Addr) (w : World) : (ReflectliteValue.parts (.agg #[.pointer (some ⟨1, 85, none⟩), .pointer (some a), .int .u64 130])).run Tryz.prog w = .ok (some (85, a, 130)) w := by kernel_rfl
theorem directE (w : World) : (Rtype.directlyAssignable 85 85).run Tryz.prog w = .ok true w := by kernel_rfl
/-- Set: the Errno variable at 'ta' gets what the Value's own variable 'b' holds. -/
theorem setE (ta b : Addr) (n : Int) (old : Value) (W : World) (hb : W.cell? b = some (.int .i64 n)) (ht : W.cell? ta = some old) (hf : W.frozen? ta = false) :
    (ReflectliteValue.set #[.agg #[.pointer (some ⟨1, 85, none⟩), .pointer (some ta), .int .u64 386], .agg #[.pointer (some ⟨1, 85, none⟩), .pointer (some b), .int .u64 130]]).run Tryz.prog W
      = .ok (.tuple #[]) (W.setCell ta (.int .i64 n)) := by
  change Sem.run _ (ReflectliteValue.parts (.agg #[.pointer (some ⟨1, 85, none⟩), .pointer (some ta), .int .u64 386]) >>= _) _ = _
  rw [Sem.run_bind, partsEa]
  simp only [Result.andThen]
  change Sem.run _ (ReflectliteValue.parts (.agg #[.pointer (some ⟨1, 85, none⟩), .pointer (some b), .int .u64 130]) >>= _) _ = _
  rw [Sem.run_bind, partsE]
  simp only [Result.andThen]
  simp [ReflectliteValue.flagAddr, loadVar, isAgg, underlying, Tryz.underlying85, hb, Result.andThen, directE, storeVar, Value.cells, storeCells, Addr.add]
  rw [run_store Tryz.prog W ta _ _ (by rfl)]
  simp [ht, hf]
end Go.Proofs.YtglnnoglbieaeaaGreatDoor
/- What errors.As, plain.Told and railsame.Error answer for no error and for an Errno: the walks. -/
namespace Go.Proofs.YtglnnoglbieaeaaGreatDoor
open Go.RowKit Go.Extern.Stop Go.Stop Go.Extern
set_option linter.unusedSimpArgs false

set_option maxHeartbeats 4000000 in
theorem as_hit (n : Int) (t : Addr) (old : Value) (w : World) (hg : HasErr w) (ht0 : w.cell? t = some old) (hf0 : w.frozen? t = false) :
    Calls Tryz.prog 61 #[.iface 85 (.int .i64 n), .iface 133 (.pointer (some t))] w fun ev w' => ev = .returned (.bool true) ∧ w' = ((((w.alloc (.cells #[.pointer (some t)] 133)).alloc (.cells #[.pointer (some ⟨1, 133, none⟩), .pointer (some ⟨w.heap.size, 0, none⟩), .int .u64 150] 180)).alloc (.cells #[.pointer (some ⟨1, 133, none⟩), .pointer (some ⟨w.heap.size, 0, none⟩), .int .u64 150] 180)).alloc (.cells #[.int .i64 n] 85)).setCell t (.int .i64 n) := by
  unfold HasErr at hg
  have h6 := @run_callFunc_extern Tryz.prog 96 _ (fun args => ReflectliteValue.unpack (args.getD 0 (.tuple #[]))) Tryz.func96 (by kernel_rfl) (by kernel_rfl) (by kernel_rfl) (by kernel_rfl)
  have h7 := @run_callFunc_extern Tryz.prog 97 _ (ReflectliteValue.methodAny (ReflectliteValue.valueError "reflectlite.Value.Type" 0) (fun t _ _ _ => ReflectliteType.toType t)) Tryz.func97 (by kernel_rfl) (by kernel_rfl) (by kernel_rfl) (by kernel_rfl)
  have h8 := @run_callFunc_extern Tryz.prog 98 _ (ReflectliteValue.method (ReflectliteValue.valueError "reflectlite.Value.IsNil" 0) ReflectliteValue.isNil) Tryz.func98 (by kernel_rfl) (by kernel_rfl) (by kernel_rfl) (by kernel_rfl)
  have h27 := @run_callFunc_extern Tryz.prog 180 _ (ReflectliteType.abiMethod fun t => do pure (.int .u8 (← Rtype.kind t))) Tryz.func180 (by kernel_rfl) (by kernel_rfl) (by kernel_rfl) (by kernel_rfl)
  have h37 := @run_callFunc_extern Tryz.prog 190 _ (ReflectliteType.method ReflectliteType.elem) Tryz.func190 (by kernel_rfl) (by kernel_rfl) (by kernel_rfl) (by kernel_rfl)
  have h38 := @run_callFunc_extern Tryz.prog 191 _ (ReflectliteType.relation "Implements" ReflectliteType.implements_) Tryz.func191 (by kernel_rfl) (by kernel_rfl) (by kernel_rfl) (by kernel_rfl)
  have h10 := @run_callFunc_extern Tryz.prog 135 _ ReflectliteType.typeOf Tryz.func135 (by kernel_rfl) (by kernel_rfl) (by kernel_rfl) (by kernel_rfl)
  have h35 := @run_callFunc_extern Tryz.prog 188 _ (ReflectliteType.relation "AssignableTo" ReflectliteType.assignableTo) Tryz.func188 (by kernel_rfl) (by kernel_rfl) (by kernel_rfl) (by kernel_rfl)
  have h11 := @run_callFunc_extern Tryz.prog 136 _ (ReflectliteValue.method (ReflectliteValue.valueError "reflectlite.Value.Elem" 0) ReflectliteValue.elem) Tryz.func136 (by kernel_rfl) (by kernel_rfl) (by kernel_rfl) (by kernel_rfl)
  have h12 := @run_callFunc_extern Tryz.prog 137 _ ReflectliteValue.set Tryz.func137 (by kernel_rfl) (by kernel_rfl) (by kernel_rfl) (by kernel_rfl)
  have tO := typeOfE
  have mA := methAssign
  have a25 := assignE
  have v25 := vOfE
  have f6 := vOfP
  have f7 := typeP
  have mK := methKind
  have mE := methElem
  have mI := methImpl
  have k27 := kindP
  have k25 := kindE
  have e27 := elemP
  have i25 := implE
  have hlt : 0 < w.heap.size := World.block_lt_of_cell? _ _ hg
  have htl : t.block < w.heap.size := World.block_lt_of_cell? _ _ ht0
  have n8 := isNilP ⟨w.heap.size, 0, none⟩ t ((w.alloc (.cells #[.pointer (some t)] 133)).alloc (.cells #[.pointer (some ⟨1, 133, none⟩), .pointer (some ⟨w.heap.size, 0, none⟩), .int .u64 150] 180)) (by simp)
  have hg2 : ((w.alloc (.cells #[.pointer (some t)] 133)).alloc (.cells #[.pointer (some ⟨1, 133, none⟩), .pointer (some ⟨w.heap.size, 0, none⟩), .int .u64 150] 180)).cell? ⟨0, 0, none⟩ = some (.iface 216 (.agg #[.pointer (some ⟨1, 43, none⟩)])) := by
    rw [World.cell?_alloc_lt _ _ ⟨0, 0, none⟩ (by simp <;> omega), World.cell?_alloc_lt _ _ ⟨0, 0, none⟩ hlt]; exact hg
  have el := elemVP ⟨w.heap.size, 0, none⟩ t (((w.alloc (.cells #[.pointer (some t)] 133)).alloc (.cells #[.pointer (some ⟨1, 133, none⟩), .pointer (some ⟨w.heap.size, 0, none⟩), .int .u64 150] 180)).alloc (.cells #[.pointer (some ⟨1, 133, none⟩), .pointer (some ⟨w.heap.size, 0, none⟩), .int .u64 150] 180)) (by rw [World.cell?_alloc_lt _ _ ⟨w.heap.size, 0, none⟩ (by simp; omega)]; simp)
  have st := setE t ⟨w.heap.size + 1 + 1 + 1, 0, none⟩ n old ((((w.alloc (.cells #[.pointer (some t)] 133)).alloc (.cells #[.pointer (some ⟨1, 133, none⟩), .pointer (some ⟨w.heap.size, 0, none⟩), .int .u64 150] 180)).alloc (.cells #[.pointer (some ⟨1, 133, none⟩), .pointer (some ⟨w.heap.size, 0, none⟩), .int .u64 150] 180)).alloc (.cells #[.int .i64 n] 85))
    (by rw [World.cell?_alloc_at _ _ _ _ (by simp)]; rfl)
    (by rw [World.cell?_alloc_lt _ _ t (by simp; omega), World.cell?_alloc_lt _ _ t (by simp; omega), World.cell?_alloc_lt _ _ t (by simp; omega), World.cell?_alloc_lt _ _ t htl]; exact ht0)
    (by rw [World.frozen?_alloc_old _ _ t (by simp; omega), World.frozen?_alloc_old _ _ t (by simp; omega), World.frozen?_alloc_old _ _ t (by simp; omega), World.frozen?_alloc_old _ _ t (Nat.ne_of_lt htl)]; exact hf0)
  go_enter Tryz.func61, Tryz.ntmps61
  go_wp2
  refine wp_loop_rounds 1 ?_
  rw [rounds_succ]
  go_wp2
  go_ret
  exact ⟨rfl, rfl⟩

set_option maxHeartbeats 1000000 in
theorem told_nil (w : World) :
    Calls Tryz.prog 31 #[.nilIface] w fun e w' => e = .returned (.int .i64 0) ∧ Below w.heap.size w w' := by
  go_enter Tryz.func31, Tryz.ntmps31
  go_wp2
  go_ret
  exact ⟨rfl, Below.refl _ _⟩

set_option maxHeartbeats 1000000 in
theorem told_some (n : Int) (w : World) (hg : HasErr w) :
    Calls Tryz.prog 31 #[.iface 85 (.int .i64 n)] w fun e w' => e = .returned (.int .i64 n) ∧ Below w.heap.size w w' := by
  have HG : Hid (HasErr w) := hg
  clear hg
  go_enter Tryz.func31, Tryz.ntmps31
  go_wp2_with fail
  refine (as_hit n _ (.int .i64 0) _ (HG.out.alloc _) (by simp) (by simp)).mono ?_
  rintro e w' ⟨rfl, rfl⟩
  go_wp2
  go_ret
  refine ⟨rfl, ?_⟩
  exact ((((((Below.refl _ _).alloc (Nat.le_refl _) _).alloc (by simp) _).alloc (by simp; omega) _).alloc (by simp; omega) _).alloc (by simp; omega) _)

set_option maxHeartbeats 1000000 in
theorem same_nil (k : Int) (w : World) :
    Calls Tryz.prog 10 #[.nilIface, .int .i64 k] w fun e w' => e = .returned (.bool (0 == k)) ∧ Below w.heap.size w w' := by
  go_enter Tryz.func10, Tryz.ntmps10
  go_wp2_with fail
  refine (told_nil _).mono ?_
  rintro e w' ⟨rfl, hb⟩
  go_wp2
  go_ret
  exact ⟨rfl, hb⟩

set_option maxHeartbeats 1000000 in
theorem same_some (n k : Int) (w : World) (hg : HasErr w) :
    Calls Tryz.prog 10 #[.iface 85 (.int .i64 n), .int .i64 k] w fun e w' => e = .returned (.bool (n == k)) ∧ Below w.heap.size w w' := by
  have HG : Hid (HasErr w) := hg
  clear hg
  go_enter Tryz.func10, Tryz.ntmps10
  go_wp2_with fail
  refine (told_some n _ HG.out).mono ?_
  rintro e w' ⟨rfl, hb⟩
  go_wp2
  go_ret
  exact ⟨rfl, hb⟩
end Go.Proofs.YtglnnoglbieaeaaGreatDoor
/- What railsame.Error answers at the error of a number and this number. -/
namespace Go.Proofs.YtglnnoglbieaeaaGreatDoor
open Go.RowKit

theorem same_noV (n : Int) (w : World) (hg : HasErr w) :
    Calls Tryz.prog 10 #[noV n, .int .i64 n] w fun e w' => e = .returned (.bool true) ∧ Below w.heap.size w w' := by
  by_cases h : n = 0
  · subst h
    refine (same_nil _ w).mono ?_
    rintro e w' ⟨rfl, hb⟩
    exact ⟨by simp, hb⟩
  · rw [no_ne h]
    refine (same_some _ _ w hg).mono ?_
    rintro e w' ⟨rfl, hb⟩
    exact ⟨by simp, hb⟩
end Go.Proofs.YtglnnoglbieaeaaGreatDoor
/- Nets in boxes: what the laws of package change carry along. -/
namespace Go.Proofs.YtglnnoglbieaeaaGreatDoor
open Go.RowKit
set_option linter.unusedSimpArgs false
set_option linter.unusedVariables false

/-- A net lies in these four cells. -/
structure BN (W : World) (b : Nat) (S : Int) (v1 v2 v3 : Value) (Ls : List ((Int × Int) × (Int × Int))) (Hs : List (ByteArray × (Int × Int))) (Ts : List (List Ru)) : Prop where
  c : NeBox W b S v1 v2 v3
  l : GS lnkE W v1 Ls
  h : GS hstE W v2 Hs
  t : TS W v3 Ts
theorem BN.later {W W' : World} {b : Nat} {S : Int} {v1 v2 v3 : Value} {Ls : List ((Int × Int) × (Int × Int))} {Hs : List (ByteArray × (Int × Int))} {Ts : List (List Ru)} (h : BN W b S v1 v2 v3 Ls Hs Ts) (hb : Below W.heap.size W W') : BN W' b S v1 v2 v3 Ls Hs Ts := ⟨h.c.later hb, h.l.later hb, h.h.later hb, h.t.later hb⟩
theorem BN.lt {W : World} {b : Nat} {S : Int} {v1 v2 v3 : Value} {Ls : List ((Int × Int) × (Int × Int))} {Hs : List (ByteArray × (Int × Int))} {Ts : List (List Ru)} (h : BN W b S v1 v2 v3 Ls Hs Ts) : b < W.heap.size := World.block_lt_of_cell? W ⟨b, 0, none⟩ h.c.1
/-- A pointer to a net, and an empty error. -/
def PN (W : World) (p : Value) (S : Int) (Ls : List ((Int × Int) × (Int × Int))) (Hs : List (ByteArray × (Int × Int))) (Ts : List (List Ru)) : Prop :=
  ∃ b ao n cap ao2 n2 cap2 ao3 n3 cap3, p = .pointer (some ⟨b, 0, none⟩) ∧ BN W b S (.slice ao n cap) (.slice ao2 n2 cap2) (.slice ao3 n3 cap3) Ls Hs Ts
theorem bn_new {w : World} {S : Int} {v1 v2 v3 : Value} {Ls : List ((Int × Int) × (Int × Int))} {Hs : List (ByteArray × (Int × Int))} {Ts : List (List Ru)} (t : TypeId) (h1 : GS lnkE w v1 Ls) (h2 : GS hstE w v2 Hs) (h3 : TS w v3 Ts) : BN (w.alloc (Obj.cells #[.int .i64 S, v1, v2, v3] t)) w.heap.size S v1 v2 v3 Ls Hs Ts := by
  have hb : Below w.heap.size w (w.alloc (Obj.cells #[.int .i64 S, v1, v2, v3] t)) := (Below.refl _ _).alloc (Nat.le_refl _) _
  exact ⟨nebox_new w S v1 v2 v3 t, h1.later hb, h2.later hb, h3.later hb⟩
theorem balloc4 {w w' : World} {a b c d : Value} {t : TypeId} (hb : Below (w.drew.alloc (Obj.cells #[a, b, c, d] t)).heap.size (w.drew.alloc (Obj.cells #[a, b, c, d] t)) w') : (w'.cell? ⟨w.heap.size, 0, none⟩ = some a ∧ w'.cell? ⟨w.heap.size, 1, none⟩ = some b ∧ w'.cell? ⟨w.heap.size, 2, none⟩ = some c ∧ w'.cell? ⟨w.heap.size, 3, none⟩ = some d) ∧ ∀ i, w'.frozen? ⟨w.heap.size, i, none⟩ = false := by
  have h := vat_new w.drew [a, b, c, d] t
  have hl : w.heap.size < (w.drew.alloc (Obj.cells #[a, b, c, d] t)).heap.size := by simp
  refine ⟨⟨cell_later hb (h 0 _ rfl), cell_later hb (h 1 _ rfl), cell_later hb (h 2 _ rfl), cell_later hb (h 3 _ rfl)⟩, fun i => (hb.frozen (p := ⟨w.heap.size, i, none⟩) hl).trans ?_⟩
  have h2 := heap_alloc_new w.drew (Obj.cells #[a, b, c, d] t)
  have e : w.drew.heap.size = w.heap.size := rfl
  rw [e] at h2
  simp only [World.frozen?, h2]
  simp
theorem put4_cells {W : World} {g : Nat} {a b c d u v x y : Value} (k : W.cell? ⟨g, 0, none⟩ = some u ∧ W.cell? ⟨g, 1, none⟩ = some v ∧ W.cell? ⟨g, 2, none⟩ = some x ∧ W.cell? ⟨g, 3, none⟩ = some y) : (put4 W g a b c d).cell? ⟨g, 0, none⟩ = some a ∧ (put4 W g a b c d).cell? ⟨g, 1, none⟩ = some b ∧ (put4 W g a b c d).cell? ⟨g, 2, none⟩ = some c ∧ (put4 W g a b c d).cell? ⟨g, 3, none⟩ = some d := by
  obtain ⟨k0, k1, k2, k3⟩ := k
  unfold put4
  have o : ∀ (W : World) (i j : Nat) (x : Value), i ≠ j → (W.setCell ⟨g, i, none⟩ x).cell? ⟨g, j, none⟩ = W.cell? ⟨g, j, none⟩ := fun W i j x h => World.cell?_setCell_other _ _ _ _ (by intro e; exact h (by injection e))
  refine ⟨?_, ?_, ?_, ?_⟩
  · rw [o _ _ _ _ (by decide), o _ _ _ _ (by decide), o _ _ _ _ (by decide)]; exact World.cell?_setCell_same _ _ _ k0
  · rw [o _ _ _ _ (by decide), o _ _ _ _ (by decide)]; exact World.cell?_setCell_same _ _ _ (by rw [o _ _ _ _ (by decide)]; exact k1)
  · rw [o _ _ _ _ (by decide)]; exact World.cell?_setCell_same _ _ _ (by rw [o _ _ _ _ (by decide), o _ _ _ _ (by decide)]; exact k2)
  · exact World.cell?_setCell_same _ _ _ (by rw [o _ _ _ _ (by decide), o _ _ _ _ (by decide), o _ _ _ _ (by decide)]; exact k3)
theorem pn_new {W : World} {B : Nat} {S : Int} {a1 : Option Addr} {k1 d1 : Nat} {a2 : Option Addr} {k2 d2 : Nat} {a3 : Option Addr} {k3 d3 : Nat} {Ls : List ((Int × Int) × (Int × Int))} {Hs : List (ByteArray × (Int × Int))} {Ts : List (List Ru)} (t : TypeId) (h : NA W B (.slice a1 k1 d1) (.slice a2 k2 d2) (.slice a3 k3 d3) Ls Hs Ts) :
    PN (W.alloc (Obj.cells #[.int .i64 S, .slice a1 k1 d1, .slice a2 k2 d2, .slice a3 k3 d3] t)) (.pointer (some ⟨W.heap.size, 0, none⟩)) S Ls Hs Ts := ⟨_, _, _, _, _, _, _, _, _, _, rfl, bn_new t h.gs.1 h.gs.2.1 h.gs.2.2⟩
theorem pn_put {W : World} {B g : Nat} {S : Int} {a1 : Option Addr} {k1 d1 : Nat} {a2 : Option Addr} {k2 d2 : Nat} {a3 : Option Addr} {k3 d3 : Nat} {Ls : List ((Int × Int) × (Int × Int))} {Hs : List (ByteArray × (Int × Int))} {Ts : List (List Ru)} {x y z u : Value} (h : NA W B (.slice a1 k1 d1) (.slice a2 k2 d2) (.slice a3 k3 d3) Ls Hs Ts) (hg : g < B) (k : W.cell? ⟨g, 0, none⟩ = some u ∧ W.cell? ⟨g, 1, none⟩ = some x ∧ W.cell? ⟨g, 2, none⟩ = some y ∧ W.cell? ⟨g, 3, none⟩ = some z) :
    PN (put4 W g (.int .i64 S) (.slice a1 k1 d1) (.slice a2 k2 d2) (.slice a3 k3 d3)) (.pointer (some ⟨g, 0, none⟩)) S Ls Hs Ts := by
  have h2 := (h.put (grown_put4 W g (.int .i64 S) (.slice a1 k1 d1) (.slice a2 k2 d2) (.slice a3 k3 d3)) hg).gs
  exact ⟨_, _, _, _, _, _, _, _, _, _, rfl, put4_cells k, h2.1, h2.2.1, h2.2.2⟩
/-- An empty net in its box. -/
def ZB (W : World) (g : Nat) : Prop := (W.cell? ⟨g, 0, none⟩ = some (.int .i64 0) ∧ W.cell? ⟨g, 1, none⟩ = some (.slice none 0 0) ∧ W.cell? ⟨g, 2, none⟩ = some (.slice none 0 0) ∧ W.cell? ⟨g, 3, none⟩ = some (.slice none 0 0)) ∧ ∀ i, W.frozen? ⟨g, i, none⟩ = false
theorem ZB.lt {W : World} {g : Nat} (h : ZB W g) : g < W.heap.size := World.block_lt_of_cell? W ⟨g, 0, none⟩ h.1.1
theorem ZB.later {W W' : World} {g : Nat} (h : ZB W g) (hb : Below W.heap.size W W') : ZB W' g := ⟨⟨cell_later hb h.1.1, cell_later hb h.1.2.1, cell_later hb h.1.2.2.1, cell_later hb h.1.2.2.2⟩, fun i => (hb.frozen (p := ⟨g, i, none⟩) h.lt).trans (h.2 i)⟩
theorem zb_d {w w' : World} {t : TypeId} (hb : Below (w.drew.alloc (Obj.cells #[.int .i64 0, .slice none 0 0, .slice none 0 0, .slice none 0 0] t)).heap.size (w.drew.alloc (Obj.cells #[.int .i64 0, .slice none 0 0, .slice none 0 0, .slice none 0 0] t)) w') : ZB w' w.heap.size := balloc4 hb
theorem zb_a {w w' : World} {t : TypeId} (hb : Below (w.alloc (Obj.cells #[.int .i64 0, .slice none 0 0, .slice none 0 0, .slice none 0 0] t)).heap.size (w.alloc (Obj.cells #[.int .i64 0, .slice none 0 0, .slice none 0 0, .slice none 0 0] t)) w') : ZB w' w.heap.size :=
  have h := wb_new w 0 (.slice none 0 0) (.slice none 0 0) (.slice none 0 0) t
  ZB.later (W := w.alloc (Obj.cells #[.int .i64 0, .slice none 0 0, .slice none 0 0, .slice none 0 0] t)) ⟨h.c, h.f⟩ hb
end Go.Proofs.YtglnnoglbieaeaaGreatDoor
