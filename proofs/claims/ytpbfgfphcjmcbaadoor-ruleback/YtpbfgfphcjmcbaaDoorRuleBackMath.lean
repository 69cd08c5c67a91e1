/- What is shown is read as it was, of rules: no program in it. -/
import Derived.Test.YtpbfgfphcjmcbaaDoorRuleParse
import Derived.Test.YtpbfgfphcjmcbaaDoorRulePrint
import Derived.Test.YtpbfgfphcjmcbaaDoorCubeFacts
import Derived.Lib.IndexBytes
namespace Go.Proofs.YtpbfgfphcjmcbaaDoor
open Go.RowKit

theorem ba_ext {a b : ByteArray} (h : a.data.toList = b.data.toList) : a = b := by
  obtain ⟨⟨l⟩⟩ := a
  obtain ⟨⟨r⟩⟩ := b
  simp at h
  rw [h]
theorem ba_app (a b : ByteArray) : (a ++ b).data.toList = a.data.toList ++ b.data.toList := by simp [ByteArray.data_append]
/-- One blank. -/
def blS : ByteArray := ⟨#[32]⟩
theorem bl_lst : blS.data.toList = [32] := rfl

theorem ix_none : ∀ {l : List UInt8}, 32 ∉ l → Lib.indexByte l 32 = -1
  | [], _ => rfl
  | a :: l, h => by
    have h1 : (a == 32) = false := by
      rw [beq_eq_false_iff_ne]
      exact fun e => h (by rw [e]; exact List.mem_cons_self)
    rw [Lib.indexByte, h1, ix_none (fun e => h (List.mem_cons_of_mem _ e))]
    rfl
theorem ix_some : ∀ {l r : List UInt8}, 32 ∉ l → Lib.indexByte (l ++ 32 :: r) 32 = (l.length : Nat)
  | [], _, _ => rfl
  | a :: l, r, h => by
    have h1 : (a == 32) = false := by
      rw [beq_eq_false_iff_ne]
      exact fun e => h (by rw [e]; exact List.mem_cons_self)
    rw [List.cons_append, Lib.indexByte, h1, ix_some (fun e => h (List.mem_cons_of_mem _ e))]
    have : ¬ (((l.length : Nat) : Int) == -1) = true := by simp
    simp only [Bool.false_eq_true, if_false, this, List.length_cons]
    simp
/-- A text with no blank is one word. -/
theorem cut_one {a : ByteArray} (k : Nat) (h : 32 ∉ a.data.toList) : cutB k a = [a] := cut_miss k (ix_none h)
/-- A word, a blank, and the rest. -/
theorem cut_word {a r : ByteArray} (k : Nat) (h : 32 ∉ a.data.toList) : cutB (k + 1) (a ++ (blS ++ r)) = a :: cutB k r := by
  have e : (a ++ (blS ++ r)).data.toList = a.data.toList ++ 32 :: r.data.toList := by rw [ba_app, ba_app, bl_lst]; rfl
  have hx : blAt (a ++ (blS ++ r)) = (a.size : Nat) := by rw [blAt, e, ix_some h, Lib.size_eq]
  rw [cut_hit k hx]
  have e1 : (a ++ (blS ++ r)).extract 0 a.size = a := ba_ext (by rw [Lib.extract_data, e, Lib.size_eq]; simp)
  have e2 : (a ++ (blS ++ r)).extract (a.size + 1) (a ++ (blS ++ r)).size = r := ba_ext (by
    rw [Lib.extract_to_end, e, Lib.size_eq]
    rw [List.drop_append, List.drop_eq_nil_of_le (by omega)]
    simp)
  rw [e1, e2]

/-- Words with blanks between. -/
def rjoinB : List ByteArray → ByteArray
  | [] => ByteArray.empty
  | [a] => a
  | a :: b :: r => a ++ (blS ++ rjoinB (b :: r))
theorem cut_ne (k : Nat) (s : ByteArray) : ∃ a r, cutB k s = a :: r := by
  match h : cutB k s with
  | [] => have := (cut_len k s).2; rw [h] at this; simp at this
  | a :: r => exact ⟨a, r, rfl⟩
theorem cut_join : ∀ (k : Nat) (s : ByteArray), rjoinB (cutB k s) = s
  | 0, _ => rfl
  | k + 1, s => by
    rcases bl_cases s with h | ⟨i, h, hi⟩
    · rw [cut_miss _ h]; rfl
    · rw [cut_hit _ h]
      obtain ⟨a, r, e⟩ := cut_ne k (s.extract (i + 1) s.size)
      have ih := cut_join k (s.extract (i + 1) s.size)
      rw [e] at ih ⊢
      rw [rjoinB, ih]
      apply ba_ext
      rw [ba_app, ba_app, bl_lst, Lib.extract_data, Lib.extract_to_end]
      have hg := (Lib.indexByte_some h).1
      have hlt : i < s.data.toList.length := by rw [← Lib.size_eq]; exact hi
      have hd : s.data.toList.drop i = 32 :: s.data.toList.drop (i + 1) := by
        rw [List.drop_eq_getElem_cons hlt]
        rw [List.getElem?_eq_getElem hlt] at hg
        rw [Option.some.inj hg]
      simp only [Nat.sub_zero, List.drop_zero]
      rw [List.singleton_append, ← hd, List.take_append_drop]
end Go.Proofs.YtpbfgfphcjmcbaaDoor
