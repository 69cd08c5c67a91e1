/- What is shown is read as it was, of rules: the words. No program in it. -/
import Derived.Test.YtpbfgfphcjmcbaaDoorRuleBackMath
namespace Go.Proofs.YtpbfgfphcjmcbaaDoor
open Go.RowKit

def rnoBl (a : ByteArray) : Bool := !(a.data.toList.contains 32)
theorem noBl_of {a : ByteArray} (h : rnoBl a = true) : 32 ∉ a.data.toList := by simpa [rnoBl] using h

theorem num_fin : ∀ k : Fin 100, (dcOk (dgS ((k : Nat) : Int)) && (dcN (dgS ((k : Nat) : Int)) == ((k : Nat) : Int) && rnoBl (dgS ((k : Nat) : Int)))) = true := by decide +kernel
theorem num_back {p : Int} (h : 0 ≤ p ∧ p ≤ 99) : dcOk (dgS p) = true ∧ dcN (dgS p) = p ∧ 32 ∉ (dgS p).data.toList := by
  obtain ⟨k, rfl⟩ : ∃ k : Fin 100, p = ((k : Nat) : Int) := ⟨⟨p.toNat, by omega⟩, by simp; omega⟩
  have := num_fin k
  simp only [Bool.and_eq_true, beq_iff_eq] at this
  exact ⟨this.1, this.2.1, noBl_of this.2.2⟩
theorem cube_all : (rights.all fun p => rnoBl (prS p.1 p.2)) = true := by decide +kernel
theorem cube_bl {m b : Int} (h : okB m b = true) : 32 ∉ (prS m b).data.toList := noBl_of (of_all1 (P := fun m b => rnoBl (prS m b)) cube_all h)

theorem dc_big {s : ByteArray} (h0 : byteN s 0 ≠ 48) : ∀ {k : Nat}, dgTo s (k + 1) = true → 10 ^ k ≤ dcTo s (k + 1)
  | 0, h => by
    simp only [dgTo, Bool.and_eq_true] at h
    have := dig_of h.2
    simp [dcTo]
    omega
  | k + 1, h => by
    simp only [dgTo, Bool.and_eq_true] at h
    have h1 := dc_big h0 (k := k) (by simp only [dgTo, Bool.and_eq_true]; exact h.1)
    have h2 := dig_of h.2
    have e : dcTo s (k + 1 + 1) = 10 * dcTo s (k + 1) + ((byteN s (k + 1) : Nat) - 48) := rfl
    rw [e, Int.pow_succ]
    omega
theorem dg1_fin : ∀ i : Fin 10, (dgS (dcN ⟨#[UInt8.ofNat (48 + i)]⟩)).data.toList = [UInt8.ofNat (48 + i)] := by decide +kernel
theorem dg2_fin : ∀ i j : Fin 10, i ≠ 0 → (dgS (dcN ⟨#[UInt8.ofNat (48 + i), UInt8.ofNat (48 + j)]⟩)).data.toList = [UInt8.ofNat (48 + i), UInt8.ofNat (48 + j)] := by decide +kernel
theorem dig_byte {c : UInt8} (h : digB c.toNat = true) : ∃ i : Fin 10, c = UInt8.ofNat (48 + i) := by
  have h1 := dig_of h
  refine ⟨⟨c.toNat - 48, by omega⟩, ?_⟩
  apply UInt8.toNat_inj.1
  simp only [UInt8.toNat_ofNat']
  omega
theorem num_read {a : ByteArray} (h : dcOk a = true) (h2 : dcN a ≤ 99) : dgS (dcN a) = a := by
  simp only [dcOk, Bool.and_eq_true] at h
  obtain ⟨hh, hd⟩ := h
  have hN : dcN a = dcTo a a.size := by simp [dcN, dcOk, hh, hd]
  simp only [dcHd, Bool.and_eq_true, decide_eq_true_eq] at hh
  obtain ⟨z1, z9, z0⟩ := hh
  by_cases hs : a.size = 1
  · have hl : a.data.toList.length = 1 := by rw [← Lib.size_eq]; exact hs
    match hq : a.data.toList, hl with
    | [c], _ =>
      have hb : byteN a 0 = c.toNat := by simp [byteN, hq]
      obtain ⟨i, rfl⟩ := dig_byte (c := c) (by rw [← hb]; exact dg_le (n := a.size) (by omega) hd)
      have e : a = ⟨#[UInt8.ofNat (48 + i)]⟩ := ba_ext hq
      exact ba_ext (by rw [hq, e]; exact dg1_fin i)
  · have h0 : byteN a 0 ≠ 48 := by
      simp [hs] at z0
      exact z0
    have hs2 : a.size = 2 := by
      obtain ⟨k, hk⟩ : ∃ k, a.size = k + 1 := ⟨a.size - 1, by omega⟩
      rw [hk] at hd hN
      have hb := dc_big h0 hd
      rcases (by omega : k = 0 ∨ k = 1 ∨ 2 ≤ k) with rfl | rfl | h3
      · omega
      · omega
      · exfalso
        rcases (by omega : k = 2 ∨ k = 3 ∨ k = 4 ∨ k = 5 ∨ k = 6 ∨ k = 7 ∨ k = 8) with rfl | rfl | rfl | rfl | rfl | rfl | rfl <;> simp at hb hN <;> omega
    have hl : a.data.toList.length = 2 := by rw [← Lib.size_eq]; exact hs2
    match hq : a.data.toList, hl with
    | [c, d], _ =>
      have hb : byteN a 0 = c.toNat := by simp [byteN, hq]
      have hb2 : byteN a 1 = d.toNat := by simp [byteN, hq]
      obtain ⟨i, rfl⟩ := dig_byte (c := c) (by rw [← hb]; exact dg_le (n := a.size) (by omega) hd)
      obtain ⟨j, rfl⟩ := dig_byte (c := d) (by rw [← hb2]; exact dg_le (n := a.size) (by omega) hd)
      have hi : i ≠ 0 := by
        rintro rfl
        exact h0 (by rw [hb]; rfl)
      have e : a = ⟨#[UInt8.ofNat (48 + i), UInt8.ofNat (48 + j)]⟩ := ba_ext hq
      exact ba_ext (by rw [hq, e]; exact dg2_fin i j hi)

def dropS : ByteArray := ⟨#[100, 114, 111, 112]⟩
def outS : ByteArray := ⟨#[111, 117, 116]⟩
def setS : ByteArray := ⟨#[115, 101, 116]⟩
theorem word_of {a b : ByteArray} {l : List UInt8} (h : (a.toList == l) = true) (hb : b.data.toList = l) : a = b := by
  rw [byte_lst, beq_iff_eq] at h
  exact ba_ext (h.trans hb.symm)
theorem drop_word {a : ByteArray} (h : (a.toList == [100, 114, 111, 112]) = true) : a = dropS := word_of h rfl
theorem out_word {a : ByteArray} (h : (a.toList == [111, 117, 116]) = true) : a = outS := word_of h rfl
theorem set_word {a : ByteArray} (h : (a.toList == [115, 101, 116]) = true) : a = setS := word_of h rfl

theorem text_drop (p m b s v : Int) : rsS p m b 0 s v = rjoinB [dgS p, prS m b, dropS] := by
  apply ba_ext
  simp [rsS, rsH, rjoinB, bl_lst, dropS]
theorem text_out {o : Int} (p m b v : Int) (h : o ≠ 0) : rsS p m b o 0 v = rjoinB [dgS p, prS m b, outS, dgS o] := by
  apply ba_ext
  simp [rsS, rsH, rsO, rjoinB, bl_lst, outS, h]
theorem text_set {o s : Int} (p m b v : Int) (h : o ≠ 0) (h2 : s ≠ 0) : rsS p m b o s v = rjoinB [dgS p, prS m b, outS, dgS o, setS, prS s v] := by
  apply ba_ext
  simp [rsS, rsH, rsO, rjoinB, bl_lst, outS, setS, h, h2]

theorem cut_joins : ∀ (ws : List ByteArray) (k : Nat), ws ≠ [] → ws.length ≤ k + 1 → (∀ a ∈ ws, 32 ∉ a.data.toList) → cutB k (rjoinB ws) = ws
  | [], _, h, _, _ => absurd rfl h
  | [a], k, _, _, h => cut_one k (h a (by simp))
  | a :: b :: r, 0, _, hl, _ => by simp at hl
  | a :: b :: r, k + 1, _, hl, h => by
    rw [rjoinB, cut_word k (h a (by simp)), cut_joins (b :: r) k (by simp) (by simp at hl ⊢; omega) (fun x hx => h x (List.mem_cons_of_mem _ hx))]

theorem drop_bl : 32 ∉ dropS.data.toList := by decide
theorem out_bl : 32 ∉ outS.data.toList := by decide
theorem set_bl : 32 ∉ setS.data.toList := by decide
theorem lst_drop : (dropS.toList == [100, 114, 111, 112]) = true := by rw [byte_lst]; rfl
theorem lst_out : (outS.toList == [111, 117, 116]) = true := by rw [byte_lst]; rfl
theorem lst_set : (setS.toList == [115, 101, 116]) = true := by rw [byte_lst]; rfl

/-- What is shown of a right rule is read as it was. -/
theorem rule_back {p m b o s v : Int} (h : ruOk p m b o s v = true) :
    paN (cutB 6 (rsS p m b o s v)) = 0 ∧ paV (cutB 6 (rsS p m b o s v)) = .agg #[.int .i64 p, .int .i64 m, .int .i64 b, .int .i64 o, .int .i64 s, .int .i64 v] := by
  obtain ⟨g1, g2, g3⟩ := ru_ok h
  obtain ⟨⟨hp, ho⟩, _, _⟩ := ru_in g1
  have g4 := set_ok g1 g3
  obtain ⟨a1, a2, a3⟩ := num_back hp
  obtain ⟨b1, b2, b3⟩ := back g2
  have hc := cube_bl g2
  have hn := ruN_ok h
  have fin : ∀ ws : List ByteArray, cutB 6 (rsS p m b o s v) = ws → rdW ws = true → rP ws = p → rM ws = m → rB ws = b → rO ws = o → rS ws = s → rV ws = v →
      paN (cutB 6 (rsS p m b o s v)) = 0 ∧ paV (cutB 6 (rsS p m b o s v)) = .agg #[.int .i64 p, .int .i64 m, .int .i64 b, .int .i64 o, .int .i64 s, .int .i64 v] := by
    intro ws hws hr e1 e2 e3 e4 e5 e6
    have hz : paN ws = 0 := by rw [paN_yes hr, e1, e2, e3, e4, e5, e6, hn]
    rw [hws]
    exact ⟨hz, by rw [paV_yes hz, e1, e2, e3, e4, e5, e6]⟩
  by_cases h0 : o = 0
  · subst h0
    have hs : s = 0 := by
      simp [ruSet] at g3
      exact g3.2
    subst hs
    have hv : v = 0 := by
      obtain ⟨_, _, hv⟩ := ru_in g1
      simp only [ruSet, Bool.and_eq_true] at g3
      obtain ⟨v', rfl⟩ := small hv
      have : ∀ v : Fin 16, (bits .andNot .i64 ((v : Nat) : Int) 0 == 0) = true → ((v : Nat) : Int) = 0 := by decide +kernel
      exact this v' g3.1
    subst hv
    refine fin [dgS p, prS m b, dropS] ?_ ?_ a2 b2 b3 rfl rfl rfl
    · rw [text_drop]
      refine cut_joins _ _ (by simp) (by simp) ?_
      intro a ha
      simp at ha
      rcases ha with rfl | rfl | rfl
      · exact a3
      · exact hc
      · exact drop_bl
    · simp [rdW, a1, b1, deOk, lst_drop]
  · obtain ⟨c1, c2, c3⟩ := num_back (p := o) (by omega)
    have c0 : (dcN (dgS o) == 0) = false := by rw [c2]; simpa using h0
    by_cases hs : s = 0
    · subst hs
      have hv : v = 0 := by
        obtain ⟨_, _, hv⟩ := ru_in g1
        simp only [ruSet, Bool.and_eq_true] at g3
        obtain ⟨v', rfl⟩ := small hv
        have : ∀ v : Fin 16, (bits .andNot .i64 ((v : Nat) : Int) 0 == 0) = true → ((v : Nat) : Int) = 0 := by decide +kernel
        exact this v' g3.1
      subst hv
      refine fin [dgS p, prS m b, outS, dgS o] ?_ ?_ a2 b2 b3 c2 rfl rfl
      · rw [text_out _ _ _ _ h0]
        refine cut_joins _ _ (by simp) (by simp) ?_
        intro a ha
        simp at ha
        rcases ha with rfl | rfl | rfl | rfl
        · exact a3
        · exact hc
        · exact out_bl
        · exact c3
      · simp [rdW, a1, b1, deOk, lst_out, c1, c0]
    · obtain ⟨d1, d2, d3⟩ := back g4
      have d0 : (psM (prS s v) == 0) = false := by rw [d2]; simpa using hs
      refine fin [dgS p, prS m b, outS, dgS o, setS, prS s v] ?_ ?_ a2 b2 b3 c2 d2 d3
      · rw [text_set _ _ _ _ h0 hs]
        refine cut_joins _ _ (by simp) (by simp) ?_
        intro a ha
        simp at ha
        rcases ha with rfl | rfl | rfl | rfl | rfl | rfl
        · exact a3
        · exact hc
        · exact out_bl
        · exact c3
        · exact set_bl
        · exact cube_bl g4
      · simp [rdW, a1, b1, deOk, lst_out, lst_set, c1, c0, d1, d0]

/-- What is read of a text is shown as it was. -/
theorem rule_read {t : ByteArray} (h : paN (cutB 6 t) = 0) :
    ruOk (rP (cutB 6 t)) (rM (cutB 6 t)) (rB (cutB 6 t)) (rO (cutB 6 t)) (rS (cutB 6 t)) (rV (cutB 6 t)) = true ∧ rsS (rP (cutB 6 t)) (rM (cutB 6 t)) (rB (cutB 6 t)) (rO (cutB 6 t)) (rS (cutB 6 t)) (rV (cutB 6 t)) = t := by
  have hj := cut_join 6 t
  generalize cutB 6 t = ws at *
  have hr : rdW ws = true := by
    cases e : rdW ws
    · rw [paN_no e] at h; cases h
    · rfl
  rw [paN_yes hr] at h
  have hok : ruOk (rP ws) (rM ws) (rB ws) (rO ws) (rS ws) (rV ws) = true := by
    cases e : ruOk (rP ws) (rM ws) (rB ws) (rO ws) (rS ws) (rV ws)
    · exact absurd h (ruN_ne e)
    · rfl
  refine ⟨hok, ?_⟩
  obtain ⟨g1, _, _⟩ := ru_ok hok
  obtain ⟨⟨hp, ho⟩, _, _⟩ := ru_in g1
  clear g1 h hok
  match ws, hr with
  | a :: b :: c :: r, hr =>
    simp only [rdW, Bool.and_eq_true] at hr
    obtain ⟨h1, h2, h3⟩ := hr
    have e1 : dgS (dcN a) = a := num_read h1 hp.2
    have e2 : prS (psM b) (psB b) = b := (read h2).2
    match r, h3 with
    | [], h3 =>
      obtain rfl : c = dropS := drop_word h3
      rw [← hj]
      show rsS (dcN a) (psM b) (psB b) 0 0 0 = _
      rw [text_drop, e1, e2]
    | [d], h3 =>
      simp only [deOk, Bool.and_eq_true, Bool.not_eq_true', beq_eq_false_iff_ne] at h3
      obtain ⟨h4, h5, h6⟩ := h3
      obtain rfl : c = outS := out_word h4
      have e3 : dgS (dcN d) = d := num_read h5 (by have : dcN d ≤ 4 := ho.2; omega)
      rw [← hj]
      show rsS (dcN a) (psM b) (psB b) (dcN d) 0 0 = _
      rw [text_out _ _ _ _ h6, e1, e2, e3]
    | [d, f, g], h3 =>
      simp only [deOk, Bool.and_eq_true, Bool.not_eq_true', beq_eq_false_iff_ne] at h3
      obtain ⟨h4, ⟨h5, h6⟩, h7, h8, h9⟩ := h3
      obtain rfl : c = outS := out_word h4
      obtain rfl : f = setS := set_word h7
      have e3 : dgS (dcN d) = d := num_read h5 (by have : dcN d ≤ 4 := ho.2; omega)
      have e4 : prS (psM g) (psB g) = g := (read h8).2
      rw [← hj]
      show rsS (dcN a) (psM b) (psB b) (dcN d) (psM g) (psB g) = _
      rw [text_set _ _ _ _ h6 h9, e1, e2, e3, e4]
    | [d, f], h3 => simp [deOk] at h3
    | d :: f :: g :: x :: y, h3 => simp [deOk] at h3
theorem seven : paN (cutB 6 ⟨#[55, 32, 49, 42, 48, 42, 32, 111, 117, 116, 32, 50, 32, 115, 101, 116, 32, 42, 42, 49, 49]⟩) = 0 ∧
    rP (cutB 6 ⟨#[55, 32, 49, 42, 48, 42, 32, 111, 117, 116, 32, 50, 32, 115, 101, 116, 32, 42, 42, 49, 49]⟩) = 7 ∧ rO (cutB 6 ⟨#[55, 32, 49, 42, 48, 42, 32, 111, 117, 116, 32, 50, 32, 115, 101, 116, 32, 42, 42, 49, 49]⟩) = 2 ∧
    rS (cutB 6 ⟨#[55, 32, 49, 42, 48, 42, 32, 111, 117, 116, 32, 50, 32, 115, 101, 116, 32, 42, 42, 49, 49]⟩) = 3 ∧ rV (cutB 6 ⟨#[55, 32, 49, 42, 48, 42, 32, 111, 117, 116, 32, 50, 32, 115, 101, 116, 32, 42, 42, 49, 49]⟩) = 3 := by decide +kernel
end Go.Proofs.YtpbfgfphcjmcbaaDoor
