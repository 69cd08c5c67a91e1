/- Contracts and facts on the way to MixFew, joined into one text: ChangeMath, MixMath2, MixMath3, MixMath4, NetMath2, LineMath, NetMath3, NetMath4, NetLegMath, MixWalkMath, MixSeenMath. -/
import Derived.Test.YtmpjoepfgfbjmaaMixFewP2
/- Changes of nets in plain lists: op by op, what takes all back, what is between two. No program in it. -/
namespace Go.Proofs.Ytmpjoepfgfbjmaa
open Go.RowKit
set_option linter.unusedVariables false

/-- The fault of ops, one by one, of tables that are right. -/
def caN (S : Int) : List (List Ru) → List Op8 → Int
  | _, [] => 0
  | Ts, o :: l => if swB S o.w = true then (if doN (taT Ts o.w) o.a o.r = 0 then caN S (Ts.set (o.w - 1).toNat (doL (taT Ts o.w) o.a o.r)) l else doN (taT Ts o.w) o.a o.r) else 1
/-- What they make. -/
def caT : List (List Ru) → List Op8 → List (List Ru)
  | Ts, [] => Ts
  | Ts, o :: l => caT (Ts.set (o.w - 1).toNat (doL (taT Ts o.w) o.a o.r)) l
/-- Each table is right. -/
def tsOk (Ts : List (List Ru)) : Prop := ∀ L ∈ Ts, tbN L = 0
/-- Each table has the rules of the other one's. -/
def tsPm (As Bs : List (List Ru)) : Prop := As.length = Bs.length ∧ ∀ k, (As.getD k []).Perm (Bs.getD k [])
def tu1 (o : Op8) : Op8 := ⟨o.w, !o.a, o.r⟩
/-- What takes all back: the last first. -/
def tuL (l : List Op8) : List Op8 := (l.map tu1).reverse

theorem ca_len (Ts : List (List Ru)) (l : List Op8) : (caT Ts l).length = Ts.length := by
  induction l generalizing Ts with
  | nil => rfl
  | cons o l ih => rw [caT, ih, List.length_set]
theorem ca_app (S : Int) (Ts : List (List Ru)) (a b : List Op8) : caN S Ts (a ++ b) = if caN S Ts a = 0 then caN S (caT Ts a) b else caN S Ts a := by
  induction a generalizing Ts with
  | nil => simp [caN, caT]
  | cons o l ih =>
    rw [List.cons_append, caN, caN, caT]
    by_cases h1 : swB S o.w = true
    · rw [if_pos h1, if_pos h1]
      by_cases h2 : doN (taT Ts o.w) o.a o.r = 0
      · rw [if_pos h2, if_pos h2, ih]
      · rw [if_neg h2, if_neg h2, if_neg h2]
    · rw [if_neg h1, if_neg h1]; rfl
theorem cj_app (Ts : List (List Ru)) (a b : List Op8) : caT Ts (a ++ b) = caT (caT Ts a) b := by
  induction a generalizing Ts with
  | nil => rfl
  | cons o l ih => rw [List.cons_append, caT, caT, ih]
theorem ca_cons {S : Int} {Ts : List (List Ru)} {o : Op8} {l : List Op8} (h : caN S Ts (o :: l) = 0) :
    swB S o.w = true ∧ doN (taT Ts o.w) o.a o.r = 0 ∧ caN S (Ts.set (o.w - 1).toNat (doL (taT Ts o.w) o.a o.r)) l = 0 := by
  rw [caN] at h
  by_cases h1 : swB S o.w = true
  · rw [if_pos h1] at h
    by_cases h2 : doN (taT Ts o.w) o.a o.r = 0
    · rw [if_pos h2] at h; exact ⟨h1, h2, h⟩
    · rw [if_neg h2] at h; exact absurd h h2
  · rw [if_neg h1] at h; omega
theorem ta_mem {Ts : List (List Ru)} {w : Int} (h1 : 1 ≤ w) (h2 : w ≤ Ts.length) : taT Ts w ∈ Ts := by
  have h : (w - 1).toNat < Ts.length := by omega
  rw [taT, List.getD_eq_getElem?_getD, List.getElem?_eq_getElem h]
  exact List.getElem_mem h

/-- What taking away asks. -/
theorem take_yes {L : List Ru} {r : Ru} (h : doN L false r = 0) : tbN L = 0 ∧ ∃ A B, L = A ++ r :: B ∧ doL L false r = A ++ B := by
  have h0 := h
  unfold doN at h
  by_cases h1 : tbN L = 0
  · rw [if_pos h1] at h
    by_cases h2 : r.n = 0
    · rw [if_pos h2, chN] at h
      simp only [Bool.false_eq_true, if_false] at h
      cases h3 : inB L r
      · rw [h3] at h; simp at h
      · obtain ⟨A, B, rfl⟩ := List.append_of_mem (in_iff.1 h3)
        exact ⟨h1, A, B, rfl, (do_take h1).2⟩
    · rw [if_neg h2] at h; exact absurd h h2
  · rw [if_neg h1] at h; exact absurd h h1
theorem do_right {L : List Ru} {a : Bool} {r : Ru} (h : doN L a r = 0) : tbN (doL L a r) = 0 := by
  cases a with
  | true =>
    obtain ⟨h1, h2, h3, h4⟩ := add_yes h
    rw [(do_add h1 h2 h3 h4).2]
    exact tb_one h1 h2 h3 h4
  | false =>
    obtain ⟨h1, A, B, rfl, e⟩ := take_yes h
    rw [e]
    exact tb_sub h1 (List.Sublist.append (List.Sublist.refl _) (List.sublist_cons_self r B))
theorem ok_set {Ts : List (List Ru)} {k : Nat} {L : List Ru} (h : tsOk Ts) (hL : tbN L = 0) : tsOk (Ts.set k L) := by
  intro x hx
  rcases List.mem_or_eq_of_mem_set hx with h1 | rfl
  · exact h x h1
  · exact hL
theorem ca_right {S : Int} : ∀ {l : List Op8} {Ts : List (List Ru)}, tsOk Ts → caN S Ts l = 0 → tsOk (caT Ts l)
  | [], _, h, _ => h
  | o :: l, Ts, h, e => by
    obtain ⟨h1, h2, h3⟩ := ca_cons e
    rw [caT]
    exact ca_right (ok_set h (do_right h2)) h3

theorem tb_pm {L M : List Ru} (h : L.Perm M) (hM : tbN M = 0) : tbN L = 0 := by
  rw [tb_iff] at hM ⊢
  refine ⟨by rw [h.length_eq]; exact hM.1, fun r hr => hM.2.1 r (h.subset hr), ?_⟩
  exact h.symm.pairwise hM.2.2 (fun {a b} hk => by rw [key_sy]; exact hk)
theorem hit_pm {L M : List Ru} (h : L.Perm M) (r : Ru) : hitB L r = hitB M r := by
  rw [Bool.eq_iff_iff, hitB, hitB, List.any_eq_true, List.any_eq_true]
  exact ⟨fun ⟨x, hx, e⟩ => ⟨x, h.subset hx, e⟩, fun ⟨x, hx, e⟩ => ⟨x, h.symm.subset hx, e⟩⟩
/-- One op taken back, at a table that has the same rules. -/
theorem do_turn {L M : List Ru} {a : Bool} {r : Ru} (h : doN L a r = 0) (hM : M.Perm (doL L a r)) : doN M (!a) r = 0 ∧ (doL M (!a) r).Perm L := by
  have hr := tb_pm hM (do_right h)
  cases a with
  | true =>
    obtain ⟨h1, h2, h3, h4⟩ := add_yes h
    rw [(do_add h1 h2 h3 h4).2] at hM
    obtain ⟨A, B, rfl⟩ := List.append_of_mem (hM.symm.subset (show r ∈ L ++ [r] by simp))
    obtain ⟨d1, d2⟩ := do_take hr
    refine ⟨d1, ?_⟩
    show (doL (A ++ r :: B) false r).Perm L
    rw [d2]
    have e1 : (r :: (A ++ B)).Perm (r :: L) := (List.perm_middle.symm.trans hM).trans (List.perm_append_comm (l₁ := L) (l₂ := [r]))
    exact e1.cons_inv
  | false =>
    obtain ⟨h1, A, B, rfl, e⟩ := take_yes h
    rw [e] at hM
    have hk := (tb_iff.1 h1)
    have ok : r.ok = true := hk.2.1 r (by simp)
    have hh : hitB M r = false := by
      rw [hit_pm hM]
      simp only [hitB, List.any_eq_false]
      intro x hx hkey
      have hx2 : x ∈ A ++ r :: B := by
        rw [List.mem_append] at hx ⊢
        rcases hx with hx | hx
        · exact .inl hx
        · exact .inr (List.mem_cons_of_mem _ hx)
      have := tb_key h1 hx2 (by simp) hkey
      subst this
      have hn := tb_nodup h1
      rw [List.nodup_append] at hn
      rw [List.mem_append] at hx
      rcases hx with hx | hx
      · exact hn.2.2 x hx x (by simp) rfl
      · exact (List.nodup_cons.1 hn.2.1).1 hx
    have hl : M.length < 12 := by
      have := hM.length_eq
      have := hk.1
      simp at this ⊢
      rw [hM.length_eq, List.length_append]
      omega
    obtain ⟨d1, d2⟩ := do_add hr ok hh hl
    refine ⟨d1, ?_⟩
    show (doL M true r).Perm (A ++ r :: B)
    rw [d2]
    have e3 : (r :: (A ++ B)).Perm (A ++ r :: B) := List.perm_middle.symm
    exact ((hM.append_right [r]).trans (List.perm_append_comm (l₁ := A ++ B) (l₂ := [r]))).trans e3

theorem pm_rf (Ts : List (List Ru)) : tsPm Ts Ts := ⟨rfl, fun _ => List.Perm.refl _⟩
theorem getD_set (Ts : List (List Ru)) (k j : Nat) (L : List Ru) : (Ts.set k L).getD j [] = if j = k ∧ k < Ts.length then L else Ts.getD j [] := by
  rw [List.getD_eq_getElem?_getD, List.getElem?_set, List.getD_eq_getElem?_getD]
  by_cases h : k = j
  · subst h
    by_cases h2 : k < Ts.length
    · simp [h2]
    · rw [if_pos rfl, if_neg h2, if_neg (by omega), List.getElem?_eq_none (by omega)]
  · rw [if_neg h, if_neg (by omega)]
/-- Tables that are the same but for one. -/
theorem pm_off {As Bs : List (List Ru)} {k : Nat} {L : List Ru} (h : tsPm As (Bs.set k L)) {M : List Ru} (hM : M.Perm (Bs.getD k [])) : tsPm (As.set k M) Bs := by
  obtain ⟨h1, h2⟩ := h
  rw [List.length_set] at h1
  refine ⟨by rw [List.length_set]; exact h1, fun j => ?_⟩
  have h3 := h2 j
  rw [getD_set] at h3 ⊢
  by_cases e : j = k ∧ k < As.length
  · rw [if_pos e, e.1]
    exact hM
  · rw [if_neg e]
    rw [if_neg (by omega)] at h3
    exact h3
theorem ta_set {Ts : List (List Ru)} {w : Int} {L : List Ru} (h1 : 1 ≤ w) (h2 : w ≤ Ts.length) : taT (Ts.set (w - 1).toNat L) w = L := by
  have h : (w - 1).toNat < Ts.length := by omega
  rw [taT, List.getD_eq_getElem?_getD, List.getElem?_set_self h]
  rfl

/-- THERE AND BACK: what takes ops back, done behind them, has no fault, and each table has the rules that it had. -/
theorem ca_back {S : Int} : ∀ {l : List Op8} {Ts : List (List Ru)}, (Ts.length : Int) = S → caN S Ts l = 0 → caN S (caT Ts l) (tuL l) = 0 ∧ tsPm (caT (caT Ts l) (tuL l)) Ts
  | [], Ts, _, _ => ⟨rfl, pm_rf Ts⟩
  | o :: l, Ts, hS, e => by
    obtain ⟨h1, h2, h3⟩ := ca_cons e
    have hw := sw_of.1 h1
    obtain ⟨i1, i2⟩ := ca_back (l := l) (Ts := Ts.set (o.w - 1).toNat (doL (taT Ts o.w) o.a o.r)) (by rw [List.length_set]; exact hS) h3
    have et : tuL (o :: l) = tuL l ++ [tu1 o] := by simp [tuL]
    rw [et, caT, ca_app, if_pos i1, cj_app]
    have hp : (taT (caT (caT (Ts.set (o.w - 1).toNat (doL (taT Ts o.w) o.a o.r)) l) (tuL l)) o.w).Perm (doL (taT Ts o.w) o.a o.r) := by
      have := i2.2 (o.w - 1).toNat
      have e2 := ta_set (Ts := Ts) (L := doL (taT Ts o.w) o.a o.r) hw.1 (by omega)
      rw [taT] at e2
      rw [e2] at this
      exact this
    obtain ⟨d1, d2⟩ := do_turn h2 hp
    constructor
    · rw [caN]
      show (if swB S o.w = true then _ else _) = _
      rw [if_pos h1]
      show (if doN (taT _ o.w) (!o.a) o.r = 0 then _ else _) = _
      rw [if_pos d1, caN]
    · rw [caT, caT]
      exact pm_off i2 d2

theorem sm_pm {L M : List Ru} (h : L.Perm M) (hM : tbN M = 0) : twN L M = 0 ∧ smB L M = true := by
  have hL := tb_pm h hM
  have ht : twN L M = 0 := by rw [twN, if_pos hL, hM]
  refine ⟨ht, ?_⟩
  have hb : bey L M = [] := by
    rw [bey, List.filter_eq_nil_iff]
    intro r hr
    simp [in_iff.2 (h.subset hr)]
  rw [smB, if_pos ht, h.length_eq, hb]
  simp
/-- Two right tables are the same just if there is nothing between them. -/
theorem sm_df {A B : List Ru} (h : twN A B = 0) : smB A B = decide ((dfL A B).length = 0) := by
  obtain ⟨hA, hB⟩ : tbN A = 0 ∧ tbN B = 0 := by
    unfold twN at h
    by_cases h1 : tbN A = 0
    · rw [if_pos h1] at h; exact ⟨h1, h⟩
    · rw [if_neg h1] at h; exact absurd h h1
  have sub {X Y : List Ru} (e : bey X Y = []) : ∀ r ∈ X, r ∈ Y := by
    intro r hr
    rw [bey, List.filter_eq_nil_iff] at e
    have := e r hr
    simp at this
    exact in_iff.1 this
  rw [smB, if_pos h, dfL, if_pos h, Bool.eq_iff_iff]
  simp only [taken, added, List.length_append, List.length_map, Bool.and_eq_true, decide_eq_true_eq]
  constructor
  · rintro ⟨h1, h2⟩
    have hs := sub (List.length_eq_zero_iff.1 h2)
    rw [h2, Nat.zero_add]
    rw [List.length_eq_zero_iff, bey, List.filter_eq_nil_iff]
    intro r hr
    cases hi : inB A r
    · exfalso
      have hno : r ∉ A := fun hm => by rw [in_iff.2 hm] at hi; cases hi
      have := nodup_sub (M := r :: A) (L := B) (List.nodup_cons.2 ⟨hno, tb_nodup hA⟩) (fun x hx => by
        rcases List.mem_cons.1 hx with rfl | hx
        · exact hr
        · exact hs x hx)
      rw [List.length_cons] at this
      omega
    · simp
  · intro h1
    have e1 : (bey A B).length = 0 := by omega
    have e2 : (bey B A).length = 0 := by omega
    refine ⟨Nat.le_antisymm (nodup_sub (tb_nodup hA) (sub (List.length_eq_zero_iff.1 e1))) (nodup_sub (tb_nodup hB) (sub (List.length_eq_zero_iff.1 e2))), e1⟩

/-- Ops of one switch. -/
def ofS (w : Int) (l : List Op8) : List Op8 := l.map fun o => ⟨w, o.a, o.r⟩
theorem ca_of {S w : Int} (hs : swB S w = true) : ∀ {l : List Op8} {Ts : List (List Ru)}, (Ts.length : Int) = S → alN (taT Ts w) l = 0 → caN S Ts (ofS w l) = 0 ∧ caT Ts (ofS w l) = Ts.set (w - 1).toNat (alL (taT Ts w) l)
  | [], Ts, hS, _ => by
    have hw := sw_of.1 hs
    have h : (w - 1).toNat < Ts.length := by omega
    refine ⟨rfl, ?_⟩
    show Ts = Ts.set (w - 1).toNat (taT Ts w)
    rw [taT, List.getD_eq_getElem?_getD, List.getElem?_eq_getElem h]
    simp
  | o :: l, Ts, hS, e => by
    have hw := sw_of.1 hs
    rw [alN] at e
    by_cases h2 : doN (taT Ts w) o.a o.r = 0
    · rw [if_pos h2] at e
      have et := ta_set (Ts := Ts) (L := doL (taT Ts w) o.a o.r) hw.1 (by omega)
      obtain ⟨i1, i2⟩ := ca_of hs (l := l) (Ts := Ts.set (w - 1).toNat (doL (taT Ts w) o.a o.r)) (by rw [List.length_set]; exact hS) (by rw [et]; exact e)
      refine ⟨?_, ?_⟩
      · show caN S Ts (⟨w, o.a, o.r⟩ :: ofS w l) = 0
        rw [caN]
        show (if swB S w = true then (if doN (taT Ts w) o.a o.r = 0 then _ else _) else _) = _
        rw [if_pos hs, if_pos h2]
        exact i1
      · show caT Ts (⟨w, o.a, o.r⟩ :: ofS w l) = _
        rw [caT]
        show caT (Ts.set (w - 1).toNat (doL (taT Ts w) o.a o.r)) (ofS w l) = _
        rw [i2, et, List.set_set, alL, if_pos h2]
    · rw [if_neg h2] at e; exact absurd e h2
/-- What is between the first k tables of two nets. -/
def cdL (As Bs : List (List Ru)) : Nat → List Op8
  | 0 => []
  | k + 1 => cdL As Bs k ++ ofS (k + 1) (dfL (As.getD k []) (Bs.getD k []))
/-- The tables are the Same, one by one, the first k. -/
def csB (As Bs : List (List Ru)) : Nat → Bool
  | 0 => true
  | k + 1 => csB As Bs k && smB (As.getD k []) (Bs.getD k [])
theorem cs_iff {As Bs : List (List Ru)} : ∀ {k : Nat}, csB As Bs k = true ↔ ∀ j, j < k → smB (As.getD j []) (Bs.getD j []) = true
  | 0 => by simp [csB]
  | k + 1 => by
    rw [csB, Bool.and_eq_true, cs_iff]
    refine ⟨fun ⟨h1, h2⟩ j hj => ?_, fun h => ⟨fun j hj => h j (by omega), h k (by omega)⟩⟩
    by_cases e : j = k
    · rw [e]; exact h2
    · exact h1 j (by omega)
theorem cs_cd {As Bs : List (List Ru)} : ∀ {k : Nat}, (∀ j, j < k → twN (As.getD j []) (Bs.getD j []) = 0) → csB As Bs k = decide ((cdL As Bs k).length = 0)
  | 0, _ => rfl
  | k + 1, h => by
    rw [csB, cs_cd (k := k) (fun j hj => h j (by omega)), sm_df (h k (by omega)), cdL, List.length_append, ofS, List.length_map, Bool.eq_iff_iff]
    simp only [Bool.and_eq_true, decide_eq_true_eq]
    omega
/-- WHAT IS BETWEEN TWO MAKES OF THE ONE THE OTHER. -/
theorem ca_diff {S : Int} {As Bs : List (List Ru)} (hS : (As.length : Int) = S) (ht : ∀ j, j < As.length → twN (As.getD j []) (Bs.getD j []) = 0) : ∀ {k : Nat}, k ≤ As.length →
    caN S As (cdL As Bs k) = 0 ∧ ∀ j, (caT As (cdL As Bs k)).getD j [] = if j < k then alL (As.getD j []) (dfL (As.getD j []) (Bs.getD j [])) else As.getD j []
  | 0, _ => ⟨rfl, fun j => by simp [cdL, caT]⟩
  | k + 1, hk => by
    obtain ⟨i1, i2⟩ := ca_diff hS ht (k := k) (by omega)
    have hs : swB S ((k : Int) + 1) = true := sw_of.2 ⟨by omega, by omega⟩
    have e0 : ((k : Int) + 1 - 1).toNat = k := by omega
    have et : taT (caT As (cdL As Bs k)) ((k : Int) + 1) = As.getD k [] := by
      rw [taT, e0, i2, if_neg (by omega)]
    have hl : ((caT As (cdL As Bs k)).length : Int) = S := by rw [ca_len]; exact hS
    obtain ⟨c1, c2⟩ := ca_of hs hl (l := dfL (As.getD k []) (Bs.getD k [])) (by rw [et]; exact (al_diff (ht k (by omega))).1)
    rw [cdL]
    refine ⟨by rw [ca_app, if_pos i1]; exact c1, fun j => ?_⟩
    rw [cj_app, c2, et, e0]
    have hlen : k < (caT As (cdL As Bs k)).length := by rw [ca_len]; omega
    by_cases e : j = k
    · subst e
      rw [if_pos (by omega), List.getD_eq_getElem?_getD, List.getElem?_set_self hlen]
      rfl
    · rw [List.getD_eq_getElem?_getD, List.getElem?_set_ne (by omega), ← List.getD_eq_getElem?_getD, i2]
      by_cases h : j < k
      · rw [if_pos h, if_pos (by omega)]
      · rw [if_neg h, if_neg (by omega)]
theorem tu_len (l : List Op8) : (tuL l).length = l.length := by simp [tuL]
theorem cd_few {As Bs : List (List Ru)} (ht : ∀ j, twN (As.getD j []) (Bs.getD j []) = 0) : ∀ k, (cdL As Bs k).length ≤ 24 * k
  | 0 => by simp [cdL]
  | k + 1 => by
    have h1 := cd_few ht k
    have h2 : (dfL (As.getD k []) (Bs.getD k [])).length ≤ 24 := by
      have h := ht k
      rw [dfL, if_pos h]
      obtain ⟨hA, hB⟩ : tbN (As.getD k []) = 0 ∧ tbN (Bs.getD k []) = 0 := by
        unfold twN at h
        by_cases h1 : tbN (As.getD k []) = 0
        · rw [if_pos h1] at h; exact ⟨h1, h⟩
        · rw [if_neg h1] at h; exact absurd h h1
      have a := (tb_iff.1 hA).1
      have b := (tb_iff.1 hB).1
      have c : (bey (As.getD k []) (Bs.getD k [])).length ≤ (As.getD k []).length := List.length_filter_le _ _
      have d : (bey (Bs.getD k []) (As.getD k [])).length ≤ (Bs.getD k []).length := List.length_filter_le _ _
      simp only [taken, added, List.length_append, List.length_map]
      omega
    rw [cdL, List.length_append, ofS, List.length_map]
    omega

/-- The fault of ops at a net. -/
def cgN (S : Int) (Ls : List ((Int × Int) × (Int × Int))) (Hs : List (ByteArray × (Int × Int))) (Ts : List (List Ru)) (l : List Op8) : Int :=
  if ntN S Ls Hs Ts = 0 then (if 200 < l.length then 4 else caN S Ts l) else ntN S Ls Hs Ts
theorem ts_ok {Ts : List (List Ru)} (h : tsOk Ts) : ∀ n, tsTo Ts n = 0
  | 0 => rfl
  | n + 1 => by
    rw [tsTo, if_pos (ts_ok h n), List.getD_eq_getElem?_getD]
    by_cases e : n < Ts.length
    · rw [List.getElem?_eq_getElem e]; exact h _ (List.getElem_mem e)
    · rw [List.getElem?_eq_none (by omega)]; rfl
theorem ok_ts {Ts : List (List Ru)} (h : ∀ k, k < Ts.length → tbN (Ts.getD k []) = 0) : tsOk Ts := by
  intro L hL
  obtain ⟨k, hk, rfl⟩ := List.getElem_of_mem hL
  have := h k hk
  rw [List.getD_eq_getElem?_getD, List.getElem?_eq_getElem hk] at this
  exact this
theorem nt_of {S : Int} {Ls : List ((Int × Int) × (Int × Int))} {Hs : List (ByteArray × (Int × Int))} {Ts : List (List Ru)} (h1 : tpN S Ls Hs = 0) (h2 : (Ts.length : Int) = S) (h3 : tsOk Ts) : ntN S Ls Hs Ts = 0 := by
  rw [ntN, if_pos h1, if_pos h2, ts_ok h3]
theorem cg_0 {S : Int} {Ls : List ((Int × Int) × (Int × Int))} {Hs : List (ByteArray × (Int × Int))} {Ts : List (List Ru)} {l : List Op8} (h : cgN S Ls Hs Ts l = 0) : ntN S Ls Hs Ts = 0 ∧ l.length ≤ 200 ∧ caN S Ts l = 0 := by
  unfold cgN at h
  by_cases e : ntN S Ls Hs Ts = 0
  · rw [if_pos e] at h
    by_cases e2 : 200 < l.length
    · rw [if_pos e2] at h; omega
    · rw [if_neg e2] at h; exact ⟨e, by omega, h⟩
  · rw [if_neg e] at h; exact absurd h e
theorem cg_of {S : Int} {Ls : List ((Int × Int) × (Int × Int))} {Hs : List (ByteArray × (Int × Int))} {Ts : List (List Ru)} {l : List Op8} (h1 : ntN S Ls Hs Ts = 0) (h2 : l.length ≤ 200) (h3 : caN S Ts l = 0) : cgN S Ls Hs Ts l = 0 := by
  rw [cgN, if_pos h1, if_neg (by omega), h3]
/-- The net behind ops is right. -/
theorem nt_ca {S : Int} {Ls : List ((Int × Int) × (Int × Int))} {Hs : List (ByteArray × (Int × Int))} {Ts : List (List Ru)} {l : List Op8} (h : ntN S Ls Hs Ts = 0) (hl : caN S Ts l = 0) : ntN S Ls Hs (caT Ts l) = 0 := by
  obtain ⟨h1, h2, h3⟩ := nt_0 h
  exact nt_of h1 (by rw [ca_len]; exact h2) (ca_right (ok_ts h3) hl)
/-- In parts, or at once. -/
theorem cg_parts {S : Int} {Ls : List ((Int × Int) × (Int × Int))} {Hs : List (ByteArray × (Int × Int))} {Ts : List (List Ru)} {a b : List Op8} (h : cgN S Ls Hs Ts (a ++ b) = 0) :
    cgN S Ls Hs Ts a = 0 ∧ cgN S Ls Hs (caT Ts a) b = 0 := by
  obtain ⟨h1, h2, h3⟩ := cg_0 h
  rw [List.length_append] at h2
  rw [ca_app] at h3
  by_cases e : caN S Ts a = 0
  · rw [if_pos e] at h3
    exact ⟨cg_of h1 (by omega) e, cg_of (nt_ca h1 e) (by omega) h3⟩
  · rw [if_neg e] at h3; exact absurd h3 e
/-- Ops, and then what takes them back. -/
theorem cg_back {S : Int} {Ls : List ((Int × Int) × (Int × Int))} {Hs : List (ByteArray × (Int × Int))} {Ts : List (List Ru)} {l : List Op8} (h : cgN S Ls Hs Ts l = 0) :
    ntN S Ls Hs (caT Ts l) = 0 ∧ cgN S Ls Hs (caT Ts l) (tuL l) = 0 ∧ ntN S Ls Hs (caT (caT Ts l) (tuL l)) = 0 ∧ csB (caT (caT Ts l) (tuL l)) Ts Ts.length = true := by
  obtain ⟨h1, h2, h3⟩ := cg_0 h
  obtain ⟨t1, t2, t3⟩ := nt_0 h1
  obtain ⟨b1, b2⟩ := ca_back t2 h3
  have n1 := nt_ca h1 h3
  refine ⟨n1, cg_of n1 (by rw [tu_len]; exact h2) b1, nt_ca n1 b1, ?_⟩
  rw [cs_iff]
  intro j hj
  exact (sm_pm (b2.2 j) (t3 j hj)).2
/-- What is between two right nets with as many switches. -/
theorem cg_diff {S : Int} {Ls : List ((Int × Int) × (Int × Int))} {Hs : List (ByteArray × (Int × Int))} {As Bs : List (List Ru)} (hA : ntN S Ls Hs As = 0) (hB : ntN S Ls Hs Bs = 0) (hl : (cdL As Bs As.length).length ≤ 200) :
    cgN S Ls Hs As (cdL As Bs As.length) = 0 ∧ csB (caT As (cdL As Bs As.length)) Bs As.length = true := by
  obtain ⟨t1, t2, t3⟩ := nt_0 hA
  obtain ⟨s1, s2, s3⟩ := nt_0 hB
  have ht : ∀ j, j < As.length → twN (As.getD j []) (Bs.getD j []) = 0 := fun j hj => by rw [twN, if_pos (t3 j hj), s3 j (by omega)]
  obtain ⟨d1, d2⟩ := ca_diff t2 ht (Nat.le_refl _)
  refine ⟨cg_of hA hl d1, ?_⟩
  rw [cs_iff]
  intro j hj
  rw [d2, if_pos hj]
  exact (al_diff (ht j hj)).2.1
end Go.Proofs.Ytmpjoepfgfbjmaa
/- All fates that are possible while tables change: plain lists. No program in it. -/
namespace Go.Proofs.Ytmpjoepfgfbjmaa
open Go.RowKit
set_option linter.unusedVariables false
set_option linter.unusedSimpArgs false

/-- A packet ends, or goes on. -/
def onL (k : List ((Int × Int) × Int) → List (Int × ByteArray × List ((Int × Int) × Int)) → List (Int × ByteArray × List ((Int × Int) × Int))) (l : List ((Int × Int) × Int)) (a : List (Int × ByteArray × List ((Int × Int) × Int))) (g : (Int × ByteArray) ⊕ ((Int × Int) × Int)) : List (Int × ByteArray × List ((Int × Int) × Int)) :=
  match g with
  | .inl e => puR faL (e.1, e.2, l) a
  | .inr p => k (l ++ [p]) a
/-- Is a switch's table another one? -/
def chB (As Bs : List (List Ru)) (s : Int) : Bool := decide (0 < (bey (taT As s) (taT Bs s)).length + (bey (taT Bs s) (taT As s)).length)
section
variable (Ls : List ((Int × Int) × (Int × Int))) (Hs : List (ByteArray × (Int × Int))) (As Bs : List (List Ru))
/-- What may be seen behind these hops, put to what is there: met has the switches whose new tables were met. -/
def wkL : Nat → List ((Int × Int) × Int) → List Int → List (Int × ByteArray × List ((Int × Int) × Int)) → List (Int × ByteArray × List ((Int × Int) × Int))
  | 0, _, _, a => a
  | n + 1, l, met, a =>
    if chB As Bs (laH l).1.1 = true then
      onL (fun l' a' => wkL n l' (if (laH l).1.1 ∈ met then met else met ++ [(laH l).1.1]) a') l
        (if (laH l).1.1 ∈ met then a else onL (fun l' a' => wkL n l' met a') l a (goE Ls Hs (taT As (laH l).1.1) l (laH l)))
        (goE Ls Hs (taT Bs (laH l).1.1) l (laH l))
    else if (laH l).1.1 ∈ met then a else onL (fun l' a' => wkL n l' met a') l a (goE Ls Hs (taT As (laH l).1.1) l (laH l))
variable {Ls Hs As Bs}
theorem on_mem {k : List ((Int × Int) × Int) → List (Int × ByteArray × List ((Int × Int) × Int)) → List (Int × ByteArray × List ((Int × Int) × Int))} (hk : ∀ l a x, x ∈ k l a ↔ x ∈ a ∨ x ∈ k l []) (l : List ((Int × Int) × Int)) (a : List (Int × ByteArray × List ((Int × Int) × Int))) (g : (Int × ByteArray) ⊕ ((Int × Int) × Int)) (x : Int × ByteArray × List ((Int × Int) × Int)) : x ∈ onL k l a g ↔ x ∈ a ∨ x ∈ onL k l [] g := by
  cases g with
  | inl e =>
    simp only [onL]
    rw [pu_mem lo_fate, pu_mem lo_fate]
    simp only [List.not_mem_nil, or_false]
    exact Or.comm
  | inr p => exact hk _ _ _
theorem on_ris {k : List ((Int × Int) × Int) → List (Int × ByteArray × List ((Int × Int) × Int)) → List (Int × ByteArray × List ((Int × Int) × Int))} (hk : ∀ l a, Ris faL a → Ris faL (k l a)) (l : List ((Int × Int) × Int)) {a : List (Int × ByteArray × List ((Int × Int) × Int))} (ha : Ris faL a) (g : (Int × ByteArray) ⊕ ((Int × Int) × Int)) : Ris faL (onL k l a g) := by
  cases g with
  | inl e => exact pu_ris lo_fate _ ha
  | inr p => exact hk _ _ ha
theorem wk_mem : ∀ (n : Nat) (l : List ((Int × Int) × Int)) (met : List Int) (a : List (Int × ByteArray × List ((Int × Int) × Int))) (x : Int × ByteArray × List ((Int × Int) × Int)), x ∈ wkL Ls Hs As Bs n l met a ↔ x ∈ a ∨ x ∈ wkL Ls Hs As Bs n l met []
  | 0, l, met, a, x => by simp [wkL]
  | n + 1, l, met, a, x => by
    have h1 := on_mem (k := fun l' a' => wkL Ls Hs As Bs n l' met a') (fun l a x => wk_mem n l met a x) l
    have h2 := on_mem (k := fun l' a' => wkL Ls Hs As Bs n l' (if (laH l).1.1 ∈ met then met else met ++ [(laH l).1.1]) a') (fun l' a x => wk_mem n l' _ a x) l
    rw [wkL, wkL]
    by_cases hc : chB As Bs (laH l).1.1 = true
    · rw [if_pos hc, if_pos hc]
      by_cases hm : (laH l).1.1 ∈ met
      · simp only [hm, if_true] at h2 ⊢
        exact h2 _ _ _
      · simp only [hm, if_false] at h2 ⊢
        rw [h2, h1, h2 (onL _ l [] _)]
        exact or_assoc
    · rw [if_neg hc, if_neg hc]
      by_cases hm : (laH l).1.1 ∈ met
      · rw [if_pos hm, if_pos hm]
        simp
      · rw [if_neg hm, if_neg hm]
        exact h1 _ _ _
theorem wk_ris : ∀ (n : Nat) (l : List ((Int × Int) × Int)) (met : List Int) (a : List (Int × ByteArray × List ((Int × Int) × Int))), Ris faL a → Ris faL (wkL Ls Hs As Bs n l met a)
  | 0, l, met, a, h => h
  | n + 1, l, met, a, h => by
    have h1 := fun (b : List (Int × ByteArray × List ((Int × Int) × Int))) (hb : Ris faL b) => on_ris (k := fun l' a' => wkL Ls Hs As Bs n l' met a') (fun l a h => wk_ris n l met a h) l hb
    have h2 := fun (b : List (Int × ByteArray × List ((Int × Int) × Int))) (hb : Ris faL b) => on_ris (k := fun l' a' => wkL Ls Hs As Bs n l' (if (laH l).1.1 ∈ met then met else met ++ [(laH l).1.1]) a') (fun l' a h => wk_ris n l' _ a h) l hb
    rw [wkL]
    by_cases hc : chB As Bs (laH l).1.1 = true
    · rw [if_pos hc]
      by_cases hm : (laH l).1.1 ∈ met
      · simp only [hm, if_true] at h2 ⊢
        exact h2 _ h _
      · simp only [hm, if_false] at h2 ⊢
        exact h2 _ (h1 _ h _) _
    · rw [if_neg hc]
      by_cases hm : (laH l).1.1 ∈ met
      · rw [if_pos hm]
        exact h
      · rw [if_neg hm]
        exact h1 _ h _
theorem go_24 {t : List Ru} {l : List ((Int × Int) × Int)} {p q : (Int × Int) × Int} (h : goE Ls Hs t l p = .inr q) : l.length ≠ 24 := by
  intro e
  unfold goE at h
  cases h1 : stT t p with
  | none => rw [h1] at h; cases h
  | some r =>
    rw [h1] at h
    simp only at h
    cases h2 : atO Hs r.1 with
    | some m => rw [h2] at h; cases h
    | none =>
      rw [h2] at h
      simp only at h
      cases h3 : peerO Ls r.1 with
      | none => rw [h3] at h; cases h
      | some s =>
        rw [h3] at h
        simp only at h
        rw [if_pos (.inl e)] at h
        cases h
/-- Whatever each switch's table is on the way, the old one or the new one: what becomes of the packet then may be seen. -/
theorem wk_fix {Ms : List (List Ru)} {new : Int → Bool} (hM : ∀ s, taT Ms s = if new s = true then taT Bs s else taT As s) (hq : ∀ s, chB As Bs s = false → ∀ l p, goE Ls Hs (taT Bs s) l p = goE Ls Hs (taT As s) l p) :
    ∀ (n : Nat) (l : List ((Int × Int) × Int)) (met : List Int), l.length + n = 25 → 1 ≤ n → (∀ s ∈ met, new s = true ∧ chB As Bs s = true) → foF Ls Hs Ms n l ∈ wkL Ls Hs As Bs n l met []
  | 0, l, met, h1, h2, h3 => by omega
  | n + 1, l, met, h1, h2, h3 => by
    have ih := wk_fix hM hq n
    rw [foF, wkL, hM]
    obtain ⟨s, hs⟩ : ∃ s, s = (laH l).1.1 := ⟨_, rfl⟩
    rw [← hs]
    have fin : ∀ (met2 : List Int) (a : List (Int × ByteArray × List ((Int × Int) × Int))) (t : List Ru), (∀ s ∈ met2, new s = true ∧ chB As Bs s = true) →
        (match goE Ls Hs t l (laH l) with | .inl e => (e.1, e.2, l) | .inr p => foF Ls Hs Ms n (l ++ [p])) ∈ onL (fun l' a' => wkL Ls Hs As Bs n l' met2 a') l a (goE Ls Hs t l (laH l)) := by
      intro met2 a t hm2
      cases hg : goE Ls Hs t l (laH l) with
      | inl e => exact (pu_mem lo_fate _).2 (.inl rfl)
      | inr p =>
        have h24 := go_24 hg
        refine (wk_mem n _ _ _ _).2 (.inr ?_)
        exact ih (l ++ [p]) met2 (by simp; omega) (by omega) hm2
    cases hn : new s
    · have hnm : ¬ s ∈ met := fun h => by have := (h3 s h).1; rw [hn] at this; cases this
      simp only [Bool.false_eq_true, if_false, hnm]
      by_cases hc : chB As Bs s = true
      · rw [if_pos hc]
        refine (on_mem (fun l' a x => wk_mem n l' _ a x) l _ _ _).2 (.inl ?_)
        exact fin met [] (taT As s) h3
      · rw [if_neg hc]
        exact fin met [] (taT As s) h3
    · simp only [if_true]
      by_cases hc : chB As Bs s = true
      · rw [if_pos hc]
        refine fin _ _ (taT Bs s) ?_
        intro x hx
        by_cases hm : s ∈ met
        · rw [if_pos hm] at hx
          exact h3 x hx
        · rw [if_neg hm] at hx
          rcases List.mem_append.1 hx with h | h
          · exact h3 x h
          · have : x = s := by simpa using h
            subst this
            exact ⟨hn, hc⟩
      · rw [if_neg hc]
        have hnm : ¬ s ∈ met := fun h => hc (h3 s h).2
        rw [if_neg hnm, hq s (by simpa using hc)]
        exact fin met [] (taT As s) h3
/-- Where no table is another one just one fate may be seen. -/
theorem wk_same (hc : ∀ s, chB As Bs s = false) : ∀ (n : Nat) (l : List ((Int × Int) × Int)) (a : List (Int × ByteArray × List ((Int × Int) × Int))), l.length + n = 25 → 1 ≤ n → wkL Ls Hs As Bs n l [] a = puR faL (foF Ls Hs As n l) a
  | 0, l, a, h1, h2 => by omega
  | n + 1, l, a, h1, h2 => by
    have e : ¬ chB As Bs (laH l).1.1 = true := by rw [hc]; simp
    have e2 : ¬ (laH l).1.1 ∈ ([] : List Int) := List.not_mem_nil
    rw [wkL, if_neg e, if_neg e2, foF]
    cases hg : goE Ls Hs (taT As (laH l).1.1) l (laH l) with
    | inl e => rfl
    | inr p =>
      have h24 := go_24 hg
      exact wk_same hc n (l ++ [p]) a (by simp; omega) (by omega)
/-- What may be seen, of a packet that comes in. -/
def seeL (Ls : List ((Int × Int) × (Int × Int))) (Hs : List (ByteArray × (Int × Int))) (As Bs : List (List Ru)) (s : Int × Int) (h : Int) : List (Int × ByteArray × List ((Int × Int) × Int)) := wkL Ls Hs As Bs 24 [(s, h)] [] []
theorem see_ris (s : Int × Int) (h : Int) : Ris faL (seeL Ls Hs As Bs s h) := wk_ris _ _ _ _ List.Pairwise.nil
theorem see_same (hc : ∀ s, chB As Bs s = false) (s : Int × Int) (h : Int) : seeL Ls Hs As Bs s h = [frF Ls Hs As s h] := wk_same hc 24 _ _ rfl (by omega)
theorem see_fix {Ms : List (List Ru)} {new : Int → Bool} (hM : ∀ s, taT Ms s = if new s = true then taT Bs s else taT As s) (hq : ∀ s, chB As Bs s = false → ∀ l p, goE Ls Hs (taT Bs s) l p = goE Ls Hs (taT As s) l p) (s : Int × Int) (h : Int) : frF Ls Hs Ms s h ∈ seeL Ls Hs As Bs s h := wk_fix hM hq 24 _ _ rfl (by omega) (fun x hx => absurd hx List.not_mem_nil)
end
end Go.Proofs.Ytmpjoepfgfbjmaa
/- Two right tables that have the same rules send every packet alike. No program in it. -/
namespace Go.Proofs.Ytmpjoepfgfbjmaa
open Go.RowKit
set_option linter.unusedVariables false
set_option linter.unusedSimpArgs false

theorem getR {L : List Ru} {k : Nat} (h : k < L.length) : L.getD k zeR = L[k] := by simp [List.getD, h]
/-- What counts is there, has the header, and none that has it is above. -/
theorem be_in {L : List Ru} {h : Int} (h0 : 0 ≤ beTo L h L.length) : L.getD (beTo L h L.length).toNat zeR ∈ L ∧ (L.getD (beTo L h L.length).toNat zeR).has h = true ∧ ∀ r ∈ L, r.has h = true → ordR r (L.getD (beTo L h L.length).toNat zeR) ≤ 0 := by
  have hb := be_bd L h L.length
  have hl : (beTo L h L.length).toNat < L.length := by omega
  obtain ⟨d1, d2⟩ := be_yes h0
  refine ⟨by rw [getR hl]; exact List.getElem_mem hl, d1, fun r hr hh => ?_⟩
  obtain ⟨j, hj, rfl⟩ := List.getElem_of_mem hr
  have := d2 j hj (by rw [getR hj]; exact hh)
  rw [getR hj] at this
  exact this
theorem be_neg {L : List Ru} {h : Int} (h0 : beTo L h L.length < 0) : ∀ r ∈ L, r.has h = false := by
  intro r hr
  obtain ⟨j, hj, rfl⟩ := List.getElem_of_mem hr
  have := be_no h0 j hj
  rw [getR hj] at this
  exact this
theorem be_sign {A B : List Ru} (hm : ∀ r, r ∈ A → r ∈ B) {h : Int} (h0 : 0 ≤ beTo A h A.length) : 0 ≤ beTo B h B.length := by
  obtain ⟨d1, d2, _⟩ := be_in h0
  rcases Int.lt_or_le (beTo B h B.length) 0 with h1 | h1
  · have := be_neg h1 _ (hm _ d1)
    rw [d2] at this
    cases this
  · exact h1
theorem lu_alike {A B : List Ru} (hA : tbN A = 0) (hB : tbN B = 0) (hm : ∀ r, r ∈ A ↔ r ∈ B) (h : Int) : (luN A h = 0 ↔ luN B h = 0) ∧ (luN A h = 0 → roR A h = roR B h) := by
  have e : luN A h = 0 ↔ luN B h = 0 := by
    rw [lu_0, lu_0]
    exact ⟨fun q => ⟨hB, q.2.1, be_sign (fun r => (hm r).1) q.2.2⟩, fun q => ⟨hA, q.2.1, be_sign (fun r => (hm r).2) q.2.2⟩⟩
  refine ⟨e, fun h0 => ?_⟩
  have h1 := e.1 h0
  have a := be_in (lu_0.1 h0).2.2
  have b := be_in (lu_0.1 h1).2.2
  rw [roR, roR, luI, luI, if_pos h0, if_pos h1]
  have q1 := b.2.2 _ ((hm _).1 a.1) a.2.1
  have q2 := a.2.2 _ ((hm _).2 b.1) b.2.1
  exact tb_key hB ((hm _).1 a.1) b.1 (by rw [keyB, ord_as q1 q2]; rfl)
theorem st_alike {A B : List Ru} (hA : tbN A = 0) (hB : tbN B = 0) (hm : ∀ r, r ∈ A ↔ r ∈ B) (p : (Int × Int) × Int) : stT B p = stT A p := by
  obtain ⟨e1, e2⟩ := lu_alike hA hB hm p.2
  unfold stT
  by_cases h : luN A p.2 = 0
  · rw [if_pos h, if_pos (e1.1 h), e2 h]
  · rw [if_neg h, if_neg (fun q => h (e1.2 q))]
theorem ch_alike {As Bs : List (List Ru)} {s : Int} (h : chB As Bs s = false) : ∀ r, r ∈ taT As s ↔ r ∈ taT Bs s := by
  have h1 : (bey (taT As s) (taT Bs s)).length = 0 ∧ (bey (taT Bs s) (taT As s)).length = 0 := by
    unfold chB at h
    simp at h
    constructor
    · rw [h.1]; rfl
    · rw [h.2]; rfl
  have sub {X Y : List Ru} (e : (bey X Y).length = 0) : ∀ r ∈ X, r ∈ Y := by
    intro r hr
    have e := List.length_eq_zero_iff.1 e
    rw [bey, List.filter_eq_nil_iff] at e
    have := e r hr
    simp at this
    exact in_iff.1 this
  exact fun r => ⟨sub h1.1 r, sub h1.2 r⟩
/-- What a switch does whose table is not another one. -/
theorem go_alike {Ls : List ((Int × Int) × (Int × Int))} {Hs : List (ByteArray × (Int × Int))} {As Bs : List (List Ru)} (hA : ∀ s, tbN (taT As s) = 0) (hB : ∀ s, tbN (taT Bs s) = 0) (s : Int) (h : chB As Bs s = false) (l : List ((Int × Int) × Int)) (p : (Int × Int) × Int) : goE Ls Hs (taT Bs s) l p = goE Ls Hs (taT As s) l p := by
  unfold goE
  rw [st_alike (hA s) (hB s) (ch_alike h)]
end Go.Proofs.Ytmpjoepfgfbjmaa
/- Where one switch's table changes, and a packet meets it once at most, two fates may be seen. No program in it. -/
namespace Go.Proofs.Ytmpjoepfgfbjmaa
open Go.RowKit
set_option linter.unusedVariables false
set_option linter.unusedSimpArgs false

/-- How often a switch is met. -/
def cnS (s : Int) (l : List ((Int × Int) × Int)) : Nat := (l.filter fun p => p.1.1 == s).length
theorem cn_app (s : Int) (l : List ((Int × Int) × Int)) (p : (Int × Int) × Int) : cnS s (l ++ [p]) = cnS s l + if p.1.1 = s then 1 else 0 := by
  unfold cnS
  rw [List.filter_append, List.length_append]
  by_cases h : p.1.1 = s
  · simp [h]
  · simp [h]
theorem cn_pre {s : Int} {l m : List ((Int × Int) × Int)} (h : l <+: m) : cnS s l ≤ cnS s m := by
  obtain ⟨t, rfl⟩ := h
  unfold cnS
  rw [List.filter_append, List.length_append]
  omega
theorem pu_len {α : Type} {r : α → α → Bool} (f : α) : ∀ l : List α, (puR r f l).length ≤ l.length + 1
  | [] => by simp [puR]
  | x :: l => by
    rw [puR]
    by_cases h1 : r f x = true
    · rw [if_pos h1]; simp
    · rw [if_neg h1]
      by_cases h2 : r x f = true
      · rw [if_pos h2]
        have := pu_len (r := r) f l
        simp
        exact this
      · rw [if_neg h2]; simp
section
variable {Ls : List ((Int × Int) × (Int × Int))} {Hs : List (ByteArray × (Int × Int))} {As Bs : List (List Ru)}
/-- All that is seen begins with the hops that were there. -/
theorem wk_pre : ∀ (n : Nat) (l : List ((Int × Int) × Int)) (met : List Int) (x : Int × ByteArray × List ((Int × Int) × Int)), x ∈ wkL Ls Hs As Bs n l met [] → l <+: x.2.2
  | 0, l, met, x, h => by simp [wkL] at h
  | n + 1, l, met, x, h => by
    have on : ∀ (met2 : List Int) (g : (Int × ByteArray) ⊕ ((Int × Int) × Int)), x ∈ onL (fun l' a' => wkL Ls Hs As Bs n l' met2 a') l [] g → l <+: x.2.2 := by
      intro met2 g hx
      cases g with
      | inl e =>
        have := (pu_mem lo_fate _).1 hx
        simp at this
        rw [this]
        exact List.prefix_refl _
      | inr p => exact (List.prefix_append l [p]).trans (wk_pre n _ _ _ hx)
    rw [wkL] at h
    by_cases hc : chB As Bs (laH l).1.1 = true
    · rw [if_pos hc] at h
      rcases (on_mem (fun l' a x => wk_mem n l' _ a x) l _ _ _).1 h with h | h
      · by_cases hm : (laH l).1.1 ∈ met
        · rw [if_pos hm] at h; simp at h
        · rw [if_neg hm] at h; exact on _ _ h
      · exact on _ _ h
    · rw [if_neg hc] at h
      by_cases hm : (laH l).1.1 ∈ met
      · rw [if_pos hm] at h; simp at h
      · rw [if_neg hm] at h; exact on _ _ h
/-- Something is seen. -/
theorem wk_some : ∀ (n : Nat) (l : List ((Int × Int) × Int)) (met : List Int), l.length + n = 25 → 1 ≤ n → (∀ s ∈ met, chB As Bs s = true) → ∃ x, x ∈ wkL Ls Hs As Bs n l met []
  | 0, l, met, h1, h2, h3 => by omega
  | n + 1, l, met, h1, h2, h3 => by
    have on : ∀ (met2 : List Int) (a : List (Int × ByteArray × List ((Int × Int) × Int))) (t : List Ru), (∀ s ∈ met2, chB As Bs s = true) → ∃ x, x ∈ onL (fun l' a' => wkL Ls Hs As Bs n l' met2 a') l a (goE Ls Hs t l (laH l)) := by
      intro met2 a t hm2
      cases hg : goE Ls Hs t l (laH l) with
      | inl e => exact ⟨_, (pu_mem lo_fate _).2 (.inl rfl)⟩
      | inr p =>
        have h24 := go_24 hg
        obtain ⟨x, hx⟩ := wk_some n (l ++ [p]) met2 (by simp; omega) (by omega) hm2
        exact ⟨x, (wk_mem n _ _ _ _).2 (.inr hx)⟩
    rw [wkL]
    by_cases hc : chB As Bs (laH l).1.1 = true
    · rw [if_pos hc]
      refine on _ _ _ (fun x hx => ?_)
      by_cases hm : (laH l).1.1 ∈ met
      · rw [if_pos hm] at hx; exact h3 x hx
      · rw [if_neg hm] at hx
        rcases List.mem_append.1 hx with h | h
        · exact h3 x h
        · have : x = (laH l).1.1 := by simpa using h
          rw [this]; exact hc
    · rw [if_neg hc]
      have hm : ¬ (laH l).1.1 ∈ met := fun h => hc (h3 _ h)
      rw [if_neg hm]
      exact on _ _ _ h3
variable {s0 : Int}
/-- Behind the new table there is no choice. -/
theorem wk_new (h0 : chB As Bs s0 = true) (hc : ∀ s, s ≠ s0 → chB As Bs s = false) : ∀ (n : Nat) (l : List ((Int × Int) × Int)), l.length + n = 25 → 1 ≤ n → ∃ f, ∀ a, wkL Ls Hs As Bs n l [s0] a = puR faL f a
  | 0, l, h1, h2 => by omega
  | n + 1, l, h1, h2 => by
    have on : ∀ (t : List Ru), ∃ f, ∀ a, onL (fun l' a' => wkL Ls Hs As Bs n l' [s0] a') l a (goE Ls Hs t l (laH l)) = puR faL f a := by
      intro t
      cases hg : goE Ls Hs t l (laH l) with
      | inl e => exact ⟨_, fun a => rfl⟩
      | inr p =>
        have h24 := go_24 hg
        exact wk_new h0 hc n (l ++ [p]) (by simp; omega) (by omega)
    by_cases hs : (laH l).1.1 = s0
    · obtain ⟨f, hf⟩ := on (taT Bs s0)
      refine ⟨f, fun a => ?_⟩
      rw [wkL, hs, if_pos h0]
      simp only [List.mem_singleton, if_true]
      exact hf a
    · obtain ⟨f, hf⟩ := on (taT As (laH l).1.1)
      refine ⟨f, fun a => ?_⟩
      rw [wkL, hc _ hs]
      simp only [Bool.false_eq_true, if_false, List.mem_singleton, hs]
      exact hf a
/-- Nor behind the old one, if that switch is not met again. -/
theorem wk_old (h0 : chB As Bs s0 = true) (hc : ∀ s, s ≠ s0 → chB As Bs s = false) : ∀ (n : Nat) (l : List ((Int × Int) × Int)) (p : (Int × Int) × Int), (l ++ [p]).length + n = 25 → 1 ≤ n → 1 ≤ cnS s0 l → (∀ x ∈ wkL Ls Hs As Bs n (l ++ [p]) [] [], cnS s0 x.2.2 ≤ 1) → ∃ f, ∀ a, wkL Ls Hs As Bs n (l ++ [p]) [] a = puR faL f a
  | 0, l, p, h1, h2, h3, h4 => by omega
  | n + 1, l, p, h1, h2, h3, h4 => by
    have hla : laH (l ++ [p]) = p := by simp [laH, List.getD]
    have hs : ¬ p.1.1 = s0 := by
      intro e
      obtain ⟨x, hx⟩ := wk_some (Ls := Ls) (Hs := Hs) (As := As) (Bs := Bs) (n + 1) (l ++ [p]) [] h1 h2 (fun s h => absurd h List.not_mem_nil)
      have q1 := h4 x hx
      have q2 := cn_pre (s := s0) (wk_pre _ _ _ _ hx)
      rw [cn_app, if_pos e] at q2
      omega
    have ew : ∀ a, wkL Ls Hs As Bs (n + 1) (l ++ [p]) [] a = onL (fun l' a' => wkL Ls Hs As Bs n l' [] a') (l ++ [p]) a (goE Ls Hs (taT As p.1.1) (l ++ [p]) p) := by
      intro a
      rw [wkL, hla, hc _ hs]
      simp only [Bool.false_eq_true, if_false, List.not_mem_nil]
    cases hg : goE Ls Hs (taT As p.1.1) (l ++ [p]) p with
    | inl e =>
      refine ⟨(e.1, e.2, l ++ [p]), fun a => ?_⟩
      rw [ew, hg]
      rfl
    | inr q =>
      have h24 := go_24 hg
      have h5 : ∀ x ∈ wkL Ls Hs As Bs n (l ++ [p] ++ [q]) [] [], cnS s0 x.2.2 ≤ 1 := by
        intro x hx
        refine h4 x ?_
        rw [ew, hg]
        exact hx
      obtain ⟨f, hf⟩ := wk_old h0 hc n (l ++ [p]) q (by simp at h1 h24 ⊢; omega) (by simp at h1 h24; omega) (by rw [cn_app]; omega) h5
      refine ⟨f, fun a => ?_⟩
      rw [ew, hg]
      exact hf a
/-- TWO AT MOST. -/
theorem wk_two (h0 : chB As Bs s0 = true) (hc : ∀ s, s ≠ s0 → chB As Bs s = false) : ∀ (n : Nat) (l : List ((Int × Int) × Int)) (p : (Int × Int) × Int), (l ++ [p]).length + n = 25 → 1 ≤ n → (∀ x ∈ wkL Ls Hs As Bs n (l ++ [p]) [] [], cnS s0 x.2.2 ≤ 1) → (wkL Ls Hs As Bs n (l ++ [p]) [] []).length ≤ 2
  | 0, l, p, h1, h2, h4 => by omega
  | n + 1, l, p, h1, h2, h4 => by
    have hla : laH (l ++ [p]) = p := by simp [laH, List.getD]
    by_cases hs : p.1.1 = s0
    · have ew : wkL Ls Hs As Bs (n + 1) (l ++ [p]) [] [] = onL (fun l' a' => wkL Ls Hs As Bs n l' [s0] a') (l ++ [p]) (onL (fun l' a' => wkL Ls Hs As Bs n l' [] a') (l ++ [p]) [] (goE Ls Hs (taT As s0) (l ++ [p]) p)) (goE Ls Hs (taT Bs s0) (l ++ [p]) p) := by
        rw [wkL, hla, hs, if_pos h0]
        simp only [List.not_mem_nil, if_false, List.nil_append]
      have hold : (onL (fun l' a' => wkL Ls Hs As Bs n l' [] a') (l ++ [p]) [] (goE Ls Hs (taT As s0) (l ++ [p]) p)).length ≤ 1 := by
        cases hg : goE Ls Hs (taT As s0) (l ++ [p]) p with
        | inl e => simp [onL, puR]
        | inr q =>
          have h24 := go_24 hg
          have h5 : ∀ x ∈ wkL Ls Hs As Bs n (l ++ [p] ++ [q]) [] [], cnS s0 x.2.2 ≤ 1 := by
            intro x hx
            refine h4 x ?_
            rw [ew, hg]
            exact (on_mem (fun l' a x => wk_mem n l' _ a x) _ _ _ _).2 (.inl hx)
          obtain ⟨f, hf⟩ := wk_old h0 hc n (l ++ [p]) q (by simp at h1 h24 ⊢; omega) (by simp at h1 h24; omega) (by rw [cn_app, if_pos hs]; omega) h5
          show (wkL Ls Hs As Bs n (l ++ [p] ++ [q]) [] []).length ≤ 1
          rw [hf]
          simp [puR]
      rw [ew]
      generalize onL (fun l' a' => wkL Ls Hs As Bs n l' [] a') (l ++ [p]) [] (goE Ls Hs (taT As s0) (l ++ [p]) p) = O at hold
      cases hg : goE Ls Hs (taT Bs s0) (l ++ [p]) p with
      | inl e =>
        have := pu_len (r := faL) (e.1, e.2, l ++ [p]) O
        show (puR faL _ O).length ≤ 2
        omega
      | inr q =>
        have h24 := go_24 hg
        obtain ⟨f, hf⟩ := wk_new (Ls := Ls) (Hs := Hs) h0 hc n (l ++ [p] ++ [q]) (by simp at h1 h24 ⊢; omega) (by simp at h1 h24; omega)
        show (wkL Ls Hs As Bs n (l ++ [p] ++ [q]) [s0] O).length ≤ 2
        rw [hf]
        have := pu_len (r := faL) f O
        omega
    · have ew : wkL Ls Hs As Bs (n + 1) (l ++ [p]) [] [] = onL (fun l' a' => wkL Ls Hs As Bs n l' [] a') (l ++ [p]) [] (goE Ls Hs (taT As p.1.1) (l ++ [p]) p) := by
        rw [wkL, hla, hc _ hs]
        simp only [Bool.false_eq_true, if_false, List.not_mem_nil]
      cases hg : goE Ls Hs (taT As p.1.1) (l ++ [p]) p with
      | inl e => rw [ew, hg]; simp [onL, puR]
      | inr q =>
        have h24 := go_24 hg
        have h5 : ∀ x ∈ wkL Ls Hs As Bs n (l ++ [p] ++ [q]) [] [], cnS s0 x.2.2 ≤ 1 := by
          intro x hx
          refine h4 x ?_
          rw [ew, hg]
          exact hx
        rw [ew, hg]
        exact wk_two h0 hc n (l ++ [p]) q (by simp at h1 h24 ⊢; omega) (by simp at h1 h24; omega) h5
end
end Go.Proofs.Ytmpjoepfgfbjmaa
/- What becomes of a packet, hop by hop: plain lists. No program in it. -/
namespace Go.Proofs.Ytmpjoepfgfbjmaa
open Go.RowKit
set_option linter.unusedVariables false

section
variable {Ls : List ((Int × Int) × (Int × Int))} {Hs : List (ByteArray × (Int × Int))} {Ts : List (List Ru)}
/-- One hop is behind the other. -/
def NxH (Ls : List ((Int × Int) × (Int × Int))) (Hs : List (ByteArray × (Int × Int))) (Ts : List (List Ru)) (p q : (Int × Int) × Int) : Prop := ∃ o, stO Ts p = some o ∧ atO Hs o.1 = none ∧ peerO Ls o.1 = some q.1 ∧ q.2 = o.2
def atH (l : List ((Int × Int) × Int)) (i : Nat) : (Int × Int) × Int := l.getD i zeH
def ChH (Ls : List ((Int × Int) × (Int × Int))) (Hs : List (ByteArray × (Int × Int))) (Ts : List (List Ru)) (l : List ((Int × Int) × Int)) : Prop := ∀ i, i + 1 < l.length → NxH Ls Hs Ts (atH l i) (atH l (i + 1))
/-- What it comes to at the last of these hops. -/
def enE (Ls : List ((Int × Int) × (Int × Int))) (Hs : List (ByteArray × (Int × Int))) (Ts : List (List Ru)) (l : List ((Int × Int) × Int)) (p : (Int × Int) × Int) : (Int × ByteArray) ⊕ ((Int × Int) × Int) := goE Ls Hs (taT Ts p.1.1) l p
theorem la_at (l : List ((Int × Int) × Int)) : laH l = atH l (l.length - 1) := rfl
theorem at_app (l : List ((Int × Int) × Int)) (p : (Int × Int) × Int) : atH (l ++ [p]) l.length = p := by simp [atH, List.getD]
theorem at_lt {l : List ((Int × Int) × Int)} (m : List ((Int × Int) × Int)) {i : Nat} (h : i < l.length) : atH (l ++ m) i = atH l i := by simp [atH, List.getD, List.getElem?_append_left h]
theorem at_in {l : List ((Int × Int) × Int)} {i : Nat} (h : i < l.length) : atH l i ∈ l := by
  have e : atH l i = l[i] := by simp [atH, List.getD, h]
  rw [e]
  exact List.getElem_mem h
theorem en_r {l : List ((Int × Int) × Int)} {p q : (Int × Int) × Int} (h : enE Ls Hs Ts l p = .inr q) : NxH Ls Hs Ts p q ∧ l.length ≠ 24 ∧ q ∉ l := by
  unfold enE goE at h
  cases hs : stT (taT Ts p.1.1) p with
  | none => rw [hs] at h; cases h
  | some o =>
    rw [hs] at h
    simp only at h
    cases ha : atO Hs o.1 with
    | some m => rw [ha] at h; cases h
    | none =>
      rw [ha] at h
      simp only at h
      cases hp : peerO Ls o.1 with
      | none => rw [hp] at h; cases h
      | some s =>
        rw [hp] at h
        simp only at h
        split at h
        · cases h
        · next hn =>
          cases h
          rw [not_or] at hn
          refine ⟨⟨o, hs, ha, hp, rfl⟩, hn.1, fun hm => hn.2 ?_⟩
          exact List.any_eq_true.2 ⟨_, hm, (heB_iff _ _).2 rfl⟩
/-- A next hop that is not there yet is one. -/
theorem en_go {l : List ((Int × Int) × Int)} {p q : (Int × Int) × Int} (h : NxH Ls Hs Ts p q) (h24 : l.length ≠ 24) (hq : q ∉ l) : enE Ls Hs Ts l p = .inr q := by
  obtain ⟨o, h1, h2, h3, h4⟩ := h
  unfold enE goE
  rw [show stT (taT Ts p.1.1) p = some o from h1]
  simp only [h2, h3]
  rw [if_neg]
  · obtain ⟨q1, q2⟩ := q
    simp only at h4
    rw [h4]
  · rw [not_or]
    refine ⟨h24, fun hm => hq ?_⟩
    obtain ⟨x, hx, e⟩ := List.any_eq_true.1 hm
    have e2 := (heB_iff _ _).1 e
    obtain ⟨q1, q2⟩ := q
    simp only at h4
    rw [h4, e2]
    exact hx
/-- An end that is no loop is one whatever was there. -/
theorem en_l {l : List ((Int × Int) × Int)} {p : (Int × Int) × Int} {e : Int × ByteArray} (h : enE Ls Hs Ts l p = .inl e) (h4 : e.1 ≠ 4) (m : List ((Int × Int) × Int)) : enE Ls Hs Ts m p = .inl e := by
  unfold enE goE at h ⊢
  cases hs : stT (taT Ts p.1.1) p with
  | none => rw [hs] at h; exact h
  | some o =>
    rw [hs] at h
    simp only at h ⊢
    cases ha : atO Hs o.1 with
    | some m => rw [ha] at h; exact h
    | none =>
      rw [ha] at h
      simp only at h ⊢
      cases hp : peerO Ls o.1 with
      | none => rw [hp] at h; exact h
      | some s =>
        rw [hp] at h
        simp only at h
        split at h
        · cases h
          exact absurd rfl h4
        · cases h
/-- An end, in words. -/
theorem en_end {l : List ((Int × Int) × Int)} {p : (Int × Int) × Int} {e : Int × ByteArray} (h : enE Ls Hs Ts l p = .inl e) (hn : ∀ x ∈ Hs, x.1 ≠ ByteArray.empty) : (stO Ts p = none ↔ e.1 = 2) ∧ (e.1 = 1 ↔ e.2 ≠ ByteArray.empty) := by
  unfold enE goE at h
  unfold stO
  cases hs : stT (taT Ts p.1.1) p with
  | none => rw [hs] at h; cases h; simp
  | some o =>
    rw [hs] at h
    simp only at h
    cases ha : atO Hs o.1 with
    | some m =>
      rw [ha] at h
      cases h
      refine ⟨by simp, fun _ => ?_, fun _ => rfl⟩
      rcases at_ix Hs o.1 with ⟨_, h0⟩ | ⟨k, hk, _, h1⟩
      · rw [ha] at h0; cases h0
      · rw [ha] at h1
        cases h1
        exact hn _ (List.getElem_mem hk)
    | none =>
      rw [ha] at h
      simp only at h
      cases hp : peerO Ls o.1 with
      | none => rw [hp] at h; cases h; simp
      | some s =>
        rw [hp] at h
        simp only at h
        split at h
        · cases h; simp
        · cases h
theorem fo_s (n : Nat) (l : List ((Int × Int) × Int)) : foF Ls Hs Ts (n + 1) l = match enE Ls Hs Ts l (laH l) with | .inl e => (e.1, e.2, l) | .inr p => foF Ls Hs Ts n (l ++ [p]) := rfl
/-- What is so of the hops that are told. -/
theorem fo_spec : ∀ (n : Nat) (l : List ((Int × Int) × Int)), 0 < l.length → l.length + n = 25 → 1 ≤ n → l.Nodup → ChH Ls Hs Ts l →
    ∃ rest, (foF Ls Hs Ts n l).2.2 = l ++ rest ∧ (foF Ls Hs Ts n l).2.2.length ≤ 24 ∧ (foF Ls Hs Ts n l).2.2.Nodup ∧ ChH Ls Hs Ts (foF Ls Hs Ts n l).2.2 ∧
      enE Ls Hs Ts (foF Ls Hs Ts n l).2.2 (laH (foF Ls Hs Ts n l).2.2) = .inl ((foF Ls Hs Ts n l).1, (foF Ls Hs Ts n l).2.1)
  | 0, l, _, _, h, _, _ => by omega
  | n + 1, l, h0, hl, _, hd, hc => by
    rw [fo_s]
    cases he : enE Ls Hs Ts l (laH l) with
    | inl e => exact ⟨[], by simp, by simp only; omega, hd, hc, he⟩
    | inr p =>
      obtain ⟨h1, h2, h3⟩ := en_r he
      simp only
      have hl2 : l.length < 24 := by omega
      have hd2 : (l ++ [p]).Nodup := by
        rw [List.nodup_append]
        refine ⟨hd, by simp, fun a ha b hb e => ?_⟩
        simp only [List.mem_singleton] at hb
        subst hb
        subst e
        exact h3 ha
      have hc2 : ChH Ls Hs Ts (l ++ [p]) := by
        intro i hi
        simp only [List.length_append, List.length_cons, List.length_nil] at hi
        by_cases e : i + 1 = l.length
        · rw [at_lt _ (show i < l.length by omega), e, at_app]
          rw [la_at] at h1
          have : i = l.length - 1 := by omega
          rw [this]
          exact h1
        · rw [at_lt _ (show i < l.length by omega), at_lt _ (show i + 1 < l.length by omega)]
          exact hc i (by omega)
      obtain ⟨rest, e1, e2⟩ := fo_spec n (l ++ [p]) (by simp) (by simp; omega) (by omega) hd2 hc2
      exact ⟨p :: rest, by rw [e1]; simp, e2⟩
/-- From any of the hops on it ends likewise. -/
theorem fo_tail {L : List ((Int × Int) × Int)} {e : Int × ByteArray} (hd : L.Nodup) (hc : ChH Ls Hs Ts L) (h24 : L.length ≤ 24) (he : enE Ls Hs Ts L (laH L) = .inl e) (h4 : e.1 ≠ 4) :
    ∀ (r k : Nat) (m : List ((Int × Int) × Int)) (n : Nat), k + 1 + r = L.length → 0 < m.length → m.length ≤ k + 1 → laH m = atH L k → (∀ x ∈ m, ∃ j, j ≤ k ∧ x = atH L j) → r < n →
      (foF Ls Hs Ts n m).1 = e.1 ∧ (foF Ls Hs Ts n m).2.1 = e.2 ∧ (foF Ls Hs Ts n m).2.2.length = m.length + r
  | r, k, m, 0, _, _, _, _, _, hn => by omega
  | 0, k, m, n + 1, hk, hm, hmk, hla, hin, hn => by
    rw [fo_s]
    have : laH m = laH L := by
      rw [hla, la_at]
      congr 1
      omega
    rw [this, en_l he h4 m]
    exact ⟨rfl, rfl, by simp⟩
  | r + 1, k, m, n + 1, hk, hm, hmk, hla, hin, hn => by
    rw [fo_s]
    have hnx := hc k (by omega)
    have hq : atH L (k + 1) ∉ m := by
      intro hx
      obtain ⟨j, hj, e2⟩ := hin _ hx
      have e3 : L[k + 1]'(by omega) = L[j]'(by omega) := by
        have a1 : atH L (k + 1) = L[k + 1]'(by omega) := by
          have : k + 1 < L.length := by omega
          simp [atH, List.getD, this]
        have a2 : atH L j = L[j]'(by omega) := by
          have : j < L.length := by omega
          simp [atH, List.getD, this]
        rw [← a1, ← a2]
        exact e2
      have := (List.getElem_inj hd).1 e3
      omega
    rw [hla, en_go hnx (by omega) hq]
    simp only
    have h := fo_tail hd hc h24 he h4 r (k + 1) (m ++ [atH L (k + 1)]) n (by omega) (by simp) (by simp; omega) (by
      rw [la_at]
      simp only [List.length_append, List.length_cons, List.length_nil, Nat.add_sub_cancel]
      exact at_app _ _) (by
      intro x hx
      rw [List.mem_append] at hx
      rcases hx with hx | hx
      · obtain ⟨j, hj, e2⟩ := hin x hx
        exact ⟨j, by omega, e2⟩
      · simp only [List.mem_singleton] at hx
        exact ⟨k + 1, Nat.le_refl _, hx⟩) (by omega)
    refine ⟨h.1, h.2.1, ?_⟩
    rw [h.2.2]
    simp
    omega
end
end Go.Proofs.Ytmpjoepfgfbjmaa
/- A line of switches: plain lists. No program in it. -/
namespace Go.Proofs.Ytmpjoepfgfbjmaa
open Go.RowKit
set_option linter.unusedVariables false

/-- The links of a line. -/
def lnTo : Nat → List ((Int × Int) × (Int × Int))
  | 0 => []
  | k + 1 => lnTo k ++ [(((k : Int) + 1, 2), ((k : Int) + 1 + 1, 1))]
theorem ln_len (k : Nat) : (lnTo k).length = k := by
  induction k with
  | zero => rfl
  | succ k ih => simp [lnTo, ih]
/-- Its hosts. -/
def lnH (n : Int) : List (ByteArray × (Int × Int)) := [(⟨#[97]⟩, (1, 3)), (⟨#[98]⟩, (n, 4))]
def lnOk (n : Nat) : Bool := decide (tpN n (lnTo (n - 1)) (lnH n) = 0)
theorem ln_ok (n : Nat) (h1 : 1 ≤ n) (h6 : n ≤ 6) : tpN n (lnTo (n - 1)) (lnH n) = 0 := by
  have h : ∀ m ∈ [1, 2, 3, 4, 5, 6], lnOk m = true := by decide +kernel
  have h2 := h n (by simp; omega)
  simpa [lnOk] using h2
theorem ln_7 : tpN 7 (lnTo 6) (lnH 7) ≠ 0 := by decide +kernel
/-- How far, and how many are near, for all lines and switches. -/
def lnAll (n a b : Nat) : Bool := decide (faN n (lnTo (n - 1)) a b = if a < b then (b : Int) - a else (a : Int) - b) && decide (((nrL n (lnTo (n - 1)) a).length : Int) = 2 - (if a = 1 then 1 else 0) - (if a = n then 1 else 0))
theorem ln_all (n a b : Nat) (h1 : 1 ≤ n) (h6 : n ≤ 6) (a1 : 1 ≤ a) (a2 : a ≤ n) (b1 : 1 ≤ b) (b2 : b ≤ n) : lnAll n a b = true := by
  have h : ∀ m ∈ [1, 2, 3, 4, 5, 6], ∀ a ∈ [1, 2, 3, 4, 5, 6], ∀ b ∈ [1, 2, 3, 4, 5, 6], a ≤ m → b ≤ m → lnAll m a b = true := by decide +kernel
  exact h n (by simp; omega) a (by simp; omega) b (by simp; omega) a2 b2
end Go.Proofs.Ytmpjoepfgfbjmaa
/- Hops of a right net are right; two switches that send each other all: plain lists. No program in it. -/
namespace Go.Proofs.Ytmpjoepfgfbjmaa
open Go.RowKit
set_option linter.unusedVariables false

theorem aph_fin : ∀ s v h : Fin 16, (bits .andNot .i64 ((v : Nat) : Int) ((s : Nat) : Int) == 0) = true → hdrB (apV ((s : Nat) : Int) ((v : Nat) : Int) ((h : Nat) : Int)) = true := by decide +kernel
theorem ap_hdr {p m b o s v h : Int} (hr : apN p m b o s v h = 0) : hdrB (apR p m b o s v h) = true := by
  obtain ⟨h1, h2, _, _⟩ := ap_yes hr
  obtain ⟨g1, _, g3⟩ := ru_ok h1
  obtain ⟨_, hs, hv⟩ := ru_in g1
  obtain ⟨s', rfl⟩ := small hs
  obtain ⟨v', rfl⟩ := small hv
  obtain ⟨h', rfl⟩ := small (hdr_of h2)
  simp only [ruSet, Bool.and_eq_true] at g3
  rw [apR, if_pos hr]
  exact aph_fin s' v' h' g3.1
section
variable {S : Int} {Ls : List ((Int × Int) × (Int × Int))} {Hs : List (ByteArray × (Int × Int))} {Ts : List (List Ru)}
theorem st_hdr {p o : (Int × Int) × Int} (h : stO Ts p = some o) : hdrB o.2 = true ∧ o.1.1 = p.1.1 := by
  unfold stO stT at h
  split at h
  · split at h
    · next hr =>
      cases h
      exact ⟨ap_hdr hr, rfl⟩
    · cases h
  · cases h
theorem peer_sp (ht : tpN S Ls Hs = 0) {s p : Int × Int} (h : peerO Ls s = some p) : spB S p = true := (tp_0 ht).2.2.1 p (peer_in h).2
theorem where_sp (ht : tpN S Ls Hs = 0) {n : ByteArray} {p : Int × Int} (h : whereO Hs n = some p) : spB S p = true := by
  rcases where_ix Hs n with ⟨_, h0⟩ | ⟨k, hk, _, h1⟩
  · rw [h] at h0; cases h0
  · rw [h] at h1
    cases h1
    exact ((tp_0 ht).2.2.2.2.1 _ (List.getElem_mem hk)).2
theorem name_ne (ht : tpN S Ls Hs = 0) : ∀ x ∈ Hs, x.1 ≠ ByteArray.empty := by
  intro x hx e
  have h := ((tp_0 ht).2.2.2.2.1 x hx).1
  rw [e] at h
  revert h
  decide
theorem nx_good (ht : tpN S Ls Hs = 0) {p q : (Int × Int) × Int} (h : NxH Ls Hs Ts p q) : spB S q.1 = true ∧ hdrB q.2 = true := by
  obtain ⟨o, h1, _, h3, h4⟩ := h
  exact ⟨peer_sp ht h3, by rw [h4]; exact (st_hdr h1).1⟩
end
/-- Two switches that send each other all. -/
def ruG : Ru := ⟨1, 0, 0, 2, 0, 0⟩
def ruK : Ru := ⟨1, 0, 0, 1, 0, 0⟩
def ruD (h : Int) : Ru := ⟨5, 15, h, 0, 0, 0⟩
def naA : ByteArray := ⟨#[97]⟩
theorem turn1_fin : ∀ h : Fin 16, (decide (seN 2 (lnTo 1) (lnH 2) [[ruG], [ruK]] naA ((h : Nat) : Int) = 0) && (decide ((seV 2 (lnTo 1) (lnH 2) [[ruG], [ruK]] naA ((h : Nat) : Int)).1 = 4) && decide ((seV 2 (lnTo 1) (lnH 2) [[ruG], [ruK]] naA ((h : Nat) : Int)).2.2.length = 3))) = true := by decide +kernel
theorem turn2_fin : ∀ h : Fin 16, (decide (seN 2 (lnTo 1) (lnH 2) [[ruG], [ruD ((h : Nat) : Int), ruK]] naA ((h : Nat) : Int) = 0) && (decide ((seV 2 (lnTo 1) (lnH 2) [[ruG], [ruD ((h : Nat) : Int), ruK]] naA ((h : Nat) : Int)).1 = 2) && decide ((seV 2 (lnTo 1) (lnH 2) [[ruG], [ruD ((h : Nat) : Int), ruK]] naA ((h : Nat) : Int)).2.2.length = 2))) = true := by decide +kernel
theorem turn1 {h : Int} (hh : hdrB h = true) : seN 2 (lnTo 1) (lnH 2) [[ruG], [ruK]] naA h = 0 ∧ (seV 2 (lnTo 1) (lnH 2) [[ruG], [ruK]] naA h).1 = 4 ∧ (seV 2 (lnTo 1) (lnH 2) [[ruG], [ruK]] naA h).2.2.length = 3 := by
  obtain ⟨h', rfl⟩ := small (hdr_of hh)
  simpa using turn1_fin h'
theorem turn2 {h : Int} (hh : hdrB h = true) : seN 2 (lnTo 1) (lnH 2) [[ruG], [ruD h, ruK]] naA h = 0 ∧ (seV 2 (lnTo 1) (lnH 2) [[ruG], [ruD h, ruK]] naA h).1 = 2 ∧ (seV 2 (lnTo 1) (lnH 2) [[ruG], [ruD h, ruK]] naA h).2.2.length = 2 := by
  obtain ⟨h', rfl⟩ := small (hdr_of hh)
  simpa using turn2_fin h'
theorem turn3_nt : ntN 2 (lnTo 1) (lnH 2) [[], []] = 0 ∧ weN 2 (lnTo 1) (lnH 2) naA = 0 := by decide +kernel
theorem turn3 {h : Int} (hh : hdrB h = false) : seN 2 (lnTo 1) (lnH 2) [[], []] naA h = 1 := by
  unfold seN
  rw [if_pos turn3_nt.1, if_pos turn3_nt.2, hh]
  rfl
end Go.Proofs.Ytmpjoepfgfbjmaa
/- What becomes of a packet, one round: plain lists. No program in it. -/
namespace Go.Proofs.Ytmpjoepfgfbjmaa
open Go.RowKit
set_option linter.unusedVariables false

section
variable {Ls : List ((Int × Int) × (Int × Int))} {Hs : List (ByteArray × (Int × Int))} {Ts : List (List Ru)} {l : List ((Int × Int) × Int)} {q : (Int × Int) × Int}
theorem fo_r (h : l.length ≤ 24) : foF Ls Hs Ts (25 - l.length) l = match enE Ls Hs Ts l (laH l) with | .inl e => (e.1, e.2, l) | .inr p => foF Ls Hs Ts (24 - l.length) (l ++ [p]) := by
  have e : 25 - l.length = (24 - l.length) + 1 := by omega
  rw [e]
  exact fo_s _ _
theorem fo_2 (h : l.length ≤ 24) (hA : stO Ts (laH l) = none) : foF Ls Hs Ts (25 - l.length) l = (2, ByteArray.empty, l) := by
  have e : enE Ls Hs Ts l (laH l) = .inl (2, ByteArray.empty) := by
    unfold enE goE
    rw [show stT (taT Ts (laH l).1.1) (laH l) = none from hA]
  rw [fo_r h, e]
theorem fo_1 (h : l.length ≤ 24) (hA : stO Ts (laH l) = some q) {m : ByteArray} (ha : atO Hs q.1 = some m) : foF Ls Hs Ts (25 - l.length) l = (1, m, l) := by
  have e : enE Ls Hs Ts l (laH l) = .inl (1, m) := by
    unfold enE goE
    rw [show stT (taT Ts (laH l).1.1) (laH l) = some q from hA]
    simp only [ha]
  rw [fo_r h, e]
theorem fo_3 (h : l.length ≤ 24) (hA : stO Ts (laH l) = some q) (ha : atO Hs q.1 = none) (hp : peerO Ls q.1 = none) : foF Ls Hs Ts (25 - l.length) l = (3, ByteArray.empty, l) := by
  have e : enE Ls Hs Ts l (laH l) = .inl (3, ByteArray.empty) := by
    unfold enE goE
    rw [show stT (taT Ts (laH l).1.1) (laH l) = some q from hA]
    simp only [ha, hp]
  rw [fo_r h, e]
theorem fo_4 (h : l.length ≤ 24) (hA : stO Ts (laH l) = some q) (ha : atO Hs q.1 = none) {s : Int × Int} (hp : peerO Ls q.1 = some s) (h4 : l.length = 24 ∨ (l.any fun x => heB (s, q.2) x) = true) : foF Ls Hs Ts (25 - l.length) l = (4, ByteArray.empty, l) := by
  have e : enE Ls Hs Ts l (laH l) = .inl (4, ByteArray.empty) := by
    unfold enE goE
    rw [show stT (taT Ts (laH l).1.1) (laH l) = some q from hA]
    simp only [ha, hp]
    rw [if_pos h4]
  rw [fo_r h, e]
theorem fo_n (h : l.length ≤ 24) (hA : stO Ts (laH l) = some q) (ha : atO Hs q.1 = none) {s : Int × Int} (hp : peerO Ls q.1 = some s) (h4 : l.length ≠ 24) (h5 : (l.any fun x => heB (s, q.2) x) = false) : foF Ls Hs Ts (25 - l.length) l = foF Ls Hs Ts (25 - (l ++ [(s, q.2)]).length) (l ++ [(s, q.2)]) := by
  have e : enE Ls Hs Ts l (laH l) = .inr (s, q.2) := by
    unfold enE goE
    rw [show stT (taT Ts (laH l).1.1) (laH l) = some q from hA]
    simp only [ha, hp]
    rw [if_neg]
    rw [not_or, h5]
    exact ⟨h4, by simp⟩
  rw [fo_r h, e]
  simp only [List.length_append, List.length_cons, List.length_nil]
  rw [show 24 - l.length = 25 - (l.length + (0 + 1)) by omega]
theorem la_app (l : List ((Int × Int) × Int)) (p : (Int × Int) × Int) : laH (l ++ [p]) = p := by
  rw [la_at]
  simp only [List.length_append, List.length_cons, List.length_nil, Nat.add_sub_cancel, Nat.zero_add]
  exact at_app l p
end
end Go.Proofs.Ytmpjoepfgfbjmaa
/- Legs in plain lists: what a table does with a packet ahead of all hops, and as it is behind some. No program in it. -/
namespace Go.Proofs.Ytmpjoepfgfbjmaa
open Go.RowKit
set_option linter.unusedVariables false

/-- A leg: how it ends, at whom; if it does not, where it goes on. -/
abbrev Lg := Int × ByteArray × ((Int × Int) × Int)
def lgT (Ls : List ((Int × Int) × (Int × Int))) (Hs : List (ByteArray × (Int × Int))) (t : List Ru) (p : (Int × Int) × Int) : Lg :=
  match stT t p with
  | none => (2, ByteArray.empty, zeH)
  | some q => match atO Hs q.1 with
    | some m => (1, m, zeH)
    | none => match peerO Ls q.1 with
      | none => (3, ByteArray.empty, zeH)
      | some s => (0, ByteArray.empty, (s, q.2))
/-- Behind hops: looped, if it would come where it was, or too often. -/
def afB (g : Lg) (l : List ((Int × Int) × Int)) : Bool := (g.1 == 0) && ((l.length == 24) || (l.any fun x => heB g.2.2 x))
def afL (g : Lg) (l : List ((Int × Int) × Int)) : Lg := if afB g l = true then (4, ByteArray.empty, zeH) else g
def lgE (g : Lg) : (Int × ByteArray) ⊕ ((Int × Int) × Int) := if g.1 = 0 then .inr g.2.2 else .inl (g.1, g.2.1)

section
variable {Ls : List ((Int × Int) × (Int × Int))} {Hs : List (ByteArray × (Int × Int))} {t : List Ru} {p : (Int × Int) × Int} {l : List ((Int × Int) × Int)}
theorem lg_2 (h : stT t p = none) : lgT Ls Hs t p = (2, ByteArray.empty, zeH) := by
  unfold lgT
  rw [h]
theorem lg_1 {q : (Int × Int) × Int} (h : stT t p = some q) {m : ByteArray} (ha : atO Hs q.1 = some m) : lgT Ls Hs t p = (1, m, zeH) := by
  unfold lgT
  rw [h]
  simp only [ha]
theorem lg_3 {q : (Int × Int) × Int} (h : stT t p = some q) (ha : atO Hs q.1 = none) (hp : peerO Ls q.1 = none) : lgT Ls Hs t p = (3, ByteArray.empty, zeH) := by
  unfold lgT
  rw [h]
  simp only [ha, hp]
theorem lg_0 {q : (Int × Int) × Int} (h : stT t p = some q) (ha : atO Hs q.1 = none) {s : Int × Int} (hp : peerO Ls q.1 = some s) : lgT Ls Hs t p = (0, ByteArray.empty, (s, q.2)) := by
  unfold lgT
  rw [h]
  simp only [ha, hp]
theorem af_ne {g : Lg} (h : g.1 ≠ 0) : afL g l = g := by
  unfold afL afB
  rw [if_neg (by simp [h])]
theorem af_0 {g : Lg} (h : (afL g l).1 = 0) : afL g l = g ∧ g.1 = 0 ∧ l.length ≠ 24 ∧ (l.any fun x => heB g.2.2 x) = false := by
  by_cases e : afB g l = true
  · rw [afL, if_pos e] at h
    cases h
  · have e1 : afL g l = g := by rw [afL, if_neg e]
    rw [e1] at h
    refine ⟨e1, h, ?_, ?_⟩
    · intro h24
      exact e (by simp [afB, h, h24])
    · cases hx : l.any fun x => heB g.2.2 x with
      | false => rfl
      | true => exact absurd (by simp only [afB, h, hx]; simp) e
/-- What becomes of a packet at its last hop, by its leg. -/
theorem go_lg : goE Ls Hs t l p = lgE (afL (lgT Ls Hs t p) l) := by
  unfold goE
  cases h : stT t p with
  | none => simp only [lg_2 h, af_ne (l := l) (g := (2, ByteArray.empty, zeH)) (by simp)]; rfl
  | some q =>
    cases ha : atO Hs q.1 with
    | some m => simp only [ha, lg_1 (Ls := Ls) h ha, af_ne (l := l) (g := (1, m, zeH)) (by simp)]; rfl
    | none =>
      cases hp : peerO Ls q.1 with
      | none => simp only [ha, hp, lg_3 h ha hp, af_ne (l := l) (g := (3, ByteArray.empty, zeH)) (by simp)]; rfl
      | some s =>
        simp only [ha, hp, lg_0 h ha hp]
        by_cases e : l.length = 24 ∨ l.any (fun x => heB (s, q.2) x) = true
        · rw [if_pos e, afL, if_pos]
          · rfl
          · rcases e with e | e
            · simp [afB, e]
            · simp only [afB, e]
              simp
        · rw [if_neg e, afL, if_neg]
          · rfl
          · rw [not_or] at e
            simp only [afB, Bool.and_eq_true, Bool.or_eq_true, beq_iff_eq]
            exact fun h => h.2.elim e.1 e.2
end
section
variable {S : Int} {Ls : List ((Int × Int) × (Int × Int))} {Hs : List (ByteArray × (Int × Int))} {Ts : List (List Ru)} {l : List ((Int × Int) × Int)}
/-- One round, by the leg. -/
theorem fo_end (h : l.length ≤ 24) {g : Lg} (hg : g = afL (lgT Ls Hs (taT Ts (laH l).1.1) (laH l)) l) (h0 : g.1 ≠ 0) : foF Ls Hs Ts (25 - l.length) l = (g.1, g.2.1, l) := by
  have e : enE Ls Hs Ts l (laH l) = .inl (g.1, g.2.1) := by
    show goE _ _ _ _ _ = _
    rw [go_lg, ← hg, lgE, if_neg h0]
  rw [fo_r h, e]
theorem fo_on (h : l.length ≤ 24) {g : Lg} (hg : g = afL (lgT Ls Hs (taT Ts (laH l).1.1) (laH l)) l) (h0 : g.1 = 0) : foF Ls Hs Ts (25 - l.length) l = foF Ls Hs Ts (25 - (l ++ [g.2.2]).length) (l ++ [g.2.2]) := by
  have e : enE Ls Hs Ts l (laH l) = .inr g.2.2 := by
    show goE _ _ _ _ _ = _
    rw [go_lg, ← hg, lgE, if_pos h0]
  rw [fo_r h, e]
  simp only [List.length_append, List.length_cons, List.length_nil]
  rw [show 24 - l.length = 25 - (l.length + (0 + 1)) by omega]
theorem lg_sp (ht : tpN S Ls Hs = 0) {t : List Ru} {p : (Int × Int) × Int} (h : (lgT Ls Hs t p).1 = 0) : spB S (lgT Ls Hs t p).2.2.1 = true := by
  cases h1 : stT t p with
  | none => rw [lg_2 h1] at h; cases h
  | some q =>
    cases ha : atO Hs q.1 with
    | some m => rw [lg_1 h1 ha] at h; cases h
    | none =>
      cases hp : peerO Ls q.1 with
      | none => rw [lg_3 h1 ha hp] at h; cases h
      | some s =>
        rw [lg_0 h1 ha hp]
        exact peer_sp ht hp
theorem lg_name (ht : tpN S Ls Hs = 0) (t : List Ru) (p : (Int × Int) × Int) : (lgT Ls Hs t p).2.1.size ≤ 1000000 := by
  cases h1 : stT t p with
  | none => rw [lg_2 h1]; decide
  | some q =>
    cases ha : atO Hs q.1 with
    | some m =>
      rw [lg_1 h1 ha]
      rcases at_ix Hs q.1 with ⟨_, ho⟩ | ⟨k, hk, _, ho⟩
      · rw [ha] at ho; cases ho
      · rw [ha] at ho
        cases ho
        have h := (tp_0 ht).2.2.2.2.1 Hs[k] (List.getElem_mem hk)
        have h2 := h.1
        simp only [nmB, Bool.and_eq_true, decide_eq_true_eq] at h2
        show Hs[k].1.size ≤ _
        omega
    | none =>
      cases hp : peerO Ls q.1 with
      | none => rw [lg_3 h1 ha hp]; decide
      | some s =>
        rw [lg_0 h1 ha hp]
        show ByteArray.empty.size ≤ 1000000
        decide
theorem af_name {g : Lg} (h : g.2.1.size ≤ 1000000) : (afL g l).2.1.size ≤ 1000000 := by
  unfold afL
  by_cases e : afB g l = true
  · rw [if_pos e]; decide
  · rw [if_neg e]; exact h
end
end Go.Proofs.Ytmpjoepfgfbjmaa
/- What the program's walk hands on, one by one, while tables change: each once, and just what may be seen. No program in it. -/
namespace Go.Proofs.Ytmpjoepfgfbjmaa
open Go.RowKit
set_option linter.unusedVariables false
set_option linter.unusedSimpArgs false

/-- The place of the switch of the last hop. -/
def sxH (l : List ((Int × Int) × Int)) : Nat := ((laH l).1.1 - 1).toNat
/-- One more switch's new table was met. -/
def mtS (met : Nat → Bool) (a : Nat) : Nat → Bool := fun b => if b = a then true else met b
/-- It ends by a leg, or goes on. -/
def tkL (k : List ((Int × Int) × Int) → (Nat → Bool) → List (Int × ByteArray × List ((Int × Int) × Int))) (g : Lg) (l : List ((Int × Int) × Int)) (met : Nat → Bool) : List (Int × ByteArray × List ((Int × Int) × Int)) :=
  if g.1 = 0 then k (l ++ [g.2.2]) met else [(g.1, g.2.1, l)]
section
variable (Ls : List ((Int × Int) × (Int × Int))) (Hs : List (ByteArray × (Int × Int))) (As Bs : List (List Ru))
/-- The leg of the last hop, behind all hops. -/
def lgA (Ts : List (List Ru)) (l : List ((Int × Int) × Int)) : Lg := afL (lgT Ls Hs (taT Ts (laH l).1.1) (laH l)) l
def pwL : Nat → List ((Int × Int) × Int) → (Nat → Bool) → List (Int × ByteArray × List ((Int × Int) × Int))
  | 0, _, _ => []
  | n + 1, l, met =>
    if met (sxH l) = true then tkL (pwL n) (lgA Ls Hs Bs l) l met
    else tkL (pwL n) (lgA Ls Hs As l) l met ++ (if lgA Ls Hs Bs l = lgA Ls Hs As l then [] else tkL (pwL n) (lgA Ls Hs Bs l) l (mtS met (sxH l)))
end
section
variable {Ls : List ((Int × Int) × (Int × Int))} {Hs : List (ByteArray × (Int × Int))} {As Bs : List (List Ru)}
/-- At which port a packet comes in does not matter. -/
theorem lg_port (t : List Ru) (s x y h : Int) : lgT Ls Hs t ((s, x), h) = lgT Ls Hs t ((s, y), h) := rfl
theorem lg_end {t : List Ru} {p : (Int × Int) × Int} (h : (lgT Ls Hs t p).1 ≠ 0) : (lgT Ls Hs t p).2.2 = zeH := by
  cases h1 : stT t p with
  | none => rw [lg_2 h1]
  | some q =>
    cases ha : atO Hs q.1 with
    | some m => rw [lg_1 h1 ha]
    | none =>
      cases hp : peerO Ls q.1 with
      | none => rw [lg_3 h1 ha hp]
      | some s => rw [lg_0 h1 ha hp] at h; exact absurd rfl h
theorem lg_on {t : List Ru} {p : (Int × Int) × Int} (h : (lgT Ls Hs t p).1 = 0) : (lgT Ls Hs t p).2.1 = ByteArray.empty := by
  cases h1 : stT t p with
  | none => rw [lg_2 h1] at h; cases h
  | some q =>
    cases ha : atO Hs q.1 with
    | some m => rw [lg_1 h1 ha] at h; cases h
    | none =>
      cases hp : peerO Ls q.1 with
      | none => rw [lg_3 h1 ha hp] at h; cases h
      | some s => rw [lg_0 h1 ha hp]
theorem la_end {Ts : List (List Ru)} {l : List ((Int × Int) × Int)} (h : (lgA Ls Hs Ts l).1 ≠ 0) : (lgA Ls Hs Ts l).2.2 = zeH := by
  unfold lgA afL at *
  by_cases e : afB (lgT Ls Hs (taT Ts (laH l).1.1) (laH l)) l = true
  · rw [if_pos e]
  · rw [if_neg e] at h ⊢
    exact lg_end h
theorem la_on {Ts : List (List Ru)} {l : List ((Int × Int) × Int)} (h : (lgA Ls Hs Ts l).1 = 0) : (lgA Ls Hs Ts l).2.1 = ByteArray.empty := by
  unfold lgA at *
  obtain ⟨e, h0, _⟩ := af_0 h
  rw [e]
  exact lg_on h0
theorem la_24 {Ts : List (List Ru)} {l : List ((Int × Int) × Int)} (h : (lgA Ls Hs Ts l).1 = 0) : l.length ≠ 24 := (af_0 h).2.2.1
theorem la_sp {S : Int} (ht : tpN S Ls Hs = 0) {Ts : List (List Ru)} {l : List ((Int × Int) × Int)} (h : (lgA Ls Hs Ts l).1 = 0) : spB S (lgA Ls Hs Ts l).2.2.1 = true := by
  unfold lgA at *
  obtain ⟨e, h0, _⟩ := af_0 h
  rw [e]
  exact lg_sp ht h0
theorem la_name {S : Int} (ht : tpN S Ls Hs = 0) (Ts : List (List Ru)) (l : List ((Int × Int) × Int)) : (lgA Ls Hs Ts l).2.1.size ≤ 1000000 := af_name (lg_name ht _ _)
/-- All that comes begins with the hops that were there. -/
theorem tk_pre {k : List ((Int × Int) × Int) → (Nat → Bool) → List (Int × ByteArray × List ((Int × Int) × Int))} (hk : ∀ l met x, x ∈ k l met → l <+: x.2.2) {g : Lg} {l : List ((Int × Int) × Int)} {met : Nat → Bool} {x : Int × ByteArray × List ((Int × Int) × Int)} (h : x ∈ tkL k g l met) : (g.1 ≠ 0 ∧ x = (g.1, g.2.1, l)) ∨ (g.1 = 0 ∧ l ++ [g.2.2] <+: x.2.2) := by
  unfold tkL at h
  by_cases e : g.1 = 0
  · rw [if_pos e] at h
    exact .inr ⟨e, hk _ _ _ h⟩
  · rw [if_neg e] at h
    exact .inl ⟨e, by simpa using h⟩
theorem pw_pre : ∀ (n : Nat) (l : List ((Int × Int) × Int)) (met : Nat → Bool) (x : Int × ByteArray × List ((Int × Int) × Int)), x ∈ pwL Ls Hs As Bs n l met → l <+: x.2.2
  | 0, l, met, x, h => by simp [pwL] at h
  | n + 1, l, met, x, h => by
    have tk : ∀ g met2, x ∈ tkL (pwL Ls Hs As Bs n) g l met2 → l <+: x.2.2 := by
      intro g met2 hx
      rcases tk_pre (fun l met x h => pw_pre n l met x h) hx with ⟨_, rfl⟩ | ⟨_, h⟩
      · exact List.prefix_refl _
      · exact (List.prefix_append l _).trans h
    rw [pwL] at h
    split at h
    · exact tk _ _ h
    · rcases List.mem_append.1 h with h | h
      · exact tk _ _ h
      · split at h
        · simp at h
        · exact tk _ _ h
/-- By two legs that are not one nothing comes twice. -/
theorem tk_apart {k : List ((Int × Int) × Int) → (Nat → Bool) → List (Int × ByteArray × List ((Int × Int) × Int))} (hk : ∀ l met x, x ∈ k l met → l <+: x.2.2) {Ts Us : List (List Ru)} {l : List ((Int × Int) × Int)} {met met2 : Nat → Bool} (hne : lgA Ls Hs Us l ≠ lgA Ls Hs Ts l) {x : Int × ByteArray × List ((Int × Int) × Int)} (h1 : x ∈ tkL k (lgA Ls Hs Ts l) l met) (h2 : x ∈ tkL k (lgA Ls Hs Us l) l met2) : False := by
  rcases tk_pre hk h1 with ⟨a1, a2⟩ | ⟨a1, a2⟩ <;> rcases tk_pre hk h2 with ⟨b1, b2⟩ | ⟨b1, b2⟩
  · rw [a2] at b2
    simp only [Prod.mk.injEq] at b2
    exact hne (Prod.ext b2.1.symm (Prod.ext b2.2.1.symm ((la_end b1).trans (la_end a1).symm)))
  · rw [a2] at b2
    have h : (l ++ [(lgA Ls Hs Us l).2.2]).length ≤ l.length := b2.length_le
    rw [List.length_append, List.length_singleton] at h
    omega
  · rw [b2] at a2
    have h : (l ++ [(lgA Ls Hs Ts l).2.2]).length ≤ l.length := a2.length_le
    rw [List.length_append, List.length_singleton] at h
    omega
  · obtain ⟨t, ht⟩ := a2
    obtain ⟨u, hu⟩ := b2
    have e : (lgA Ls Hs Ts l).2.2 = (lgA Ls Hs Us l).2.2 := by
      rw [← hu, List.append_assoc, List.append_assoc] at ht
      have := List.append_cancel_left ht
      simp at this
      exact this.1
    exact hne (Prod.ext (b1.trans a1.symm) (Prod.ext ((la_on b1).trans (la_on a1).symm) e.symm))
theorem pw_nodup : ∀ (n : Nat) (l : List ((Int × Int) × Int)) (met : Nat → Bool), (pwL Ls Hs As Bs n l met).Nodup
  | 0, l, met => by simp [pwL]
  | n + 1, l, met => by
    have tk : ∀ g met2, (tkL (pwL Ls Hs As Bs n) g l met2).Nodup := by
      intro g met2
      unfold tkL
      split
      · exact pw_nodup n _ _
      · simp
    rw [pwL]
    split
    · exact tk _ _
    · split
      · rw [List.append_nil]; exact tk _ _
      · next h1 h2 =>
        rw [List.nodup_append]
        refine ⟨tk _ _, tk _ _, fun a ha b hb e => ?_⟩
        subst e
        exact tk_apart (fun l met x h => pw_pre n l met x h) h2 ha hb
theorem pw_le : ∀ (n : Nat) (l : List ((Int × Int) × Int)) (met : Nat → Bool), (pwL Ls Hs As Bs n l met).length ≤ 2 ^ n
  | 0, l, met => by simp [pwL]
  | n + 1, l, met => by
    have h1 : 1 ≤ 2 ^ n := Nat.one_le_two_pow
    have tk : ∀ g met2, (tkL (pwL Ls Hs As Bs n) g l met2).length ≤ 2 ^ n := by
      intro g met2
      unfold tkL
      split
      · exact pw_le n _ _
      · simpa using h1
    rw [pwL, Nat.pow_succ]
    split
    · have := tk (lgA Ls Hs Bs l) met
      omega
    · rw [List.length_append]
      have := tk (lgA Ls Hs As l) met
      split
      · simp; omega
      · have := tk (lgA Ls Hs Bs l) (mtS met (sxH l))
        omega
/-- Who met more new tables has less before it. -/
theorem wk_mono : ∀ (n : Nat) (l : List ((Int × Int) × Int)) (m m2 : List Int), (∀ s ∈ m, s ∈ m2) → ∀ x, x ∈ wkL Ls Hs As Bs n l m2 [] → x ∈ wkL Ls Hs As Bs n l m []
  | 0, l, m, m2, hm, x, h => h
  | n + 1, l, m, m2, hm, x, h => by
    have on : ∀ (a b : List Int), (∀ s ∈ a, s ∈ b) → ∀ g, x ∈ onL (fun l' a' => wkL Ls Hs As Bs n l' b a') l [] g → x ∈ onL (fun l' a' => wkL Ls Hs As Bs n l' a a') l [] g := by
      intro a b hab g hx
      cases g with
      | inl e => exact hx
      | inr p => exact wk_mono n _ a b hab x hx
    have mm : ∀ (k : List Int) (a : List (Int × ByteArray × List ((Int × Int) × Int))) g, x ∈ onL (fun l' a' => wkL Ls Hs As Bs n l' k a') l a g ↔ x ∈ a ∨ x ∈ onL (fun l' a' => wkL Ls Hs As Bs n l' k a') l [] g := fun k a g => on_mem (fun l' a x => wk_mem n l' _ a x) l a g x
    rw [wkL] at h ⊢
    by_cases hc : chB As Bs (laH l).1.1 = true
    · rw [if_pos hc] at h ⊢
      by_cases h2 : (laH l).1.1 ∈ m2
      · simp only [h2, if_true] at h
        by_cases h1 : (laH l).1.1 ∈ m
        · simp only [h1, if_true]
          exact on _ _ hm _ h
        · simp only [h1, if_false]
          refine (mm _ _ _).2 (.inr (on _ _ ?_ _ h))
          intro s hs
          rcases List.mem_append.1 hs with hs | hs
          · exact hm s hs
          · rw [List.mem_singleton.1 hs]; exact h2
      · have h1 : ¬ (laH l).1.1 ∈ m := fun h => h2 (hm _ h)
        simp only [h1, h2, if_false] at h ⊢
        rcases (mm _ _ _).1 h with h | h
        · exact (mm _ _ _).2 (.inl (on _ _ hm _ h))
        · refine (mm _ _ _).2 (.inr (on _ _ ?_ _ h))
          intro s hs
          rcases List.mem_append.1 hs with hs | hs
          · exact List.mem_append.2 (.inl (hm s hs))
          · exact List.mem_append.2 (.inr hs)
    · rw [if_neg hc] at h ⊢
      by_cases h2 : (laH l).1.1 ∈ m2
      · rw [if_pos h2] at h
        simp at h
      · have h1 : ¬ (laH l).1.1 ∈ m := fun h => h2 (hm _ h)
        rw [if_neg h2] at h
        rw [if_neg h1]
        exact on _ _ hm _ h
/-- Just what may be seen comes. -/
theorem pw_mem {S : Int} (ht : tpN S Ls Hs = 0) (hA : ∀ s, tbN (taT As s) = 0) (hB : ∀ s, tbN (taT Bs s) = 0) : ∀ (n : Nat) (l : List ((Int × Int) × Int)) (met : Nat → Bool) (m : List Int), 1 ≤ (laH l).1.1 → (∀ s : Int, 1 ≤ s → (met (s - 1).toNat = true ↔ s ∈ m)) → (∀ s ∈ m, chB As Bs s = true) → ∀ x, x ∈ pwL Ls Hs As Bs n l met ↔ x ∈ wkL Ls Hs As Bs n l m []
  | 0, l, met, m, h1, h2, h3, x => by simp [pwL, wkL]
  | n + 1, l, met, m, h1, h2, h3, x => by
    have ih := pw_mem ht hA hB n
    obtain ⟨s, hs⟩ : ∃ s, s = (laH l).1.1 := ⟨_, rfl⟩
    have hsx : sxH l = (s - 1).toNat := by rw [sxH, ← hs]
    have s1 : 1 ≤ s := by rw [hs]; exact h1
    have tk : ∀ (Ts : List (List Ru)) (met2 : Nat → Bool) (m2 : List Int), (∀ s : Int, 1 ≤ s → (met2 (s - 1).toNat = true ↔ s ∈ m2)) → (∀ s ∈ m2, chB As Bs s = true) → (x ∈ tkL (pwL Ls Hs As Bs n) (lgA Ls Hs Ts l) l met2 ↔ x ∈ onL (fun l' a' => wkL Ls Hs As Bs n l' m2 a') l [] (goE Ls Hs (taT Ts s) l (laH l))) := by
      intro Ts met2 m2 q2 q3
      have e : goE Ls Hs (taT Ts s) l (laH l) = lgE (lgA Ls Hs Ts l) := by rw [hs]; exact go_lg
      rw [e]
      unfold tkL lgE
      by_cases h0 : (lgA Ls Hs Ts l).1 = 0
      · rw [if_pos h0, if_pos h0]
        refine ih _ met2 m2 ?_ q2 q3 x
        rw [la_app]
        have := sp_of (la_sp ht h0)
        exact this.1
      · rw [if_neg h0, if_neg h0]
        simp only [onL]
        rw [pu_mem lo_fate]
        simp
    have mm : ∀ (k : List Int) (a : List (Int × ByteArray × List ((Int × Int) × Int))) g, x ∈ onL (fun l' a' => wkL Ls Hs As Bs n l' k a') l a g ↔ x ∈ a ∨ x ∈ onL (fun l' a' => wkL Ls Hs As Bs n l' k a') l [] g := fun k a g => on_mem (fun l' a x => wk_mem n l' _ a x) l a g x
    rw [pwL, wkL, ← hs, hsx]
    by_cases hm : met (s - 1).toNat = true
    · have hin := (h2 s s1).1 hm
      rw [if_pos hm, if_pos (h3 s hin)]
      simp only [hin, if_true]
      exact tk Bs met m h2 h3
    · have hin : ¬ s ∈ m := fun h => hm ((h2 s s1).2 h)
      rw [if_neg hm]
      by_cases hc : chB As Bs s = true
      · rw [if_pos hc]
        simp only [hin, if_false]
        have q2 : ∀ t : Int, 1 ≤ t → (mtS met (s - 1).toNat (t - 1).toNat = true ↔ t ∈ m ++ [s]) := by
          intro t t1
          unfold mtS
          by_cases e : t = s
          · subst e; simp
          · rw [if_neg (by omega), h2 t t1]
            simp [e]
        have q3 : ∀ t ∈ m ++ [s], chB As Bs t = true := by
          intro t htt
          rcases List.mem_append.1 htt with h | h
          · exact h3 t h
          · rw [List.mem_singleton.1 h]; exact hc
        rw [List.mem_append, mm, tk As met m h2 h3]
        by_cases e : lgA Ls Hs Bs l = lgA Ls Hs As l
        · rw [if_pos e]
          simp only [List.not_mem_nil, or_false]
          constructor
          · exact .inl
          · rintro (h | h)
            · exact h
            · have e2 : goE Ls Hs (taT Bs s) l (laH l) = goE Ls Hs (taT As s) l (laH l) := by
                rw [hs, go_lg, go_lg]
                exact congrArg lgE e
              rw [e2] at h
              cases hg : goE Ls Hs (taT As s) l (laH l) with
              | inl e => rw [hg] at h; exact h
              | inr p =>
                rw [hg] at h
                exact wk_mono n _ m (m ++ [s]) (fun t h => List.mem_append.2 (.inl h)) x h
        · rw [if_neg e, tk Bs _ _ q2 q3]
      · rw [if_neg hc, if_neg hin]
        have e : lgA Ls Hs Bs l = lgA Ls Hs As l := by
          unfold lgA
          have e1 : lgT Ls Hs (taT Bs (laH l).1.1) (laH l) = lgT Ls Hs (taT As (laH l).1.1) (laH l) := by
            unfold lgT
            rw [← hs, st_alike (hA s) (hB s) (ch_alike (by simpa using hc))]
          rw [e1]
        rw [if_pos e, List.append_nil]
        exact tk As met m h2 h3
/-- What the program comes to, of a packet that comes in. -/
def pwS (Ls : List ((Int × Int) × (Int × Int))) (Hs : List (ByteArray × (Int × Int))) (As Bs : List (List Ru)) (s : Int × Int) (h : Int) : List (Int × ByteArray × List ((Int × Int) × Int)) := pwL Ls Hs As Bs 24 [(s, h)] (fun _ => false)
theorem ps_mem {S : Int} (ht : tpN S Ls Hs = 0) (hA : ∀ s, tbN (taT As s) = 0) (hB : ∀ s, tbN (taT Bs s) = 0) {s : Int × Int} (hs : spB S s = true) (h : Int) (x : Int × ByteArray × List ((Int × Int) × Int)) : x ∈ pwS Ls Hs As Bs s h ↔ x ∈ seeL Ls Hs As Bs s h :=
  pw_mem ht hA hB 24 [(s, h)] (fun _ => false) [] (sp_of hs).1 (fun s _ => by simp) (fun s h => absurd h List.not_mem_nil) x
theorem ps_nodup (s : Int × Int) (h : Int) : (pwS Ls Hs As Bs s h).Nodup := pw_nodup _ _ _
theorem ps_le (s : Int × Int) (h : Int) : (pwS Ls Hs As Bs s h).length ≤ 16777216 := pw_le 24 _ _
/-- Sorted it is what may be seen. -/
theorem ps_sorted {S : Int} (ht : tpN S Ls Hs = 0) (hA : ∀ s, tbN (taT As s) = 0) (hB : ∀ s, tbN (taT Bs s) = 0) {s : Int × Int} (hs : spB S s = true) (h : Int) {D : List (Int × ByteArray × List ((Int × Int) × Int))} (hp : D.Perm (pwS Ls Hs As Bs s h)) (hd : D.Pairwise fun a b => faL b a = false) : D = seeL Ls Hs As Bs s h := by
  refine ris_ext lo_fate ?_ (see_ris s h) (fun x => (hp.mem_iff).trans (ps_mem ht hA hB hs h x))
  have hn : D.Nodup := hp.nodup_iff.2 (ps_nodup s h)
  unfold Ris
  have h2 : D.Pairwise fun a b => a ≠ b := hn
  refine (hd.and h2).imp ?_
  rintro a b ⟨h1, h2⟩
  cases e : faL a b
  · exact absurd (lo_fate.tot a b e h1) h2
  · rfl
end
end Go.Proofs.Ytmpjoepfgfbjmaa
/- What Seen of package mix answers, in numbers and lists. No program in it. -/
namespace Go.Proofs.Ytmpjoepfgfbjmaa
open Go.RowKit
set_option linter.unusedSimpArgs false
set_option linter.unusedVariables false
section
variable {S : Int} {Ls : List ((Int × Int) × (Int × Int))} {Hs : List (ByteArray × (Int × Int))} {Ts : List (List Ru)} {l : List Op8} {m : ByteArray} {h : Int}
/-- The fault of Seen. -/
def snN (S : Int) (Ls : List ((Int × Int) × (Int × Int))) (Hs : List (ByteArray × (Int × Int))) (Ts : List (List Ru)) (l : List Op8) (m : ByteArray) (h : Int) : Int :=
  if cgN S Ls Hs Ts l ≠ 0 then cgN S Ls Hs Ts l else if weN S Ls Hs m ≠ 0 then weN S Ls Hs m else if hdrB h = true then 0 else 1
/-- What Seen answers. -/
def snL (S : Int) (Ls : List ((Int × Int) × (Int × Int))) (Hs : List (ByteArray × (Int × Int))) (Ts : List (List Ru)) (l : List Op8) (m : ByteArray) (h : Int) : List (Int × ByteArray × List ((Int × Int) × Int)) :=
  if snN S Ls Hs Ts l m h = 0 then seeL Ls Hs Ts (caT Ts l) (weV S Ls Hs m) h else []
theorem cg_nt (h0 : cgN S Ls Hs Ts l = 0) : ntN S Ls Hs Ts = 0 ∧ caN S Ts l = 0 := by
  unfold cgN at h0
  by_cases e : ntN S Ls Hs Ts = 0
  · rw [if_pos e] at h0
    by_cases e2 : 200 < l.length
    · rw [if_pos e2] at h0; cases h0
    · rw [if_neg e2] at h0
      exact ⟨e, h0⟩
  · rw [if_neg e] at h0
    exact absurd h0 e
theorem we_sp (ht : tpN S Ls Hs = 0) (h0 : weN S Ls Hs m = 0) : spB S (weV S Ls Hs m) = true := by
  have h1 := h0
  unfold weN at h1
  rw [if_pos ht] at h1
  unfold weV
  rw [if_pos h0]
  cases e : whereO Hs m with
  | none => rw [e] at h1; cases h1
  | some p => exact where_sp ht e
theorem ta_ok {Us : List (List Ru)} (hn : ∀ k, k < Us.length → tbN (Us.getD k []) = 0) (s : Int) : tbN (taT Us s) = 0 := by
  unfold taT
  by_cases hk : (s - 1).toNat < Us.length
  · exact hn _ hk
  · rw [List.getD_eq_getElem?_getD, List.getElem?_eq_none (by omega)]
    rfl
theorem cg_ok (h0 : cgN S Ls Hs Ts l = 0) : tpN S Ls Hs = 0 ∧ (Ts.length : Int) = S ∧ (∀ s, tbN (taT Ts s) = 0) ∧ ∀ s, tbN (taT (caT Ts l) s) = 0 := by
  obtain ⟨h1, h2⟩ := cg_nt h0
  obtain ⟨a1, a2, a3⟩ := nt_0 h1
  obtain ⟨_, _, b3⟩ := nt_0 (nt_ca h1 h2)
  exact ⟨a1, a2, ta_ok a3, ta_ok b3⟩
theorem sn_1 (h0 : cgN S Ls Hs Ts l ≠ 0) : snN S Ls Hs Ts l m h = cgN S Ls Hs Ts l ∧ snL S Ls Hs Ts l m h = [] := by
  have e : snN S Ls Hs Ts l m h = cgN S Ls Hs Ts l := by unfold snN; rw [if_pos h0]
  exact ⟨e, by unfold snL; rw [if_neg (by rw [e]; exact h0)]⟩
theorem sn_2 (h0 : cgN S Ls Hs Ts l = 0) (h1 : weN S Ls Hs m ≠ 0) : snN S Ls Hs Ts l m h = weN S Ls Hs m ∧ snL S Ls Hs Ts l m h = [] := by
  have e : snN S Ls Hs Ts l m h = weN S Ls Hs m := by unfold snN; rw [if_neg (by simp [h0]), if_pos h1]
  exact ⟨e, by unfold snL; rw [if_neg (by rw [e]; exact h1)]⟩
theorem sn_3 (h0 : cgN S Ls Hs Ts l = 0) (h1 : weN S Ls Hs m = 0) (h2 : hdrB h = false) : snN S Ls Hs Ts l m h = 1 ∧ snL S Ls Hs Ts l m h = [] := by
  have e : snN S Ls Hs Ts l m h = 1 := by unfold snN; rw [if_neg (by simp [h0]), if_neg (by simp [h1]), if_neg (by simp [h2])]
  exact ⟨e, by unfold snL; rw [if_neg (by rw [e]; decide)]⟩
theorem sn_0 (h0 : cgN S Ls Hs Ts l = 0) (h1 : weN S Ls Hs m = 0) (h2 : hdrB h = true) : snN S Ls Hs Ts l m h = 0 ∧ snL S Ls Hs Ts l m h = seeL Ls Hs Ts (caT Ts l) (weV S Ls Hs m) h := by
  have e : snN S Ls Hs Ts l m h = 0 := by unfold snN; rw [if_neg (by simp [h0]), if_neg (by simp [h1]), if_pos h2]
  exact ⟨e, by unfold snL; rw [if_pos e]⟩
/-- Something is always seen. -/
theorem ps_some {As Bs : List (List Ru)} (ht : tpN S Ls Hs = 0) (hA : ∀ s, tbN (taT As s) = 0) (hB : ∀ s, tbN (taT Bs s) = 0) {s : Int × Int} (hs : spB S s = true) (h : Int) : 0 < (pwS Ls Hs As Bs s h).length := by
  obtain ⟨x, hx⟩ := wk_some (Ls := Ls) (Hs := Hs) (As := As) (Bs := Bs) 24 [(s, h)] [] rfl (by omega) (by simp)
  exact List.length_pos_of_mem ((ps_mem ht hA hB hs h x).2 hx)
end
end Go.Proofs.Ytmpjoepfgfbjmaa
