/- Maps that a call made, with any keys that can be told apart and any elements: what is looked up, what a store makes. No program in it. -/
import Derived.WalkKit
import Derived.WalkSpells
import Derived.Below
import Derived.MapKept
import Derived.Maps.OwnOps
import Derived.Laws.StructEq
namespace Go.Proofs.Ytfbocionnjlilad
open Go.RowKit
set_option linter.unusedVariables false

section
variable {κ β : Type}
/-- The first place of a key among entries, and what is there. -/
def fndM (q : κ → κ → Bool) (k : κ) : List κ → List MapEntry → Nat → Option (Nat × Value)
  | k' :: ks, e :: es, i => if q k k' then some (i, e.val) else fndM q k ks es (i + 1)
  | _, _, _ => none
/-- What is at a key. -/
def mget (q : κ → κ → Bool) (k : κ) : List (κ × β) → Option β
  | [] => none
  | p :: M => if q k p.1 then some p.2 else mget q k M
/-- A store at a key. -/
def mput (q : κ → κ → Bool) (k : κ) (b : β) : List (κ × β) → List (κ × β)
  | [] => [(k, b)]
  | p :: M => if q k p.1 then (k, b) :: M else p :: mput q k b M
theorem mget_put {q : κ → κ → Bool} (hq : ∀ a b, q a b = true ↔ a = b) (k k' : κ) (b : β) : ∀ M : List (κ × β), mget q k' (mput q k b M) = if q k' k then some b else mget q k' M
  | [] => by simp [mput, mget]
  | p :: M => by
    have ih := mget_put hq k k' b M
    rw [mput]
    by_cases h : q k p.1 = true
    · rw [if_pos h, mget, mget]
      have e := (hq _ _).1 h
      subst e
      simp only
      split <;> simp_all
    · rw [if_neg h, mget, mget, ih]
      by_cases h2 : q k' p.1 = true
      · rw [if_pos h2, if_pos h2]
        have e := (hq _ _).1 h2
        have : ¬ q k' k = true := fun h3 => h (by rw [hq] at h3; subst h3; exact h2)
        rw [if_neg this]
      · rw [if_neg h2, if_neg h2]
theorem mput_len {q : κ → κ → Bool} (k : κ) (b : β) : ∀ M : List (κ × β), (mput q k b M).length ≤ M.length + 1
  | [] => by simp [mput]
  | p :: M => by
    have := mput_len (q := q) k b M
    rw [mput]
    split <;> simp <;> omega
end

/-- Keys of a type, and how they are told apart. -/
structure KeyE (P : Program) (K : TypeId) (κ : Type) where
  c : κ → Value
  q : κ → κ → Bool
  qeq : ∀ a b, q a b = true ↔ a = b
  check : ∀ (e : Bool) (k : κ) (w : World), (Instr.checkKey e 10000 K (c k)).run P w = .ok () w
  find : ∀ (k : κ) (ks : List κ) (l : List MapEntry) (w : World), l.map (·.key) = ks.map c → (Instr.findKey K (c k) l).run P w = .ok (fndM q k ks l 0) w
  bits : ∀ k, Instr.sameBits 10000 (c k) (c k) = true

section
variable {P : Program} {K : TypeId} {κ β : Type}
theorem find_ask {c : κ → Value} {q : κ → κ → Bool} (heq : ∀ a b w, (Op.equal K (c a) (c b)).run P w = .ok (q a b) w) (k : κ) : ∀ (ks : List κ) (l : List MapEntry) (i : Nat) (w : World), l.map (·.key) = ks.map c → (Instr.findAsking K (c k) l i).run P w = .ok (fndM q k ks l i) w
  | [], [], i, w, _ => rfl
  | [], _ :: _, _, _, h => by simp at h
  | _ :: _, [], _, _, h => by simp at h
  | k' :: ks, e :: l, i, w, h => by
    simp only [List.map_cons, List.cons.injEq] at h
    simp only [Instr.findAsking, Sem.run_bind, h.1, heq, Result.andThen_ok]
    rw [fndM]
    cases hq : q k k'
    · simp only [Bool.false_eq_true, if_false]
      exact find_ask heq k ks l (i + 1) w h.2
    · simp
theorem find_now {c : κ → Value} {q : κ → κ → Bool} {d : TypeDesc} (hs : ∀ a b, Instr.sameNow d (c a) (c b) = some (q a b)) (k : κ) : ∀ (ks : List κ) (l : List MapEntry) (i : Nat), l.map (·.key) = ks.map c → Instr.findNow d (c k) l i = some (fndM q k ks l i)
  | [], [], i, _ => rfl
  | [], _ :: _, _, h => by simp at h
  | _ :: _, [], _, h => by simp at h
  | k' :: ks, e :: l, i, h => by
    simp only [List.map_cons, List.cons.injEq] at h
    rw [Instr.findNow, h.1, hs, fndM]
    cases hq : q k k'
    · simp only [Bool.false_eq_true, if_false]
      exact find_now hs k ks l (i + 1) h.2
    · simp
/-- Keys that are told apart at once (numbers, texts, bools). -/
def KeyE.now (c : κ → Value) (q : κ → κ → Bool) (qeq : ∀ a b, q a b = true ↔ a = b) (check : ∀ (e : Bool) (k : κ) (w : World), (Instr.checkKey e 10000 K (c k)).run P w = .ok () w) (d : TypeDesc) (hd : P.underlying K = some d)
    (hs : ∀ a b, Instr.sameNow d (c a) (c b) = some (q a b)) (bits : ∀ k, Instr.sameBits 10000 (c k) (c k) = true) : KeyE P K κ :=
  ⟨c, q, qeq, check, fun k ks l w h => Go.MapKept.run_findKey hd (find_now hs k ks l 0 h), bits⟩
/-- Keys that are asked one by one (structs, arrays). -/
def KeyE.ask (c : κ → Value) (q : κ → κ → Bool) (qeq : ∀ a b, q a b = true ↔ a = b) (check : ∀ (e : Bool) (k : κ) (w : World), (Instr.checkKey e 10000 K (c k)).run P w = .ok () w) (d : TypeDesc) (hd : P.underlying K = some d)
    (hs : ∀ a b, Instr.sameNow d (c a) (c b) = none) (heq : ∀ a b w, (Op.equal K (c a) (c b)).run P w = .ok (q a b) w) (bits : ∀ k, Instr.sameBits 10000 (c k) (c k) = true) : KeyE P K κ :=
  ⟨c, q, qeq, check, fun k ks l w h => by
    cases ks with
    | nil =>
      cases l with
      | nil => exact Go.MapKept.run_findKey hd rfl
      | cons e l => simp at h
    | cons k' ks =>
      cases l with
      | nil => simp at h
      | cons e l =>
        have h1 : Instr.findNow d (c k) (e :: l) 0 = none := by
          simp only [List.map_cons, List.cons.injEq] at h
          rw [Instr.findNow, h.1, hs]
        simp only [Instr.findKey, Sem.run_bind, run_underlying hd, Result.andThen_ok, h1]
        exact find_ask heq k (k' :: ks) (e :: l) 0 w h, bits⟩

/-- Stamps that are all apart, and elder than the clock. -/
def Sta (bs : List Nat) (clock : Nat) : Prop := (∀ b ∈ bs, b < clock) ∧ bs.Nodup
theorem sta_push {bs : List Nat} {clock : Nat} (h : Sta bs clock) : Sta (bs ++ [clock]) (clock + 1) := by
  refine ⟨fun b hb => ?_, ?_⟩
  · simp only [List.mem_append, List.mem_singleton] at hb
    rcases hb with hb | rfl
    · have := h.1 b hb; omega
    · omega
  · rw [List.nodup_append]
    refine ⟨h.2, by simp, fun a ha b hb e => ?_⟩
    simp only [List.mem_singleton] at hb
    have := h.1 a ha
    omega
theorem born_modify (f : MapEntry → MapEntry) (hf : ∀ e, (f e).born = e.born) : ∀ (l : List MapEntry) (i : Nat), (l.modify i f).map (·.born) = l.map (·.born)
  | [], i => by simp
  | a :: l, 0 => by simp [hf]
  | a :: l, i + 1 => by
    have ih := born_modify f hf l i
    simp [List.modify_succ_cons, ih]
/-- A block is a map that holds these, in this order. -/
def MAt (E : KeyE P K κ) (ve : β → Value) (w : World) (B : Nat) (M : List (κ × β)) : Prop :=
  ∃ es clock, w.heap[B]? = some (.map es clock) ∧ es.toList.map (·.key) = (M.map (·.1)).map E.c ∧ es.toList.map (·.val) = (M.map (·.2)).map ve ∧ Sta (es.toList.map (·.born)) clock
variable {E : KeyE P K κ} {ve : β → Value}
theorem MAt.lt {w : World} {B : Nat} {M : List (κ × β)} (h : MAt E ve w B M) : B < w.heap.size := by
  obtain ⟨es, clock, h1, _⟩ := h
  exact (Array.getElem?_eq_some_iff.1 h1).1
theorem MAt.later {w w' : World} {B : Nat} {M : List (κ × β)} (h : MAt E ve w B M) (hb : Below w.heap.size w w') : MAt E ve w' B M := by
  have hlt := h.lt
  obtain ⟨es, clock, h1, h2⟩ := h
  exact ⟨es, clock, (hb.block B hlt).trans h1, h2⟩
theorem MAt.kept {w w' : World} {B : Nat} {M : List (κ × β)} {row : Option Nat} (h : MAt E ve w B M) (hg : w.grownBy w' row) (hne : some B ≠ row) : MAt E ve w' B M := by
  have hlt := h.lt
  obtain ⟨es, clock, h1, h2⟩ := h
  exact ⟨es, clock, (hg.block B hlt hne).trans h1, h2⟩
theorem mat_new (E : KeyE P K κ) (ve : β → Value) (w : World) : MAt E ve (w.alloc (.map #[] 0)) w.heap.size [] := ⟨#[], 0, heap_alloc_new w _, rfl, rfl, by simp [Sta]⟩

theorem fnd_get {q : κ → κ → Bool} {k : κ} : ∀ (M : List (κ × β)) (l : List MapEntry) (i : Nat), l.map (·.val) = (M.map (·.2)).map ve → ((fndM q k (M.map (·.1)) l i).map (·.2)) = (mget q k M).map ve
  | [], [], _, _ => rfl
  | [], _ :: _, _, h => by simp at h
  | _ :: _, [], _, h => by simp at h
  | p :: M, e :: l, i, h => by
    simp only [List.map_cons, List.cons.injEq] at h
    rw [List.map_cons, fndM, mget]
    cases hq : q k p.1
    · simp only [Bool.false_eq_true, if_false]
      exact fnd_get M l (i + 1) h.2
    · simp [h.1]
/-- What a look-up answers. -/
def getV (ve : β → Value) (z : Value) (o : Option β) : Value := match o with | some b => ve b | none => z
theorem run_lookup_M {w : World} {B : Nat} {M : List (κ × β)} (h : MAt E ve w B M) (t e : TypeId) (ht : P.underlying t = some (.map K e)) (z : Value) (hz : ∀ w, (zeroValue e).run P w = .ok z w) (k : κ) (ok : Bool) :
    (Instr.lookup t (.map (some B)) (E.c k) ok).run P w = .ok (if ok then .tuple #[getV ve z (mget E.q k M), .bool (mget E.q k M).isSome] else getV ve z (mget E.q k M)) w := by
  obtain ⟨es, clock, h1, h2, h3, _⟩ := h
  have hf := E.find k (M.map (·.1)) es.toList w h2
  have hg := fnd_get (ve := ve) (q := E.q) (k := k) M es.toList 0 h3
  simp only [Instr.lookup, Sem.run_bind, run_underlying ht, Result.andThen_ok, Go.MapKept.run_getObj_map h1, Sem.run_pure, E.check, hf]
  generalize fndM E.q k (M.map (·.1)) es.toList 0 = r at *
  cases r with
  | none =>
    cases hm : mget E.q k M with
    | none => cases ok <;> simp [getV, hz]
    | some b => rw [hm] at hg; simp at hg
  | some p =>
    cases hm : mget E.q k M with
    | none => rw [hm] at hg; simp at hg
    | some b =>
      rw [hm] at hg
      simp at hg
      cases ok <;> simp [getV, hg]

theorem fnd_put {q : κ → κ → Bool} (qeq : ∀ a b, q a b = true ↔ a = b) {c : κ → Value} {k : κ} {b : β} : ∀ (M : List (κ × β)) (l : List MapEntry) (s : Nat), l.map (·.key) = (M.map (·.1)).map c → l.map (·.val) = (M.map (·.2)).map ve →
    (fndM q k (M.map (·.1)) l s = none ∧ (mput q k b M) = M ++ [(k, b)]) ∨ ∃ i v, fndM q k (M.map (·.1)) l s = some (s + i, v) ∧ ∃ hi : i < l.length, l[i].key = c k ∧
      (l.modify i (fun e => { e with key := c k, val := ve b })).map (·.key) = ((mput q k b M).map (·.1)).map c ∧ (l.modify i (fun e => { e with key := c k, val := ve b })).map (·.val) = ((mput q k b M).map (·.2)).map ve
  | [], [], _, _, _ => .inl ⟨rfl, rfl⟩
  | [], _ :: _, _, h, _ => by simp at h
  | _ :: _, [], _, h, _ => by simp at h
  | p :: M, e :: l, s, h, h' => by
    simp only [List.map_cons, List.cons.injEq] at h h'
    rw [List.map_cons, fndM, mput]
    cases hq : q k p.1
    · simp only [Bool.false_eq_true, if_false]
      rcases fnd_put qeq (c := c) (k := k) (b := b) M l (s + 1) h.2 h'.2 with ⟨h1, h2⟩ | ⟨i, v, h1, hi, h2, h3, h4⟩
      · exact .inl ⟨h1, by rw [h2]; rfl⟩
      · refine .inr ⟨i + 1, v, by rw [h1]; congr 2; omega, by simp; omega, by simpa using h2, ?_, ?_⟩
        · simp only [List.modify_succ_cons, List.map_cons, h.1, h3]
        · simp only [List.modify_succ_cons, List.map_cons, h'.1, h4]
    · simp only [if_true]
      have e1 := (qeq _ _).1 hq
      refine .inr ⟨0, e.val, rfl, by simp, by simp [h.1, e1], ?_, ?_⟩
      · simp [h.2]
      · simp [h'.2]
theorem run_update_M {w : World} {B : Nat} {M : List (κ × β)} (h : MAt E ve w B M) (t e : TypeId) (ht : P.underlying t = some (.map K e)) (k : κ) (b : β) :
    ∃ w', (Instr.mapUpdate t (.map (some B)) (E.c k) (ve b)).run P w = .ok () w' ∧ MAt E ve w' B (mput E.q k b M) ∧ w.grownBy w' (some B) := by
  have hlt := h.lt
  obtain ⟨es, clock, h1, h2, h3, hst⟩ := h
  have hf := E.find k (M.map (·.1)) es.toList w h2
  have hgr : ∀ o : Obj, w.grownBy { w with heap := w.heap.setIfInBounds B o } (some B) := fun o => ⟨rfl, rfl, rfl, by simp, fun j _ hj => by
    have : B ≠ j := fun e => hj (by rw [e])
    simp [Array.getElem?_setIfInBounds_ne this]⟩
  have hat : ∀ o : Obj, ({ w with heap := w.heap.setIfInBounds B o } : World).heap[B]? = some o := fun o => by simp [hlt]
  rcases fnd_put E.qeq (ve := ve) (c := E.c) (k := k) (b := b) M es.toList 0 h2 h3 with ⟨r1, r2⟩ | ⟨i, v, r1, hi, r2, r3, r4⟩
  · rw [r1] at hf
    refine ⟨_, ?_, ⟨es.push { key := E.c k, val := ve b, born := clock }, clock + 1, hat _, ?_, ?_, by simpa using sta_push hst⟩, hgr _⟩
    · simp only [Instr.mapUpdate, Sem.run_bind, run_underlying ht, Result.andThen_ok, Go.MapKept.run_getObj_map h1, E.check, hf, Go.MapKept.run_setObj_map _ h1]
    · rw [r2]; simp [h2]
    · rw [r2]; simp [h3]
  · rw [r1] at hf
    have hk : ((es[i]?).map (·.key)).getD (E.c k) = E.c k := by
      have hi2 : i < es.size := by simpa using hi
      rw [Array.getElem?_eq_getElem hi2]
      simpa using r2
    refine ⟨_, ?_, ⟨es.modify i fun e => { e with key := E.c k, val := ve b }, clock, hat _, ?_, ?_, by have hbm := born_modify (fun e : MapEntry => { e with key := E.c k, val := ve b }) (fun _ => rfl) es.toList i; rw [Array.toList_modify, hbm]; exact hst⟩, hgr _⟩
    · simp only [Instr.mapUpdate, Sem.run_bind, run_underlying ht, Result.andThen_ok, Go.MapKept.run_getObj_map h1, E.check, hf, Nat.zero_add, hk, Instr.keyThatStays, E.bits, if_true, Sem.run_pure, Go.MapKept.run_setObj_map _ h1]
    · rw [Array.toList_modify]; exact r3
    · rw [Array.toList_modify]; exact r4

theorem find_born {l : List MapEntry} : ∀ {j : Nat} {e0 : MapEntry}, (l.map (·.born)).Nodup → l[j]? = some e0 → l.findIdx? (fun e => ((e.born : Nat) : Int) == ((e0.born : Nat) : Int)) = some j := by
  induction l with
  | nil => intro j e0 _ h; simp at h
  | cons a r ih =>
    intro j e0 hn h
    simp only [List.map_cons, List.nodup_cons] at hn
    cases j with
    | zero =>
      simp only [List.getElem?_cons_zero, Option.some.injEq] at h
      subst h
      simp [List.findIdx?_cons]
    | succ j =>
      simp only [List.getElem?_cons_succ] at h
      have hne : ¬ a.born = e0.born := fun e1 => hn.1 (List.mem_map.2 ⟨e0, List.mem_of_getElem? h, e1.symm⟩)
      have hb : (((a.born : Nat) : Int) == ((e0.born : Nat) : Int)) = false := by
        simp only [beq_eq_false_iff_ne, ne_eq, Int.natCast_inj]
        exact hne
      rw [List.findIdx?_cons, hb]
      simp [ih hn.2 h]
theorem idx_toList (xs : Array MapEntry) (p : MapEntry → Bool) : xs.findIdx? p = xs.toList.findIdx? p := by
  cases xs
  simp
theorem modify_end {α : Type} (f : α → α) (a : α) : ∀ l : List α, (l ++ [a]).modify l.length f = l ++ [f a]
  | [] => rfl
  | b :: r => by simp [List.modify_succ_cons, modify_end f a r]
theorem modify_at {α : Type} (f g : α → α) : ∀ (l : List α) (i : Nat) (hi : i < l.length), f l[i] = g l[i] → l.modify i f = l.modify i g
  | a :: l, 0, _, h => by simpa using h
  | a :: l, i + 1, hi, h => by
    have := modify_at f g l i (by simpa using hi) (by simpa using h)
    simp [List.modify_succ_cons, this]
theorem modify_id {α : Type} (f : α → α) : ∀ (l : List α) (i : Nat) (hi : i < l.length), f l[i] = l[i] → l.modify i f = l
  | a :: l, 0, _, h => by simpa using h
  | a :: l, i + 1, hi, h => by
    have := modify_id f l i (by simpa using hi) (by simpa using h)
    simp [List.modify_succ_cons, this]
/-- An entry is made, or found; then it is stored into, whatever else has turned. -/
theorem run_entry_M {w : World} {B : Nat} {M : List (κ × β)} (h : MAt E ve w B M) (t e : TypeId) (ht : P.underlying t = some (.map K e)) (z : β) (hz : ∀ w, (zeroValue e).run P w = .ok (ve z) w) (k : κ) :
    ∃ (v0 : Value) (st : Nat) (w1 : World), (Instr.mapEntry t (.map (some B)) (E.c k)).run P w = .ok (.tuple #[v0, .int .i64 (st : Int)]) w1 ∧ w.grownBy w1 (some B) ∧ MAt E ve w1 B (mput E.q k ((mget E.q k M).getD z) M) ∧
      ∀ (w2 : World) (b : β), w2.heap[B]? = w1.heap[B]? → ∃ w3, (Instr.entryStore t (.map (some B)) (.int .i64 (st : Int)) (ve b)).run P w2 = .ok () w3 ∧ MAt E ve w3 B (mput E.q k b M) ∧ w2.grownBy w3 (some B) := by
  have hlt := h.lt
  obtain ⟨es, clock, h1, h2, h3, hst⟩ := h
  have hf := E.find k (M.map (·.1)) es.toList w h2
  have hgr : ∀ (w : World) (o : Obj), w.grownBy { w with heap := w.heap.setIfInBounds B o } (some B) := fun w o => ⟨rfl, rfl, rfl, by simp, fun j _ hj => by
    have : B ≠ j := fun e => hj (by rw [e])
    simp [Array.getElem?_setIfInBounds_ne this]⟩
  have hat : ∀ (w : World) (o o' : Obj), w.heap[B]? = some o' → ({ w with heap := w.heap.setIfInBounds B o } : World).heap[B]? = some o := fun w o o' hw => by
    have hl : B < w.heap.size := (Array.getElem?_eq_some_iff.1 hw).1
    simp [hl]
  rcases fnd_put E.qeq (ve := ve) (c := E.c) (k := k) (b := z) M es.toList 0 h2 h3 with ⟨r1, r2⟩ | ⟨i, v, r1, hi, r2, r3, r4⟩
  · rw [r1] at hf
    have hno : mget E.q k M = none := by
      have := fnd_get (ve := ve) (q := E.q) (k := k) M es.toList 0 h3
      rw [r1] at this
      cases hm : mget E.q k M with
      | none => rfl
      | some b => rw [hm] at this; simp at this
    have hput : ∀ b, mput E.q k b M = M ++ [(k, b)] := fun b => by
      rcases fnd_put E.qeq (ve := ve) (c := E.c) (k := k) (b := b) M es.toList 0 h2 h3 with ⟨_, r⟩ | ⟨i, v, q1, _⟩
      · exact r
      · rw [r1] at q1; cases q1
    refine ⟨ve z, clock, { w with heap := w.heap.setIfInBounds B (.map (es.push { key := E.c k, val := ve z, born := clock }) (clock + 1)) }, ?_, hgr _ _, ⟨_, _, hat _ _ _ h1, ?_, ?_, by simpa using sta_push hst⟩, fun w2 b hw2 => ?_⟩
    · simp only [Instr.mapEntry, Sem.run_bind, run_underlying ht, Result.andThen_ok, Go.MapKept.run_getObj_map h1, E.check, hf, hz, Go.MapKept.run_setObj_map _ h1, Sem.run_pure]
      rfl
    · rw [hno, hput]; simp [h2]
    · rw [hno, hput]; simp [h3]
    · rw [hat _ _ _ h1] at hw2
      have hidx : (es.push { key := E.c k, val := ve z, born := clock }).findIdx? (fun e => ((e.born : Nat) : Int) == ((clock : Nat) : Int)) = some es.size := by
        rw [idx_toList]
        exact find_born (l := (es.push { key := E.c k, val := ve z, born := clock }).toList) (j := es.size) (e0 := { key := E.c k, val := ve z, born := clock }) (by simpa using (sta_push hst).2) (by simp)
      have hmod : (es.push { key := E.c k, val := ve z, born := clock }).modify es.size (fun e => { e with val := ve b }) = es.push { key := E.c k, val := ve b, born := clock } := by
        apply Array.ext'
        rw [Array.toList_modify, Array.toList_push, Array.toList_push, ← Array.length_toList, modify_end]
      refine ⟨{ w2 with heap := w2.heap.setIfInBounds B (.map (es.push { key := E.c k, val := ve b, born := clock }) (clock + 1)) }, ?_, ⟨_, _, hat _ _ _ hw2, ?_, ?_, by simpa using sta_push hst⟩, hgr _ _⟩
      · simp [Instr.entryStore, Go.MapKept.run_getObj_map hw2, asInt, asIntOf, hidx, hmod, Go.MapKept.run_setObj_map _ hw2, Result.andThen]
      · rw [hput]; simp [h2]
      · rw [hput]; simp [h3]
  · rw [r1] at hf
    simp only [Nat.zero_add] at hf r1
    have hi2 : i < es.size := by simpa using hi
    have hie : es[i]? = some es[i] := Array.getElem?_eq_getElem hi2
    have hil : es.toList[i]? = some es[i] := by simp [hi2]
    have hkey : es[i].key = E.c k := by simpa using r2
    have hget : ∃ b0, mget E.q k M = some b0 ∧ ve b0 = v := by
      have := fnd_get (ve := ve) (q := E.q) (k := k) M es.toList 0 h3
      rw [r1] at this
      cases hm : mget E.q k M with
      | none => rw [hm] at this; simp at this
      | some b => rw [hm] at this; simp at this; exact ⟨b, rfl, this.symm⟩
    obtain ⟨b0, hb0, hv⟩ := hget
    have hsame : es.modify i (fun e => { e with key := E.c k }) = es := by
      apply Array.ext'
      rw [Array.toList_modify]
      refine modify_id _ _ i hi ?_
      have : es.toList[i].key = E.c k := r2
      rw [← this]
    have hall : ∀ b, (es.toList.modify i (fun e => { e with key := E.c k, val := ve b })).map (·.key) = ((mput E.q k b M).map (·.1)).map E.c ∧ (es.toList.modify i (fun e => { e with key := E.c k, val := ve b })).map (·.val) = ((mput E.q k b M).map (·.2)).map ve := fun b => by
      rcases fnd_put E.qeq (ve := ve) (c := E.c) (k := k) (b := b) M es.toList 0 h2 h3 with ⟨q1, _⟩ | ⟨j, v', q1, _, _, q3, q4⟩
      · rw [r1] at q1; cases q1
      · rw [r1] at q1
        simp only [Option.some.injEq, Prod.mk.injEq, Nat.zero_add] at q1
        obtain ⟨rfl, _⟩ := q1
        exact ⟨q3, q4⟩
    have hold : mput E.q k b0 M = M := by
      have hput : ∀ (M : List (κ × β)), mget E.q k M = some b0 → mput E.q k b0 M = M := by
        intro M
        induction M with
        | nil => intro h; cases h
        | cons p M ih =>
          intro h
          rw [mget] at h
          rw [mput]
          by_cases e : E.q k p.1 = true
          · rw [if_pos e] at h ⊢
            have e1 := (E.qeq _ _).1 e
            simp at h
            subst h
            subst e1
            rfl
          · rw [if_neg e] at h ⊢
            rw [ih h]
      exact hput M hb0
    refine ⟨v, es[i].born, w, ?_, ⟨rfl, rfl, rfl, Nat.le_refl _, fun _ _ _ => rfl⟩, ⟨es, clock, h1, ?_, ?_, hst⟩, fun w2 b hw2 => ?_⟩
    · have hrefl : ({ w with heap := w.heap.setIfInBounds B (.map es clock) } : World) = w := by
        have : w.heap.setIfInBounds B (.map es clock) = w.heap := by
          apply Array.ext_getElem?
          intro j
          by_cases e : B = j
          · subst e; exact (hat w (.map es clock) _ h1).trans h1.symm
          · simp [Array.getElem?_setIfInBounds_ne e]
        rw [this]
      simp only [Instr.mapEntry, Sem.run_bind, run_underlying ht, Result.andThen_ok, Go.MapKept.run_getObj_map h1, E.check, hf, hie, Option.map_some, Option.getD_some, hkey, Instr.keyThatStays, E.bits, if_true, Sem.run_pure, hsame, Go.MapKept.run_setObj_map _ h1]
      rw [hrefl]
      rfl
    · rw [hb0, Option.getD_some, hold]; exact h2
    · rw [hb0, Option.getD_some, hold]; exact h3
    · rw [h1] at hw2
      have hidx : es.findIdx? (fun e => ((e.born : Nat) : Int) == ((es[i].born : Nat) : Int)) = some i := by
        rw [idx_toList]
        exact find_born hst.2 hil
      have hmod : es.modify i (fun e => { e with val := ve b }) = es.modify i (fun e => { e with key := E.c k, val := ve b }) := by
        apply Array.ext'
        rw [Array.toList_modify, Array.toList_modify]
        refine modify_at _ _ _ i hi ?_
        have : es.toList[i].key = E.c k := r2
        rw [← this]
      refine ⟨{ w2 with heap := w2.heap.setIfInBounds B (.map (es.modify i (fun e => { e with key := E.c k, val := ve b })) clock) }, ?_, ⟨_, _, hat _ _ _ hw2, ?_, ?_, by have hbm := born_modify (fun e : MapEntry => { e with key := E.c k, val := ve b }) (fun _ => rfl) es.toList i; rw [Array.toList_modify, hbm]; exact hst⟩, hgr _ _⟩
      · simp [Instr.entryStore, Go.MapKept.run_getObj_map hw2, asInt, asIntOf, hidx, hmod, Go.MapKept.run_setObj_map _ hw2, Result.andThen]
      · rw [Array.toList_modify]; exact (hall b).1
      · rw [Array.toList_modify]; exact (hall b).2

variable {w : World} {ops : Array Oper} {rest : List Oper} {o : Oper} {a : Act} {Q : Exit → Act → World → Prop}
theorem wpList_lookup_M (hg : o.guard = none) (m x : Operand) (t : TypeId) (hop : o.op = Op.lookup t m x false) (e : TypeId) (ht : P.underlying t = some (.map K e)) (z : Value) (hz : ∀ w, (zeroValue e).run P w = .ok z w) (B : Nat) (M : List (κ × β))
    (hm : a.eval m = .map (some B)) (h : MAt E ve w B M) (k : κ) (hx : a.eval x = E.c k) (hK : wpList P ops Q rest (a.put o.dst (getV ve z (mget E.q k M))) w) : wpList P ops Q (o :: rest) a w := by
  refine wpList_plain hg fun K' hK' => ?_
  have hrun := run_lookup_M h t e ht z hz k false
  unfold Oper.wp
  simp [execOp, hop, hm, hx, hrun, Result.andThen]
  exact hK' _ _ hK
theorem wpList_lookup_ok_M (hg : o.guard = none) (m x : Operand) (t : TypeId) (hop : o.op = Op.lookup t m x true) (e : TypeId) (ht : P.underlying t = some (.map K e)) (z : Value) (hz : ∀ w, (zeroValue e).run P w = .ok z w) (B : Nat) (M : List (κ × β))
    (hm : a.eval m = .map (some B)) (h : MAt E ve w B M) (k : κ) (hx : a.eval x = E.c k) (hK : wpList P ops Q rest (a.put o.dst (.tuple #[getV ve z (mget E.q k M), .bool (mget E.q k M).isSome])) w) : wpList P ops Q (o :: rest) a w := by
  refine wpList_plain hg fun K' hK' => ?_
  have hrun := run_lookup_M h t e ht z hz k true
  unfold Oper.wp
  simp [execOp, hop, hm, hx, hrun, Result.andThen]
  exact hK' _ _ hK
theorem wpList_update_M (hg : o.guard = none) (m x y : Operand) (t : TypeId) (hop : o.op = Op.mapUpdate t m x y) (e : TypeId) (ht : P.underlying t = some (.map K e)) (B : Nat) (M : List (κ × β))
    (hm : a.eval m = .map (some B)) (h : MAt E ve w B M) (k : κ) (hx : a.eval x = E.c k) (b : β) (hy : a.eval y = ve b)
    (hK : ∀ w', MAt E ve w' B (mput E.q k b M) → w.grownBy w' (some B) → wpList P ops Q rest (a.put o.dst undef) w') : wpList P ops Q (o :: rest) a w := by
  refine wpList_plain hg fun K' hK' => ?_
  obtain ⟨w', hrun, h1, h2⟩ := run_update_M h t e ht k b
  unfold Oper.wp
  simp [execOp, hop, hm, hx, hy, hrun, Result.andThen]
  exact hK' _ _ (hK w' h1 h2)
end
end Go.Proofs.Ytfbocionnjlilad
