/- Plain words on rising lists: joins, meets, what is left, and which is less. Conditions: the order is linear. -/
import Derived.WalkKit
namespace Go.Proofs.Ythfclmnmnmeldaa

theorem Lin.irr {α : Type} [LT α] [LE α] [Std.IsLinearOrder α] [Std.LawfulOrderLT α] (a : α) : ¬ a < a := Std.lt_irrefl
theorem Lin.tr {α : Type} [LT α] [LE α] [Std.IsLinearOrder α] [Std.LawfulOrderLT α] {a b c : α} (h : a < b) (k : b < c) : a < c := Std.lt_trans h k
theorem Lin.tri {α : Type} [LT α] [LE α] [Std.IsLinearOrder α] [Std.LawfulOrderLT α] (a b : α) : a < b ∨ a = b ∨ b < a := Std.lt_trichotomy a b

theorem lin_asym {α : Type} [LT α] [LE α] [Std.IsLinearOrder α] [Std.LawfulOrderLT α] {a b : α} (h : a < b) : ¬ b < a := fun k => Lin.irr a (Lin.tr h k)
theorem lin_ne {α : Type} [LT α] [LE α] [Std.IsLinearOrder α] [Std.LawfulOrderLT α] {a b : α} (h : a < b) : a ≠ b := fun e => Lin.irr a (by rw [e] at h ⊢; exact h)
theorem lin_eq {α : Type} [LT α] [LE α] [Std.IsLinearOrder α] [Std.LawfulOrderLT α] {a b : α} (h : ¬ a < b) (k : ¬ b < a) : a = b := by
  rcases Lin.tri a b with x | x | x
  · exact absurd x h
  · exact x
  · exact absurd x k

/-- Rising, each once. -/
def Rises {α : Type} [LT α] (xs : List α) : Prop := xs.Pairwise (· < ·)
theorem Rises.tail {α : Type} [LT α] [DecidableEq α] [DecidableLT α] [LE α] [Std.IsLinearOrder α] [Std.LawfulOrderLT α] {x : α} {xs : List α} (h : Rises (x :: xs)) : Rises xs := (List.pairwise_cons.1 h).2
theorem Rises.head {α : Type} [LT α] [DecidableEq α] [DecidableLT α] [LE α] [Std.IsLinearOrder α] [Std.LawfulOrderLT α] {x : α} {xs : List α} (h : Rises (x :: xs)) : ∀ y ∈ xs, x < y := (List.pairwise_cons.1 h).1
theorem Rises.nil {α : Type} [LT α] [DecidableEq α] [DecidableLT α] [LE α] [Std.IsLinearOrder α] [Std.LawfulOrderLT α] : Rises ([] : List α) := List.Pairwise.nil
theorem Rises.cons {α : Type} [LT α] [DecidableEq α] [DecidableLT α] [LE α] [Std.IsLinearOrder α] [Std.LawfulOrderLT α] {x : α} {xs : List α} (h : ∀ y ∈ xs, x < y) (k : Rises xs) : Rises (x :: xs) := List.pairwise_cons.2 ⟨h, k⟩
theorem Rises.notmem {α : Type} [LT α] [DecidableEq α] [DecidableLT α] [LE α] [Std.IsLinearOrder α] [Std.LawfulOrderLT α] {x : α} {xs : List α} (h : Rises (x :: xs)) : x ∉ xs := fun hm => Lin.irr x (h.head x hm)

/-- Two rising lists of the same are the same. -/
theorem rises_ext {α : Type} [LT α] [DecidableEq α] [DecidableLT α] [LE α] [Std.IsLinearOrder α] [Std.LawfulOrderLT α] : ∀ {xs ys : List α}, Rises xs → Rises ys → (∀ a, a ∈ xs ↔ a ∈ ys) → xs = ys
  | [], [], _, _, _ => rfl
  | [], y :: ys, _, _, h => absurd ((h y).2 (by simp)) (by simp)
  | x :: xs, [], _, _, h => absurd ((h x).1 (by simp)) (by simp)
  | x :: xs, y :: ys, hx, hy, h => by
    have e : x = y := by
      have h1 := (h x).1 (by simp)
      have h2 := (h y).2 (by simp)
      rcases List.mem_cons.1 h1 with h1 | h1
      · exact h1
      · rcases List.mem_cons.1 h2 with h2 | h2
        · exact h2.symm
        · exact absurd (hy.head x h1) (lin_asym (hx.head y h2))
    subst e
    rw [rises_ext hx.tail hy.tail fun a => ?_]
    constructor
    · intro ha
      rcases List.mem_cons.1 ((h a).1 (List.mem_cons_of_mem _ ha)) with rfl | h'
      · exact absurd ha hx.notmem
      · exact h'
    · intro ha
      rcases List.mem_cons.1 ((h a).2 (List.mem_cons_of_mem _ ha)) with rfl | h'
      · exact absurd ha hy.notmem
      · exact h'

/-- The values of two lists, each with where it is. -/
def mrg {α : Type} [LT α] [DecidableLT α] : List α → List α → List (Nat × α)
  | [], [] => []
  | x :: xs, [] => (1, x) :: mrg xs []
  | [], y :: ys => (2, y) :: mrg [] ys
  | x :: xs, y :: ys => if x < y then (1, x) :: mrg xs (y :: ys) else if y < x then (2, y) :: mrg (x :: xs) ys else (3, x) :: mrg xs ys
  termination_by xs ys => xs.length + ys.length

/-- What stands at c of these two. -/
def At {α : Type}  (xs ys : List α) (c : Nat) (a : α) : Prop := (c = 1 ∧ a ∈ xs ∧ a ∉ ys) ∨ (c = 2 ∧ a ∈ ys ∧ a ∉ xs) ∨ (c = 3 ∧ a ∈ xs ∧ a ∈ ys)

theorem mem_mrg {α : Type} [LT α] [DecidableEq α] [DecidableLT α] [LE α] [Std.IsLinearOrder α] [Std.LawfulOrderLT α] : ∀ (xs ys : List α), Rises xs → Rises ys → ∀ c a, (c, a) ∈ mrg xs ys ↔ At xs ys c a
  | [], [], _, _, c, a => by unfold mrg At; simp
  | x :: xs, [], hx, hy, c, a => by
    unfold mrg
    rw [List.mem_cons, mem_mrg xs [] hx.tail hy]
    unfold At
    simp
    by_cases e : a = x <;> simp [e]
    · subst e; intro h _; exact h
  | [], y :: ys, hx, hy, c, a => by
    unfold mrg
    rw [List.mem_cons, mem_mrg [] ys hx hy.tail]
    unfold At
    simp
    by_cases e : a = y <;> simp [e]
    · subst e; intro h _; exact h
  | x :: xs, y :: ys, hx, hy, c, a => by
    unfold mrg
    split
    · rename_i h
      have nx : x ∉ y :: ys := fun hm => by
        rcases List.mem_cons.1 hm with rfl | hm
        · exact Lin.irr _ h
        · exact lin_asym h (hy.head x hm)
      rw [List.mem_cons, mem_mrg xs (y :: ys) hx.tail hy]
      unfold At
      by_cases e : a = x
      · subst e
        have := hx.notmem
        simp only [Prod.mk.injEq, and_true, this, nx, List.mem_cons_self, not_false_eq_true, not_true_eq_false, and_false, or_false]
      · simp only [Prod.mk.injEq, e, and_false, false_or, List.mem_cons]
    · rename_i h
      split
      · rename_i k
        have ny : y ∉ x :: xs := fun hm => by
          rcases List.mem_cons.1 hm with rfl | hm
          · exact Lin.irr _ k
          · exact lin_asym k (hx.head y hm)
        rw [List.mem_cons, mem_mrg (x :: xs) ys hx hy.tail]
        unfold At
        by_cases e : a = y
        · subst e
          have := hy.notmem
          simp only [Prod.mk.injEq, and_true, this, ny, List.mem_cons_self, not_false_eq_true, not_true_eq_false, and_false, or_false, false_or]
        · simp only [Prod.mk.injEq, e, and_false, false_or, List.mem_cons]
      · rename_i k
        obtain rfl := lin_eq h k
        rw [List.mem_cons, mem_mrg xs ys hx.tail hy.tail]
        unfold At
        by_cases e : a = x
        · subst e
          have h1 := hx.notmem
          have h2 := hy.notmem
          simp only [Prod.mk.injEq, and_true, h1, h2, List.mem_cons_self, not_false_eq_true, not_true_eq_false, and_false, or_false, false_or]
        · simp only [Prod.mk.injEq, e, and_false, false_or, List.mem_cons]
  termination_by xs ys => xs.length + ys.length

theorem mrg_rises {α : Type} [LT α] [DecidableEq α] [DecidableLT α] [LE α] [Std.IsLinearOrder α] [Std.LawfulOrderLT α] : ∀ (xs ys : List α), Rises xs → Rises ys → Rises ((mrg xs ys).map Prod.snd)
  | [], [], _, _ => by unfold mrg; exact .nil
  | x :: xs, [], hx, hy => by
    unfold mrg
    refine Rises.cons (fun z hz => ?_) (mrg_rises xs [] hx.tail hy)
    obtain ⟨⟨c, b⟩, hm, rfl⟩ := List.mem_map.1 hz
    rcases (mem_mrg xs [] hx.tail hy c b).1 hm with h | h | h
    · exact hx.head b h.2.1
    · exact absurd h.2.1 (by simp)
    · exact hx.head b h.2.1
  | [], y :: ys, hx, hy => by
    unfold mrg
    refine Rises.cons (fun z hz => ?_) (mrg_rises [] ys hx hy.tail)
    obtain ⟨⟨c, b⟩, hm, rfl⟩ := List.mem_map.1 hz
    rcases (mem_mrg [] ys hx hy.tail c b).1 hm with h | h | h
    · exact absurd h.2.1 (by simp)
    · exact hy.head b h.2.1
    · exact absurd h.2.1 (by simp)
  | x :: xs, y :: ys, hx, hy => by
    unfold mrg
    split
    · rename_i h
      have hyy : ∀ z ∈ y :: ys, x < z := fun z hz => by
        rcases List.mem_cons.1 hz with rfl | hz
        · exact h
        · exact Lin.tr h (hy.head z hz)
      refine Rises.cons (fun z hz => ?_) (mrg_rises xs (y :: ys) hx.tail hy)
      obtain ⟨⟨c, b⟩, hm, rfl⟩ := List.mem_map.1 hz
      rcases (mem_mrg xs (y :: ys) hx.tail hy c b).1 hm with h | h | h
      · exact hx.head b h.2.1
      · exact hyy b h.2.1
      · exact hx.head b h.2.1
    · rename_i h
      split
      · rename_i k
        have hxx : ∀ z ∈ x :: xs, y < z := fun z hz => by
          rcases List.mem_cons.1 hz with rfl | hz
          · exact k
          · exact Lin.tr k (hx.head z hz)
        refine Rises.cons (fun z hz => ?_) (mrg_rises (x :: xs) ys hx hy.tail)
        obtain ⟨⟨c, b⟩, hm, rfl⟩ := List.mem_map.1 hz
        rcases (mem_mrg (x :: xs) ys hx hy.tail c b).1 hm with h | h | h
        · exact hxx b h.2.1
        · exact hy.head b h.2.1
        · exact hxx b h.2.1
      · rename_i k
        obtain rfl := lin_eq h k
        refine Rises.cons (fun z hz => ?_) (mrg_rises xs ys hx.tail hy.tail)
        obtain ⟨⟨c, b⟩, hm, rfl⟩ := List.mem_map.1 hz
        rcases (mem_mrg xs ys hx.tail hy.tail c b).1 hm with h | h | h
        · exact hx.head b h.2.1
        · exact hy.head b h.2.1
        · exact hx.head b h.2.1
  termination_by xs ys => xs.length + ys.length

theorem mrg_length {α : Type} [LT α] [DecidableLT α] : ∀ (xs ys : List α), (mrg xs ys).length ≤ xs.length + ys.length
  | [], [] => by unfold mrg; simp
  | x :: xs, [] => by unfold mrg; have := mrg_length xs []; simp at this ⊢; omega
  | [], y :: ys => by unfold mrg; have := mrg_length [] ys; simp at this ⊢; omega
  | x :: xs, y :: ys => by
    unfold mrg
    split
    · have := mrg_length xs (y :: ys); simp at this ⊢; omega
    · split
      · have := mrg_length (x :: xs) ys; simp at this ⊢; omega
      · have := mrg_length xs ys; simp at this ⊢; omega
  termination_by xs ys => xs.length + ys.length

theorem mrg_code {α : Type} [LT α] [DecidableLT α] : ∀ (xs ys : List α) (c : Nat) (a : α), (c, a) ∈ mrg xs ys → c = 1 ∨ c = 2 ∨ c = 3
  | [], [], c, a, h => by unfold mrg at h; simp at h
  | x :: xs, [], c, a, h => by
    unfold mrg at h
    rcases List.mem_cons.1 h with h | h
    · cases h; simp
    · exact mrg_code xs [] c a h
  | [], y :: ys, c, a, h => by
    unfold mrg at h
    rcases List.mem_cons.1 h with h | h
    · cases h; simp
    · exact mrg_code [] ys c a h
  | x :: xs, y :: ys, c, a, h => by
    unfold mrg at h
    split at h
    · rcases List.mem_cons.1 h with h | h
      · cases h; simp
      · exact mrg_code xs (y :: ys) c a h
    · split at h
      · rcases List.mem_cons.1 h with h | h
        · cases h; simp
        · exact mrg_code (x :: xs) ys c a h
      · rcases List.mem_cons.1 h with h | h
        · cases h; simp
        · exact mrg_code xs ys c a h
  termination_by xs ys => xs.length + ys.length

/-- Is a place one of these? -/
def isIn (ws : List Nat) (c : Nat) : Bool := ws.contains c
/-- The values at one of these places. -/
def picked {α : Type}  (ws : List Nat) (l : List (Nat × α)) : List α := (l.filter fun p => isIn ws p.1).map Prod.snd
def pickL {α : Type} [LT α] [DecidableLT α] (ws : List Nat) (xs ys : List α) : List α := picked ws (mrg xs ys)
theorem picked_snoc_in {α : Type}  (ws : List Nat) (l : List (Nat × α)) (c : Nat) (a : α) (h : isIn ws c = true) : picked ws (l ++ [(c, a)]) = picked ws l ++ [a] := by
  unfold picked; simp [List.filter_append, h]
theorem picked_snoc_out {α : Type}  (ws : List Nat) (l : List (Nat × α)) (c : Nat) (a : α) (h : isIn ws c = false) : picked ws (l ++ [(c, a)]) = picked ws l := by
  unfold picked; simp [List.filter_append, h]
theorem picked_length {α : Type}  (ws : List Nat) (l : List (Nat × α)) : (picked ws l).length ≤ l.length := by
  unfold picked; rw [List.length_map]; exact List.length_filter_le _ _

theorem pickL_rises {α : Type} [LT α] [DecidableEq α] [DecidableLT α] [LE α] [Std.IsLinearOrder α] [Std.LawfulOrderLT α] (ws : List Nat) (xs ys : List α) (hx : Rises xs) (hy : Rises ys) : Rises (pickL ws xs ys) :=
  (mrg_rises xs ys hx hy).sublist (List.Sublist.map _ List.filter_sublist)
theorem mem_pickL {α : Type} [LT α] [DecidableEq α] [DecidableLT α] [LE α] [Std.IsLinearOrder α] [Std.LawfulOrderLT α] (ws : List Nat) (xs ys : List α) (hx : Rises xs) (hy : Rises ys) (a : α) : a ∈ pickL ws xs ys ↔ ∃ c, isIn ws c = true ∧ At xs ys c a := by
  unfold pickL picked
  simp only [List.mem_map, List.mem_filter]
  constructor
  · rintro ⟨⟨c, b⟩, ⟨h1, h2⟩, rfl⟩
    exact ⟨c, h2, (mem_mrg xs ys hx hy c b).1 h1⟩
  · rintro ⟨c, h1, h2⟩
    exact ⟨(c, a), ⟨(mem_mrg xs ys hx hy c a).2 h2, h1⟩, rfl⟩
theorem mem_join {α : Type} [LT α] [DecidableEq α] [DecidableLT α] [LE α] [Std.IsLinearOrder α] [Std.LawfulOrderLT α] (xs ys : List α) (hx : Rises xs) (hy : Rises ys) (a : α) : a ∈ pickL [1, 2, 3] xs ys ↔ a ∈ xs ∨ a ∈ ys := by
  rw [mem_pickL _ _ _ hx hy]
  constructor
  · rintro ⟨c, _, h | h | h⟩
    · exact .inl h.2.1
    · exact .inr h.2.1
    · exact .inl h.2.1
  · intro h
    by_cases h1 : a ∈ xs
    · by_cases h2 : a ∈ ys
      · exact ⟨3, rfl, .inr (.inr ⟨rfl, h1, h2⟩)⟩
      · exact ⟨1, rfl, .inl ⟨rfl, h1, h2⟩⟩
    · exact ⟨2, rfl, .inr (.inl ⟨rfl, h.resolve_left h1, h1⟩)⟩
theorem mem_meet {α : Type} [LT α] [DecidableEq α] [DecidableLT α] [LE α] [Std.IsLinearOrder α] [Std.LawfulOrderLT α] (xs ys : List α) (hx : Rises xs) (hy : Rises ys) (a : α) : a ∈ pickL [3] xs ys ↔ a ∈ xs ∧ a ∈ ys := by
  rw [mem_pickL _ _ _ hx hy]
  constructor
  · rintro ⟨c, hc, h⟩
    obtain rfl : c = 3 := by simpa [isIn] using hc
    rcases h with h | h | h
    · exact absurd h.1 (by decide)
    · exact absurd h.1 (by decide)
    · exact h.2
  · exact fun h => ⟨3, rfl, .inr (.inr ⟨rfl, h⟩)⟩
theorem mem_minus {α : Type} [LT α] [DecidableEq α] [DecidableLT α] [LE α] [Std.IsLinearOrder α] [Std.LawfulOrderLT α] (xs ys : List α) (hx : Rises xs) (hy : Rises ys) (a : α) : a ∈ pickL [1] xs ys ↔ a ∈ xs ∧ a ∉ ys := by
  rw [mem_pickL _ _ _ hx hy]
  constructor
  · rintro ⟨c, hc, h⟩
    obtain rfl : c = 1 := by simpa [isIn] using hc
    rcases h with h | h | h
    · exact h.2
    · exact absurd h.1 (by decide)
    · exact absurd h.1 (by decide)
  · exact fun h => ⟨1, rfl, .inl ⟨rfl, h⟩⟩

/-- Are all of the one in the other? -/
def subB {α : Type} [DecidableEq α] (xs ys : List α) : Bool := xs.all fun a => ys.contains a
theorem subB_iff {α : Type} [DecidableEq α] (xs ys : List α) : subB xs ys = true ↔ ∀ a ∈ xs, a ∈ ys := by
  unfold subB; simp [List.all_eq_true]
theorem subB_of {α : Type} [LT α] [DecidableEq α] [DecidableLT α] [LE α] [Std.IsLinearOrder α] [Std.LawfulOrderLT α] (xs ys : List α) (hx : Rises xs) (hy : Rises ys) : subB xs ys = !(mrg xs ys).any fun p => p.1 == 1 := by
  rw [Bool.eq_iff_iff, subB_iff, Bool.not_eq_true', List.any_eq_false]
  constructor
  · rintro h ⟨c, a⟩ hm hc
    obtain rfl : c = 1 := by simpa using hc
    rcases (mem_mrg xs ys hx hy 1 a).1 hm with k | k | k
    · exact k.2.2 (h a k.2.1)
    · exact absurd k.1 (by decide)
    · exact absurd k.1 (by decide)
  · intro h a ha
    by_cases k : a ∈ ys
    · exact k
    · exact absurd (by simp) (h (1, a) ((mem_mrg xs ys hx hy 1 a).2 (.inl ⟨rfl, ha, k⟩)))

/-- Which is less? -/
def cmpL {α : Type} [LT α] [DecidableLT α] : List α → List α → Int
  | [], [] => 0
  | [], _ :: _ => -1
  | _ :: _, [] => 1
  | x :: xs, y :: ys => if x < y then -1 else if y < x then 1 else cmpL xs ys
theorem cmpL_self {α : Type} [LT α] [DecidableLT α] [LE α] [Std.IsLinearOrder α] [Std.LawfulOrderLT α] : ∀ xs : List α, cmpL xs xs = 0
  | [] => rfl
  | x :: xs => by unfold cmpL; rw [if_neg (Lin.irr x), if_neg (Lin.irr x)]; exact cmpL_self xs
theorem cmpL_neg {α : Type} [LT α] [DecidableEq α] [DecidableLT α] [LE α] [Std.IsLinearOrder α] [Std.LawfulOrderLT α] : ∀ xs ys : List α, cmpL xs ys = -cmpL ys xs
  | [], [] => rfl
  | [], _ :: _ => rfl
  | _ :: _, [] => rfl
  | x :: xs, y :: ys => by
    unfold cmpL
    by_cases h : x < y
    · rw [if_pos h, if_neg (lin_asym h), if_pos h]
    · by_cases k : y < x
      · rw [if_neg h, if_pos k, if_pos k]; rfl
      · rw [if_neg h, if_neg k, if_neg k, if_neg h, cmpL_neg xs ys]
theorem cmpL_eq {α : Type} [LT α] [DecidableEq α] [DecidableLT α] [LE α] [Std.IsLinearOrder α] [Std.LawfulOrderLT α] : ∀ xs ys : List α, cmpL xs ys = 0 ↔ xs = ys
  | [], [] => by simp [cmpL]
  | [], _ :: _ => by simp [cmpL]
  | _ :: _, [] => by simp [cmpL]
  | x :: xs, y :: ys => by
    unfold cmpL
    by_cases h : x < y
    · rw [if_pos h]; simp; intro e; exact absurd e (lin_ne h)
    · by_cases k : y < x
      · rw [if_neg h, if_pos k]; simp; intro e; exact absurd e.symm (lin_ne k)
      · rw [if_neg h, if_neg k, cmpL_eq xs ys, lin_eq h k]; simp
theorem cmpL_bd {α : Type} [LT α] [DecidableLT α] : ∀ xs ys : List α, cmpL xs ys = -1 ∨ cmpL xs ys = 0 ∨ cmpL xs ys = 1
  | [], [] => by simp [cmpL]
  | [], _ :: _ => by simp [cmpL]
  | _ :: _, [] => by simp [cmpL]
  | x :: xs, y :: ys => by
    unfold cmpL
    by_cases h : x < y
    · rw [if_pos h]; simp
    · by_cases k : y < x
      · rw [if_neg h, if_pos k]; simp
      · rw [if_neg h, if_neg k]; exact cmpL_bd xs ys

end Go.Proofs.Ythfclmnmnmeldaa
