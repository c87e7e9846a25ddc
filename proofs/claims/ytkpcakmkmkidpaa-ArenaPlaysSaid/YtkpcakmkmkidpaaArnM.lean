/- Arenas in plain words (stage 15): slots, and the document's list of all that was ever put; that both tell the same. Conditions: none. -/
import Std
namespace Go.Proofs.Ytkpcakmkmkidpaa.Arn
set_option linter.unusedVariables false

/-- A slot: how many lay there, and what lies there now. -/
structure Sl (α : Type) where
  n : Nat
  x : Option α
/-- The first free slot. -/
def freeF {α : Type} : List (Sl α) → Option Nat
  | [] => none
  | s :: r => if s.x.isNone then some 0 else (freeF r).map (· + 1)
theorem free_lt {α : Type} : ∀ (l : List (Sl α)) (i : Nat), freeF l = some i → ∃ s, l[i]? = some s ∧ s.x = none
  | [], i, h => by cases h
  | s :: r, i, h => by
    unfold freeF at h
    split at h
    · rename_i hs
      cases h
      exact ⟨s, rfl, Option.isNone_iff_eq_none.1 hs⟩
    · cases hf : freeF r with
      | none => rw [hf] at h; cases h
      | some j =>
        rw [hf] at h
        obtain rfl : i = j + 1 := by simpa using h.symm
        obtain ⟨t, ht, hx⟩ := free_lt r j hf
        exact ⟨t, by simpa using ht, hx⟩
theorem free_least {α : Type} : ∀ (l : List (Sl α)) (i j : Nat) (s : Sl α), freeF l = some i → j < i → l[j]? = some s → s.x.isSome = true
  | [], i, j, s, h, _, _ => by cases h
  | t :: r, i, j, s, h, hj, hs => by
    unfold freeF at h
    split at h
    · cases h; omega
    · rename_i ht
      cases hf : freeF r with
      | none => rw [hf] at h; cases h
      | some k =>
        rw [hf] at h
        obtain rfl : i = k + 1 := by simpa using h.symm
        cases j with
        | zero =>
          obtain rfl : t = s := by simpa using hs
          cases hx : t.x with
          | none => rw [hx] at ht; simp at ht
          | some _ => rfl
        | succ j => exact free_least r k j s hf (by omega) (by simpa using hs)
theorem free_none {α : Type} : ∀ (l : List (Sl α)) (j : Nat) (s : Sl α), freeF l = none → l[j]? = some s → s.x.isSome = true
  | [], j, s, _, h => by simp at h
  | t :: r, j, s, h, hs => by
    unfold freeF at h
    split at h
    · cases h
    · rename_i ht
      have hf : freeF r = none := by simpa using h
      cases j with
      | zero =>
        obtain rfl : t = s := by simpa using hs
        cases hx : t.x with
        | none => rw [hx] at ht; simp at ht
        | some _ => rfl
      | succ j => exact free_none r j s hf (by simpa using hs)
/-- The handle of slot i, the n-th thing there. -/
def hOf (n i : Nat) : Int := (n : Int) * 1024 + (i : Int)
/-- What lies under a handle: its slot. -/
def findS {α : Type} (l : List (Sl α)) (h : Int) : Option Nat :=
  if h < 0 then none else match l[(h % 1024).toNat]? with
    | some s => if s.x.isSome ∧ (s.n : Int) = h / 1024 then some (h % 1024).toNat else none
    | none => none
theorem h_of {n i : Nat} (hi : i < 1024) : hOf n i % 1024 = i ∧ hOf n i / 1024 = n := by unfold hOf; omega
theorem hOf_inj {n m i j : Nat} (hi : i < 1024) (hj : j < 1024) (h : hOf n i = hOf m j) : n = m ∧ i = j := by unfold hOf at h; omega
theorem find_is {α : Type} (l : List (Sl α)) (h : Int) (i : Nat) (hl : l.length ≤ 1024) : findS l h = some i ↔ ∃ s x, l[i]? = some s ∧ s.x = some x ∧ h = hOf s.n i := by
  unfold findS
  constructor
  · intro hh
    split at hh
    · cases hh
    · rename_i h0
      split at hh
      · rename_i s hs
        split at hh
        · rename_i hx
          cases hh
          obtain ⟨x, hx1⟩ := Option.isSome_iff_exists.1 hx.1
          exact ⟨s, x, hs, hx1, by unfold hOf; omega⟩
        · cases hh
      · cases hh
  · rintro ⟨s, x, hs, hx, rfl⟩
    have hi : i < 1024 := by have := (List.getElem?_eq_some_iff.1 hs).1; omega
    have h1 := h_of (n := s.n) hi
    have hi2 : (hOf s.n i % 1024).toNat = i := by rw [h1.1]; rfl
    rw [if_neg (by unfold hOf; omega), hi2, hs]
    simp [hx, h1.2]
/-- One more. -/
def putS {α : Type} (l : List (Sl α)) (x : α) : List (Sl α) := match freeF l with
  | some i => match l[i]? with
    | some s => l.set i ⟨s.n + 1, some x⟩
    | none => l
  | none => l
def putH {α : Type} (l : List (Sl α)) : Option Int := match freeF l with
  | some i => match l[i]? with
    | some s => some (hOf (s.n + 1) i)
    | none => none
  | none => none
def setS {α : Type} (l : List (Sl α)) (h : Int) (x : α) : List (Sl α) := match findS l h with
  | some i => match l[i]? with
    | some s => l.set i ⟨s.n, some x⟩
    | none => l
  | none => l
def dropS {α : Type} (l : List (Sl α)) (h : Int) : List (Sl α) := match findS l h with
  | some i => match l[i]? with
    | some s => l.set i ⟨s.n, none⟩
    | none => l
  | none => l
/-- All, from slot k on. -/
def allS {α : Type} : Nat → List (Sl α) → List (Int × α)
  | _, [] => []
  | k, s :: r => (match s.x with | some x => [(hOf s.n k, x)] | none => []) ++ allS (k + 1) r
def lenS {α : Type} (l : List (Sl α)) : Nat := (l.filter fun s => s.x.isSome).length
theorem all_len {α : Type} : ∀ (l : List (Sl α)) (k : Nat), (allS k l).length = lenS l
  | [], k => rfl
  | s :: r, k => by
    have ih := all_len r (k + 1)
    unfold allS lenS
    rw [List.length_append, ih]
    cases hx : s.x with
    | none => rw [List.filter_cons_of_neg (by rw [hx]; simp)]; simp [lenS]
    | some x => rw [List.filter_cons_of_pos (by rw [hx]; rfl)]; simp [lenS]; omega
theorem all_mem {α : Type} : ∀ (l : List (Sl α)) (k : Nat) (h : Int) (x : α), (h, x) ∈ allS k l ↔ ∃ i s, l[i]? = some s ∧ s.x = some x ∧ h = hOf s.n (k + i)
  | [], k, h, x => by simp [allS]
  | t :: r, k, h, x => by
    unfold allS
    rw [List.mem_append, all_mem r (k + 1) h x]
    constructor
    · rintro (hm | ⟨i, s, h1, h2, h3⟩)
      · cases hx : t.x with
        | none => rw [hx] at hm; cases hm
        | some y =>
          rw [hx] at hm
          obtain ⟨rfl, rfl⟩ : h = hOf t.n k ∧ x = y := by simpa using hm
          exact ⟨0, t, rfl, hx, rfl⟩
      · exact ⟨i + 1, s, by simpa using h1, h2, by rw [h3]; congr 1; omega⟩
    · rintro ⟨i, s, h1, h2, h3⟩
      cases i with
      | zero =>
        left
        obtain rfl : t = s := by simpa using h1
        rw [h2, h3]
        simp
      | succ i => exact .inr ⟨i, s, by simpa using h1, h2, by rw [h3]; congr 1; omega⟩

/-! ### the document's list of all that was ever put -/
structure Th (α : Type) where
  slot : Nat
  n : Nat
  x : α
  gone : Bool
def ofSlot {α : Type} (k : Nat) (L : List (Th α)) : List (Th α) := L.filter fun t => decide (t.slot = k)
/-- In a slot the things have the numbers 1, 2, ..; all but the last are gone. -/
def Runs {α : Type} (s : Sl α) (l : List (Th α)) : Prop :=
  l.length = s.n ∧ (∀ j t, l[j]? = some t → t.n = j + 1) ∧ (∀ j t, l[j]? = some t → t.gone = false → j + 1 = s.n ∧ s.x = some t.x) ∧ (∀ x, s.x = some x → ∃ t, l.getLast? = some t ∧ t.gone = false ∧ t.x = x)
def Rel {α : Type} (sl : List (Sl α)) (L : List (Th α)) : Prop := ∀ k s, sl[k]? = some s → Runs s (ofSlot k L)
theorem runs_in {α : Type} {s : Sl α} {l : List (Th α)} (h : Runs s l) : (l.any fun t => !t.gone) = s.x.isSome ∧ l.length = s.n := by
  refine ⟨?_, h.1⟩
  cases hx : s.x with
  | none =>
    rw [List.any_eq_false.2]
    · rfl
    · intro t ht hg
      obtain ⟨j, hj⟩ := List.getElem?_of_mem ht
      have := (h.2.2.1 j t hj (by simpa using hg)).2
      rw [hx] at this
      cases this
  | some x =>
    obtain ⟨t, h1, h2, h3⟩ := h.2.2.2 x hx
    exact List.any_eq_true.2 ⟨t, List.mem_of_getLast? h1, by rw [h2]; rfl⟩
/-- The document's Put: a slot that is free. -/
theorem runs_put {α : Type} {s : Sl α} {l : List (Th α)} (h : Runs s l) (hx : s.x = none) (k : Nat) (x : α) : Runs ⟨s.n + 1, some x⟩ (l ++ [⟨k, s.n + 1, x, false⟩]) := by
  obtain ⟨h1, h2, h3, h4⟩ := h
  refine ⟨by rw [List.length_append, h1]; rfl, fun j t hj => ?_, fun j t hj hg => ?_, fun y hy => ⟨_, List.getLast?_concat, rfl, Option.some.inj hy⟩⟩
  · rcases Nat.lt_or_ge j l.length with hl | hl
    · rw [List.getElem?_append_left hl] at hj
      exact h2 j t hj
    · rw [List.getElem?_append_right hl] at hj
      have hj0 : j - l.length = 0 := by
        have := (List.getElem?_eq_some_iff.1 hj).1
        simp at this
        omega
      rw [hj0] at hj
      obtain rfl := Option.some.inj hj
      show s.n + 1 = j + 1
      omega
  · rcases Nat.lt_or_ge j l.length with hl | hl
    · rw [List.getElem?_append_left hl] at hj
      have := (h3 j t hj hg).2
      rw [hx] at this
      cases this
    · rw [List.getElem?_append_right hl] at hj
      have hj0 : j - l.length = 0 := by
        have := (List.getElem?_eq_some_iff.1 hj).1
        simp at this
        omega
      rw [hj0] at hj
      obtain rfl := Option.some.inj hj
      exact ⟨by show j + 1 = s.n + 1; omega, rfl⟩
theorem ofSlot_append {α : Type} (k : Nat) (L : List (Th α)) (t : Th α) : ofSlot k (L ++ [t]) = if t.slot = k then ofSlot k L ++ [t] else ofSlot k L := by
  unfold ofSlot
  rw [List.filter_append]
  by_cases h : t.slot = k <;> simp [h]
theorem rel_put {α : Type} {sl : List (Sl α)} {L : List (Th α)} (h : Rel sl L) {i : Nat} {s : Sl α} (hs : sl[i]? = some s) (hx : s.x = none) (x : α) : Rel (sl.set i ⟨s.n + 1, some x⟩) (L ++ [⟨i, s.n + 1, x, false⟩]) := by
  intro k t hk
  rw [ofSlot_append]
  by_cases hki : i = k
  · subst hki
    rw [List.getElem?_set_self (List.getElem?_eq_some_iff.1 hs).1] at hk
    obtain rfl := Option.some.inj hk
    rw [if_pos rfl]
    exact runs_put (h i s hs) hx i x
  · rw [List.getElem?_set_ne hki] at hk
    rw [if_neg hki]
    exact h k t hk
/-- What a thing of the list is changed to, under its handle. -/
def upd {α : Type} (L : List (Th α)) (a : Nat) (f : Th α → Th α) : List (Th α) := L.modify a f
/-- The document's Find. -/
def findL {α : Type} (L : List (Th α)) (h : Int) : Option Nat := L.findIdx? fun t => decide (hOf t.n t.slot = h) && !t.gone
theorem last_mem {α : Type} {l : List α} {t : α} (h : l.getLast? = some t) : l[l.length - 1]? = some t := by
  rw [← List.getLast?_eq_getElem?]; exact h
/-- Things that aren't gone: one in a slot at most; what it is. -/
theorem rel_live {α : Type} {sl : List (Sl α)} {L : List (Th α)} (h : Rel sl L) {t : Th α} (ht : t ∈ L) (hg : t.gone = false) {s : Sl α} (hs : sl[t.slot]? = some s) : s.x = some t.x ∧ t.n = s.n := by
  obtain ⟨h1, h2, h3, h4⟩ := h _ s hs
  have hm : t ∈ ofSlot t.slot L := List.mem_filter.2 ⟨ht, by simp⟩
  obtain ⟨j, hj⟩ := List.getElem?_of_mem hm
  have hn := h2 j t hj
  have hl := h3 j t hj hg
  exact ⟨hl.2, by omega⟩
theorem rel_there {α : Type} {sl : List (Sl α)} {L : List (Th α)} (h : Rel sl L) {i : Nat} {s : Sl α} {x : α} (hs : sl[i]? = some s) (hx : s.x = some x) : ∃ t, t ∈ L ∧ t.slot = i ∧ t.n = s.n ∧ t.gone = false ∧ t.x = x := by
  obtain ⟨h1, h2, h3, h4⟩ := h i s hs
  obtain ⟨t, ht, hg, htx⟩ := h4 x hx
  have hm := List.mem_filter.1 (List.mem_of_getLast? ht)
  have hj := last_mem ht
  have hn := h2 _ t hj
  have hl := (h3 _ t hj hg).1
  exact ⟨t, hm.1, by simpa using hm.2, by omega, hg, htx⟩
/-- Both find the same. -/
theorem find_same {α : Type} {sl : List (Sl α)} {L : List (Th α)} (h : Rel sl L) (hn : sl.length ≤ 1024) (hb : ∀ t ∈ L, t.slot < sl.length) (hd : Int) :
    ((findL L hd).isSome = (findS sl hd).isSome) ∧ ∀ a i, findL L hd = some a → findS sl hd = some i → ∃ t s, L[a]? = some t ∧ t.slot = i ∧ sl[i]? = some s ∧ s.x = some t.x ∧ t.n = s.n ∧ t.gone = false := by
  have key : ∀ a, findL L hd = some a → ∃ t s, L[a]? = some t ∧ sl[t.slot]? = some s ∧ s.x = some t.x ∧ t.n = s.n ∧ t.gone = false ∧ hd = hOf s.n t.slot := fun a ha => by
    obtain ⟨hl, hp, -⟩ := List.findIdx?_eq_some_iff_getElem.1 ha
    have hm : L[a] ∈ L := List.getElem_mem hl
    obtain ⟨h1, h2⟩ : hOf L[a].n L[a].slot = hd ∧ L[a].gone = false := by simpa using hp
    obtain ⟨s, hs⟩ : ∃ s, sl[L[a].slot]? = some s := ⟨_, List.getElem?_eq_getElem (hb _ hm)⟩
    obtain ⟨h3, h4⟩ := rel_live h hm h2 hs
    exact ⟨L[a], s, List.getElem?_eq_getElem hl, hs, h3, h4, h2, by rw [← h1, h4]⟩
  refine ⟨?_, fun a i ha hi => ?_⟩
  · cases ha : findL L hd with
    | some a =>
      obtain ⟨t, s, h1, h2, h3, h4, h5, h6⟩ := key a ha
      rw [(find_is sl hd t.slot hn).2 ⟨s, t.x, h2, h3, h6⟩]
      rfl
    | none =>
      cases hi : findS sl hd with
      | none => rfl
      | some i =>
        obtain ⟨s, x, h1, h2, h3⟩ := (find_is sl hd i hn).1 hi
        obtain ⟨t, ht, h4, h5, h6, h7⟩ := rel_there h h1 h2
        have := List.findIdx?_eq_none_iff.1 ha t ht
        rw [h6, h4, h5, ← h3] at this
        simp at this
  · obtain ⟨t, s, h1, h2, h3, h4, h5, h6⟩ := key a ha
    have := (find_is sl hd t.slot hn).2 ⟨s, t.x, h2, h3, h6⟩
    rw [hi] at this
    obtain rfl := Option.some.inj this
    exact ⟨t, s, h1, rfl, h2, h3, h4, h5⟩
/-- What isn't gone in a slot. -/
theorem runs_live {α : Type} {s : Sl α} {l : List (Th α)} (h : Runs s l) : (l.filter fun t => !t.gone).map (fun t => (t.n, t.x)) = match s.x with | none => [] | some x => [(s.n, x)] := by
  obtain ⟨h1, h2, h3, h4⟩ := h
  cases hx : s.x with
  | none =>
    rw [List.filter_eq_nil_iff.2]
    · rfl
    · intro t ht hg
      obtain ⟨j, hj⟩ := List.getElem?_of_mem ht
      have := (h3 j t hj (by simpa using hg)).2
      rw [hx] at this
      cases this
  | some x =>
    obtain ⟨t, ht, hg, rfl⟩ := h4 x hx
    obtain ⟨r, rfl⟩ := List.getLast?_eq_some_iff.1 ht
    have hr : r.filter (fun t => !t.gone) = [] := List.filter_eq_nil_iff.2 fun u hu hgu => by
      obtain ⟨j, hj⟩ := List.getElem?_of_mem hu
      have hlt := (List.getElem?_eq_some_iff.1 hj).1
      have := (h3 j u (by rw [List.getElem?_append_left hlt]; exact hj) (by simpa using hgu)).1
      rw [List.length_append] at h1
      simp at h1
      omega
    have hn := h2 r.length t (by rw [List.getElem?_append_right (Nat.le_refl _)]; simp)
    rw [List.length_append] at h1
    have hs : t.n = s.n := by simp at h1; omega
    rw [List.filter_append, hr, List.nil_append, List.filter_cons_of_pos (by rw [hg]; rfl)]
    simp [hs]
/-- The document's All: slot by slot. -/
def allL {α : Type} (size : Nat) (L : List (Th α)) : List (Int × α) := (List.range size).flatMap fun k => ((ofSlot k L).filter fun t => !t.gone).map fun t => (hOf t.n t.slot, t.x)
theorem flat_congr {α β : Type} (f g : α → List β) : ∀ l : List α, (∀ a ∈ l, f a = g a) → l.flatMap f = l.flatMap g
  | [], _ => rfl
  | a :: r, h => by rw [List.flatMap_cons, List.flatMap_cons, h a (by simp), flat_congr f g r (fun b hb => h b (by simp [hb]))]
theorem all_from {α : Type} : ∀ (sl : List (Sl α)) (k : Nat), allS k sl = (List.range sl.length).flatMap fun i => match sl[i]? with | some s => (match s.x with | some x => [(hOf s.n (k + i), x)] | none => []) | none => []
  | [], k => rfl
  | s :: r, k => by
    rw [allS, all_from r (k + 1), List.length_cons, List.range_succ_eq_map, List.flatMap_cons, List.flatMap_map]
    congr 1
    refine flat_congr _ _ _ fun i _ => ?_
    simp only [List.getElem?_cons_succ]
    rw [show k + 1 + i = k + (i + 1) by omega]
theorem all_same {α : Type} {sl : List (Sl α)} {L : List (Th α)} (h : Rel sl L) : allL sl.length L = allS 0 sl := by
  rw [all_from]
  unfold allL
  refine flat_congr _ _ _ fun i hi => ?_
  obtain ⟨s, hs⟩ : ∃ s, sl[i]? = some s := ⟨_, List.getElem?_eq_getElem (List.mem_range.1 hi)⟩
  have hl := runs_live (h i s hs)
  rw [hs, Nat.zero_add]
  have e : ((ofSlot i L).filter fun t => !t.gone).map (fun t => (hOf t.n t.slot, t.x)) = (((ofSlot i L).filter fun t => !t.gone).map (fun t => (t.n, t.x))).map fun y => (hOf y.1 i, y.2) := by
    rw [List.map_map]
    refine List.map_congr_left fun t ht => ?_
    have := (List.mem_filter.1 (List.mem_filter.1 ht).1).2
    have : t.slot = i := by simpa using this
    simp [this]
  rw [e, hl]
  cases hx : s.x <;> simp [hx]
/-- Where just one may be meant, a place and a test tell the same. -/
theorem modify_one {β : Type} (p : β → Bool) (f : β → β) : ∀ (L : List β) (a : Nat), (L.filter p).length ≤ 1 → (∃ t, L[a]? = some t ∧ p t = true) → L.modify a f = L.map fun t => if p t = true then f t else t
  | [], a, _, ⟨t, h, _⟩ => by simp at h
  | u :: r, 0, hc, ⟨t, h, hp⟩ => by
    obtain rfl : u = t := by simpa using h
    rw [List.filter_cons_of_pos hp, List.length_cons] at hc
    have hr : r.filter p = [] := List.eq_nil_of_length_eq_zero (by omega)
    rw [List.modify_zero_cons, List.map_cons, if_pos hp]
    congr 1
    conv => lhs; rw [← List.map_id r]
    refine List.map_congr_left fun x hx => ?_
    have := List.filter_eq_nil_iff.1 hr x hx
    rw [if_neg this]
    rfl
  | u :: r, a + 1, hc, ⟨t, h, hp⟩ => by
    have h' : r[a]? = some t := by simpa using h
    cases hu : p u with
    | true =>
      rw [List.filter_cons_of_pos hu, List.length_cons] at hc
      have : t ∈ r.filter p := List.mem_filter.2 ⟨List.mem_of_getElem? h', hp⟩
      rw [List.eq_nil_of_length_eq_zero (show (r.filter p).length = 0 by omega)] at this
      cases this
    | false =>
      rw [List.filter_cons_of_neg (by rw [hu]; decide)] at hc
      rw [List.modify_succ_cons, List.map_cons, modify_one p f r a hc ⟨t, h', hp⟩, hu]
      rfl
/-- Things under one handle are changed. -/
def chg {α : Type} (i : Nat) (f : Th α → Th α) (L : List (Th α)) : List (Th α) := L.map fun t => if (decide (t.slot = i) && !t.gone) = true then f t else t
theorem chg_ofSlot {α : Type} (i k : Nat) (f : Th α → Th α) (hf : ∀ t, (f t).slot = t.slot) (L : List (Th α)) : ofSlot k (chg i f L) = chg i f (ofSlot k L) := by
  unfold ofSlot chg
  rw [List.filter_map]
  congr 1
  refine List.filter_congr fun t _ => ?_
  show decide ((if _ then f t else t).slot = k) = _
  split <;> simp [hf]
theorem chg_other {α : Type} {i k : Nat} (f : Th α → Th α) (hk : k ≠ i) (L : List (Th α)) : chg i f (ofSlot k L) = ofSlot k L := by
  unfold chg
  conv => rhs; rw [← List.map_id (ofSlot k L)]
  refine List.map_congr_left fun t ht => ?_
  have : t.slot = k := by simpa [ofSlot] using (List.mem_filter.1 ht).2
  rw [if_neg (by simp [this, hk])]
  rfl
theorem live_one {α : Type} {sl : List (Sl α)} {L : List (Th α)} (h : Rel sl L) {i : Nat} {s : Sl α} (hs : sl[i]? = some s) : (L.filter fun t => decide (t.slot = i) && !t.gone).length ≤ 1 := by
  have hl := congrArg List.length (runs_live (h i s hs))
  unfold ofSlot at hl
  rw [List.filter_filter, List.length_map] at hl
  have e : (L.filter fun t => decide (t.slot = i) && !t.gone) = L.filter fun a => (!a.gone) && decide (a.slot = i) := List.filter_congr fun t _ => Bool.and_comm _ _
  rw [e, hl]
  cases s.x <;> simp
/-- The document's change of a thing is a change of its slot. -/
theorem rel_chg {α : Type} {sl : List (Sl α)} {L : List (Th α)} (h : Rel sl L) {a i : Nat} {t : Th α} {s : Sl α} (ha : L[a]? = some t) (ht : t.slot = i) (hg : t.gone = false) (hs : sl[i]? = some s) (y : Option α) (f : Th α → Th α)
    (hf1 : ∀ t, (f t).slot = t.slot ∧ (f t).n = t.n) (hf2 : ∀ t, t.gone = false → (f t).gone = y.isNone) (hf3 : ∀ t v, y = some v → (f t).x = v) : Rel (sl.set i ⟨s.n, y⟩) (L.modify a f) := by
  have e : L.modify a f = chg i f L := modify_one (fun u : Th α => decide (u.slot = i) && !u.gone) f L a (live_one h hs) ⟨t, ha, by simp [ht, hg]⟩
  intro k u hk
  rw [e, chg_ofSlot i k f (fun t => (hf1 t).1)]
  by_cases hki : i = k
  · subst hki
    rw [List.getElem?_set_self (List.getElem?_eq_some_iff.1 hs).1] at hk
    obtain rfl := Option.some.inj hk
    obtain ⟨h1, h2, h3, h4⟩ := h i s hs
    have hsl : ∀ u ∈ ofSlot i L, u.slot = i := fun u hu => by simpa using (List.mem_filter.1 hu).2
    have hget : ∀ j u, (chg i f (ofSlot i L))[j]? = some u → ∃ v, (ofSlot i L)[j]? = some v ∧ u = if v.gone = false then f v else v := fun j u hj => by
      unfold chg at hj
      rw [List.getElem?_map] at hj
      obtain ⟨v, hv, rfl⟩ := Option.map_eq_some_iff.1 hj
      refine ⟨v, hv, ?_⟩
      simp [hsl v (List.mem_of_getElem? hv)]
    obtain ⟨x, hx⟩ : ∃ x, s.x = some x := by
      have := (rel_live h (List.mem_of_getElem? ha) hg (by rw [ht]; exact hs)).1
      exact ⟨_, this⟩
    obtain ⟨lt, hlt, hlg, hlx⟩ := h4 x hx
    have hlen : (chg i f (ofSlot i L)).length = s.n := by unfold chg; rw [List.length_map]; exact h1
    refine ⟨hlen, fun j u hj => ?_, fun j u hj hgu => ?_, fun v hv => ?_⟩
    · obtain ⟨w, hw, rfl⟩ := hget j u hj
      have := h2 j w hw
      split
      · rw [(hf1 w).2]; exact this
      · exact this
    · obtain ⟨w, hw, rfl⟩ := hget j u hj
      split at hgu
      · rename_i hwg
        have h5 := (h3 j w hw hwg).1
        refine ⟨h5, ?_⟩
        rw [if_pos hwg]
        have := hf2 w hwg
        rw [hgu] at this
        cases hy : y with
        | none => rw [hy] at this; cases this
        | some v => rw [hf3 w v hy]
      · rename_i hwg
        exact absurd hgu hwg
    · have hv : y = some v := hv
      refine ⟨f lt, ?_, by rw [hf2 lt hlg, hv]; rfl, hf3 lt v hv⟩
      unfold chg
      rw [List.getLast?_map, hlt]
      simp [hsl lt (List.mem_of_getLast? hlt), hlg]
  · rw [List.getElem?_set_ne hki] at hk
    rw [chg_other f (fun e => hki e.symm)]
    exact h k u hk
end Go.Proofs.Ytkpcakmkmkidpaa.Arn
