/- Plain words: a sorted list, each once, rises and has the same values. Conditions: the order is linear. -/
import Derived.Test.YthfclmnmnmeldaaSetM
import Derived.Lib.SlicesCompact
import Derived.Lib.RowBridge
namespace Go.Proofs.Ythfclmnmnmeldaa
open Go.Lib

theorem compactUpTo_set {α : Type} [LT α] [DecidableEq α] [LE α] [Std.IsLinearOrder α] [Std.LawfulOrderLT α] [Inhabited α] (d : Array α) (hs : ∀ i j, i < j → j < d.size → ¬ d[j]! < d[i]!) :
    ∀ m, m ≤ d.size → Rises (compactUpTo d m) ∧ ∀ a, a ∈ compactUpTo d m ↔ ∃ j, j < m ∧ d[j]! = a := by
  intro m
  induction m with
  | zero => intro _; exact ⟨by unfold compactUpTo; exact List.Pairwise.nil, fun a => by unfold compactUpTo; simp⟩
  | succ m ih =>
    intro hm
    obtain ⟨h1, h2⟩ := ih (by omega)
    rw [compactUpTo_succ]
    by_cases hk : keeps d m = true
    · rw [if_pos hk]
      have hgt : ∀ a ∈ compactUpTo d m, a < d[m]! := by
        intro a ha
        obtain ⟨j, hj, rfl⟩ := (h2 a).1 ha
        have hn := hs j m hj (by omega)
        rcases Lin.tri d[j]! d[m]! with h | h | h
        · exact h
        · exfalso
          have hne : d[m]! ≠ d[m - 1]! := by
            unfold keeps at hk
            rcases of_decide_eq_true hk with h | h
            · omega
            · exact h
          by_cases hj1 : j = m - 1
          · subst hj1; exact hne h.symm
          · have h3 := hs j (m - 1) (by omega) (by omega)
            have h4 := hs (m - 1) m (by omega) (by omega)
            rw [h] at h3
            exact hne (lin_eq h4 h3)
        · exact absurd h hn
      refine ⟨List.pairwise_append.2 ⟨h1, by simp, fun a ha b hb => ?_⟩, fun a => ?_⟩
      · obtain rfl : b = d[m]! := by simpa using hb
        exact hgt a ha
      · rw [List.mem_append, h2]
        constructor
        · rintro (⟨j, hj, rfl⟩ | h)
          · exact ⟨j, by omega, rfl⟩
          · exact ⟨m, by omega, (List.mem_singleton.1 h).symm⟩
        · rintro ⟨j, hj, rfl⟩
          by_cases e : j = m
          · subst e; exact .inr (by simp)
          · exact .inl ⟨j, by omega, rfl⟩
    · rw [if_neg hk, List.append_nil]
      refine ⟨h1, fun a => ?_⟩
      rw [h2]
      constructor
      · rintro ⟨j, hj, rfl⟩; exact ⟨j, by omega, rfl⟩
      · rintro ⟨j, hj, rfl⟩
        by_cases e : j = m
        · subst e
          have : ¬ (j = 0 ∨ d[j]! ≠ d[j - 1]!) := fun h => hk (by unfold keeps; exact decide_eq_true h)
          have h0 : j ≠ 0 := fun h => this (.inl h)
          have he : d[j]! = d[j - 1]! := Classical.byContradiction fun h => this (.inr h)
          exact ⟨j - 1, by omega, he.symm⟩
        · exact ⟨j, by omega, rfl⟩

theorem compact_set {α : Type} [LT α] [DecidableEq α] [LE α] [Std.IsLinearOrder α] [Std.LawfulOrderLT α] [Inhabited α] (zs : List α) (hs : zs.Pairwise fun x y => ¬ y < x) : Rises (compact zs) ∧ ∀ a, a ∈ compact zs ↔ a ∈ zs := by
  have h := compactUpTo_set zs.toArray (fun i j hij hj => by
    have hj' : j < zs.length := by simpa using hj
    have := List.pairwise_iff_getElem.1 hs i j (by omega) hj' hij
    simpa [getElem!_pos, hj', show i < zs.length by omega] using this) zs.length (by simp)
  refine ⟨h.1, fun a => (h.2 a).trans ?_⟩
  constructor
  · rintro ⟨j, hj, rfl⟩
    simp [getElem!_pos, hj]
  · intro ha
    obtain ⟨j, hj, rfl⟩ := List.getElem_of_mem ha
    exact ⟨j, hj, by simp [getElem!_pos, hj]⟩

theorem sortedInt (zs : List Int) : (zs.mergeSort fun x y => decide (x ≤ y)).Pairwise fun x y => ¬ y < x := by
  have := List.pairwise_mergeSort (le := fun x y : Int => decide (x ≤ y)) (fun a b c h k => by simp at *; omega) (fun a b => by simp; omega) zs
  exact this.imp fun h => by simp at h; omega
theorem sortedStr (zs : List (List UInt8)) : (zs.mergeSort fun x y => decide (x ≤ y)).Pairwise fun x y => ¬ y < x := by
  have := List.pairwise_mergeSort (le := fun x y : List UInt8 => decide (x ≤ y)) (fun a b c h k => by simp at *; exact List.le_trans h k) (fun a b => by simp; exact List.le_total a b) zs
  exact this.imp fun h => by simp at h; exact List.not_lt.2 h

/-- A list's values, rising, each once. -/
def setI (zs : List Int) : List Int := compact (zs.mergeSort fun x y => decide (x ≤ y))
def setS (zs : List (List UInt8)) : List (List UInt8) := compact (zs.mergeSort fun x y => decide (x ≤ y))
theorem setI_rises (zs : List Int) : Rises (setI zs) := (compact_set _ (sortedInt zs)).1
theorem mem_setI (zs : List Int) (a : Int) : a ∈ setI zs ↔ a ∈ zs := ((compact_set _ (sortedInt zs)).2 a).trans List.mem_mergeSort
theorem setI_length (zs : List Int) : (setI zs).length ≤ zs.length := by
  have := compact_length_le (zs.mergeSort fun x y => decide (x ≤ y)); rwa [List.length_mergeSort] at this
theorem setS_rises (zs : List (List UInt8)) : Rises (setS zs) := (compact_set _ (sortedStr zs)).1
theorem mem_setS (zs : List (List UInt8)) (a : List UInt8) : a ∈ setS zs ↔ a ∈ zs := ((compact_set _ (sortedStr zs)).2 a).trans List.mem_mergeSort
theorem setS_length (zs : List (List UInt8)) : (setS zs).length ≤ zs.length := by
  have := compact_length_le (zs.mergeSort fun x y => decide (x ≤ y)); rwa [List.length_mergeSort] at this

end Go.Proofs.Ythfclmnmnmeldaa
