/- Handles in plain words: those that were given, those whose things have gone. Conditions: none. -/
import Derived.Test.YtkpcakmkmkidpaaArnO
namespace Go.Proofs.Ytkpcakmkmkidpaa.Arn
set_option linter.unusedVariables false

/-- A handle that was given. -/
def Used (sl : List (Sl Int)) (h : Int) : Prop := ∃ (i n : Nat) (s : Sl Int), h = hOf n i ∧ 1 ≤ n ∧ i < 1024 ∧ sl[i]? = some s ∧ n ≤ s.n
/-- A handle whose thing has gone. -/
def Dead (sl : List (Sl Int)) (h : Int) : Prop := ∃ (i n : Nat) (s : Sl Int), h = hOf n i ∧ i < 1024 ∧ sl[i]? = some s ∧ n ≤ s.n ∧ (n = s.n → s.x = none)
theorem Dead.find {sl : List (Sl Int)} {h : Int} (hd : Dead sl h) (hl : sl.length ≤ 1024) : findS sl h = none := by
  obtain ⟨i, n, s, rfl, hi, hs, hn, hx⟩ := hd
  cases hf : findS sl (hOf n i) with
  | none => rfl
  | some j =>
    obtain ⟨t, x, h1, h2, h3⟩ := (find_is sl _ j hl).1 hf
    have hj := (List.getElem?_eq_some_iff.1 h1).1
    obtain ⟨e1, e2⟩ := hOf_inj hi (by omega) h3
    subst e2
    rw [hs] at h1
    cases h1
    rw [hx e1] at h2
    cases h2
/-- What Put does to what it does not give. -/
theorem put_cases (size : Nat) (sl : List (Sl Int)) (x : Int) (hl : sl.length ≤ size) (hz : size ≤ 1024) :
    (putE size sl = 6 ∧ putHd size sl = 0 ∧ putL size sl x = sl) ∨
    (putE size sl = 0 ∧ ¬ Used sl (putHd size sl) ∧ Used (putL size sl x) (putHd size sl) ∧ (∀ h, Used sl h → Used (putL size sl x) h) ∧ ∀ h, Dead sl h → Dead (putL size sl x) h) := by
  cases hf : freeF sl with
  | some i =>
    obtain ⟨s, hs, hx⟩ := free_lt sl i hf
    have hi := (List.getElem?_eq_some_iff.1 hs).1
    have e1 : putE size sl = 0 := by unfold putE; simp only [hf]
    have e2 : putHd size sl = hOf (s.n + 1) i := by unfold putHd; simp only [hf, hs]
    have e3 : putL size sl x = sl.set i ⟨s.n + 1, some x⟩ := by unfold putL; simp only [hf, hs]
    have hset : (sl.set i ⟨s.n + 1, some x⟩)[i]? = some ⟨s.n + 1, some x⟩ := by simp [hi]
    refine .inr ⟨e1, ?_, ?_, fun h => ?_, fun h => ?_⟩
    · rw [e2]
      rintro ⟨j, n, t, h1, h2, h3, h4, h5⟩
      obtain ⟨f1, f2⟩ := hOf_inj (by omega) h3 h1
      subst f2
      rw [hs] at h4
      cases h4
      omega
    · rw [e2, e3]
      exact ⟨i, s.n + 1, _, rfl, by omega, by omega, hset, Nat.le_refl _⟩
    · rw [e3]
      rintro ⟨j, n, t, h1, h2, h3, h4, h5⟩
      by_cases hji : i = j
      · subst hji
        rw [hs] at h4
        cases h4
        exact ⟨i, n, _, h1, h2, h3, hset, Nat.le_succ_of_le h5⟩
      · exact ⟨j, n, t, h1, h2, h3, by rw [List.getElem?_set_ne hji]; exact h4, h5⟩
    · rw [e3]
      rintro ⟨j, n, t, h1, h3, h4, h5, h6⟩
      by_cases hji : i = j
      · subst hji
        rw [hs] at h4
        cases h4
        exact ⟨i, n, _, h1, h3, hset, Nat.le_succ_of_le h5, fun e => by simp only at e; omega⟩
      · exact ⟨j, n, t, h1, h3, by rw [List.getElem?_set_ne hji]; exact h4, h5, h6⟩
  | none =>
    by_cases hlt : sl.length < size
    · have e1 : putE size sl = 0 := by unfold putE; simp only [hf, if_pos hlt]
      have e2 : putHd size sl = hOf 1 sl.length := by unfold putHd; simp only [hf, if_pos hlt]
      have e3 : putL size sl x = sl ++ [⟨1, some x⟩] := by unfold putL; simp only [hf, if_pos hlt]
      have hin : ∀ (j : Nat) (t : Sl Int), sl[j]? = some t → (sl ++ [(⟨1, some x⟩ : Sl Int)])[j]? = some t := fun j t ht => by
        rw [List.getElem?_append_left (List.getElem?_eq_some_iff.1 ht).1]; exact ht
      refine .inr ⟨e1, ?_, ?_, fun h => ?_, fun h => ?_⟩
      · rw [e2]
        rintro ⟨j, n, t, h1, h2, h3, h4, h5⟩
        obtain ⟨f1, f2⟩ := hOf_inj (by omega) h3 h1
        have := (List.getElem?_eq_some_iff.1 h4).1
        omega
      · rw [e2, e3]
        exact ⟨sl.length, 1, ⟨1, some x⟩, rfl, by omega, by omega, by simp, Nat.le_refl _⟩
      · rw [e3]
        rintro ⟨j, n, t, h1, h2, h3, h4, h5⟩
        exact ⟨j, n, t, h1, h2, h3, hin j t h4, h5⟩
      · rw [e3]
        rintro ⟨j, n, t, h1, h3, h4, h5, h6⟩
        exact ⟨j, n, t, h1, h3, hin j t h4, h5, h6⟩
    · exact .inl ⟨by unfold putE; simp only [hf, if_neg hlt], by unfold putHd; simp only [hf, if_neg hlt], by unfold putL; simp only [hf, if_neg hlt]⟩
/-- Dropping what is there. -/
theorem drop_cases {sl : List (Sl Int)} {n : Int} (hl : sl.length ≤ 1024) (hb : (someF ((allS 0 sl).map Prod.fst) n).2 = true) :
    (findS sl (someF ((allS 0 sl).map Prod.fst) n).1).isSome = true ∧ Dead (dropS sl (someF ((allS 0 sl).map Prod.fst) n).1) (someF ((allS 0 sl).map Prod.fst) n).1 ∧
    (∀ h, Used sl h → Used (dropS sl (someF ((allS 0 sl).map Prod.fst) n).1) h) ∧ ∀ h, Dead sl h → Dead (dropS sl (someF ((allS 0 sl).map Prod.fst) n).1) h := by
  obtain ⟨y, hy, hm⟩ : ∃ y, (someF ((allS 0 sl).map Prod.fst) n).1 = y ∧ y ∈ (allS 0 sl).map Prod.fst := by
    unfold someF at hb ⊢
    split at hb
    · cases hb
    · rename_i hne
      rw [if_neg hne]
      refine ⟨_, rfl, ?_⟩
      obtain ⟨y, hy⟩ : ∃ y, ((allS 0 sl).map Prod.fst)[(n % 18446744073709551616).toNat % ((allS 0 sl).map Prod.fst).length]? = some y := ⟨_, List.getElem?_eq_getElem (Nat.mod_lt _ (by omega))⟩
      show ((allS 0 sl).map Prod.fst).getD _ 0 ∈ _
      rw [List.getD, hy]
      exact List.mem_of_getElem? hy
  rw [hy]
  obtain ⟨⟨h', x'⟩, hm2, rfl⟩ := List.mem_map.1 hm
  obtain ⟨i, s, h1, h2, h3⟩ := (all_mem sl 0 h' x').1 hm2
  rw [Nat.zero_add] at h3
  subst h3
  have hi := (List.getElem?_eq_some_iff.1 h1).1
  have hf : findS sl (hOf s.n i) = some i := (find_is sl _ i hl).2 ⟨s, x', h1, h2, rfl⟩
  have e3 : dropS sl (hOf s.n i) = sl.set i ⟨s.n, none⟩ := by unfold dropS; simp only [hf, h1]
  have hset : (sl.set i (⟨s.n, none⟩ : Sl Int))[i]? = some ⟨s.n, none⟩ := by simp [hi]
  refine ⟨by simp only; rw [hf]; rfl, ?_, fun h => ?_, fun h => ?_⟩
  · simp only
    rw [e3]
    exact ⟨i, s.n, _, rfl, by omega, hset, Nat.le_refl _, fun _ => rfl⟩
  · simp only
    rw [e3]
    rintro ⟨j, n, t, g1, g2, g3, g4, g5⟩
    by_cases hji : i = j
    · subst hji
      rw [h1] at g4
      cases g4
      exact ⟨i, n, _, g1, g2, g3, hset, g5⟩
    · exact ⟨j, n, t, g1, g2, g3, by rw [List.getElem?_set_ne hji]; exact g4, g5⟩
  · simp only
    rw [e3]
    rintro ⟨j, n, t, g1, g3, g4, g5, g6⟩
    by_cases hji : i = j
    · subst hji
      rw [h1] at g4
      cases g4
      exact ⟨i, n, _, g1, g3, hset, g5, fun _ => rfl⟩
    · exact ⟨j, n, t, g1, g3, by rw [List.getElem?_set_ne hji]; exact g4, g5, g6⟩
end Go.Proofs.Ytkpcakmkmkidpaa.Arn
