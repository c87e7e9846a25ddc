/- Pieces put together again are the text. Conditions: none. -/
import Derived.Test.YtefgccdpgfdelaaCutJ
import Derived.Test.YtefgccdpgfdelaaOrdP
namespace Go.Proofs.Ytefgccdpgfdelaa
open Go.RowKit Go.Shelf

/-- Pieces with a byte between them. -/
def joinB (c : UInt8) : List (List UInt8) → List UInt8
  | [] => []
  | [x] => x
  | x :: y :: r => x ++ c :: joinB c (y :: r)
theorem joinB_cons (c : UInt8) (x : List UInt8) (r : List (List UInt8)) (h : r ≠ []) : joinB c (x :: r) = x ++ c :: joinB c r := by
  cases r with
  | nil => exact absurd rfl h
  | cons y r => rfl
theorem joinB_snoc (c : UInt8) (p : List UInt8) : ∀ (ps : List (List UInt8)), ps ≠ [] → joinB c (ps ++ [p]) = joinB c ps ++ c :: p
  | [], h => absurd rfl h
  | [x], _ => rfl
  | x :: y :: r, _ => by
    have ih := joinB_snoc c p (y :: r) (by simp)
    rw [List.cons_append, joinB_cons c x _ (by simp), ih, joinB_cons c x (y :: r) (by simp), List.append_assoc]
    rfl
theorem joinB_go (c : UInt8) (L : List UInt8) : ∀ (l : List UInt8) (i f : Nat), f ≤ i → l = L.drop i → i ≤ L.length → joinB c ((spansGo (isB c) l i f).map fun x => sub L x.1 x.2) = L.drop f
  | [], i, f, h, hl, hi => by
    have : i = L.length := by
      have := congrArg List.length hl
      simp at this
      omega
    subst this
    show sub L f L.length = L.drop f
    unfold sub
    exact List.take_of_length_le (by simp)
  | b :: r, i, f, h, hl, hi => by
    have hlt : i < L.length := by
      have := congrArg List.length hl
      simp at this
      omega
    have hd := drop_cons L i hlt
    rw [hd] at hl
    have hb : b = L.getD i 0 := (List.cons.inj hl).1
    have hr : r = L.drop (i + 1) := (List.cons.inj hl).2
    unfold spansGo
    split
    · rename_i hp
      have hbc : b = c := by unfold isB at hp; simpa using hp
      have ih := joinB_go c L r (i + 1) (i + 1) (Nat.le_refl _) hr (by omega)
      rw [List.map_cons, joinB_cons c _ _ (by
        intro h0
        have : (spansGo (isB c) r (i + 1) (i + 1)) = [] := by simpa using h0
        cases r with
        | nil => simp [spansGo] at this
        | cons a t =>
          unfold spansGo at this
          split at this
          · cases this
          · exact absurd this (by
              have hne : ∀ (l : List UInt8) (i f : Nat), spansGo (isB c) l i f ≠ [] := by
                intro l
                induction l with
                | nil => intro i f; simp [spansGo]
                | cons a t ih => intro i f; unfold spansGo; split <;> simp [ih]
              exact hne _ _ _)), ih]
      have e1 : L.drop f = sub L f i ++ L.drop i := by
        have := (List.take_append_drop (i - f) (L.drop f)).symm
        rw [List.drop_drop, show f + (i - f) = i by omega] at this
        exact this
      rw [e1, hd, ← hb, hbc]
    · exact joinB_go c L r (i + 1) f (by omega) hr (by omega)
theorem joinB_pieces (c : UInt8) (l : List UInt8) : joinB c (piecesOf l (spansL (isB c) l)) = l := by
  have := joinB_go c l l 0 0 (Nat.le_refl _) rfl (Nat.zero_le _)
  simpa [piecesOf, spansL] using this
/-- The first k pieces together are no longer than all. -/
theorem joinB_take_le (c : UInt8) (ps : List (List UInt8)) : ∀ k, k ≤ ps.length → (joinB c (ps.take k)).length ≤ (joinB c ps).length := by
  intro k hk
  induction h : ps.length - k generalizing k with
  | zero => rw [List.take_of_length_le (by omega)]; exact Nat.le_refl _
  | succ d ih =>
    have h1 := ih (k + 1) (by omega) (by omega)
    refine Nat.le_trans ?_ h1
    rw [List.take_succ_eq_append_getElem (by omega)]
    by_cases h0 : ps.take k = []
    · rw [h0]; simp [joinB]
    · rw [joinB_snoc c _ _ h0]; simp

end Go.Proofs.Ytefgccdpgfdelaa
