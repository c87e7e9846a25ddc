/- cut.Lines: its iterator tells the lines. Conditions: a text is of at most the model's greatest length. -/
import Derived.Test.YtcahakelihigdaaCutF
namespace Go.Proofs.Ytcahakelihigdaa
open Go.RowKit Go.Shelf
attribute [local go_sem] Oper.semAt_some

theorem spansGo_from (p : UInt8 → Bool) : ∀ (l : List UInt8) (i f : Nat), f ≤ i → ∀ x ∈ spansGo p l i f, f ≤ x.1 ∧ x.1 ≤ x.2 ∧ x.2 ≤ i + l.length
  | [], i, f, h, x, hx => by
    simp [spansGo] at hx; subst hx; simp; exact h
  | b :: r, i, f, h, x, hx => by
    unfold spansGo at hx
    split at hx
    · rcases List.mem_cons.1 hx with rfl | hx
      · simp; omega
      · have := spansGo_from p r (i + 1) (i + 1) (Nat.le_refl _) x hx
        simp only [List.length_cons]; omega
    · have := spansGo_from p r (i + 1) f (by omega) x hx
      simp only [List.length_cons]; omega
theorem spansGo_rise (p : UInt8 → Bool) : ∀ (l : List UInt8) (i f : Nat), f ≤ i → ∀ pre x rest, spansGo p l i f = pre ++ x :: rest → ∀ y ∈ rest, x.1 ≤ y.1
  | [], i, f, h, pre, x, rest, hx => by
    cases pre with
    | nil => simp [spansGo] at hx; obtain ⟨_, rfl⟩ := hx; intro y hy; cases hy
    | cons a r => simp [spansGo] at hx
  | b :: r, i, f, h, pre, x, rest, hx => by
    unfold spansGo at hx
    split at hx
    · cases pre with
      | nil =>
        simp at hx
        obtain ⟨rfl, rfl⟩ := hx
        intro y hy
        have := spansGo_from p r (i + 1) (i + 1) (Nat.le_refl _) y hy
        simp only; omega
      | cons a t =>
        simp at hx
        exact spansGo_rise p r (i + 1) (i + 1) (Nat.le_refl _) t x rest hx.2
    · exact spansGo_rise p r (i + 1) f (by omega) pre x rest hx

theorem spansL_bounds (p : UInt8 → Bool) (l : List UInt8) (x : Nat × Nat) (h : x ∈ spansL p l) : x.1 ≤ x.2 ∧ x.2 ≤ l.length := by
  have := spansGo_from p l 0 0 (Nat.le_refl _) x h
  omega

/-- The lines of a text, out of the pieces' bounds. -/
def linesOf (l : List UInt8) (xs : List (Nat × Nat)) : List (List UInt8) := (xs.filter fun x => decide (x.1 < l.length)).map fun x => chomp (sub l x.1 x.2)
def linesL (l : List UInt8) : List (List UInt8) := linesOf l (spansL (isB 10) l)
theorem linesOf_snoc (l : List UInt8) (pre : List (Nat × Nat)) (x : Nat × Nat) (h : x.1 < l.length) : linesOf l (pre ++ [x]) = linesOf l pre ++ [chomp (sub l x.1 x.2)] := by
  unfold linesOf
  simp [List.filter_append, h]
theorem linesOf_end (l : List UInt8) (pre : List (Nat × Nat)) (x : Nat × Nat) (rest : List (Nat × Nat)) (hx : spansL (isB 10) l = pre ++ x :: rest) (h : ¬ x.1 < l.length) : linesL l = linesOf l pre := by
  unfold linesL
  rw [hx]
  unfold linesOf
  rw [List.filter_append, List.filter_cons, if_neg (by simpa using h)]
  have : rest.filter (fun x => decide (x.1 < l.length)) = [] := by
    rw [List.filter_eq_nil_iff]
    intro y hy
    have := spansGo_rise (isB 10) l 0 0 (Nat.le_refl _) pre x rest hx y hy
    simp; omega
  rw [this, List.append_nil]
theorem linesOf_mid (l : List UInt8) (pre : List (Nat × Nat)) (x : Nat × Nat) (rest : List (Nat × Nat)) (hx : spansL (isB 10) l = pre ++ x :: rest) (h : x.1 < l.length) : ∃ r, linesL l = linesOf l pre ++ chomp (sub l x.1 x.2) :: r := by
  refine ⟨linesOf l rest, ?_⟩
  unfold linesL
  rw [hx]
  unfold linesOf
  simp [List.filter_append, h]

theorem isByte10 (w : World) :
    Calls Try.prog 39 #[.int .u8 10] w fun e w' => e = .returned (.func (.func 44) #[] #[.pointer (some ⟨w.heap.size, 0, none⟩)]) ∧ w' = w.alloc (.cells #[.int .u8 10] 5) := isByte_any 10 w

end Go.Proofs.Ytcahakelihigdaa
