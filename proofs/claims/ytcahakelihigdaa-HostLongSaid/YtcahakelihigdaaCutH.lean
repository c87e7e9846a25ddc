/- cut.Token. Conditions: a text is of at most the model's greatest length. -/
import Derived.Test.YtcahakelihigdaaCutC
namespace Go.Proofs.Ytcahakelihigdaa
open Go.RowKit

/-- What a token may have beside letters and digits. -/
def marksL : List UInt8 := [33, 35, 36, 37, 38, 39, 42, 43, 45, 46, 94, 95, 96, 124, 126]
def letB (b : UInt8) : Bool := decide (97 ≤ (low b).toNat ∧ (low b).toNat ≤ 122)
def tokB (b : UInt8) : Bool := letB b || digitB b || inB b marksL
def tokL (l : List UInt8) : Bool := !l.isEmpty && l.all tokB

theorem indexByte_nonneg (l : List UInt8) (b : UInt8) : (0 ≤ Lib.indexByte l b) ↔ b ∈ l := by
  induction l with
  | nil => simp [Lib.indexByte]
  | cons x r ih =>
    unfold Lib.indexByte
    by_cases h : x = b
    · subst h; simp
    · rw [if_neg (by simpa using h), List.mem_cons, ← ih]
      have hge := Lib.indexByte_ge r b
      have hb : b ≠ x := Ne.symm h
      simp only [hb, false_or, beq_iff_eq]
      split <;> omega

theorem ltok (b : UInt8) (h : letB b = true) : tokB b = true := by simp [tokB, h]
theorem dtok (b : UInt8) (h : digitB b = true) : tokB b = true := by simp [tokB, h]
theorem mtok (b : UInt8) (h : letB b = false) (h' : digitB b = false) : tokB b = inB b marksL := by simp [tokB, h, h']

theorem all_drop (l : List UInt8) (k : Nat) (h : k < l.length) : (l.drop k).all tokB = (tokB (l.getD k 0) && (l.drop (k + 1)).all tokB) := by
  rw [drop_cons l k h, List.all_cons]

end Go.Proofs.Ytcahakelihigdaa
