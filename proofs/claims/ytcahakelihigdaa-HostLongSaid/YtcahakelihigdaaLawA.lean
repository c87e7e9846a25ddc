/- What the law's own helper all collects of an iterator. Conditions: at most 2^40 pieces. -/
import Derived.Test.YtcahakelihigdaaCutG
import Derived.Maps.AppendAt
import Derived.Maps.OwnIn
import Derived.RangeFuncBox
namespace Go.Proofs.Ytcahakelihigdaa
open Go.RowKit Go.Shelf
attribute [local go_sem] Oper.semAt_some

/-- A text as a value. -/
def strV (x : List UInt8) : Value := .string ⟨x.toArray⟩
theorem strOfNums_numsL (x : List UInt8) : strOfNums (Lib.numsL x) = ⟨x.toArray⟩ := by
  unfold strOfNums
  rw [show (Lib.numsL x).map (fun n => UInt8.ofNat n.toNat) = x from Lib.bytesOf_numsL x]
theorem info_str : (Try.prog.info? 9).map (fun i => (i.zero, i.size, i.bytes)) = some (some (.string ByteArray.empty), 1, 16) := by kernel_rfl

/-- Between two rounds: what has come lies in out. -/
def AllI (n₀ Bo : Nat) (w : World) (pre : List (List UInt8)) (Pv : Nat → Prop) (W : World) : Prop :=
  ∃ v, Boxed W Bo 34 v ∧ W.ownsRow n₀ 9 1 v pre.length (pre.map strV) ∧ (∀ b, Pv b → n₀ ≤ b) ∧ ¬ Pv Bo ∧ (∀ b, v.ownBlock = some b → ¬ Pv b) ∧ Below n₀ w W

theorem AllI_abide (n₀ Bo : Nat) (w : World) (hn : n₀ ≤ w.heap.size) : Abide (AllI n₀ Bo w) := by
  rintro pre Pv Pv' A B ⟨v, h1, h2, h3, h4, h5, h6⟩ hk hp
  have hs := h6.size
  refine ⟨v, hk.boxed h1 h4, hk.row h2 h5, fun b hb => ?_, fun hb => ?_, fun b hb hp' => ?_, h6.trans ⟨hk.os, hk.tape, hk.output, hk.size, fun k hk' => hk.block k (by omega) (fun hpk => by have := h3 k hpk; omega)⟩⟩
  · rcases (hp b hb).1 with h | h
    · exact h3 b h
    · omega
  · rcases (hp _ hb).1 with h | h
    · exact h4 h
    · have := h1.lt; omega
  · rcases (hp _ hp').1 with h | h
    · exact h5 b hb h
    · have := (h2.lt b hb).2; omega

end Go.Proofs.Ytcahakelihigdaa
