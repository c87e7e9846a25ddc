/- What the law's own helper counted collects of an iterator that counts. Conditions: at most 2^40 pieces. -/
import Derived.Test.YtcahakelihigdaaLawA
import Derived.Test.YtcahakelihigdaaCutI
namespace Go.Proofs.Ytcahakelihigdaa
open Go.RowKit Go.Shelf
attribute [local go_sem] Oper.semAt_some

theorem row_form {W : World} {base : Nat} {e : TypeId} {size n : Nat} {v : Value} {xs : List Value} (h : W.ownsRow base e size v n xs) : ∃ q c, v = .slice q n c := by
  rcases h.2 with ⟨rfl, rfl⟩ | ⟨g, cap, cur, rfl, _⟩
  · exact ⟨none, 0, rfl⟩
  · exact ⟨_, _, rfl⟩
def strN (x : Nat × List UInt8) : Value := strV x.2

/-- Between two rounds: what has come lies in out. -/
def CntI (n₀ Bo : Nat) (w : World) (pre : List (Nat × List UInt8)) (Pv : Nat → Prop) (W : World) : Prop :=
  ∃ v, Boxed W Bo 34 v ∧ Boxed W (Bo + 1) 4 (.bool true) ∧ W.ownsRow n₀ 9 1 v pre.length (pre.map strN) ∧ (∀ b, Pv b → n₀ ≤ b) ∧ (¬ Pv Bo ∧ ¬ Pv (Bo + 1)) ∧ (∀ b, v.ownBlock = some b → ¬ Pv b) ∧ Below n₀ w W

theorem CntI_abide (n₀ Bo : Nat) (w : World) (hn : n₀ ≤ w.heap.size) : Abide (CntI n₀ Bo w) := by
  rintro pre Pv Pv' A B ⟨v, h1, h1', h2, h3, ⟨h4, h4'⟩, h5, h6⟩ hk hp
  have hs := h6.size
  refine ⟨v, hk.boxed h1 h4, hk.boxed h1' h4', hk.row h2 h5, fun b hb => ?_, ⟨fun hb => ?_, fun hb => ?_⟩, fun b hb hp' => ?_, h6.trans ⟨hk.os, hk.tape, hk.output, hk.size, fun k hk' => hk.block k (by omega) (fun hpk => by have := h3 k hpk; omega)⟩⟩
  · rcases (hp b hb).1 with h | h
    · exact h3 b h
    · omega
  · rcases (hp _ hb).1 with h | h
    · exact h4 h
    · have := h1.lt; omega
  · rcases (hp _ hb).1 with h | h
    · exact h4' h
    · have := h1'.lt; omega
  · rcases (hp _ hp').1 with h | h
    · exact h5 b hb h
    · have := (h2.lt b hb).2; omega

end Go.Proofs.Ytcahakelihigdaa
