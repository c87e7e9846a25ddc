/- Rows of values in memory, and what package sorted says of two rising lists' beginnings. Conditions: a row is of at most the model's greatest length. -/
import Derived.Test.YthfclmnmnmeldaaShelf
import Derived.Test.YthfclmnmnmeldaaSetM
import Derived.Test.YthfclmnmnmeldaaRf
import Derived.WalkKit
import Derived.BigQuiet
import Derived.Deep.QuietTactic
import Derived.WalkSpells
import Derived.WalkLawsBesides
import Derived.Outline
import Derived.Lib.Hide
namespace Go.Proofs.Ythfclmnmnmeldaa
open Go.RowKit

/-- The row at q, of n cells, holds xs. -/
def SlIn {α : Type} (enc : α → Value) (w : World) (q : Option Addr) (n : Nat) (xs : List α) : Prop :=
  xs.length = n ∧ (0 < n → ∃ b o, q = some ⟨b, o, none⟩ ∧ b < w.heap.size ∧ ∀ i x, xs[i]? = some x → w.cell? ⟨b, o + i, none⟩ = some (enc x))

theorem SlIn.nil {α : Type} (enc : α → Value) (w : World) (q : Option Addr) : SlIn enc w q 0 [] := ⟨rfl, fun h => absurd h (by omega)⟩
theorem SlIn.len {α : Type} {enc : α → Value} {w : World} {q : Option Addr} {n : Nat} {xs : List α} (h : SlIn enc w q n xs) : xs.length = n := h.1
theorem SlIn.at {α : Type} {enc : α → Value} {w : World} {q : Option Addr} {n : Nat} {xs : List α} (h : SlIn enc w q n xs) (hn : 0 < n) :
    ∃ b o, q = some ⟨b, o, none⟩ ∧ b < w.heap.size ∧ ∀ i x, xs[i]? = some x → w.cell? ⟨b, o + i, none⟩ = some (enc x) := h.2 hn
theorem SlIn.keep {α : Type} {enc : α → Value} {S : Nat → Prop} {w w' : World} {q : Option Addr} {n : Nat} {xs : List α} (h : SlIn enc w q n xs) (hk : Keep S w w') (hq : ∀ a, q = some a → 0 < n → S a.block) : SlIn enc w' q n xs := by
  refine ⟨h.1, fun hn => ?_⟩
  obtain ⟨b, o, rfl, hb, hc⟩ := h.2 hn
  have hs := hk.size
  exact ⟨b, o, rfl, by omega, fun i x hx => (World.cell?_of_block (hk.block b hb (hq _ rfl hn))).trans (hc i x hx)⟩
theorem SlIn.below {α : Type} {enc : α → Value} {B : Nat} {w w' : World} {q : Option Addr} {n : Nat} {xs : List α} (h : SlIn enc w q n xs) (hk : Below B w w') (hq : ∀ a, q = some a → 0 < n → a.block < B) : SlIn enc w' q n xs :=
  h.keep (Keep.of_below hk) hq
theorem SlIn.lt {α : Type} {enc : α → Value} {w : World} {q : Option Addr} {n : Nat} {xs : List α} (h : SlIn enc w q n xs) : ∀ a, q = some a → 0 < n → a.block < w.heap.size := by
  rintro a rfl hn
  obtain ⟨b, o, hb, hl, _⟩ := h.2 hn
  cases hb
  exact hl
theorem SlIn.drew {α : Type} {enc : α → Value} {w : World} {q : Option Addr} {n : Nat} {xs : List α} (h : SlIn enc w q n xs) : SlIn enc w.drew q n xs := h
theorem SlIn.drewN {α : Type} {enc : α → Value} {w : World} {q : Option Addr} {n : Nat} {xs : List α} (h : SlIn enc w q n xs) (k : Nat) : SlIn enc (w.drewN k) q n xs := h
theorem SlIn.alloc {α : Type} {enc : α → Value} {w : World} {q : Option Addr} {n : Nat} {xs : List α} (h : SlIn enc w q n xs) (o : Obj) : SlIn enc (w.alloc o) q n xs :=
  h.keep (Keep.of_below ((Below.refl _ w).alloc (Nat.le_refl _) o)) h.lt
theorem Keep.drewN (S : Nat → Prop) (w : World) (k : Nat) : Keep S w (w.drewN k) := ⟨rfl, rfl, rfl, Nat.le_refl _, fun _ _ _ => rfl⟩

/-- In which of two rising lists the least value is. -/
def whereL {α : Type} [LT α] [DecidableLT α] : List α → List α → Nat
  | _, [] => 1
  | [], _ :: _ => 2
  | x :: _, y :: _ => if x < y then 1 else if y < x then 2 else 3

theorem whereL_cons {α : Type} [LT α] [DecidableLT α] (x y : α) (xs ys : List α) : whereL (x :: xs) (y :: ys) = if x < y then 1 else if y < x then 2 else 3 := rfl
theorem compareInt_lt (x y : Int) (h : x < y) : Lib.compareInt x y = -1 := by unfold Lib.compareInt; rw [if_pos h]
theorem compareInt_gt (x y : Int) (h : y < x) : Lib.compareInt x y = 1 := by unfold Lib.compareInt; rw [if_neg (by omega), if_pos h]
theorem compareInt_eq (x y : Int) (h : x = y) : Lib.compareInt x y = 0 := by unfold Lib.compareInt; rw [if_neg (by omega), if_neg (by omega)]

theorem whereNext_any (q1 q2 : Option Addr) (n1 c1 n2 c2 : Nat) (xs ys : List Int) (w : World) (h1 : SlIn (Value.int .i64) w q1 n1 xs) (h2 : SlIn (Value.int .i64) w q2 n2 ys) (hn1 : n1 ≤ 140737488355328) (hn2 : n2 ≤ 140737488355328) :
    Calls Try.prog 50 #[.slice q1 n1 c1, .slice q2 n2 c2] w fun e w' => e = .returned (.int .u8 (whereL xs ys : Nat)) ∧ ∃ k, w' = w.drewN k := by
  have l1 := h1.1
  have l2 := h2.1
  cases ys with
  | nil =>
    obtain rfl : n2 = 0 := by simpa using l2.symm
    have H := Lib.hid (show whereL xs [] = 1 by unfold whereL; rfl)
    clear h1 h2 l1 l2
    go_enter Try.func50, Try.ntmps50
    go_wp2
    go_ret
    exact ⟨by rw [H.out]; rfl, 0, rfl⟩
  | cons y ys =>
    have z2 : ((n2 : Int) == 0) = false := by rw [beq_eq_false_iff_ne]; simp at l2; omega
    have p2 : 0 < n2 := by simp at l2; omega
    cases xs with
    | nil =>
      obtain rfl : n1 = 0 := by simpa using l1.symm
      have H := Lib.hid (show whereL ([] : List Int) (y :: ys) = 2 by unfold whereL; rfl)
      clear h1 h2 l1 l2
      go_enter Try.func50, Try.ntmps50
      go_wp2
      go_ret
      exact ⟨by rw [H.out]; rfl, 0, rfl⟩
    | cons x xs =>
      have z1 : ((n1 : Int) == 0) = false := by rw [beq_eq_false_iff_ne]; simp at l1; omega
      have p1 : 0 < n1 := by simp at l1; omega
      obtain ⟨b1, o1, rfl, _, k1⟩ := h1.at p1
      obtain ⟨b2, o2, rfl, _, k2⟩ := h2.at p2
      have e1 : w.cell? ⟨b1, o1, none⟩ = some (.int .i64 x) := k1 0 x rfl
      have e2 : w.cell? ⟨b2, o2, none⟩ = some (.int .i64 y) := k2 0 y rfl
      clear k1 k2 h1 h2 l1 l2
      rcases Int.lt_trichotomy x y with hxy | hxy | hxy
      · have H := Lib.hid (show whereL (x :: xs) (y :: ys) = 1 by rw [whereL_cons]; rw [if_pos hxy])
        have con := fun w => Try.cmp_Compare_int x y w
        rw [compareInt_lt x y hxy] at con
        clear hxy
        go_enter Try.func50, Try.ntmps50
        go_wp2_with (go_quiet ((go_at_call 51; exact Calls.quiet_of_same (con _))))
        go_ret
        exact ⟨by rw [H.out]; rfl, _, rfl⟩
      · have H := Lib.hid (show whereL (x :: xs) (y :: ys) = 3 by rw [whereL_cons]; rw [if_neg (by omega), if_neg (by omega)])
        have con := fun w => Try.cmp_Compare_int x y w
        rw [compareInt_eq x y hxy] at con
        clear hxy
        go_enter Try.func50, Try.ntmps50
        go_wp2_with (go_quiet ((go_at_call 51; exact Calls.quiet_of_same (con _))))
        go_ret
        exact ⟨by rw [H.out]; rfl, _, rfl⟩
      · have H := Lib.hid (show whereL (x :: xs) (y :: ys) = 2 by rw [whereL_cons]; rw [if_neg (by omega), if_pos hxy])
        have con := fun w => Try.cmp_Compare_int x y w
        rw [compareInt_gt x y hxy] at con
        clear hxy
        go_enter Try.func50, Try.ntmps50
        go_wp2_with (go_quiet ((go_at_call 51; exact Calls.quiet_of_same (con _))))
        go_ret
        exact ⟨by rw [H.out]; rfl, _, rfl⟩

end Go.Proofs.Ythfclmnmnmeldaa
