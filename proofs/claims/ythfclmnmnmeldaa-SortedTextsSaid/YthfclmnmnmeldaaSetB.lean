/- Whether a place is among some: slices.Index and slices.Contains over places. Conditions: the row is of at most the model's greatest length. -/
import Derived.Test.YthfclmnmnmeldaaSetA
namespace Go.Proofs.Ythfclmnmnmeldaa
open Go.RowKit

def encW (c : Nat) : Value := .int .u8 c
/-- The first place of a value. -/
def idxGo : List Nat → Nat → Nat → Int
  | [], _, _ => -1
  | x :: r, a, k => if a = x then k else idxGo r a (k + 1)
theorem idxGo_isIn : ∀ (l : List Nat) (a k : Nat), decide (0 ≤ idxGo l a k) = isIn l a
  | [], a, k => by simp [idxGo, isIn]
  | x :: r, a, k => by
    unfold idxGo
    by_cases h : a = x
    · rw [if_pos h, h]; simp [isIn]
    · rw [if_neg h, idxGo_isIn r a (k + 1)]; unfold isIn; rw [List.contains_cons]; simp [h]
theorem drop_getElem {α : Type} (l : List α) (k : Nat) (h : k < l.length) : ∃ x, l[k]? = some x ∧ l.drop k = x :: l.drop (k + 1) :=
  ⟨l[k], List.getElem?_eq_getElem h, List.drop_eq_getElem_cons h⟩

set_option maxHeartbeats 1000000 in
theorem Index_any (q : Option Addr) (n c a : Nat) (ws : List Nat) (w : World) (h : SlIn encW w q n ws) (hn : n ≤ 140737488355328) :
    Calls Try.prog 61 #[.slice q n c, .int .u8 a] w fun e w' => e = .returned (.int .i64 (idxGo ws a 0)) ∧ w = w' := by
  have hl := h.1
  go_enter Try.func61, Try.ntmps61
  clear hl
  go_wp2
  go_loop [8] (fun i => ∃ k : Nat, k ≤ n ∧ i = .int .i64 k ∧ Hid (idxGo ws a 0 = idxGo (ws.drop k) a k)) (fun i => n - (intOf i).toNat)
  case atStart => exact ⟨0, Nat.zero_le _, rfl, rfl⟩
  case round =>
    obtain ⟨k, hk, rfl, HR⟩ := hrel
    by_cases hlt : k < n
    · obtain ⟨b, o, rfl, _, hc⟩ := h.at (by omega)
      obtain ⟨x, hx, hd⟩ := drop_getElem ws k (by rw [h.1]; exact hlt)
      have hck := hc k x hx
      unfold encW at hck
      have NH := Lib.hid (show idxGo ws a 0 = if a = x then (k : Int) else idxGo (ws.drop (k + 1)) a (k + 1) by rw [HR.out, hd]; rfl)
      clear HR hd hx hc h
      by_cases he : a = x
      · have e1 : ((a : Int) == (x : Int)) = true := by rw [beq_iff_eq, he]
        have H := Lib.hid (show idxGo ws a 0 = (k : Int) by rw [NH.out, if_pos he])
        clear he NH
        go_wp2
        go_ret
        exact ⟨(by rw [H.out]; try rfl), rfl⟩
      · have e1 : ((a : Int) == (x : Int)) = false := by rw [beq_eq_false_iff_ne]; omega
        have H := Lib.hid (show idxGo ws a 0 = idxGo (ws.drop (k + 1)) a (k + 1) by rw [NH.out, if_neg he])
        clear he NH
        go_wp2
        go_round
        case rel => exact ⟨k + 1, by omega, by go_num, H⟩
        case measure => simp [intOf]; omega
    · have H := Lib.hid (show idxGo ws a 0 = -1 by rw [HR.out, List.drop_of_length_le (by rw [h.1]; omega)]; rfl)
      clear HR h
      go_wp2
      go_ret
      exact ⟨(by rw [H.out]; try rfl), rfl⟩

theorem Contains_any (q : Option Addr) (n c a : Nat) (ws : List Nat) (w : World) (h : SlIn encW w q n ws) (hn : n ≤ 140737488355328) :
    Calls Try.prog 46 #[.slice q n c, .int .u8 a] w fun e w' => e = .returned (.bool (isIn ws a)) ∧ w = w' := by
  have H := Lib.hid (idxGo_isIn ws a 0)
  have con := Index_any q n c a ws w h hn
  generalize idxGo ws a 0 = r at con H
  clear h
  go_enter Try.func46, Try.ntmps46
  go_wp2_with fail
  refine con.mono ?_
  rintro e w' ⟨rfl, rfl⟩
  go_wp2
  go_ret
  exact ⟨(by rw [← H.out]; try rfl), rfl⟩

end Go.Proofs.Ythfclmnmnmeldaa
