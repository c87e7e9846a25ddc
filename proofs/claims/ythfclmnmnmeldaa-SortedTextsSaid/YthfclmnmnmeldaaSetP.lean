/- The document's own answers on lists of numbers: In, Cmp, Both. Conditions: a row is of at most the model's greatest length. -/
import Derived.Test.YthfclmnmnmeldaaSetO
namespace Go.Proofs.Ythfclmnmnmeldaa
open Go.RowKit Go.Shelf

set_option maxHeartbeats 1000000 in
theorem In_any (q : Option Addr) (n c : Nat) (xs : List Int) (x : Int) (w : World) (h : SlIn (Value.int .i64) w q n xs) (hn : n ≤ 140737488355328) :
    Calls Try.prog 19 #[.slice q n c, .int .i64 x] w fun e w' => e = .returned (.bool (hasL xs x)) ∧ w = w' := by
  have hl := Lib.hid h.1
  go_enter Try.func19, Try.ntmps19
  go_wp2
  go_loop [9] (fun i => ∃ k : Nat, k ≤ n ∧ i = .int .i64 k ∧ Hid (hasL xs x = hasL (xs.drop k) x)) (fun i => n - (intOf i).toNat)
  case atStart => exact ⟨0, Nat.zero_le _, rfl, rfl⟩
  case round =>
    obtain ⟨k, hk, rfl, HR⟩ := hrel
    by_cases hlt : k < n
    · obtain ⟨b, o, rfl, _, hc⟩ := h.at (by omega)
      obtain ⟨y, hy, hd⟩ := drop_getElem xs k (by rw [hl.out]; exact hlt)
      have hck := hc k y hy
      have NH := Lib.hid (show hasL xs x = (x == y || hasL (xs.drop (k + 1)) x) by rw [HR.out, hd]; unfold hasL; rw [List.contains_cons])
      clear HR hd hy hc h
      by_cases he : x = y
      · have e1 : (x == y) = true := by rw [beq_iff_eq, he]
        have H := Lib.hid (show hasL xs x = true by rw [NH.out, e1]; rfl)
        clear he NH
        go_wp2
        go_ret
        exact ⟨(by rw [H.out]; try rfl), rfl⟩
      · have e1 : (x == y) = false := by rw [beq_eq_false_iff_ne]; exact he
        have H := Lib.hid (show hasL xs x = hasL (xs.drop (k + 1)) x by rw [NH.out, e1]; rfl)
        clear he NH
        go_wp2
        go_round
        case rel => exact ⟨k + 1, by omega, by go_num, H⟩
        case measure => simp [intOf]; omega
    · have H := Lib.hid (show hasL xs x = false by rw [HR.out, List.drop_of_length_le (by rw [hl.out]; omega)]; rfl)
      clear HR h
      go_wp2
      go_ret
      exact ⟨(by rw [H.out]; try rfl), rfl⟩

set_option maxHeartbeats 2000000 in
theorem refCmp_any (q1 q2 : Option Addr) (n1 c1 n2 c2 : Nat) (xs ys : List Int) (w : World) (h1 : SlIn (Value.int .i64) w q1 n1 xs) (h2 : SlIn (Value.int .i64) w q2 n2 ys) (hn1 : n1 ≤ 140737488355328) (hn2 : n2 ≤ 140737488355328) :
    Calls Try.prog 22 #[.slice q1 n1 c1, .slice q2 n2 c2] w fun e w' => e = .returned (.int .i64 (cmpL xs ys)) ∧ Below w.heap.size w w' := by
  have hl1 := Lib.hid h1.1
  have hl2 := Lib.hid h2.1
  go_enter Try.func22, Try.ntmps22
  go_wp2
  go_loopw [5] (fun i wr => ∃ k d : Nat, k ≤ n1 ∧ k ≤ n2 ∧ i = .int .i64 k ∧ wr = w.drewN d ∧ Hid (cmpL xs ys = cmpL (xs.drop k) (ys.drop k))) (fun i _ => n1 - (intOf i).toNat)
  case atStart => exact ⟨0, 0, Nat.zero_le _, Nat.zero_le _, rfl, rfl, rfl⟩
  case round =>
    obtain ⟨k, d, hk1, hk2, rfl, rfl, HR⟩ := hrel
    by_cases hlt : k < n1
    · obtain ⟨b1, o1, rfl, _, e1⟩ := h1.at (by omega)
      obtain ⟨x, hx, hd1⟩ := drop_getElem xs k (by rw [hl1.out]; exact hlt)
      have ck1 := e1 k x hx
      by_cases hlt2 : k < n2
      · obtain ⟨b2, o2, rfl, _, e2⟩ := h2.at (by omega)
        obtain ⟨y, hy, hd2⟩ := drop_getElem ys k (by rw [hl2.out]; exact hlt2)
        have ck2 := e2 k y hy
        have NH := Lib.hid (show cmpL xs ys = if x < y then -1 else if y < x then 1 else cmpL (xs.drop (k + 1)) (ys.drop (k + 1)) by rw [HR.out, hd1, hd2]; rfl)
        clear HR hd1 hd2 hx hy e1 e2 h1 h2
        rcases Int.lt_trichotomy x y with hxy | hxy | hxy
        · have H := Lib.hid (show cmpL xs ys = -1 by rw [NH.out, if_pos hxy])
          have d1 : decide (x < y) = true := by simpa using hxy
          clear hxy NH
          go_wp2_with (go_quiet (fail))
          go_ret
          exact ⟨(by rw [H.out]; try rfl), ⟨rfl, rfl, rfl, Nat.le_refl _, fun _ _ => rfl⟩⟩
        · have H := Lib.hid (show cmpL xs ys = cmpL (xs.drop (k + 1)) (ys.drop (k + 1)) by rw [NH.out, if_neg (by omega), if_neg (by omega)])
          have d1 : decide (x < y) = false := by simp; omega
          have d2 : decide (y < x) = false := by simp; omega
          clear hxy NH
          go_wp2_with (go_quiet (fail))
          go_roundw
          case rel => exact ⟨k + 1, _, by omega, by omega, by go_num, rfl, H⟩
          case measure => simp [intOf]; omega
        · have H := Lib.hid (show cmpL xs ys = 1 by rw [NH.out, if_neg (by omega), if_pos hxy])
          have d1 : decide (x < y) = false := by simp; omega
          have d2 : decide (y < x) = true := by simpa using hxy
          clear hxy NH
          go_wp2_with (go_quiet (fail))
          go_ret
          exact ⟨(by rw [H.out]; try rfl), ⟨rfl, rfl, rfl, Nat.le_refl _, fun _ _ => rfl⟩⟩
      · have H := Lib.hid (show cmpL xs ys = 1 by rw [HR.out, hd1, List.drop_of_length_le (l := ys) (by rw [hl2.out]; omega)]; rfl)
        have d2 : decide ((n1 : Int) < (n2 : Int)) = false := by simp; omega
        have d3 : decide ((n2 : Int) < (n1 : Int)) = true := by simp; omega
        clear HR hd1 hx e1 h1 h2
        go_wp2
        go_ret
        exact ⟨(by rw [H.out]; try rfl), ⟨rfl, rfl, rfl, Nat.le_refl _, fun _ _ => rfl⟩⟩
    · obtain rfl : k = n1 := by omega
      have hd1 : xs.drop k = [] := List.drop_of_length_le (by rw [hl1.out]; omega)
      clear h1 h2
      by_cases hlt2 : k < n2
      · obtain ⟨y, hy, hd2⟩ := drop_getElem ys k (by rw [hl2.out]; exact hlt2)
        have H := Lib.hid (show cmpL xs ys = -1 by rw [HR.out, hd1, hd2]; rfl)
        have d2 : decide ((k : Int) < (n2 : Int)) = true := by simp; omega
        clear HR hd1 hd2 hy
        go_wp2
        go_ret
        exact ⟨(by rw [H.out]; try rfl), ⟨rfl, rfl, rfl, Nat.le_refl _, fun _ _ => rfl⟩⟩
      · have H := Lib.hid (show cmpL xs ys = 0 by rw [HR.out, hd1, List.drop_of_length_le (l := ys) (by rw [hl2.out]; omega)]; rfl)
        have d2 : decide ((k : Int) < (n2 : Int)) = false := by simp; omega
        have d3 : decide ((n2 : Int) < (k : Int)) = false := by simp; omega
        clear HR hd1
        go_wp2
        go_ret
        exact ⟨(by rw [H.out]; try rfl), ⟨rfl, rfl, rfl, Nat.le_refl _, fun _ _ => rfl⟩⟩

end Go.Proofs.Ythfclmnmnmeldaa
