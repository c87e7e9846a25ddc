/- package sorted: Len, At, Has, Cmp. Conditions: a row is of at most the model's greatest length. -/
import Derived.Test.YthfclmnmnmeldaaSetH
namespace Go.Proofs.Ythfclmnmnmeldaa
open Go.RowKit Go.Shelf

/-- The value at a place. -/
def atL (xs : List Int) (i : Int) : Option Int := if 0 ≤ i then xs[i.toNat]? else none
def hasL (xs : List Int) (x : Int) : Bool := xs.contains x

theorem Len_any (v : Value) (xs : List Int) (w : World) (h : SetIs (Value.int .i64) w v xs) :
    Calls Try.prog 30 #[v] w fun e w' => e = .returned (.int .i64 xs.length) ∧ Below w.heap.size w w' := by
  obtain ⟨q, n, c, rfl, _, _, hs, _⟩ := h
  have hl := Lib.hid hs.1
  clear hs
  go_enter Try.func30, Try.ntmps30
  go_wp2
  go_ret
  exact ⟨(by rw [hl.out]; try rfl), below_alloc _⟩

set_option maxHeartbeats 1000000 in
theorem At_any (v : Value) (xs : List Int) (i : Int) (w : World) (h : SetIs (Value.int .i64) w v xs) :
    Calls Try.prog 17 #[v, .int .i64 i] w fun e w' => e = .returned (.tuple #[.int .i64 ((atL xs i).getD 0), .bool (atL xs i).isSome]) ∧ Below w.heap.size w w' := by
  obtain ⟨q, n, c, rfl, _, hn, hs, _⟩ := h
  have hl := hs.1
  by_cases h0 : i < 0
  · have H := Lib.hid (show atL xs i = none by unfold atL; rw [if_neg (by omega)])
    have d0 : decide (i < 0) = true := by simpa using h0
    clear hs hl
    go_enter Try.func17, Try.ntmps17
    go_wp2
    go_ret2
    exact ⟨(by rw [H.out]; try rfl), below_alloc _⟩
  · have d0 : decide (i < 0) = false := by simpa using h0
    by_cases h1 : (n : Int) ≤ i
    · have H := Lib.hid (show atL xs i = none by unfold atL; rw [if_pos (by omega), List.getElem?_eq_none (by omega)])
      have d1 : decide ((n : Int) ≤ i) = true := by simpa using h1
      clear hs hl
      go_enter Try.func17, Try.ntmps17
      go_wp2
      go_ret2
      exact ⟨(by rw [H.out]; try rfl), below_alloc _⟩
    · have d1 : decide ((n : Int) ≤ i) = false := by simpa using h1
      obtain ⟨k, rfl⟩ : ∃ k : Nat, i = k := ⟨i.toNat, by omega⟩
      have hkn : k < n := by omega
      obtain ⟨x, hx, _⟩ := drop_getElem xs k (by omega)
      have H := Lib.hid (show atL xs (k : Int) = some x by unfold atL; rw [if_pos (by omega)]; simpa using hx)
      obtain ⟨b, o, rfl, hb, hc⟩ := hs.at (by omega)
      have hck := hc k x hx
      have hck' : (w.alloc (.cells #[.slice (some ⟨b, o, none⟩) n c] 25)).cell? ⟨b, o + k, none⟩ = some (.int .i64 x) := (World.cell?_of_block (Below.heap_alloc w _ b hb)).trans hck
      clear hs hl hc hx hck h0 h1
      go_enter Try.func17, Try.ntmps17
      go_wp2
      go_ret2
      exact ⟨(by rw [H.out]; try rfl), below_alloc _⟩

theorem Has_any (v : Value) (xs : List Int) (x : Int) (w : World) (h : SetIs (Value.int .i64) w v xs) :
    Calls Try.prog 18 #[v, .int .i64 x] w fun e w' => e = .returned (.bool (hasL xs x)) ∧ Below w.heap.size w w' := by
  obtain ⟨q, n, c, rfl, _, hn, hs, hr⟩ := h
  have hl := hs.1
  have con : Calls Try.prog 35 #[.slice q n c, .int .i64 x] (w.alloc (.cells #[.slice q n c] 25)) fun e w' => ∃ k : Nat, e = .returned (.tuple #[.int .i64 k, .bool (hasL xs x)]) ∧ Below w.heap.size w w' := by
    have hs2 := hs.alloc (.cells #[.slice q n c] 25)
    rcases Nat.eq_zero_or_pos n with h0 | h0
    · subst h0
      obtain rfl : xs = [] := List.eq_nil_of_length_eq_zero hl
      exact (Try.slices_BinarySearch_int_empty q c x _).mono fun e w' ⟨he, hw⟩ => ⟨0, he, by rw [hw]; exact below_alloc _⟩
    · obtain ⟨b, o, rfl, hb, hc⟩ := hs2.at h0
      refine (Try.slices_BinarySearch_int b o n c xs x _ (by omega) (by omega) (fun j hj => ?_) ?_).mono fun e w' ⟨he, k, hw⟩ => ⟨(xs.take n).countP (fun y => decide (y < x)), ?_, ?_⟩
      · have := hc j xs[j] (List.getElem?_eq_getElem hj)
        rw [this]; simp [List.getD, List.getElem?_eq_getElem hj]
      · rw [List.take_of_length_le (by omega)]
        exact hr.imp fun h => Int.le_of_lt h
      · rw [he]; unfold hasL; rw [List.take_of_length_le (by omega)]
      · rw [hw]; exact (below_alloc _).trans ⟨rfl, rfl, rfl, Nat.le_refl _, fun _ _ => rfl⟩
  clear hs hr hl
  generalize hasL xs x = r at con ⊢
  go_enter Try.func18, Try.ntmps18
  go_wp2_with fail
  refine con.mono ?_
  rintro e w' ⟨k, rfl, hb⟩
  go_wp2
  go_ret
  exact ⟨rfl, hb⟩

set_option maxHeartbeats 2000000 in
theorem Compare_any (q1 q2 : Option Addr) (n1 c1 n2 c2 : Nat) (xs ys : List Int) (w : World) (h1 : SlIn (Value.int .i64) w q1 n1 xs) (h2 : SlIn (Value.int .i64) w q2 n2 ys) (hn1 : n1 ≤ 140737488355328) (hn2 : n2 ≤ 140737488355328) :
    Calls Try.prog 37 #[.slice q1 n1 c1, .slice q2 n2 c2] w fun e w' => e = .returned (.int .i64 (cmpL xs ys)) ∧ w = w' := by
  have hl1 := Lib.hid h1.1
  have hl2 := Lib.hid h2.1
  go_enter Try.func37, Try.ntmps37
  go_wp2
  go_loop [11] (fun i => ∃ k : Nat, k ≤ n1 ∧ k ≤ n2 ∧ i = .int .i64 k ∧ Hid (cmpL xs ys = cmpL (xs.drop k) (ys.drop k))) (fun i => n1 - (intOf i).toNat)
  case atStart => exact ⟨0, Nat.zero_le _, Nat.zero_le _, rfl, rfl⟩
  case round =>
    obtain ⟨k, hk1, hk2, rfl, HR⟩ := hrel
    have con := fun (x y : Int) w => Try.cmp_Compare_int x y w
    by_cases hlt : k < n1
    · obtain ⟨b1, o1, rfl, _, e1⟩ := h1.at (by omega)
      obtain ⟨x, hx, hd1⟩ := drop_getElem xs k (by rw [hl1.out]; exact hlt)
      have ck1 := e1 k x hx
      by_cases hlt2 : k < n2
      · obtain ⟨b2, o2, rfl, _, e2⟩ := h2.at (by omega)
        obtain ⟨y, hy, hd2⟩ := drop_getElem ys k (by rw [hl2.out]; exact hlt2)
        have ck2 := e2 k y hy
        have NH := Lib.hid (show cmpL xs ys = if x < y then -1 else if y < x then 1 else cmpL (xs.drop (k + 1)) (ys.drop (k + 1)) by rw [HR.out, hd1, hd2]; rfl)
        have d2 : decide ((n2 : Int) ≤ (k : Int)) = false := by simp; omega
        clear HR hd1 hd2 hx hy e1 e2 h1 h2
        rcases Int.lt_trichotomy x y with hxy | hxy | hxy
        · have H := Lib.hid (show cmpL xs ys = -1 by rw [NH.out, if_pos hxy])
          have con' := fun w => con x y w
          rw [compareInt_lt x y hxy] at con'
          clear hxy NH con
          go_wp2_with fail
          refine (con' _).mono ?_
          rintro e w' ⟨rfl, rfl⟩
          go_wp2
          go_ret
          exact ⟨(by rw [H.out]; try rfl), rfl⟩
        · have H := Lib.hid (show cmpL xs ys = cmpL (xs.drop (k + 1)) (ys.drop (k + 1)) by rw [NH.out, if_neg (by omega), if_neg (by omega)])
          have con' := fun w => con x y w
          rw [compareInt_eq x y hxy] at con'
          clear hxy NH con
          go_wp2_with fail
          refine (con' _).mono ?_
          rintro e w' ⟨rfl, rfl⟩
          go_wp2
          go_round
          case rel => exact ⟨k + 1, by omega, by omega, by go_num, H⟩
          case measure => simp [intOf]; omega
        · have H := Lib.hid (show cmpL xs ys = 1 by rw [NH.out, if_neg (by omega), if_pos hxy])
          have con' := fun w => con x y w
          rw [compareInt_gt x y hxy] at con'
          clear hxy NH con
          go_wp2_with fail
          refine (con' _).mono ?_
          rintro e w' ⟨rfl, rfl⟩
          go_wp2
          go_ret
          exact ⟨(by rw [H.out]; try rfl), rfl⟩
      · have H := Lib.hid (show cmpL xs ys = 1 by rw [HR.out, hd1, List.drop_of_length_le (l := ys) (by rw [hl2.out]; omega)]; rfl)
        have d2 : decide ((n2 : Int) ≤ (k : Int)) = true := by simp; omega
        clear HR hd1 hx e1 h1 h2 con
        go_wp2
        go_ret
        exact ⟨(by rw [H.out]; try rfl), rfl⟩
    · obtain rfl : k = n1 := by omega
      have hd1 : xs.drop k = [] := List.drop_of_length_le (by rw [hl1.out]; omega)
      clear con h1 h2
      by_cases hlt2 : k < n2
      · obtain ⟨y, hy, hd2⟩ := drop_getElem ys k (by rw [hl2.out]; exact hlt2)
        have H := Lib.hid (show cmpL xs ys = -1 by rw [HR.out, hd1, hd2]; rfl)
        have d2 : decide ((k : Int) < (n2 : Int)) = true := by simp; omega
        clear HR hd1 hd2 hy
        go_wp2
        go_ret
        exact ⟨(by rw [H.out]; try rfl), rfl⟩
      · have H := Lib.hid (show cmpL xs ys = 0 by rw [HR.out, hd1, List.drop_of_length_le (l := ys) (by rw [hl2.out]; omega)]; rfl)
        have d2 : decide ((k : Int) < (n2 : Int)) = false := by simp; omega
        clear HR hd1
        go_wp2
        go_ret
        exact ⟨(by rw [H.out]; try rfl), rfl⟩

theorem Cmp_any (v1 v2 : Value) (xs ys : List Int) (w : World) (h1 : SetIs (Value.int .i64) w v1 xs) (h2 : SetIs (Value.int .i64) w v2 ys) :
    Calls Try.prog 21 #[v1, v2] w fun e w' => e = .returned (.int .i64 (cmpL xs ys)) ∧ Below w.heap.size w w' := by
  obtain ⟨q1, n1, c1, rfl, _, hn1, hs1, _⟩ := h1
  obtain ⟨q2, n2, c2, rfl, _, hn2, hs2, _⟩ := h2
  have con := Compare_any q1 q2 n1 c1 n2 c2 xs ys _ ((hs1.alloc (.cells #[.slice q1 n1 c1] 25)).alloc (.cells #[.slice q2 n2 c2] 25)) ((hs2.alloc _).alloc _) hn1 hn2
  clear hs1 hs2
  generalize cmpL xs ys = r at con ⊢
  go_enter Try.func21, Try.ntmps21
  go_wp2_with fail
  refine con.mono ?_
  rintro e w' ⟨rfl, rfl⟩
  go_wp2
  go_ret
  exact ⟨rfl, (below_alloc _).trans ((below_alloc _).mono (by simp))⟩

end Go.Proofs.Ythfclmnmnmeldaa
