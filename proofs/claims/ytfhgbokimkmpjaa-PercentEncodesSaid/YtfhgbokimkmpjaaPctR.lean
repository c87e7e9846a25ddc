/- The document's own answers on single bytes and their digits. Conditions: a text is of at most 2^40 bytes. -/
import Derived.Test.YtfhgbokimkmpjaaPctB
namespace Go.Proofs.Ytfhgbokimkmpjaa.Pct
open Go.RowKit Go.Shelf

theorem ba_get (s : ByteArray) (k : Nat) (h : k < s.size) : s[k] = s.data.toList.getD k 0 := by
  have h' : k < s.data.toList.length := h
  rw [List.getD, List.getElem?_eq_getElem h']
  rfl
theorem ba_len (s : ByteArray) : s.data.toList.length = s.size := rfl

set_option maxHeartbeats 1000000 in
theorem In_any (b : UInt8) (s : ByteArray) (w : World) (hs : s.size ≤ maxLen) :
    Calls Try.prog 25 #[.int .u8 (b.toNat : Int), .string s] w fun e w' => e = .returned (.bool (inB b s.data.toList)) ∧ w = w' := by
  unfold maxLen at hs
  go_enter Try.func25, Try.ntmps25
  go_wp2
  go_loop [5] (fun i => ∃ k : Nat, k ≤ s.size ∧ i = .int .i64 k ∧ Hid (inB b s.data.toList = inB b (s.data.toList.drop k))) (fun i => s.size - (intOf i).toNat)
  case atStart => exact ⟨0, Nat.zero_le _, rfl, rfl⟩
  case round =>
    obtain ⟨k, hk, rfl, HR⟩ := hrel
    have hbb := u8_lt b
    by_cases hlt : k < s.size
    · have hkl := ba_len s
      have NH := Lib.hid (show inB b s.data.toList = (b == s[k] || inB b (s.data.toList.drop (k + 1))) by rw [HR.out, drop_cons _ k (by omega), ← ba_get s k hlt]; unfold inB; rw [List.contains_cons])
      clear HR hkl
      by_cases he : b = s[k]
      · have e1 : (((s[k].toNat : Nat) : Int) == (b.toNat : Int)) = true := by rw [beq_iff_eq, ← he]
        have H := Lib.hid (show inB b s.data.toList = true by rw [NH.out, show (b == s[k]) = true from by rw [beq_iff_eq]; exact he]; rfl)
        clear he NH
        go_wp2
        go_ret
        exact ⟨(by rw [H.out]; try rfl), rfl⟩
      · have e1 : (((s[k].toNat : Nat) : Int) == (b.toNat : Int)) = false := by
          rw [beq_eq_false_iff_ne]; intro h; exact he (UInt8.toNat_inj.1 (by omega))
        have H := Lib.hid (show inB b s.data.toList = inB b (s.data.toList.drop (k + 1)) by rw [NH.out, show (b == s[k]) = false from by rw [beq_eq_false_iff_ne]; exact he]; rfl)
        clear he NH
        go_wp2
        go_round
        case rel => exact ⟨k + 1, by omega, by go_num, H⟩
        case measure => simp [intOf]; omega
    · have H := Lib.hid (show inB b s.data.toList = false by rw [HR.out, List.drop_of_length_le (by rw [ba_len]; omega)]; rfl)
      clear HR
      go_wp2
      go_ret
      exact ⟨(by rw [H.out]; try rfl), rfl⟩

theorem digits_list (b : UInt8) : inB b [48, 49, 50, 51, 52, 53, 54, 55, 56, 57] = decB b :=
  all_u8 (p := fun b => inB b [48, 49, 50, 51, 52, 53, 54, 55, 56, 57] = decB b) (by decide +kernel) b
theorem Digit_any (b : UInt8) (w : World) :
    Calls Try.prog 33 #[.int .u8 (b.toNat : Int)] w fun e w' => e = .returned (.bool (decB b)) ∧ w = w' := by
  have H := Lib.hid (digits_list b)
  go_enter Try.func33, Try.ntmps33
  go_wp2_with (go_at_call 25; refine (In_any b _ _ (by decide)).mono ?_; rintro e w' ⟨rfl, rfl⟩)
  go_ret
  exact ⟨(by rw [← H.out]; try rfl), rfl⟩

theorem letters_list (b : UInt8) : (inB b [97, 98, 99, 100, 101, 102, 103, 104, 105, 106, 107, 108, 109, 110, 111, 112, 113, 114, 115, 116, 117, 118, 119, 120, 121, 122] || inB b [65, 66, 67, 68, 69, 70, 71, 72, 73, 74, 75, 76, 77, 78, 79, 80, 81, 82, 83, 84, 85, 86, 87, 88, 89, 90]) = letB b :=
  all_u8 (p := fun b => (inB b [97, 98, 99, 100, 101, 102, 103, 104, 105, 106, 107, 108, 109, 110, 111, 112, 113, 114, 115, 116, 117, 118, 119, 120, 121, 122] || inB b [65, 66, 67, 68, 69, 70, 71, 72, 73, 74, 75, 76, 77, 78, 79, 80, 81, 82, 83, 84, 85, 86, 87, 88, 89, 90]) = letB b) (by decide +kernel) b

set_option maxHeartbeats 1000000 in
theorem Letter_any (b : UInt8) (w : World) :
    Calls Try.prog 32 #[.int .u8 (b.toNat : Int)] w fun e w' => e = .returned (.bool (letB b)) ∧ w = w' := by
  have H := Lib.hid (letters_list b)
  have C1 := fun W => In_any b ⟨#[97, 98, 99, 100, 101, 102, 103, 104, 105, 106, 107, 108, 109, 110, 111, 112, 113, 114, 115, 116, 117, 118, 119, 120, 121, 122]⟩ W (by decide)
  have C2 := fun W => In_any b ⟨#[65, 66, 67, 68, 69, 70, 71, 72, 73, 74, 75, 76, 77, 78, 79, 80, 81, 82, 83, 84, 85, 86, 87, 88, 89, 90]⟩ W (by decide)
  obtain ⟨x1, G1⟩ : ∃ x, Hid (inB b (⟨#[97, 98, 99, 100, 101, 102, 103, 104, 105, 106, 107, 108, 109, 110, 111, 112, 113, 114, 115, 116, 117, 118, 119, 120, 121, 122]⟩ : ByteArray).data.toList = x) := ⟨_, rfl⟩
  obtain ⟨x2, G2⟩ : ∃ x, Hid (inB b (⟨#[65, 66, 67, 68, 69, 70, 71, 72, 73, 74, 75, 76, 77, 78, 79, 80, 81, 82, 83, 84, 85, 86, 87, 88, 89, 90]⟩ : ByteArray).data.toList = x) := ⟨_, rfl⟩
  rw [G1.out] at C1
  rw [G2.out] at C2
  have HX := Lib.hid (show (x1 || x2) = letB b by rw [← G1.out, ← G2.out]; exact H.out)
  clear H G1 G2
  cases x1
  · go_enter Try.func32, Try.ntmps32
    go_wp2_with fail
    refine (C1 _).mono ?_
    rintro e w' ⟨rfl, rfl⟩
    go_wp2_with fail
    refine (C2 _).mono ?_
    rintro e w' ⟨rfl, rfl⟩
    go_wp2
    go_ret
    exact ⟨(by rw [← HX.out]; try rfl), rfl⟩
  · go_enter Try.func32, Try.ntmps32
    go_wp2_with fail
    refine (C1 _).mono ?_
    rintro e w' ⟨rfl, rfl⟩
    go_wp2
    go_ret
    exact ⟨(by rw [← HX.out]; try rfl), rfl⟩

set_option maxHeartbeats 2000000 in
theorem Free_any (b : UInt8) (w : World) :
    Calls Try.prog 22 #[.int .u8 (b.toNat : Int)] w fun e w' => e = .returned (.bool (freeB b)) ∧ w = w' := by
  have c1 := Letter_any b
  have c2 := Digit_any b
  have c3 := fun W => In_any b ⟨#[45, 46, 95, 126]⟩ W (by decide)
  obtain ⟨x1, H1⟩ : ∃ x, Hid (letB b = x) := ⟨_, rfl⟩
  obtain ⟨x2, H2⟩ : ∃ x, Hid (decB b = x) := ⟨_, rfl⟩
  obtain ⟨x3, H3⟩ : ∃ x, Hid (inB b (⟨#[45, 46, 95, 126]⟩ : ByteArray).data.toList = x) := ⟨_, rfl⟩
  have H := Lib.hid (show freeB b = (x1 || x2 || x3) by unfold freeB; rw [H1.out, H2.out, ← H3.out]; rfl)
  rw [H1.out] at c1
  rw [H2.out] at c2
  rw [H3.out] at c3
  clear H1 H2 H3
  cases x1 <;> cases x2
  · go_enter Try.func22, Try.ntmps22
    go_wp2_with (first | (go_at_call 32; refine (c1 _).mono ?_; rintro e w' ⟨rfl, rfl⟩) | (go_at_call 33; refine (c2 _).mono ?_; rintro e w' ⟨rfl, rfl⟩) | (go_at_call 25; refine (c3 _).mono ?_; rintro e w' ⟨rfl, rfl⟩))
    go_ret
    exact ⟨(by rw [H.out]; try rfl), rfl⟩
  all_goals
    go_enter Try.func22, Try.ntmps22
    go_wp2_with (first | (go_at_call 32; refine (c1 _).mono ?_; rintro e w' ⟨rfl, rfl⟩) | (go_at_call 33; refine (c2 _).mono ?_; rintro e w' ⟨rfl, rfl⟩))
    go_ret
    exact ⟨(by rw [H.out]; try rfl), rfl⟩

theorem stands_ref (p : Int) (b : UInt8) : standsB p b = (freeB b || ((p == 1 || p == 2) && inB b pathM) || (p == 2 && b == 63)) := by
  unfold standsB marksM
  by_cases h1 : p = 1
  · subst h1; simp
  · by_cases h2 : p = 2
    · subst h2
      have h : inB b queryM = (inB b pathM || b == 63) := all_u8 (p := fun b => inB b queryM = (inB b pathM || b == 63)) (by decide +kernel) b
      simp [h, Bool.or_assoc]
    · have e1 : (p == 1) = false := by simpa using h1
      have e2 : (p == 2) = false := by simpa using h2
      rw [e1, e2, if_neg h1, if_neg h2]
      simp [inB]

set_option maxHeartbeats 4000000 in
theorem Stands_any (b : UInt8) (p : Int) (w : World) :
    Calls Try.prog 16 #[.int .u8 (b.toNat : Int), .int .i64 p] w fun e w' => e = .returned (.bool (standsB p b)) ∧ w = w' := by
  have hb := u8_lt b
  have c1 := Free_any b
  have c3 := fun W => In_any b ⟨#[47, 58, 64, 33, 36, 38, 39, 40, 41, 42, 43, 44, 59, 61]⟩ W (by decide)
  obtain ⟨x1, H1⟩ : ∃ x, Hid (freeB b = x) := ⟨_, rfl⟩
  obtain ⟨x3, H3⟩ : ∃ x, Hid (inB b (⟨#[47, 58, 64, 33, 36, 38, 39, 40, 41, 42, 43, 44, 59, 61]⟩ : ByteArray).data.toList = x) := ⟨_, rfl⟩
  obtain ⟨x4, H4⟩ : ∃ x, Hid (((b.toNat : Int) == 63) = x) := ⟨_, rfl⟩
  have H := Lib.hid (show standsB p b = (x1 || ((p == 1 || p == 2) && x3) || (p == 2 && x4)) by
    rw [stands_ref, H1.out, ← H3.out, ← H4.out]
    have : (b == 63) = ((b.toNat : Int) == 63) := all_u8 (p := fun b => (b == 63) = ((b.toNat : Int) == 63)) (by decide +kernel) b
    rw [this]; rfl)
  rw [H1.out] at c1
  rw [H3.out] at c3
  have e4 := H4.out
  clear H1 H3 H4
  obtain ⟨y1, G1⟩ : ∃ y, (p == 1) = y := ⟨_, rfl⟩
  obtain ⟨y2, G2⟩ : ∃ y, (p == 2) = y := ⟨_, rfl⟩
  have HH := Lib.hid (show standsB p b = (x1 || ((y1 || y2) && x3) || (y2 && x4)) by rw [H.out, G1, G2])
  clear H
  cases x1 <;> cases y1 <;> cases y2 <;> cases x3 <;> cases x4
  all_goals
    go_enter Try.func16, Try.ntmps16
    go_wp2_with (first | (go_at_call 22; refine (c1 _).mono ?_; rintro e w' ⟨rfl, rfl⟩) | (go_at_call 25; refine (c3 _).mono ?_; rintro e w' ⟨rfl, rfl⟩))
    go_ret
    exact ⟨(by rw [HH.out]; try rfl), rfl⟩

end Go.Proofs.Ytfhgbokimkmpjaa.Pct
