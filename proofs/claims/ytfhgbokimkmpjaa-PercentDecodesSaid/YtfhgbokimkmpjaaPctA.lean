/- What package percent says of single bytes: its contracts. Conditions: none. -/
import Derived.Test.YtfhgbokimkmpjaaPctM
import Derived.Test.YtfhgbokimkmpjaaProg
import Derived.WalkKit
import Derived.BigQuiet
import Derived.Deep.QuietTactic
import Derived.WalkSpells
import Derived.WalkLawsBesides
import Derived.Outline
import Derived.Lib.SlFresh
import Derived.Lib.Hide
namespace Go.Proofs.Ytfhgbokimkmpjaa.Pct
open Go.RowKit

set_option maxHeartbeats 4000000 in
theorem isLetter_any (b : UInt8) (w : World) :
    Calls Try.prog 30 #[.int .u8 (b.toNat : Int)] w fun e w' => e = .returned (.bool (letB b)) ∧ w = w' := by
  have hb := u8_lt b
  by_cases h0 : 65 ≤ b.toNat <;> by_cases h1 : b.toNat ≤ 90 <;> by_cases h2 : 97 ≤ b.toNat <;> by_cases h3 : b.toNat ≤ 122
  all_goals first | (exfalso; omega) | skip
  all_goals
    (first | have H := Lib.hid (show letB b = true by simp [letB]; omega) | have H := Lib.hid (show letB b = false by simp [letB]; omega))
    (first | have d0 : decide ((65 : Int) ≤ (b.toNat : Int)) = true := (by simp; omega) | have d0 : decide ((65 : Int) ≤ (b.toNat : Int)) = false := (by simp; omega))
    (first | have d1 : decide ((b.toNat : Int) ≤ (90 : Int)) = true := (by simp; omega) | have d1 : decide ((b.toNat : Int) ≤ (90 : Int)) = false := (by simp; omega))
    (first | have d2 : decide ((97 : Int) ≤ (b.toNat : Int)) = true := (by simp; omega) | have d2 : decide ((97 : Int) ≤ (b.toNat : Int)) = false := (by simp; omega))
    (first | have d3 : decide ((b.toNat : Int) ≤ (122 : Int)) = true := (by simp; omega) | have d3 : decide ((b.toNat : Int) ≤ (122 : Int)) = false := (by simp; omega))
    go_enter Try.func30, Try.ntmps30
    go_wp2
    go_ret
    exact ⟨(by rw [H.out]; try rfl), rfl⟩

set_option maxHeartbeats 4000000 in
theorem isDecimal_any (b : UInt8) (w : World) :
    Calls Try.prog 31 #[.int .u8 (b.toNat : Int)] w fun e w' => e = .returned (.bool (decB b)) ∧ w = w' := by
  have hb := u8_lt b
  by_cases h0 : 48 ≤ b.toNat <;> by_cases h1 : b.toNat ≤ 57
  all_goals first | (exfalso; omega) | skip
  all_goals
    (first | have H := Lib.hid (show decB b = true by simp [decB]; omega) | have H := Lib.hid (show decB b = false by simp [decB]; omega))
    (first | have d0 : decide ((48 : Int) ≤ (b.toNat : Int)) = true := (by simp; omega) | have d0 : decide ((48 : Int) ≤ (b.toNat : Int)) = false := (by simp; omega))
    (first | have d1 : decide ((b.toNat : Int) ≤ (57 : Int)) = true := (by simp; omega) | have d1 : decide ((b.toNat : Int) ≤ (57 : Int)) = false := (by simp; omega))
    go_enter Try.func31, Try.ntmps31
    go_wp2
    go_ret
    exact ⟨(by rw [H.out]; try rfl), rfl⟩

set_option maxHeartbeats 4000000 in
theorem isHexadecimal_any (b : UInt8) (w : World) :
    Calls Try.prog 35 #[.int .u8 (b.toNat : Int)] w fun e w' => e = .returned (.bool (hexB b)) ∧ w = w' := by
  have hb := u8_lt b
  have con := isDecimal_any b
  by_cases h0 : 48 ≤ b.toNat <;> by_cases h1 : b.toNat ≤ 57 <;> by_cases h2 : 65 ≤ b.toNat <;> by_cases h3 : b.toNat ≤ 70 <;> by_cases h4 : 97 ≤ b.toNat <;> by_cases h5 : b.toNat ≤ 102
  all_goals first | (exfalso; omega) | skip
  all_goals
    (first | have H := Lib.hid (show hexB b = true by simp [hexB]; omega) | have H := Lib.hid (show hexB b = false by simp [hexB]; omega))
    (first | rw [show decB b = true from by simp [decB]; omega] at con | rw [show decB b = false from by simp [decB]; omega] at con)
    (first | have d0 : decide ((48 : Int) ≤ (b.toNat : Int)) = true := (by simp; omega) | have d0 : decide ((48 : Int) ≤ (b.toNat : Int)) = false := (by simp; omega))
    (first | have d1 : decide ((b.toNat : Int) ≤ (57 : Int)) = true := (by simp; omega) | have d1 : decide ((b.toNat : Int) ≤ (57 : Int)) = false := (by simp; omega))
    (first | have d2 : decide ((65 : Int) ≤ (b.toNat : Int)) = true := (by simp; omega) | have d2 : decide ((65 : Int) ≤ (b.toNat : Int)) = false := (by simp; omega))
    (first | have d3 : decide ((b.toNat : Int) ≤ (70 : Int)) = true := (by simp; omega) | have d3 : decide ((b.toNat : Int) ≤ (70 : Int)) = false := (by simp; omega))
    (first | have d4 : decide ((97 : Int) ≤ (b.toNat : Int)) = true := (by simp; omega) | have d4 : decide ((97 : Int) ≤ (b.toNat : Int)) = false := (by simp; omega))
    (first | have d5 : decide ((b.toNat : Int) ≤ (102 : Int)) = true := (by simp; omega) | have d5 : decide ((b.toNat : Int) ≤ (102 : Int)) = false := (by simp; omega))
    go_enter Try.func35, Try.ntmps35
    go_wp2_with (go_at_call 31; refine (con _).mono ?_; rintro e w' ⟨rfl, rfl⟩)
    go_ret
    exact ⟨(by rw [H.out]; try rfl), rfl⟩

theorem worth_dec (b : UInt8) (h : decB b = true) : ((worth b).toNat : Int) = (b.toNat : Int) - 48 := by
  have h1 : 48 ≤ b.toNat ∧ b.toNat ≤ 57 := by simpa [decB] using h
  unfold worth
  rw [h, if_pos rfl, UInt8.toNat_sub]
  have : (48 : UInt8).toNat = 48 := rfl
  rw [this]; omega
theorem worth_small (b : UInt8) (h : decB b = false) (h' : 97 ≤ b.toNat) : ((worth b).toNat : Int) = (b.toNat : Int) - 97 + 10 := by
  have := u8_lt b
  unfold worth
  rw [h, if_neg (by simp), if_pos h', UInt8.toNat_add, UInt8.toNat_sub]
  have : (97 : UInt8).toNat = 97 := rfl
  have h10 : (10 : UInt8).toNat = 10 := rfl
  rw [this, h10]; omega
theorem worth_great (b : UInt8) (h : decB b = false) (h' : ¬ 97 ≤ b.toNat) (h2 : 65 ≤ b.toNat) : ((worth b).toNat : Int) = (b.toNat : Int) - 65 + 10 := by
  have := u8_lt b
  unfold worth
  rw [h, if_neg (by simp), if_neg h', UInt8.toNat_add, UInt8.toNat_sub]
  have : (65 : UInt8).toNat = 65 := rfl
  have h10 : (10 : UInt8).toNat = 10 := rfl
  rw [this, h10]; omega

set_option maxHeartbeats 2000000 in
theorem worth_any (b : UInt8) (w : World) (hx : hexB b = true) :
    Calls Try.prog 28 #[.int .u8 (b.toNat : Int)] w fun e w' => e = .returned (.int .u8 ((worth b).toNat : Int)) ∧ w = w' := by
  have hb := u8_lt b
  have con := isDecimal_any b
  have hx' : (48 ≤ b.toNat ∧ b.toNat ≤ 57) ∨ (65 ≤ b.toNat ∧ b.toNat ≤ 70) ∨ (97 ≤ b.toNat ∧ b.toNat ≤ 102) := by simpa [hexB] using hx
  clear hx
  by_cases hd : decB b = true
  · have H := Lib.hid (worth_dec b hd)
    have hd' : 48 ≤ b.toNat ∧ b.toNat ≤ 57 := by simpa [decB] using hd
    rw [hd] at con
    obtain ⟨hd1, hd2⟩ := hd'
    clear hd hx'
    go_enter Try.func28, Try.ntmps28
    go_wp2_with (go_at_call 31; refine (con _).mono ?_; rintro e w' ⟨rfl, rfl⟩)
    go_ret
    exact ⟨(by rw [H.out]; try rfl), rfl⟩
  · have hd0 : decB b = false := by simpa using hd
    have hd' : ¬ (48 ≤ b.toNat ∧ b.toNat ≤ 57) := by simpa [decB] using hd
    by_cases h9 : 97 ≤ b.toNat
    · have H := Lib.hid (worth_small b hd0 h9)
      rw [hd0] at con
      have d1 : decide ((97 : Int) ≤ (b.toNat : Int)) = true := by simp; omega
      clear hd hx' hd' hd0
      go_enter Try.func28, Try.ntmps28
      go_wp2_with (go_at_call 31; refine (con _).mono ?_; rintro e w' ⟨rfl, rfl⟩)
      go_ret
      exact ⟨(by rw [H.out]; try rfl), rfl⟩
    · have h6 : 65 ≤ b.toNat := by omega
      have H := Lib.hid (worth_great b hd0 h9 h6)
      rw [hd0] at con
      have d1 : decide ((97 : Int) ≤ (b.toNat : Int)) = false := by simp; omega
      clear hd hx' hd' hd0 h9
      go_enter Try.func28, Try.ntmps28
      go_wp2_with (go_at_call 31; refine (con _).mono ?_; rintro e w' ⟨rfl, rfl⟩)
      go_ret
      exact ⟨(by rw [H.out]; try rfl), rfl⟩

end Go.Proofs.Ytfhgbokimkmpjaa.Pct
