/- What package cut says of single bytes: its contracts. Conditions: none. -/
import Derived.Test.YtcahakelihigdaaShelf
import Derived.WalkKit
import Derived.BigQuiet
import Derived.Deep.QuietTactic
import Derived.WalkSpells
import Derived.WalkLawsBesides
import Derived.Outline
import Derived.Lib.SlFresh
import Derived.Shelf.Bytes.SlSmallAll
import Derived.Shelf.Bytes.SlEqualAll
import Derived.Lib.Hide
namespace Go.Proofs.Ytcahakelihigdaa
open Go.RowKit

/-- A great letter made small. -/
def low (b : UInt8) : UInt8 := if 65 ≤ b.toNat ∧ b.toNat ≤ 90 then b + 32 else b
def digitB (b : UInt8) : Bool := decide (48 ≤ b.toNat ∧ b.toNat ≤ 57)
def blankB (b : UInt8) : Bool := decide (b.toNat = 32 ∨ b.toNat = 9)

theorem u8_lt (b : UInt8) : b.toNat < 256 := b.toNat_lt
theorem low_hi (b : UInt8) (h1 : 65 ≤ b.toNat) (h2 : b.toNat ≤ 90) : (((low b).toNat : Nat) : Int) = (b.toNat : Int) + 32 := by
  unfold low
  rw [if_pos ⟨h1, h2⟩, UInt8.toNat_add]
  have : (32 : UInt8).toNat = 32 := rfl
  rw [this]
  omega
theorem low_lo (b : UInt8) (h : ¬ (65 ≤ b.toNat ∧ b.toNat ≤ 90)) : low b = b := by
  unfold low
  rw [if_neg h]

theorem lowerByte_any (b : UInt8) (w : World) :
    Calls Try.prog 34 #[.int .u8 (b.toNat : Int)] w fun e w' => e = .returned (.int .u8 ((low b).toNat : Int)) ∧ w = w' := by
  have hb := u8_lt b
  by_cases h1 : 65 ≤ b.toNat
  · by_cases h2 : b.toNat ≤ 90
    · have H := Lib.hid (low_hi b h1 h2)
      have d1 : decide ((65 : Int) ≤ (b.toNat : Int)) = true := by simp; omega
      have d2 : decide ((b.toNat : Int) ≤ (90 : Int)) = true := by simp; omega
      go_enter Try.func34, Try.ntmps34
      go_wp2
      go_ret
      exact ⟨(by rw [H.out]; try rfl), rfl⟩
    · have H := Lib.hid (low_lo b (by omega))
      have d2 : decide ((b.toNat : Int) ≤ (90 : Int)) = false := by simp; omega
      go_enter Try.func34, Try.ntmps34
      go_wp2
      go_ret
      exact ⟨(by rw [H.out]; try rfl), rfl⟩
  · have H := Lib.hid (low_lo b (by omega))
    have d1 : decide ((65 : Int) ≤ (b.toNat : Int)) = false := by simp; omega
    go_enter Try.func34, Try.ntmps34
    go_wp2
    go_ret
    exact ⟨(by rw [H.out]; try rfl), rfl⟩

theorem isDigit_any (b : UInt8) (w : World) :
    Calls Try.prog 40 #[.int .u8 (b.toNat : Int)] w fun e w' => e = .returned (.bool (digitB b)) ∧ w = w' := by
  have hb := u8_lt b
  by_cases h1 : 48 ≤ b.toNat
  · by_cases h2 : b.toNat ≤ 57
    · have H := Lib.hid (show digitB b = true by simp [digitB]; omega)
      have d1 : decide ((48 : Int) ≤ (b.toNat : Int)) = true := by simp; omega
      have d2 : decide ((b.toNat : Int) ≤ (57 : Int)) = true := by simp; omega
      go_enter Try.func40, Try.ntmps40
      go_wp2
      go_ret
      exact ⟨(by rw [H.out]; try rfl), rfl⟩
    · have H := Lib.hid (show digitB b = false by simp [digitB]; omega)
      have d2 : decide ((b.toNat : Int) ≤ (57 : Int)) = false := by simp; omega
      go_enter Try.func40, Try.ntmps40
      go_wp2
      go_ret
      exact ⟨(by rw [H.out]; try rfl), rfl⟩
  · have H := Lib.hid (show digitB b = false by simp [digitB]; omega)
    have d1 : decide ((48 : Int) ≤ (b.toNat : Int)) = false := by simp; omega
    go_enter Try.func40, Try.ntmps40
    go_wp2
    go_ret
    exact ⟨(by rw [H.out]; try rfl), rfl⟩

end Go.Proofs.Ytcahakelihigdaa
