/- The document's own Letter. Conditions: none. -/
import Derived.Test.YtcahakelihigdaaRefIn
namespace Go.Proofs.Ytcahakelihigdaa.Ref
open Go.RowKit Go.Shelf

theorem letters_list (b : UInt8) : (inB b [97, 98, 99, 100, 101, 102, 103, 104, 105, 106, 107, 108, 109, 110, 111, 112, 113, 114, 115, 116, 117, 118, 119, 120, 121, 122] || inB b [65, 66, 67, 68, 69, 70, 71, 72, 73, 74, 75, 76, 77, 78, 79, 80, 81, 82, 83, 84, 85, 86, 87, 88, 89, 90]) = letB b :=
  all_u8 (p := fun b => (inB b [97, 98, 99, 100, 101, 102, 103, 104, 105, 106, 107, 108, 109, 110, 111, 112, 113, 114, 115, 116, 117, 118, 119, 120, 121, 122] || inB b [65, 66, 67, 68, 69, 70, 71, 72, 73, 74, 75, 76, 77, 78, 79, 80, 81, 82, 83, 84, 85, 86, 87, 88, 89, 90]) = letB b) (by decide +kernel) b

set_option maxHeartbeats 1000000 in
theorem Letter_any (b : UInt8) (w : World) :
    Calls Try.prog 21 #[.int .u8 (b.toNat : Int)] w fun e w' => e = .returned (.bool (letB b)) ∧ w = w' := by
  have H := Lib.hid (letters_list b)
  have C1 := fun W => In_any b ⟨#[97, 98, 99, 100, 101, 102, 103, 104, 105, 106, 107, 108, 109, 110, 111, 112, 113, 114, 115, 116, 117, 118, 119, 120, 121, 122]⟩ W (by decide)
  have C2 := fun W => In_any b ⟨#[65, 66, 67, 68, 69, 70, 71, 72, 73, 74, 75, 76, 77, 78, 79, 80, 81, 82, 83, 84, 85, 86, 87, 88, 89, 90]⟩ W (by decide)
  obtain ⟨x1, G1⟩ : ∃ x, Hid (inB b (⟨#[97, 98, 99, 100, 101, 102, 103, 104, 105, 106, 107, 108, 109, 110, 111, 112, 113, 114, 115, 116, 117, 118, 119, 120, 121, 122]⟩ : ByteArray).data.toList = x) := ⟨_, rfl⟩
  obtain ⟨x2, G2⟩ : ∃ x, Hid (inB b (⟨#[65, 66, 67, 68, 69, 70, 71, 72, 73, 74, 75, 76, 77, 78, 79, 80, 81, 82, 83, 84, 85, 86, 87, 88, 89, 90]⟩ : ByteArray).data.toList = x) := ⟨_, rfl⟩
  rw [G1.out] at C1
  rw [G2.out] at C2
  have HX := Lib.hid (show (x1 || x2) = letB b by rw [← G1.out, ← G2.out]; exact H.out)
  clear H G1 G2
  cases x1
  · go_enter Try.func21, Try.ntmps21
    go_wp2_with fail
    refine (C1 _).mono ?_
    rintro e w' ⟨rfl, rfl⟩
    go_wp2_with fail
    refine (C2 _).mono ?_
    rintro e w' ⟨rfl, rfl⟩
    go_wp2
    go_ret
    exact ⟨(by rw [← HX.out]; try rfl), rfl⟩
  · go_enter Try.func21, Try.ntmps21
    go_wp2_with fail
    refine (C1 _).mono ?_
    rintro e w' ⟨rfl, rfl⟩
    go_wp2
    go_ret
    exact ⟨(by rw [← HX.out]; try rfl), rfl⟩


end Go.Proofs.Ytcahakelihigdaa.Ref
