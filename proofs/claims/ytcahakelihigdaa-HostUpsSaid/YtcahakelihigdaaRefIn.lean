/- The document's own In and Digit. Conditions: a text is of at most the model's greatest length. -/
import Derived.Test.YtcahakelihigdaaRefM
import Derived.Test.YtcahakelihigdaaProg
import Derived.WalkKit
import Derived.BigQuiet
import Derived.Deep.QuietTactic
import Derived.WalkSpells
import Derived.WalkLawsBesides
import Derived.Outline
import Derived.Lib.SlFresh
import Derived.Lib.Hide
namespace Go.Proofs.Ytcahakelihigdaa.Ref
open Go.RowKit Go.Shelf

theorem ba_get (s : ByteArray) (k : Nat) (h : k < s.size) : s[k] = s.data.toList.getD k 0 := by
  have h' : k < s.data.toList.length := h
  rw [List.getD, List.getElem?_eq_getElem h']
  rfl
theorem ba_len (s : ByteArray) : s.data.toList.length = s.size := rfl

theorem ba_ext (x y : ByteArray) (h : x.data.toList = y.data.toList) : x = y := by
  apply ByteArray.ext; apply Array.ext'; exact h
theorem str_eq (x y : ByteArray) : (x.toList == y.toList) = decide (x.data.toList = y.data.toList) := by
  rw [Lib.toList_data, Lib.toList_data, Bool.eq_iff_iff, beq_iff_eq, decide_eq_true_iff]
theorem ba_app (x s : ByteArray) (k : Nat) (h : k < s.size) : (x ++ s.extract k (k + 1)).data.toList = x.data.toList ++ [s[k]] := by
  have h' : k < s.data.size := h
  have hx : (s.extract k (k + 1)).data.toList = [s[k]] := by
    apply List.ext_getElem?
    intro i
    simp only [ByteArray.data_extract, Array.toList_extract, List.getElem?_take, List.getElem?_drop, List.extract_eq_take_drop]
    by_cases hi : i = 0
    · subst hi
      simp
      rw [Array.getElem?_eq_getElem h']
      rfl
    · rw [if_neg (by omega)]
      simp [hi]
  rw [ByteArray.data_append, Array.toList_append, hx]

set_option maxHeartbeats 1000000 in
theorem In_any (b : UInt8) (s : ByteArray) (w : World) (hs : s.size ≤ maxLen) :
    Calls Try.prog 35 #[.int .u8 (b.toNat : Int), .string s] w fun e w' => e = .returned (.bool (inB b s.data.toList)) ∧ w = w' := by
  unfold maxLen at hs
  go_enter Try.func35, Try.ntmps35
  go_wp2
  go_loop [5] (fun i => ∃ k : Nat, k ≤ s.size ∧ i = .int .i64 k ∧ Hid (inB b s.data.toList = inB b (s.data.toList.drop k))) (fun i => s.size - (intOf i).toNat)
  case atStart => exact ⟨0, Nat.zero_le _, rfl, rfl⟩
  case round =>
    obtain ⟨k, hk, rfl, HR⟩ := hrel
    have hbb := u8_lt b
    by_cases hlt : k < s.size
    · have hkl := ba_len s
      have NH := Lib.hid (show inB b s.data.toList = (b == s[k] || inB b (s.data.toList.drop (k + 1))) by rw [HR.out, drop_cons _ k (by omega), ← ba_get s k hlt]; unfold inB; rw [List.contains_cons])
      clear HR hkl
      by_cases he : b = s[k]
      · have e1 : (((s[k].toNat : Nat) : Int) == (b.toNat : Int)) = true := by rw [beq_iff_eq, ← he]
        have H := Lib.hid (show inB b s.data.toList = true by rw [NH.out, show (b == s[k]) = true from by rw [beq_iff_eq]; exact he]; rfl)
        clear he NH
        go_wp2
        go_ret
        exact ⟨(by rw [H.out]; try rfl), rfl⟩
      · have e1 : (((s[k].toNat : Nat) : Int) == (b.toNat : Int)) = false := by
          rw [beq_eq_false_iff_ne]; intro h; exact he (UInt8.toNat_inj.1 (by omega))
        have H := Lib.hid (show inB b s.data.toList = inB b (s.data.toList.drop (k + 1)) by rw [NH.out, show (b == s[k]) = false from by rw [beq_eq_false_iff_ne]; exact he]; rfl)
        clear he NH
        go_wp2
        go_round
        case rel => exact ⟨k + 1, by omega, by go_num, H⟩
        case measure => simp [intOf]; omega
    · have H := Lib.hid (show inB b s.data.toList = false by rw [HR.out, List.drop_of_length_le (by rw [ba_len]; omega)]; rfl)
      clear HR
      go_wp2
      go_ret
      exact ⟨(by rw [H.out]; try rfl), rfl⟩

theorem digits_list (b : UInt8) : inB b [48, 49, 50, 51, 52, 53, 54, 55, 56, 57] = decB b :=
  all_u8 (p := fun b => inB b [48, 49, 50, 51, 52, 53, 54, 55, 56, 57] = decB b) (by decide +kernel) b
theorem Digit_any (b : UInt8) (w : World) :
    Calls Try.prog 22 #[.int .u8 (b.toNat : Int)] w fun e w' => e = .returned (.bool (decB b)) ∧ w = w' := by
  have H := Lib.hid (digits_list b)
  go_enter Try.func22, Try.ntmps22
  go_wp2_with (go_at_call 35; refine (In_any b _ _ (by decide)).mono ?_; rintro e w' ⟨rfl, rfl⟩)
  go_ret
  exact ⟨(by rw [← H.out]; try rfl), rfl⟩


end Go.Proofs.Ytcahakelihigdaa.Ref
