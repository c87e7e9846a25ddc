/- The document's Trim. Conditions: a text is of at most 2^40 bytes. -/
import Derived.Test.YtefgccdpgfdelaaFieldA
namespace Go.Proofs.Ytefgccdpgfdelaa
open Go.RowKit Go.Shelf

def strSz : Value → Nat
  | .string x => x.size
  | _ => 0

set_option maxRecDepth 100000 in
set_option maxHeartbeats 4000000 in
theorem refTrim_any (s : ByteArray) (f e : Nat) (w : World) (hs : s.size ≤ 1099511627775) (ht : Trims s.data.toList f e) :
    Calls Try.prog 17 #[.string s] w fun e' w' => ∃ x : ByteArray, e' = .returned (.string x) ∧ Hid (x.data.toList = sub s.data.toList f e) ∧ w = w' := by
  have hle := ht.le
  have hbl := ba_len s
  go_enter Try.func17, Try.ntmps17
  go_wp2
  go_loop [0] (fun v => ∃ k : Nat, ∃ x : ByteArray, k ≤ f ∧ v = .string x ∧ Hid (x.data.toList = s.data.toList.drop k)) strSz
  case atStart => exact ⟨0, s, Nat.zero_le _, rfl, rfl⟩
  case round =>
    obtain ⟨k, x, hk, rfl, HX⟩ := hrel
    have hxs : x.size = s.size - k := by rw [← ba_len, HX.out, List.length_drop, hbl]
    by_cases hlt : k < f
    · have h0 : 0 < x.size := by omega
      have hb0 : blankB x[0] = true := by
        rw [ba_get x 0 h0, HX.out]
        have hg : (s.data.toList.drop k).getD 0 0 = s.data.toList.getD k 0 := by simp [List.getD]
        rw [hg]
        rcases ht with ⟨h1, h2, h3⟩ | ⟨h1, h2, h3, _⟩
        · exact h3 k (by omega)
        · exact h3 k hlt
      have cb := fun W => Blank_any x[0] W
      rw [hb0] at cb
      have d1 : decide ((0 : Int) < (x.size : Int)) = true := by simp; omega
      have HN := Lib.hid (show (x.extract 1 x.size).data.toList = s.data.toList.drop (k + 1) by rw [ext_drop, HX.out, List.drop_drop])
      clear hb0 ht HX hxs hle hbl
      go_wp2_with fail
      refine (cb _).mono ?_
      rintro e w' ⟨rfl, rfl⟩
      go_wp2
      go_round
      case rel => exact ⟨k + 1, _, by omega, rfl, HN⟩
      case measure => simp [strSz]; omega
    · obtain rfl : k = f := by omega
      rcases ht with ⟨h1, h2, h3⟩ | ⟨h1, h2, h3, h4, h5, h6⟩
      · have d1 : decide ((0 : Int) < (x.size : Int)) = false := decide_eq_false (by omega)
        have HE := Lib.hid (show x.data.toList = sub s.data.toList k e by rw [h2, ← h1, sub_nil, HX.out, h1, List.drop_length])
        have hx0 : x = ⟨#[]⟩ := by
          apply ByteArray.ext; apply Array.ext'; rw [HX.out, h1, List.drop_length]
        subst hx0
        clear h1 h2 h3 HX hxs hle hbl hk hlt d1
        go_wp2_with fail
        go_loop [0] (fun v => v = .string ⟨#[]⟩) (fun _ => 0)
        case atStart => rfl
        case round =>
          obtain rfl := hrel
          go_wp2
          go_ret
          exact ⟨⟨#[]⟩, rfl, HE, rfl⟩
      · have h0 : 0 < x.size := by omega
        have hb0 : blankB x[0] = false := by
          rw [ba_get x 0 h0, HX.out]
          have hg : (s.data.toList.drop k).getD 0 0 = s.data.toList.getD k 0 := by simp [List.getD]
          rw [hg]
          exact h4
        have cb := fun W => Blank_any x[0] W
        rw [hb0] at cb
        have d1 : decide ((0 : Int) < (x.size : Int)) = true := by simp; omega
        have HS := Lib.hid (show x.data.toList = sub s.data.toList k s.size by rw [HX.out, ← hbl]; exact (sub_from _ _).symm)
        clear hb0 HX h3 h4 hxs hk hlt
        go_wp2_with fail
        refine (cb _).mono ?_
        rintro e' w' ⟨rfl, rfl⟩
        go_wp2_with fail
        clear cb d1
        go_loop [0] (fun v => ∃ t : Nat, ∃ x : ByteArray, e ≤ t + 1 ∧ t + 1 ≤ s.size ∧ v = .string x ∧ Hid (x.data.toList = sub s.data.toList k (t + 1))) strSz
        case atStart => exact ⟨s.size - 1, x, by omega, by omega, rfl, by rw [show s.size - 1 + 1 = s.size by omega]; exact HS⟩
        case round =>
          obtain ⟨t, y, ht1, ht2, rfl, HX⟩ := hrel
          have hys : y.size = t + 1 - k := by rw [← ba_len, HX.out, sub_length _ _ _ (by omega)]
          have hy0 : y.size - 1 < y.size := by omega
          have hg : blankB y[y.size - 1] = blankB (s.data.toList.getD t 0) := by
            rw [ba_get y _ hy0, HX.out, sub_getD _ _ _ _ (by omega), show k + (y.size - 1) = t by omega]
          have cb := fun W => Blank_any (y[y.size - 1]'hy0) W
          rw [hg] at cb
          have d1 : decide ((0 : Int) < (y.size : Int)) = true := by simp; omega
          by_cases het : e < t + 1
          · rw [h6 t (by omega) (by omega)] at cb
            have HN := Lib.hid (show (y.extract 0 (y.size - 1)).data.toList = sub s.data.toList k (t - 1 + 1) by
              rw [ext_take, HX.out, hys]
              unfold sub
              rw [List.take_take]
              congr 1
              omega)
            have hyp : 0 < y.size := by omega
            have hyb : y.size ≤ 1099511627775 := by omega
            clear h5 h6 HX hg hys
            go_wp2_with fail
            refine (cb _).mono ?_
            rintro e' w' ⟨rfl, rfl⟩
            go_wp2
            go_round
            case rel => exact ⟨t - 1, _, by omega, by omega, rfl, HN⟩
            case measure => simp [strSz]; omega
          · obtain rfl : e = t + 1 := by omega
            rw [Nat.add_sub_cancel] at h5
            rw [h5] at cb
            have hyp : 0 < y.size := by omega
            have hyb : y.size ≤ 1099511627775 := by omega
            clear h5 h6 hg hys
            go_wp2_with fail
            refine (cb _).mono ?_
            rintro e' w' ⟨rfl, rfl⟩
            go_wp2
            go_ret
            exact ⟨y, rfl, HX, rfl⟩

end Go.Proofs.Ytefgccdpgfdelaa
