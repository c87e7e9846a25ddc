/- The document's own Number. Conditions: the bound is not below nought. -/
import Derived.Test.YtcahakelihigdaaRefIn
namespace Go.Proofs.Ytcahakelihigdaa.Ref
open Go.RowKit Go.Shelf

def numV (o : Option Int) : Value := .tuple #[.int .i64 (o.getD 0), .bool o.isSome]

set_option maxHeartbeats 2000000 in
theorem Number_any (s : ByteArray) (most : Int) (w : World) (hs : s.size ≤ 140737488355328) (h0 : 0 ≤ most) (h1 : most ≤ 9223372036854775807) :
    Calls Try.prog 36 #[.string s, .int .i64 most] w fun e w' => e = .returned (numV (numOf most s.data.toList)) ∧ w = w' := by
  have hl0 := ba_len s
  rcases Nat.eq_zero_or_pos s.size with hz | hz
  · obtain rfl : s = ⟨#[]⟩ := by
      have : s.data.toList = [] := List.eq_nil_of_length_eq_zero (by omega)
      cases s; simp at this; rw [this]
    go_enter Try.func36, Try.ntmps36
    go_wp2
    go_ret2
    exact ⟨rfl, rfl⟩
  · have hne : s.data.toList ≠ [] := by intro h; rw [h] at hl0; simp at hl0; omega
    have e1 : s.toList.isEmpty = false := by
      rw [Lib.toList_data, List.isEmpty_eq_false_iff]; exact hne
    by_cases hl : 1 < s.size ∧ (s.data.toList.getD 0 0).toNat = 48
    · have hl1 : decide ((1 : Int) < (s.size : Int)) = true := by simp; omega
      have hl2 : ((s[0].toNat : Int) == 48) = true := by rw [beq_iff_eq, ba_get s 0 hz]; omega
      have H := Lib.hid (show numOf most s.data.toList = none by unfold numOf; rw [if_pos (.inr (by rw [ba_len]; omega))])
      clear hl hne hl0
      go_enter Try.func36, Try.ntmps36
      go_wp2
      go_ret2
      exact ⟨(by rw [H.out]; rfl), rfl⟩
    · have H := Lib.hid (show numOf most s.data.toList = numGo most s.data.toList 0 by unfold numOf; rw [if_neg (fun h => h.elim hne (fun h => hl h))])
      have NG := Lib.hid (fun k (hk : k < s.size) (m : Int) => show numGo most (s.data.toList.drop k) m = _ by rw [drop_cons s.data.toList k hk])
      by_cases hl1 : 1 < s.size
      · have hl2 : decide ((1 : Int) < (s.size : Int)) = true := by simp; omega
        have hl3 : ((s[0].toNat : Int) == 48) = false := by rw [beq_eq_false_iff_ne, ba_get s 0 hz]; omega
        clear hl hne hl0
        go_enter Try.func36, Try.ntmps36
        go_wp2
        clear hl3 hl2 e1
        go_loop [6, 7] (fun x i => ∃ k : Nat, ∃ m : Int, k ≤ s.size ∧ i = .int .i64 k ∧ x = .int .i64 m ∧ 0 ≤ m ∧ m ≤ most ∧ Hid (numGo most s.data.toList 0 = numGo most (s.data.toList.drop k) m)) (fun _ i => s.size - (intOf i).toNat)
        case atStart => exact ⟨0, 0, Nat.zero_le _, rfl, rfl, by omega, by omega, rfl⟩
        case round =>
          obtain ⟨k, m, hk, rfl, rfl, hm0, hm1, HR⟩ := hrel
          by_cases hlt : k < s.size
          · have NGk := Lib.hid (HR.out.trans (NG.out k hlt m))
            clear HR
            have hbk := u8_lt s[k]
            have NGk := Lib.hid (show numGo most s.data.toList 0 = numGo most (s[k] :: List.drop (k + 1) s.data.toList) m by rw [NGk.out, ba_get s k hlt])
            by_cases hd : decB s[k] = true
            · have hd' := (decB_of s[k]).1 hd
              by_cases hd2 : most < (s[k].toNat : Int) - 48
              · have NH := Lib.hid (show numGo most s.data.toList 0 = none by rw [NGk.out]; unfold numGo; rw [if_neg (by omega)])
                go_wp2_with (go_at_call 22; refine (Digit_any _ _).mono ?_; rintro e w' ⟨rfl, rfl⟩)
                go_ret2
                exact ⟨(by rw [H.out, NH.out]; rfl), rfl⟩
              · by_cases hd3 : (most - ((s[k].toNat : Int) - 48)) / 10 < m
                · have NH := Lib.hid (show numGo most s.data.toList 0 = none by rw [NGk.out]; unfold numGo; rw [if_neg (by omega)])
                  go_wp2_with (go_at_call 22; refine (Digit_any _ _).mono ?_; rintro e w' ⟨rfl, rfl⟩)
                  go_ret2
                  exact ⟨(by rw [H.out, NH.out]; rfl), rfl⟩
                · have NH := Lib.hid (show numGo most s.data.toList 0 = numGo most (s.data.toList.drop (k + 1)) (m * 10 + ((s[k].toNat : Int) - 48)) by rw [NGk.out]; conv => lhs; unfold numGo; rw [if_pos ⟨hd, by omega, by omega⟩])
                  have hb1 : 10 * m + ((s[k].toNat : Int) - 48) ≤ most := by omega
                  go_wp2_with (go_at_call 22; refine (Digit_any _ _).mono ?_; rintro e w' ⟨rfl, rfl⟩)
                  go_round
                  case rel => exact ⟨k + 1, _, by omega, by go_num, rfl, by omega, by omega, Lib.hid (by rw [NH.out]; congr 1; omega)⟩
                  case measure => simp [intOf]; omega
            · have hdf : decB s[k] = false := by simpa using hd
              have NH := Lib.hid (show numGo most s.data.toList 0 = none by rw [NGk.out]; unfold numGo; rw [if_neg (by intro h; exact hd h.1)])
              go_wp2_with (go_at_call 22; refine (Digit_any _ _).mono ?_; rintro e w' ⟨rfl, rfl⟩)
              go_ret2
              exact ⟨(by rw [H.out, NH.out]; rfl), rfl⟩
          · have NH := Lib.hid (show numGo most s.data.toList 0 = some m by rw [HR.out, List.drop_of_length_le (by rw [ba_len]; omega)]; rfl)
            clear HR
            go_wp2
            go_ret2
            exact ⟨(by rw [H.out, NH.out]; rfl), rfl⟩
      · have hl2 : decide ((1 : Int) < (s.size : Int)) = false := by simp; omega
        clear hl hne hl0
        go_enter Try.func36, Try.ntmps36
        go_wp2
        clear hl2 e1
        go_loop [6, 7] (fun x i => ∃ k : Nat, ∃ m : Int, k ≤ s.size ∧ i = .int .i64 k ∧ x = .int .i64 m ∧ 0 ≤ m ∧ m ≤ most ∧ Hid (numGo most s.data.toList 0 = numGo most (s.data.toList.drop k) m)) (fun _ i => s.size - (intOf i).toNat)
        case atStart => exact ⟨0, 0, Nat.zero_le _, rfl, rfl, by omega, by omega, rfl⟩
        case round =>
          obtain ⟨k, m, hk, rfl, rfl, hm0, hm1, HR⟩ := hrel
          by_cases hlt : k < s.size
          · have NGk := Lib.hid (HR.out.trans (NG.out k hlt m))
            clear HR
            have hbk := u8_lt s[k]
            have NGk := Lib.hid (show numGo most s.data.toList 0 = numGo most (s[k] :: List.drop (k + 1) s.data.toList) m by rw [NGk.out, ba_get s k hlt])
            by_cases hd : decB s[k] = true
            · have hd' := (decB_of s[k]).1 hd
              by_cases hd2 : most < (s[k].toNat : Int) - 48
              · have NH := Lib.hid (show numGo most s.data.toList 0 = none by rw [NGk.out]; unfold numGo; rw [if_neg (by omega)])
                go_wp2_with (go_at_call 22; refine (Digit_any _ _).mono ?_; rintro e w' ⟨rfl, rfl⟩)
                go_ret2
                exact ⟨(by rw [H.out, NH.out]; rfl), rfl⟩
              · by_cases hd3 : (most - ((s[k].toNat : Int) - 48)) / 10 < m
                · have NH := Lib.hid (show numGo most s.data.toList 0 = none by rw [NGk.out]; unfold numGo; rw [if_neg (by omega)])
                  go_wp2_with (go_at_call 22; refine (Digit_any _ _).mono ?_; rintro e w' ⟨rfl, rfl⟩)
                  go_ret2
                  exact ⟨(by rw [H.out, NH.out]; rfl), rfl⟩
                · have NH := Lib.hid (show numGo most s.data.toList 0 = numGo most (s.data.toList.drop (k + 1)) (m * 10 + ((s[k].toNat : Int) - 48)) by rw [NGk.out]; conv => lhs; unfold numGo; rw [if_pos ⟨hd, by omega, by omega⟩])
                  have hb1 : 10 * m + ((s[k].toNat : Int) - 48) ≤ most := by omega
                  go_wp2_with (go_at_call 22; refine (Digit_any _ _).mono ?_; rintro e w' ⟨rfl, rfl⟩)
                  go_round
                  case rel => exact ⟨k + 1, _, by omega, by go_num, rfl, by omega, by omega, Lib.hid (by rw [NH.out]; congr 1; omega)⟩
                  case measure => simp [intOf]; omega
            · have hdf : decB s[k] = false := by simpa using hd
              have NH := Lib.hid (show numGo most s.data.toList 0 = none by rw [NGk.out]; unfold numGo; rw [if_neg (by intro h; exact hd h.1)])
              go_wp2_with (go_at_call 22; refine (Digit_any _ _).mono ?_; rintro e w' ⟨rfl, rfl⟩)
              go_ret2
              exact ⟨(by rw [H.out, NH.out]; rfl), rfl⟩
          · have NH := Lib.hid (show numGo most s.data.toList 0 = some m by rw [HR.out, List.drop_of_length_le (by rw [ba_len]; omega)]; rfl)
            clear HR
            go_wp2
            go_ret2
            exact ⟨(by rw [H.out, NH.out]; rfl), rfl⟩


end Go.Proofs.Ytcahakelihigdaa.Ref
