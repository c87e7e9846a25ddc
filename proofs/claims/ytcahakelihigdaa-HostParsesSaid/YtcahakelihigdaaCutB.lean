/- cut.Number, and the document's own: both are one plain function. Conditions: the bound is not below nought. -/
import Derived.Test.YtcahakelihigdaaCutA
namespace Go.Proofs.Ytcahakelihigdaa
open Go.RowKit

/-- The number that digits write, from n on. -/
def numGo (most : Int) : List UInt8 → Int → Option Int
  | [], n => some n
  | b :: r, n => if digitB b = true ∧ (b.toNat : Int) - 48 ≤ most ∧ n ≤ (most - ((b.toNat : Int) - 48)) / 10 then numGo most r (n * 10 + ((b.toNat : Int) - 48)) else none
def numOf (most : Int) (l : List UInt8) : Option Int :=
  if l = [] ∨ (1 < l.length ∧ (l.getD 0 0).toNat = 48) then none else numGo most l 0
def numV (o : Option Int) : Value := .tuple #[.int .i64 (o.getD 0), .bool o.isSome]

theorem drop_cons (l : List UInt8) (k : Nat) (h : k < l.length) : l.drop k = l.getD k 0 :: l.drop (k + 1) := by
  rw [List.drop_eq_getElem_cons h]
  simp [List.getD, List.getElem?_eq_getElem h]
theorem digitB_of (b : UInt8) : digitB b = true ↔ 48 ≤ b.toNat ∧ b.toNat ≤ 57 := by simp [digitB]
theorem numsL_getD (l : List UInt8) (i : Nat) (h : i < l.length) : (Lib.numsL l).getD i 0 = ((l.getD i 0).toNat : Int) := by
  simp [Lib.numsL, List.getD, List.getElem?_eq_getElem h]

set_option maxHeartbeats 1000000 in
theorem Number_any (p : Option Addr) (n c : Nat) (bs : List UInt8) (most : Int) (w : World) (hx : bs.length = n) (hn : n ≤ 140737488355328) (hb : Lib.BytesIn w p n (Lib.numsL bs)) (h0 : 0 ≤ most) (h1 : most ≤ 9223372036854775807) :
    Calls Try.prog 26 #[.slice p n c, .int .i64 most] w fun e w' => e = .returned (numV (numOf most bs)) ∧ w = w' := by
  rcases Nat.eq_zero_or_pos n with hz | hz
  · subst hz
    obtain rfl : bs = [] := List.eq_nil_of_length_eq_zero hx
    go_enter Try.func26, Try.ntmps26
    go_wp2
    go_ret2
    exact ⟨rfl, rfl⟩
  · obtain ⟨b, o, rfl, hc⟩ := hb.at hz
    have hc' : ∀ k, k < n → w.cell? ⟨b, o + k, none⟩ = some (.int .u8 ((bs.getD k 0).toNat : Int)) := fun k hk => by
      rw [hc k hk, numsL_getD bs k (by omega)]
    have hz' : ((n : Int) == 0) = false := by simp; omega
    have hc0 : w.cell? ⟨b, o, none⟩ = some (.int .u8 ((bs.getD 0 0).toNat : Int)) := hc' 0 hz
    have HC := Lib.hid hc'
    clear hc hc' hb
    by_cases hl : 1 < n ∧ (bs.getD 0 0).toNat = 48
    · have hl1 : decide ((1 : Int) < (n : Int)) = true := by simp; omega
      have hl2 : (((bs.getD 0 0).toNat : Int) == 48) = true := by rw [beq_iff_eq]; omega
      have H := Lib.hid (show numOf most bs = none by unfold numOf; rw [if_pos (.inr (by omega))])
      generalize bs.getD 0 0 = b0 at *
      clear hl
      go_enter Try.func26, Try.ntmps26
      go_wp2
      go_ret2
      exact ⟨(by rw [H.out]; rfl), rfl⟩
    · have H := Lib.hid (show numOf most bs = numGo most bs 0 by unfold numOf; rw [if_neg (fun h => h.elim (fun h => by rw [h] at hx; simp at hx; omega) (fun h => hl (by rw [← hx]; exact h)))])
      have NG := Lib.hid (fun k (hk : k < n) (m : Int) => show numGo most (bs.drop k) m = _ by rw [drop_cons bs k (by omega)])
      by_cases hl1 : 1 < n
      · have hl2 : decide ((1 : Int) < (n : Int)) = true := by simp; omega
        have hl3 : (((bs.getD 0 0).toNat : Int) == 48) = false := by rw [beq_eq_false_iff_ne]; omega
        generalize bs.getD 0 0 = b0 at hc0 hl3
        clear hl
        go_enter Try.func26, Try.ntmps26
        go_wp2
        clear hc0 hl3 hl2
        go_loop [6, 26] (fun x i => ∃ k : Nat, ∃ m : Int, k ≤ n ∧ i = .int .i64 k ∧ x = .int .i64 m ∧ 0 ≤ m ∧ m ≤ most ∧ Hid (numGo most bs 0 = numGo most (bs.drop k) m)) (fun _ i => n - (intOf i).toNat)
        case atStart => exact ⟨0, 0, Nat.zero_le _, rfl, rfl, by omega, by omega, rfl⟩
        case round =>
          obtain ⟨k, m, hk, rfl, rfl, hm0, hm1, HR⟩ := hrel
          by_cases hlt : k < n
          · have hck := HC.out k hlt
            have NGk := Lib.hid (HR.out.trans (NG.out k hlt m))
            clear HR
            generalize bs.getD k 0 = bk at hck NGk
            have hbk := u8_lt bk
            by_cases hd : digitB bk = true
            · have hd' := (digitB_of bk).1 hd
              by_cases hd2 : most < (bk.toNat : Int) - 48
              · have NH := Lib.hid (show numGo most bs 0 = none by rw [NGk.out]; unfold numGo; rw [if_neg (by omega)])
                go_wp2_with (go_at_call 40; refine (isDigit_any bk _).mono ?_; rintro e w' ⟨rfl, rfl⟩)
                go_ret2
                exact ⟨(by rw [H.out, NH.out]; rfl), rfl⟩
              · by_cases hd3 : (most - ((bk.toNat : Int) - 48)) / 10 < m
                · have NH := Lib.hid (show numGo most bs 0 = none by rw [NGk.out]; unfold numGo; rw [if_neg (by omega)])
                  go_wp2_with (go_at_call 40; refine (isDigit_any bk _).mono ?_; rintro e w' ⟨rfl, rfl⟩)
                  go_ret2
                  exact ⟨(by rw [H.out, NH.out]; rfl), rfl⟩
                · have NH := Lib.hid (show numGo most bs 0 = numGo most (bs.drop (k + 1)) (m * 10 + ((bk.toNat : Int) - 48)) by rw [NGk.out]; conv => lhs; unfold numGo; rw [if_pos ⟨hd, by omega, by omega⟩])
                  have hb1 : m * 10 + ((bk.toNat : Int) - 48) ≤ most := by omega
                  go_wp2_with (go_at_call 40; refine (isDigit_any bk _).mono ?_; rintro e w' ⟨rfl, rfl⟩)
                  go_round
                  case rel => exact ⟨k + 1, _, by omega, by go_num, rfl, by omega, by omega, NH⟩
                  case measure => simp [intOf]; omega
            · have hdf : digitB bk = false := by simpa using hd
              have NH := Lib.hid (show numGo most bs 0 = none by rw [NGk.out]; unfold numGo; rw [if_neg (by intro h; exact hd h.1)])
              go_wp2_with (go_at_call 40; refine (isDigit_any bk _).mono ?_; rintro e w' ⟨rfl, rfl⟩)
              go_ret2
              exact ⟨(by rw [H.out, NH.out]; rfl), rfl⟩
          · have NH := Lib.hid (show numGo most bs 0 = some m by rw [HR.out, List.drop_of_length_le (by omega)]; rfl)
            clear HR
            go_wp2
            go_ret2
            exact ⟨(by rw [H.out, NH.out]; rfl), rfl⟩
      · have hl2 : decide ((1 : Int) < (n : Int)) = false := by simp; omega
        generalize bs.getD 0 0 = b0 at hc0
        clear hl
        go_enter Try.func26, Try.ntmps26
        go_wp2
        clear hc0 hl2
        go_loop [6, 26] (fun x i => ∃ k : Nat, ∃ m : Int, k ≤ n ∧ i = .int .i64 k ∧ x = .int .i64 m ∧ 0 ≤ m ∧ m ≤ most ∧ Hid (numGo most bs 0 = numGo most (bs.drop k) m)) (fun _ i => n - (intOf i).toNat)
        case atStart => exact ⟨0, 0, Nat.zero_le _, rfl, rfl, by omega, by omega, rfl⟩
        case round =>
          obtain ⟨k, m, hk, rfl, rfl, hm0, hm1, HR⟩ := hrel
          by_cases hlt : k < n
          · have hck := HC.out k hlt
            have NGk := Lib.hid (HR.out.trans (NG.out k hlt m))
            clear HR
            generalize bs.getD k 0 = bk at hck NGk
            have hbk := u8_lt bk
            by_cases hd : digitB bk = true
            · have hd' := (digitB_of bk).1 hd
              by_cases hd2 : most < (bk.toNat : Int) - 48
              · have NH := Lib.hid (show numGo most bs 0 = none by rw [NGk.out]; unfold numGo; rw [if_neg (by omega)])
                go_wp2_with (go_at_call 40; refine (isDigit_any bk _).mono ?_; rintro e w' ⟨rfl, rfl⟩)
                go_ret2
                exact ⟨(by rw [H.out, NH.out]; rfl), rfl⟩
              · by_cases hd3 : (most - ((bk.toNat : Int) - 48)) / 10 < m
                · have NH := Lib.hid (show numGo most bs 0 = none by rw [NGk.out]; unfold numGo; rw [if_neg (by omega)])
                  go_wp2_with (go_at_call 40; refine (isDigit_any bk _).mono ?_; rintro e w' ⟨rfl, rfl⟩)
                  go_ret2
                  exact ⟨(by rw [H.out, NH.out]; rfl), rfl⟩
                · have NH := Lib.hid (show numGo most bs 0 = numGo most (bs.drop (k + 1)) (m * 10 + ((bk.toNat : Int) - 48)) by rw [NGk.out]; conv => lhs; unfold numGo; rw [if_pos ⟨hd, by omega, by omega⟩])
                  have hb1 : m * 10 + ((bk.toNat : Int) - 48) ≤ most := by omega
                  go_wp2_with (go_at_call 40; refine (isDigit_any bk _).mono ?_; rintro e w' ⟨rfl, rfl⟩)
                  go_round
                  case rel => exact ⟨k + 1, _, by omega, by go_num, rfl, by omega, by omega, NH⟩
                  case measure => simp [intOf]; omega
            · have hdf : digitB bk = false := by simpa using hd
              have NH := Lib.hid (show numGo most bs 0 = none by rw [NGk.out]; unfold numGo; rw [if_neg (by intro h; exact hd h.1)])
              go_wp2_with (go_at_call 40; refine (isDigit_any bk _).mono ?_; rintro e w' ⟨rfl, rfl⟩)
              go_ret2
              exact ⟨(by rw [H.out, NH.out]; rfl), rfl⟩
          · have NH := Lib.hid (show numGo most bs 0 = some m by rw [HR.out, List.drop_of_length_le (by omega)]; rfl)
            clear HR
            go_wp2
            go_ret2
            exact ⟨(by rw [H.out, NH.out]; rfl), rfl⟩

end Go.Proofs.Ytcahakelihigdaa
