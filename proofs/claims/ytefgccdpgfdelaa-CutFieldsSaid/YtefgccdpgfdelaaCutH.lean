/- cut.Token. Conditions: a text is of at most the model's greatest length. -/
import Derived.Test.YtefgccdpgfdelaaCutC
namespace Go.Proofs.Ytefgccdpgfdelaa
open Go.RowKit

/-- What a token may have beside letters and digits. -/
def marksL : List UInt8 := [33, 35, 36, 37, 38, 39, 42, 43, 45, 46, 94, 95, 96, 124, 126]
def letB (b : UInt8) : Bool := decide (97 ≤ (low b).toNat ∧ (low b).toNat ≤ 122)
def tokB (b : UInt8) : Bool := letB b || digitB b || inB b marksL
def tokL (l : List UInt8) : Bool := !l.isEmpty && l.all tokB

theorem indexByte_nonneg (l : List UInt8) (b : UInt8) : (0 ≤ Lib.indexByte l b) ↔ b ∈ l := by
  induction l with
  | nil => simp [Lib.indexByte]
  | cons x r ih =>
    unfold Lib.indexByte
    by_cases h : x = b
    · subst h; simp
    · rw [if_neg (by simpa using h), List.mem_cons, ← ih]
      have hge := Lib.indexByte_ge r b
      have hb : b ≠ x := Ne.symm h
      simp only [hb, false_or, beq_iff_eq]
      split <;> omega

theorem ltok (b : UInt8) (h : letB b = true) : tokB b = true := by simp [tokB, h]
theorem dtok (b : UInt8) (h : digitB b = true) : tokB b = true := by simp [tokB, h]
theorem mtok (b : UInt8) (h : letB b = false) (h' : digitB b = false) : tokB b = inB b marksL := by simp [tokB, h, h']

set_option maxHeartbeats 1000000 in
theorem isTokenByte_any (b : UInt8) (w : World) :
    Calls Try.prog 37 #[.int .u8 (b.toNat : Int)] w fun e w' => e = .returned (.bool (tokB b)) ∧ w = w' := by
  have hl := lowerByte_any b w
  have hlt := u8_lt (low b)
  have key : ∀ (d : Bool), digitB b = d → (letB b = true → tokB b = true) := fun _ _ h => ltok b h
  have hm : (letB b = false → digitB b = false → tokB b = inB b marksL) := mtok b
  have hidx : decide (0 ≤ Lib.indexByte marksL b) = inB b marksL := by
    unfold inB
    rw [Bool.eq_iff_iff, decide_eq_true_iff, indexByte_nonneg]
    simp
  have hsi := Try.strings_IndexByte ⟨#[33, 35, 36, 37, 38, 39, 42, 43, 45, 46, 94, 95, 96, 124, 126]⟩ (b.toNat : Int) w
  rw [show (b.toNat : Int).toNat.toUInt8 = b from by simp] at hsi
  have hsi2 : Calls Try.prog 49 #[.string ⟨#[33, 35, 36, 37, 38, 39, 42, 43, 45, 46, 94, 95, 96, 124, 126]⟩, .int .u8 (b.toNat : Int)] w fun e w' => e = .returned (.int .i64 (Lib.indexByte marksL b)) ∧ w' = w := hsi
  clear hsi
  by_cases hL : letB b = true
  · have HL := Lib.hid (ltok b hL)
    have hL' : 97 ≤ (low b).toNat ∧ (low b).toNat ≤ 122 := by simpa [letB] using hL
    clear hm hidx hsi2 hL key
    generalize low b = sm at *
    have d1 : decide ((97 : Int) ≤ (sm.toNat : Int)) = true := by simp; omega
    have d2 : decide ((sm.toNat : Int) ≤ (122 : Int)) = true := by simp; omega
    go_enter Try.func37, Try.ntmps37
    go_wp2_with (go_at_call 36; refine hl.mono ?_; rintro e w' ⟨rfl, rfl⟩)
    go_ret
    exact ⟨(by rw [HL.out]; try rfl), rfl⟩
  · have hLf : letB b = false := by simpa using hL
    have hL' : ¬ (97 ≤ (low b).toNat ∧ (low b).toNat ≤ 122) := by simpa [letB] using hL
    have HM := Lib.hid (hm hLf)
    clear hm hL hLf key
    by_cases hD : digitB b = true
    · have HL := Lib.hid (dtok b hD)
      clear hidx hsi2 HM
      have hd := isDigit_any b
      rw [hD] at hd
      clear hD
      generalize low b = sm at *
      by_cases h1 : 97 ≤ sm.toNat
      · have d1 : decide ((97 : Int) ≤ (sm.toNat : Int)) = true := by simp; omega
        have d2 : decide ((sm.toNat : Int) ≤ (122 : Int)) = false := by simp; omega
        clear hL' h1
        go_enter Try.func37, Try.ntmps37
        go_wp2_with (first | (go_at_call 36; refine hl.mono ?_; rintro e w' ⟨rfl, rfl⟩) | (go_at_call 43; refine (hd _).mono ?_; rintro e w' ⟨rfl, rfl⟩))
        go_ret
        exact ⟨(by rw [HL.out]; try rfl), rfl⟩
      · have d1 : decide ((97 : Int) ≤ (sm.toNat : Int)) = false := by simp; omega
        clear hL' h1
        go_enter Try.func37, Try.ntmps37
        go_wp2_with (first | (go_at_call 36; refine hl.mono ?_; rintro e w' ⟨rfl, rfl⟩) | (go_at_call 43; refine (hd _).mono ?_; rintro e w' ⟨rfl, rfl⟩))
        go_ret
        exact ⟨(by rw [HL.out]; try rfl), rfl⟩
    · have hDf : digitB b = false := by simpa using hD
      have HL := Lib.hid ((HM.out hDf).trans hidx.symm)
      have hd := isDigit_any b
      rw [hDf] at hd
      clear hD hDf HM hidx
      generalize low b = sm at *
      generalize Lib.indexByte marksL b = ix at *
      by_cases h1 : 97 ≤ sm.toNat
      · have d1 : decide ((97 : Int) ≤ (sm.toNat : Int)) = true := by simp; omega
        have d2 : decide ((sm.toNat : Int) ≤ (122 : Int)) = false := by simp; omega
        clear hL' h1
        go_enter Try.func37, Try.ntmps37
        go_wp2_with (first | (go_at_call 36; refine hl.mono ?_; rintro e w' ⟨rfl, rfl⟩) | (go_at_call 43; refine (hd _).mono ?_; rintro e w' ⟨rfl, rfl⟩) | (go_at_call 49; refine hsi2.mono ?_; rintro e w' ⟨rfl, hw⟩; subst hw))
        go_ret
        exact ⟨(by rw [HL.out]; try rfl), rfl⟩
      · have d1 : decide ((97 : Int) ≤ (sm.toNat : Int)) = false := by simp; omega
        clear hL' h1
        go_enter Try.func37, Try.ntmps37
        go_wp2_with (first | (go_at_call 36; refine hl.mono ?_; rintro e w' ⟨rfl, rfl⟩) | (go_at_call 43; refine (hd _).mono ?_; rintro e w' ⟨rfl, rfl⟩) | (go_at_call 49; refine hsi2.mono ?_; rintro e w' ⟨rfl, hw⟩; subst hw))
        go_ret
        exact ⟨(by rw [HL.out]; try rfl), rfl⟩

theorem all_drop (l : List UInt8) (k : Nat) (h : k < l.length) : (l.drop k).all tokB = (tokB (l.getD k 0) && (l.drop (k + 1)).all tokB) := by
  rw [drop_cons l k h, List.all_cons]

set_option maxHeartbeats 1000000 in
theorem Token_any (p : Option Addr) (n c : Nat) (bs : List UInt8) (w : World) (hx : bs.length = n) (hn : n ≤ 140737488355328) (hb : Lib.BytesIn w p n (Lib.numsL bs)) :
    Calls Try.prog 22 #[.slice p n c] w fun e w' => e = .returned (.bool (tokL bs)) ∧ w = w' := by
  go_enter Try.func22, Try.ntmps22
  go_wp2
  go_loop [7] (fun i => ∃ k : Nat, k ≤ n ∧ i = .int .i64 k ∧ Hid (bs.all tokB = (bs.drop k).all tokB)) (fun i => n - (intOf i).toNat)
  case atStart => exact ⟨0, Nat.zero_le _, rfl, rfl⟩
  case round =>
    obtain ⟨k, hk, rfl, HR⟩ := hrel
    by_cases hlt : k < n
    · obtain ⟨b, o, rfl, hc⟩ := hb.at (by omega)
      have hck : w.cell? ⟨b, o + k, none⟩ = some (.int .u8 ((bs.getD k 0).toNat : Int)) := by
        rw [← numsL_getD bs k (by omega)]
        exact hc k hlt
      have hd := HR.out.trans (all_drop bs k (by omega))
      have hne : bs.isEmpty = false := by cases bs with | nil => simp at hx; omega | cons a r => rfl
      clear hc HR hb
      generalize bs.getD k 0 = bk at *
      by_cases ht : tokB bk = true
      · have H := Lib.hid (show bs.all tokB = (bs.drop (k + 1)).all tokB by rw [hd, ht]; rfl)
        have htk := isTokenByte_any bk
        rw [ht] at htk
        clear hd hne ht
        go_wp2_with (go_at_call 37; refine (htk _).mono ?_; rintro e w' ⟨rfl, rfl⟩)
        go_round
        case rel => exact ⟨k + 1, by omega, by go_num, H⟩
        case measure => simp [intOf]; omega
      · have ht' : tokB bk = false := by simpa using ht
        have H := Lib.hid (show tokL bs = false by unfold tokL; rw [hd, ht']; simp)
        have htk := isTokenByte_any bk
        rw [ht'] at htk
        clear hd hne ht ht'
        go_wp2_with (go_at_call 37; refine (htk _).mono ?_; rintro e w' ⟨rfl, rfl⟩)
        go_ret
        exact ⟨(by rw [H.out]; try rfl), rfl⟩
    · have H := Lib.hid (show tokL bs = decide (0 < n) by
        unfold tokL
        rw [HR.out, List.drop_of_length_le (by omega)]
        cases bs with
        | nil => simp at hx; subst hx; rfl
        | cons a r => simp at hx; simp; omega)
      clear HR
      go_wp2
      go_ret
      exact ⟨(by rw [H.out]; try rfl), rfl⟩

end Go.Proofs.Ytefgccdpgfdelaa
