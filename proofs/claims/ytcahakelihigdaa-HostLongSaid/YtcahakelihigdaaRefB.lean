/- The document's own answers on letters, tokens, At and small letters. Conditions: a text is of at most 2^40 bytes. -/
import Derived.Test.YtcahakelihigdaaCutJ
import Derived.Test.YtcahakelihigdaaCutH
namespace Go.Proofs.Ytcahakelihigdaa
open Go.RowKit Go.Shelf

theorem letters_list (b : UInt8) : (inB b [97, 98, 99, 100, 101, 102, 103, 104, 105, 106, 107, 108, 109, 110, 111, 112, 113, 114, 115, 116, 117, 118, 119, 120, 121, 122] || inB b [65, 66, 67, 68, 69, 70, 71, 72, 73, 74, 75, 76, 77, 78, 79, 80, 81, 82, 83, 84, 85, 86, 87, 88, 89, 90]) = letB b := by
  have h : ∀ b : Fin 256, (inB (UInt8.ofNat b.1) [97, 98, 99, 100, 101, 102, 103, 104, 105, 106, 107, 108, 109, 110, 111, 112, 113, 114, 115, 116, 117, 118, 119, 120, 121, 122] || inB (UInt8.ofNat b.1) [65, 66, 67, 68, 69, 70, 71, 72, 73, 74, 75, 76, 77, 78, 79, 80, 81, 82, 83, 84, 85, 86, 87, 88, 89, 90]) = letB (UInt8.ofNat b.1) := by decide +kernel
  have h1 := h ⟨b.toNat, u8_lt b⟩
  rwa [UInt8.ofNat_toNat] at h1

set_option maxHeartbeats 1000000 in
theorem Letter_any (b : UInt8) (w : World) :
    Calls Try.prog 21 #[.int .u8 (b.toNat : Int)] w fun e w' => e = .returned (.bool (letB b)) ∧ w = w' := by
  have H := Lib.hid (letters_list b)
  have C1 := fun W => In_any b ⟨#[97, 98, 99, 100, 101, 102, 103, 104, 105, 106, 107, 108, 109, 110, 111, 112, 113, 114, 115, 116, 117, 118, 119, 120, 121, 122]⟩ W (by decide)
  have C2 := fun W => In_any b ⟨#[65, 66, 67, 68, 69, 70, 71, 72, 73, 74, 75, 76, 77, 78, 79, 80, 81, 82, 83, 84, 85, 86, 87, 88, 89, 90]⟩ W (by decide)
  obtain ⟨x1, G1⟩ : ∃ x, Hid (inB b (⟨#[97, 98, 99, 100, 101, 102, 103, 104, 105, 106, 107, 108, 109, 110, 111, 112, 113, 114, 115, 116, 117, 118, 119, 120, 121, 122]⟩ : ByteArray).data.toList = x) := ⟨_, rfl⟩
  obtain ⟨x2, G2⟩ : ∃ x, Hid (inB b (⟨#[65, 66, 67, 68, 69, 70, 71, 72, 73, 74, 75, 76, 77, 78, 79, 80, 81, 82, 83, 84, 85, 86, 87, 88, 89, 90]⟩ : ByteArray).data.toList = x) := ⟨_, rfl⟩
  rw [G1.out] at C1
  rw [G2.out] at C2
  have HX := Lib.hid (show (x1 || x2) = letB b by rw [← G1.out, ← G2.out]; exact H.out)
  clear H G1 G2
  cases x1
  · go_enter Try.func21, Try.ntmps21
    go_wp2_with fail
    refine (C1 _).mono ?_
    rintro e w' ⟨rfl, rfl⟩
    go_wp2_with fail
    refine (C2 _).mono ?_
    rintro e w' ⟨rfl, rfl⟩
    go_wp2
    go_ret
    exact ⟨(by rw [← HX.out]; try rfl), rfl⟩
  · go_enter Try.func21, Try.ntmps21
    go_wp2_with fail
    refine (C1 _).mono ?_
    rintro e w' ⟨rfl, rfl⟩
    go_wp2
    go_ret
    exact ⟨(by rw [← HX.out]; try rfl), rfl⟩

theorem all_tok_drop (l : List UInt8) (k : Nat) (h : k < l.length) : (l.drop k).all tokB = ((digitB (l.getD k 0) || letB (l.getD k 0) || inB (l.getD k 0) marksL) && (l.drop (k + 1)).all tokB) := by
  rw [all_drop l k h]
  congr 1
  unfold tokB
  cases letB (l.getD k 0) <;> cases digitB (l.getD k 0) <;> rfl

/-- Ahead of the first b, and behind it. -/
def atI (b : UInt8) (l : List UInt8) : Int := Lib.indexByte l b

theorem index_at : ∀ (l : List UInt8) (c : UInt8) (k : Nat), k < l.length → l.getD k 0 = c → (∀ j, j < k → l.getD j 0 ≠ c) → Lib.indexByte l c = (k : Int)
  | [], _, k, h, _, _ => absurd h (Nat.not_lt_zero k)
  | x :: r, c, 0, _, h, _ => by
    have : x = c := h
    subst this
    simp [Lib.indexByte]
  | x :: r, c, k + 1, h, hk, hj => by
    have hx : x ≠ c := hj 0 (Nat.succ_pos k)
    have ih := index_at r c k (by simpa using h) hk (fun j hjk => hj (j + 1) (by omega))
    unfold Lib.indexByte
    rw [if_neg (by simpa using hx), ih]
    simp
theorem index_no : ∀ (l : List UInt8) (c : UInt8), (∀ j, j < l.length → l.getD j 0 ≠ c) → Lib.indexByte l c = -1
  | [], _, _ => rfl
  | x :: r, c, h => by
    have hx : x ≠ c := h 0 (Nat.succ_pos _)
    have ih := index_no r c (fun j hj => h (j + 1) (by simpa using hj))
    unfold Lib.indexByte
    rw [if_neg (by simpa using hx), ih]
    simp

def atFst (b : UInt8) (l : List UInt8) : List UInt8 := if 0 ≤ Lib.indexByte l b then l.take (Lib.indexByte l b).toNat else l
def atSnd (b : UInt8) (l : List UInt8) : List UInt8 := if 0 ≤ Lib.indexByte l b then l.drop ((Lib.indexByte l b).toNat + 1) else []
def atOk (b : UInt8) (l : List UInt8) : Bool := decide (0 ≤ Lib.indexByte l b)
theorem at_found (b : UInt8) (l : List UInt8) (k : Nat) (h : Lib.indexByte l b = (k : Int)) : atFst b l = l.take k ∧ atSnd b l = l.drop (k + 1) ∧ atOk b l = true := by
  unfold atFst atSnd atOk
  rw [h]
  simp
theorem at_none (b : UInt8) (l : List UInt8) (h : Lib.indexByte l b = -1) : atFst b l = l ∧ atSnd b l = [] ∧ atOk b l = false := by
  unfold atFst atSnd atOk
  rw [h]
  simp
theorem ext_take (s : ByteArray) (k : Nat) : (s.extract 0 k).data.toList = s.data.toList.take k := by
  rw [ByteArray.data_extract, Array.toList_extract]
  simp [List.extract]
theorem ext_drop (s : ByteArray) (k : Nat) : (s.extract k s.size).data.toList = s.data.toList.drop k := by
  rw [ByteArray.data_extract, Array.toList_extract]
  show (s.data.toList.drop k).take (s.size - k) = _
  rw [List.take_of_length_le (by rw [List.length_drop, ba_len]; exact Nat.le_refl _)]

theorem abc_low (b : UInt8) (h1 : 65 ≤ b.toNat) (h2 : b.toNat ≤ 90) (x : ByteArray) :
    (x ++ (ByteArray.extract ⟨#[97, 98, 99, 100, 101, 102, 103, 104, 105, 106, 107, 108, 109, 110, 111, 112, 113, 114, 115, 116, 117, 118, 119, 120, 121, 122]⟩ (b.toNat - 65) (b.toNat - 64))).data.toList = x.data.toList ++ [low b] := by
  have h : ∀ i : Fin 26, (ByteArray.extract ⟨#[97, 98, 99, 100, 101, 102, 103, 104, 105, 106, 107, 108, 109, 110, 111, 112, 113, 114, 115, 116, 117, 118, 119, 120, 121, 122]⟩ (i.1 + 65 - 65) (i.1 + 65 - 64)).data.toList = [low (UInt8.ofNat (i.1 + 65))] := by decide +kernel
  have h3 := h ⟨b.toNat - 65, by omega⟩
  simp only [show b.toNat - 65 + 65 = b.toNat from by omega] at h3
  rw [UInt8.ofNat_toNat] at h3
  rw [ByteArray.data_append, Array.toList_append, h3]

theorem lowL_take (l : List UInt8) (k : Nat) (h : k < l.length) : lowL (l.take (k + 1)) = lowL (l.take k) ++ [low (l.getD k 0)] := by
  show (l.take (k + 1)).map low = (l.take k).map low ++ _
  rw [List.take_succ_eq_append_getElem h, List.map_append]
  congr 1
  simp [List.getD, List.getElem?_eq_getElem h]

set_option maxHeartbeats 2000000 in
theorem refLower_any (s : ByteArray) (w : World) (hs : s.size ≤ 1099511627775) :
    Calls Try.prog 24 #[.string s] w fun e w' => ∃ x : ByteArray, e = .returned (.string x) ∧ Hid (x.data.toList = lowL s.data.toList) ∧ ∃ q, w' = w.drewN q := by
  go_enter Try.func24, Try.ntmps24
  go_wp2
  go_loopw [3, 4] (fun o i wr => ∃ k q : Nat, ∃ x : ByteArray, k ≤ s.size ∧ wr = w.drewN q ∧ i = .int .i64 k ∧ o = .string x ∧ Hid (x.data.toList = lowL (s.data.toList.take k))) (fun _ i _ => s.size - (intOf i).toNat)
  case atStart => exact ⟨0, 0, ⟨#[]⟩, Nat.zero_le _, rfl, rfl, rfl, rfl⟩
  case round =>
    obtain ⟨k, q, x, hk, rfl, rfl, rfl, HR⟩ := hrel
    by_cases hlt : k < s.size
    · have hck := u8_lt s[k]
      have hgk := ba_get s k hlt
      have hbl := ba_len s
      have hxs : x.size = k := by rw [← ba_len, HR.out, lowL_length, List.length_take]; omega
      have hst := lowL_take s.data.toList k (by omega)
      rw [← hgk, ← HR.out] at hst
      have HS := Lib.hid hst
      by_cases h1 : 65 ≤ s[k].toNat
      · by_cases h2 : s[k].toNat ≤ 90
        · have HA := Lib.hid (abc_low s[k] h1 h2 x)
          clear hst hgk hbl
          go_wp2_with (go_quiet (fail))
          go_roundw
          case rel => exact ⟨k + 1, q + nq, _, by omega, by simp [World.drewN, Nat.add_assoc], by go_num, rfl, Lib.hid (by rw [HS.out]; exact HA.out)⟩
          case measure => simp [intOf]; omega
        · have HA := Lib.hid (low_lo s[k] (by omega))
          have HB := Lib.hid (ba_app x s k hlt)
          have d2 : decide ((s[k].toNat : Int) ≤ 90) = false := by simp; omega
          clear hst hgk hbl
          go_wp2
          go_roundw
          case rel => exact ⟨k + 1, q, _, by omega, rfl, by go_num, rfl, Lib.hid (by rw [HS.out, HA.out]; exact HB.out)⟩
          case measure => simp [intOf]; omega
      · have HA := Lib.hid (low_lo s[k] (by omega))
        have HB := Lib.hid (ba_app x s k hlt)
        have d2 : decide ((65 : Int) ≤ (s[k].toNat : Int)) = false := by simp; omega
        clear hst hgk hbl
        go_wp2
        go_roundw
        case rel => exact ⟨k + 1, q, _, by omega, rfl, by go_num, rfl, Lib.hid (by rw [HS.out, HA.out]; exact HB.out)⟩
        case measure => simp [intOf]; omega
    · have H := Lib.hid (show x.data.toList = lowL s.data.toList by rw [HR.out, List.take_of_length_le (by rw [ba_len]; omega)])
      clear HR
      go_wp2
      go_ret
      exact ⟨_, rfl, H, q, rfl⟩

end Go.Proofs.Ytcahakelihigdaa
