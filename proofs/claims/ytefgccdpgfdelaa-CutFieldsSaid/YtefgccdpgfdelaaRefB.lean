/- The document's own answers on letters, tokens, At and small letters. Conditions: a text is of at most 2^40 bytes. -/
import Derived.Test.YtefgccdpgfdelaaCutJ
import Derived.Test.YtefgccdpgfdelaaCutH
namespace Go.Proofs.Ytefgccdpgfdelaa
open Go.RowKit Go.Shelf

theorem letters_list (b : UInt8) : (inB b [97, 98, 99, 100, 101, 102, 103, 104, 105, 106, 107, 108, 109, 110, 111, 112, 113, 114, 115, 116, 117, 118, 119, 120, 121, 122] || inB b [65, 66, 67, 68, 69, 70, 71, 72, 73, 74, 75, 76, 77, 78, 79, 80, 81, 82, 83, 84, 85, 86, 87, 88, 89, 90]) = letB b := by
  have h : ∀ b : Fin 256, (inB (UInt8.ofNat b.1) [97, 98, 99, 100, 101, 102, 103, 104, 105, 106, 107, 108, 109, 110, 111, 112, 113, 114, 115, 116, 117, 118, 119, 120, 121, 122] || inB (UInt8.ofNat b.1) [65, 66, 67, 68, 69, 70, 71, 72, 73, 74, 75, 76, 77, 78, 79, 80, 81, 82, 83, 84, 85, 86, 87, 88, 89, 90]) = letB (UInt8.ofNat b.1) := by decide +kernel
  have h1 := h ⟨b.toNat, u8_lt b⟩
  rwa [UInt8.ofNat_toNat] at h1

set_option maxHeartbeats 1000000 in
theorem Letter_any (b : UInt8) (w : World) :
    Calls Try.prog 39 #[.int .u8 (b.toNat : Int)] w fun e w' => e = .returned (.bool (letB b)) ∧ w = w' := by
  have H := Lib.hid (letters_list b)
  have C1 := fun W => In_any b ⟨#[97, 98, 99, 100, 101, 102, 103, 104, 105, 106, 107, 108, 109, 110, 111, 112, 113, 114, 115, 116, 117, 118, 119, 120, 121, 122]⟩ W (by decide)
  have C2 := fun W => In_any b ⟨#[65, 66, 67, 68, 69, 70, 71, 72, 73, 74, 75, 76, 77, 78, 79, 80, 81, 82, 83, 84, 85, 86, 87, 88, 89, 90]⟩ W (by decide)
  obtain ⟨x1, G1⟩ : ∃ x, Hid (inB b (⟨#[97, 98, 99, 100, 101, 102, 103, 104, 105, 106, 107, 108, 109, 110, 111, 112, 113, 114, 115, 116, 117, 118, 119, 120, 121, 122]⟩ : ByteArray).data.toList = x) := ⟨_, rfl⟩
  obtain ⟨x2, G2⟩ : ∃ x, Hid (inB b (⟨#[65, 66, 67, 68, 69, 70, 71, 72, 73, 74, 75, 76, 77, 78, 79, 80, 81, 82, 83, 84, 85, 86, 87, 88, 89, 90]⟩ : ByteArray).data.toList = x) := ⟨_, rfl⟩
  rw [G1.out] at C1
  rw [G2.out] at C2
  have HX := Lib.hid (show (x1 || x2) = letB b by rw [← G1.out, ← G2.out]; exact H.out)
  clear H G1 G2
  cases x1
  · go_enter Try.func39, Try.ntmps39
    go_wp2_with fail
    refine (C1 _).mono ?_
    rintro e w' ⟨rfl, rfl⟩
    go_wp2_with fail
    refine (C2 _).mono ?_
    rintro e w' ⟨rfl, rfl⟩
    go_wp2
    go_ret
    exact ⟨(by rw [← HX.out]; try rfl), rfl⟩
  · go_enter Try.func39, Try.ntmps39
    go_wp2_with fail
    refine (C1 _).mono ?_
    rintro e w' ⟨rfl, rfl⟩
    go_wp2
    go_ret
    exact ⟨(by rw [← HX.out]; try rfl), rfl⟩

theorem all_tok_drop (l : List UInt8) (k : Nat) (h : k < l.length) : (l.drop k).all tokB = ((digitB (l.getD k 0) || letB (l.getD k 0) || inB (l.getD k 0) marksL) && (l.drop (k + 1)).all tokB) := by
  rw [all_drop l k h]
  congr 1
  unfold tokB
  cases letB (l.getD k 0) <;> cases digitB (l.getD k 0) <;> rfl

set_option maxHeartbeats 2000000 in
theorem refToken_any (s : ByteArray) (w : World) (hs : s.size ≤ 1099511627775) :
    Calls Try.prog 23 #[.string s] w fun e w' => e = .returned (.bool (tokL s.data.toList)) ∧ w = w' := by
  go_enter Try.func23, Try.ntmps23
  go_wp2
  go_loop [3] (fun i => ∃ k : Nat, k ≤ s.size ∧ i = .int .i64 k ∧ Hid (s.data.toList.all tokB = (s.data.toList.drop k).all tokB)) (fun i => s.size - (intOf i).toNat)
  case atStart => exact ⟨0, Nat.zero_le _, rfl, rfl⟩
  case round =>
    obtain ⟨k, hk, rfl, HR⟩ := hrel
    by_cases hlt : k < s.size
    · have hbl := ba_len s
      have hd := HR.out.trans (all_tok_drop s.data.toList k (by omega))
      rw [← ba_get s k hlt] at hd
      have hne : s.data.toList.isEmpty = false := by
        cases h : s.data.toList with
        | nil => rw [h] at hbl; simp at hbl; omega
        | cons a r => rfl
      have HN := Lib.hid hne
      have C1 := fun W => Digit_any s[k] W
      have C2 := fun W => Letter_any s[k] W
      have C3 := fun W => In_any s[k] ⟨#[33, 35, 36, 37, 38, 39, 42, 43, 45, 46, 94, 95, 96, 124, 126]⟩ W (by decide)
      rw [show (⟨#[33, 35, 36, 37, 38, 39, 42, 43, 45, 46, 94, 95, 96, 124, 126]⟩ : ByteArray).data.toList = marksL from rfl] at C3
      have HD := Lib.hid hd
      clear hd hne hbl HR
      generalize digitB s[k] = d1 at C1 HD
      generalize letB s[k] = d2 at C2 HD
      generalize inB s[k] marksL = d3 at C3 HD
      have go : (d1 || d2 || d3) = true → Hid (s.data.toList.all tokB = (s.data.toList.drop (k + 1)).all tokB) := fun h => by
        have := HD.out
        rw [h, Bool.true_and] at this
        exact this
      cases d1
      · cases d2
        · cases d3
          · have H := Lib.hid (show tokL s.data.toList = false by unfold tokL; rw [HD.out]; simp)
            clear HD HN go
            go_wp2_with fail
            refine (C1 _).mono ?_
            rintro e w' ⟨rfl, rfl⟩
            go_wp2_with fail
            refine (C2 _).mono ?_
            rintro e w' ⟨rfl, rfl⟩
            go_wp2_with fail
            refine (C3 _).mono ?_
            rintro e w' ⟨rfl, rfl⟩
            go_wp2
            go_ret
            exact ⟨(by rw [H.out]; try rfl), rfl⟩
          · have H := go rfl
            clear HD HN go
            go_wp2_with fail
            refine (C1 _).mono ?_
            rintro e w' ⟨rfl, rfl⟩
            go_wp2_with fail
            refine (C2 _).mono ?_
            rintro e w' ⟨rfl, rfl⟩
            go_wp2_with fail
            refine (C3 _).mono ?_
            rintro e w' ⟨rfl, rfl⟩
            go_wp2
            go_round
            case rel => exact ⟨k + 1, by omega, by go_num, H⟩
            case measure => simp [intOf]; omega
        · have H := go rfl
          clear HD HN go
          go_wp2_with fail
          refine (C1 _).mono ?_
          rintro e w' ⟨rfl, rfl⟩
          go_wp2_with fail
          refine (C2 _).mono ?_
          rintro e w' ⟨rfl, rfl⟩
          go_wp2
          go_round
          case rel => exact ⟨k + 1, by omega, by go_num, H⟩
          case measure => simp [intOf]; omega
      · have H := go rfl
        clear HD HN go
        go_wp2_with fail
        refine (C1 _).mono ?_
        rintro e w' ⟨rfl, rfl⟩
        go_wp2
        go_round
        case rel => exact ⟨k + 1, by omega, by go_num, H⟩
        case measure => simp [intOf]; omega
    · have H := Lib.hid (show tokL s.data.toList = !s.toList.isEmpty by
        unfold tokL
        rw [HR.out, List.drop_of_length_le (by rw [ba_len]; omega), Lib.toList_data]
        simp)
      clear HR
      go_wp2
      go_ret
      exact ⟨(by rw [H.out]; try rfl), rfl⟩

/-- Ahead of the first b, and behind it. -/
def atI (b : UInt8) (l : List UInt8) : Int := Lib.indexByte l b

theorem index_at : ∀ (l : List UInt8) (c : UInt8) (k : Nat), k < l.length → l.getD k 0 = c → (∀ j, j < k → l.getD j 0 ≠ c) → Lib.indexByte l c = (k : Int)
  | [], _, k, h, _, _ => absurd h (Nat.not_lt_zero k)
  | x :: r, c, 0, _, h, _ => by
    have : x = c := h
    subst this
    simp [Lib.indexByte]
  | x :: r, c, k + 1, h, hk, hj => by
    have hx : x ≠ c := hj 0 (Nat.succ_pos k)
    have ih := index_at r c k (by simpa using h) hk (fun j hjk => hj (j + 1) (by omega))
    unfold Lib.indexByte
    rw [if_neg (by simpa using hx), ih]
    simp
theorem index_no : ∀ (l : List UInt8) (c : UInt8), (∀ j, j < l.length → l.getD j 0 ≠ c) → Lib.indexByte l c = -1
  | [], _, _ => rfl
  | x :: r, c, h => by
    have hx : x ≠ c := h 0 (Nat.succ_pos _)
    have ih := index_no r c (fun j hj => h (j + 1) (by simpa using hj))
    unfold Lib.indexByte
    rw [if_neg (by simpa using hx), ih]
    simp

def atFst (b : UInt8) (l : List UInt8) : List UInt8 := if 0 ≤ Lib.indexByte l b then l.take (Lib.indexByte l b).toNat else l
def atSnd (b : UInt8) (l : List UInt8) : List UInt8 := if 0 ≤ Lib.indexByte l b then l.drop ((Lib.indexByte l b).toNat + 1) else []
def atOk (b : UInt8) (l : List UInt8) : Bool := decide (0 ≤ Lib.indexByte l b)
theorem at_found (b : UInt8) (l : List UInt8) (k : Nat) (h : Lib.indexByte l b = (k : Int)) : atFst b l = l.take k ∧ atSnd b l = l.drop (k + 1) ∧ atOk b l = true := by
  unfold atFst atSnd atOk
  rw [h]
  simp
theorem at_none (b : UInt8) (l : List UInt8) (h : Lib.indexByte l b = -1) : atFst b l = l ∧ atSnd b l = [] ∧ atOk b l = false := by
  unfold atFst atSnd atOk
  rw [h]
  simp
theorem ext_take (s : ByteArray) (k : Nat) : (s.extract 0 k).data.toList = s.data.toList.take k := by
  rw [ByteArray.data_extract, Array.toList_extract]
  simp [List.extract]
theorem ext_drop (s : ByteArray) (k : Nat) : (s.extract k s.size).data.toList = s.data.toList.drop k := by
  rw [ByteArray.data_extract, Array.toList_extract]
  show (s.data.toList.drop k).take (s.size - k) = _
  rw [List.take_of_length_le (by rw [List.length_drop, ba_len]; exact Nat.le_refl _)]

set_option maxHeartbeats 2000000 in
theorem refAt_any (c : UInt8) (s : ByteArray) (w : World) (hs : s.size ≤ 1099511627775) :
    Calls Try.prog 19 #[.string s, .int .u8 (c.toNat : Int)] w fun e w' => ∃ x y : ByteArray, e = .returned (.tuple #[.string x, .string y, .bool (atOk c s.data.toList)]) ∧ Hid (x.data.toList = atFst c s.data.toList) ∧ Hid (y.data.toList = atSnd c s.data.toList) ∧ ∃ q, w' = w.drewN q := by
  go_enter Try.func19, Try.ntmps19
  go_wp2
  go_loop [7] (fun i => ∃ k : Nat, k ≤ s.size ∧ i = .int .i64 k ∧ Hid (∀ j, j < k → s.data.toList.getD j 0 ≠ c)) (fun i => s.size - (intOf i).toNat)
  case atStart => exact ⟨0, Nat.zero_le _, rfl, fun j hj => absurd hj (Nat.not_lt_zero j)⟩
  case round =>
    obtain ⟨k, hk, rfl, HR⟩ := hrel
    by_cases hlt : k < s.size
    · have hck := u8_lt s[k]
      have hcc := u8_lt c
      have hgk := ba_get s k hlt
      have hbl := ba_len s
      by_cases he : s[k] = c
      · have e1 : (((s[k].toNat : Nat) : Int) == (c.toNat : Int)) = true := by rw [beq_iff_eq, he]
        have hx := at_found c s.data.toList k (index_at _ _ _ (by omega) (hgk ▸ he) HR.out)
        have H := Lib.hid hx
        clear hx HR hgk hbl he
        go_wp2_with (go_quiet (fail))
        go_ret3
        refine ⟨s.extract 0 k, s.extract (k + 1) s.size, (by rw [H.out.2.2]; try rfl), ?_, ?_, _, rfl⟩
        · exact Lib.hid (by rw [H.out.1]; exact ext_take s k)
        · exact Lib.hid (by rw [H.out.2.1]; exact ext_drop s (k + 1))
      · have e1 : (((s[k].toNat : Nat) : Int) == (c.toNat : Int)) = false := by
          rw [beq_eq_false_iff_ne]; intro h; exact he (UInt8.toNat_inj.1 (by omega))
        have H := Lib.hid (show ∀ j, j < k + 1 → s.data.toList.getD j 0 ≠ c from fun j hj => by
          by_cases h : j = k
          · subst h; rw [← hgk]; exact he
          · exact HR.out j (by omega))
        clear HR hgk hbl he
        go_wp2
        go_round
        case rel => exact ⟨k + 1, by omega, by go_num, H⟩
        case measure => simp [intOf]; omega
    · have hx := at_none c s.data.toList (index_no _ _ (fun j hj => HR.out j (by rw [ba_len] at hj; omega)))
      have H := Lib.hid hx
      clear hx HR
      go_wp2
      go_ret3
      exact ⟨s, ⟨#[]⟩, (by rw [H.out.2.2]; try rfl), Lib.hid H.out.1.symm, Lib.hid H.out.2.1.symm, 0, rfl⟩

theorem abc_low (b : UInt8) (h1 : 65 ≤ b.toNat) (h2 : b.toNat ≤ 90) (x : ByteArray) :
    (x ++ (ByteArray.extract ⟨#[97, 98, 99, 100, 101, 102, 103, 104, 105, 106, 107, 108, 109, 110, 111, 112, 113, 114, 115, 116, 117, 118, 119, 120, 121, 122]⟩ (b.toNat - 65) (b.toNat - 64))).data.toList = x.data.toList ++ [low b] := by
  have h : ∀ i : Fin 26, (ByteArray.extract ⟨#[97, 98, 99, 100, 101, 102, 103, 104, 105, 106, 107, 108, 109, 110, 111, 112, 113, 114, 115, 116, 117, 118, 119, 120, 121, 122]⟩ (i.1 + 65 - 65) (i.1 + 65 - 64)).data.toList = [low (UInt8.ofNat (i.1 + 65))] := by decide +kernel
  have h3 := h ⟨b.toNat - 65, by omega⟩
  simp only [show b.toNat - 65 + 65 = b.toNat from by omega] at h3
  rw [UInt8.ofNat_toNat] at h3
  rw [ByteArray.data_append, Array.toList_append, h3]

theorem lowL_take (l : List UInt8) (k : Nat) (h : k < l.length) : lowL (l.take (k + 1)) = lowL (l.take k) ++ [low (l.getD k 0)] := by
  show (l.take (k + 1)).map low = (l.take k).map low ++ _
  rw [List.take_succ_eq_append_getElem h, List.map_append]
  congr 1
  simp [List.getD, List.getElem?_eq_getElem h]

set_option maxHeartbeats 2000000 in
theorem refLower_any (s : ByteArray) (w : World) (hs : s.size ≤ 1099511627775) :
    Calls Try.prog 21 #[.string s] w fun e w' => ∃ x : ByteArray, e = .returned (.string x) ∧ Hid (x.data.toList = lowL s.data.toList) ∧ ∃ q, w' = w.drewN q := by
  go_enter Try.func21, Try.ntmps21
  go_wp2
  go_loopw [3, 4] (fun o i wr => ∃ k q : Nat, ∃ x : ByteArray, k ≤ s.size ∧ wr = w.drewN q ∧ i = .int .i64 k ∧ o = .string x ∧ Hid (x.data.toList = lowL (s.data.toList.take k))) (fun _ i _ => s.size - (intOf i).toNat)
  case atStart => exact ⟨0, 0, ⟨#[]⟩, Nat.zero_le _, rfl, rfl, rfl, rfl⟩
  case round =>
    obtain ⟨k, q, x, hk, rfl, rfl, rfl, HR⟩ := hrel
    by_cases hlt : k < s.size
    · have hck := u8_lt s[k]
      have hgk := ba_get s k hlt
      have hbl := ba_len s
      have hxs : x.size = k := by rw [← ba_len, HR.out, lowL_length, List.length_take]; omega
      have hst := lowL_take s.data.toList k (by omega)
      rw [← hgk, ← HR.out] at hst
      have HS := Lib.hid hst
      by_cases h1 : 65 ≤ s[k].toNat
      · by_cases h2 : s[k].toNat ≤ 90
        · have HA := Lib.hid (abc_low s[k] h1 h2 x)
          clear hst hgk hbl
          go_wp2_with (go_quiet (fail))
          go_roundw
          case rel => exact ⟨k + 1, q + nq, _, by omega, by simp [World.drewN, Nat.add_assoc], by go_num, rfl, Lib.hid (by rw [HS.out]; exact HA.out)⟩
          case measure => simp [intOf]; omega
        · have HA := Lib.hid (low_lo s[k] (by omega))
          have HB := Lib.hid (ba_app x s k hlt)
          have d2 : decide ((s[k].toNat : Int) ≤ 90) = false := by simp; omega
          clear hst hgk hbl
          go_wp2
          go_roundw
          case rel => exact ⟨k + 1, q, _, by omega, rfl, by go_num, rfl, Lib.hid (by rw [HS.out, HA.out]; exact HB.out)⟩
          case measure => simp [intOf]; omega
      · have HA := Lib.hid (low_lo s[k] (by omega))
        have HB := Lib.hid (ba_app x s k hlt)
        have d2 : decide ((65 : Int) ≤ (s[k].toNat : Int)) = false := by simp; omega
        clear hst hgk hbl
        go_wp2
        go_roundw
        case rel => exact ⟨k + 1, q, _, by omega, rfl, by go_num, rfl, Lib.hid (by rw [HS.out, HA.out]; exact HB.out)⟩
        case measure => simp [intOf]; omega
    · have H := Lib.hid (show x.data.toList = lowL s.data.toList by rw [HR.out, List.take_of_length_le (by rw [ba_len]; omega)])
      clear HR
      go_wp2
      go_ret
      exact ⟨_, rfl, H, q, rfl⟩

end Go.Proofs.Ytefgccdpgfdelaa
