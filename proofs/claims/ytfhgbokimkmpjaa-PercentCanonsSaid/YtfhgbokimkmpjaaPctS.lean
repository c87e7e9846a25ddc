/- The document's own answers: small letters, a byte's two digits, what two digits count, Encode. Conditions: a text is of at most 2^40 bytes. -/
import Derived.Test.YtfhgbokimkmpjaaPctR
import Derived.Test.YtfhgbokimkmpjaaPctD
namespace Go.Proofs.Ytfhgbokimkmpjaa.Pct
open Go.RowKit Go.Shelf

theorem hex_cut (n : Nat) (h : n < 16) : ((ByteArray.mk #[48, 49, 50, 51, 52, 53, 54, 55, 56, 57, 65, 66, 67, 68, 69, 70]).extract n (n + 1)).data.toList = [dg n] := by
  have h' : ∀ i : Fin 16, ((ByteArray.mk #[48, 49, 50, 51, 52, 53, 54, 55, 56, 57, 65, 66, 67, 68, 69, 70]).extract i.1 (i.1 + 1)).data.toList = [dg i.1] := by decide +kernel
  exact h' ⟨n, h⟩

set_option maxHeartbeats 2000000 in
theorem Hex_any (n : Nat) (w : World) (hn : n < 256) :
    Calls Try.prog 17 #[.int .u8 (n : Int)] w fun e w' => ∃ x : ByteArray, e = .returned (.string x) ∧ Hid (x.data.toList = [dg (n / 16), dg (n % 16)]) ∧ ∃ q, w' = w.drewN q := by
  go_enter Try.func17, Try.ntmps17
  go_wp2_with (go_quiet (fail))
  go_ret
  refine ⟨_, rfl, Lib.hid ?_, nq, rfl⟩
  have h1 := hex_cut (n / 16) (by omega)
  have h2 := hex_cut (n % 16) (by omega)

  rw [ByteArray.data_append, Array.toList_append, h1, h2]; rfl

/-- A great letter made small. -/
def low (b : UInt8) : UInt8 := if 65 ≤ b.toNat ∧ b.toNat ≤ 90 then b + 32 else b
def lowL (l : List UInt8) : List UInt8 := l.map low
theorem low_lo (b : UInt8) (h : ¬ (65 ≤ b.toNat ∧ b.toNat ≤ 90)) : low b = b := by
  unfold low
  rw [if_neg h]
theorem lowL_length (l : List UInt8) : (lowL l).length = l.length := by simp [lowL]
theorem ba_app (x s : ByteArray) (k : Nat) (h : k < s.size) : (x ++ s.extract k (k + 1)).data.toList = x.data.toList ++ [s[k]] := by
  have h' : k < s.data.size := h
  have hx : (s.extract k (k + 1)).data.toList = [s[k]] := by
    apply List.ext_getElem?
    intro i
    simp only [ByteArray.data_extract, Array.toList_extract, List.getElem?_take, List.getElem?_drop, List.extract_eq_take_drop]
    by_cases hi : i = 0
    · subst hi
      simp
      rw [Array.getElem?_eq_getElem h']
      rfl
    · rw [if_neg (by omega)]
      simp [hi]
  rw [ByteArray.data_append, Array.toList_append, hx]
theorem abc_low (b : UInt8) (h1 : 65 ≤ b.toNat) (h2 : b.toNat ≤ 90) (x : ByteArray) :
    (x ++ (ByteArray.extract ⟨#[97, 98, 99, 100, 101, 102, 103, 104, 105, 106, 107, 108, 109, 110, 111, 112, 113, 114, 115, 116, 117, 118, 119, 120, 121, 122]⟩ (b.toNat - 65) (b.toNat - 64))).data.toList = x.data.toList ++ [low b] := by
  have h : ∀ i : Fin 26, (ByteArray.extract ⟨#[97, 98, 99, 100, 101, 102, 103, 104, 105, 106, 107, 108, 109, 110, 111, 112, 113, 114, 115, 116, 117, 118, 119, 120, 121, 122]⟩ (i.1 + 65 - 65) (i.1 + 65 - 64)).data.toList = [low (UInt8.ofNat (i.1 + 65))] := by decide +kernel
  have h3 := h ⟨b.toNat - 65, by omega⟩
  simp only [show b.toNat - 65 + 65 = b.toNat from by omega] at h3
  rw [UInt8.ofNat_toNat] at h3
  rw [ByteArray.data_append, Array.toList_append, h3]
theorem lowL_take (l : List UInt8) (k : Nat) (h : k < l.length) : lowL (l.take (k + 1)) = lowL (l.take k) ++ [low (l.getD k 0)] := by
  show (l.take (k + 1)).map low = (l.take k).map low ++ _
  rw [List.take_succ_eq_append_getElem h, List.map_append]
  congr 1
  simp [List.getD, List.getElem?_eq_getElem h]

set_option maxHeartbeats 2000000 in
theorem refLower_any (s : ByteArray) (w : World) (hs : s.size ≤ 1099511627775) :
    Calls Try.prog 36 #[.string s] w fun e w' => ∃ x : ByteArray, e = .returned (.string x) ∧ Hid (x.data.toList = lowL s.data.toList) ∧ ∃ q, w' = w.drewN q := by
  go_enter Try.func36, Try.ntmps36
  go_wp2
  go_loopw [3, 4] (fun o i wr => ∃ k q : Nat, ∃ x : ByteArray, k ≤ s.size ∧ wr = w.drewN q ∧ i = .int .i64 k ∧ o = .string x ∧ Hid (x.data.toList = lowL (s.data.toList.take k))) (fun _ i _ => s.size - (intOf i).toNat)
  case atStart => exact ⟨0, 0, ⟨#[]⟩, Nat.zero_le _, rfl, rfl, rfl, rfl⟩
  case round =>
    obtain ⟨k, q, x, hk, rfl, rfl, rfl, HR⟩ := hrel
    by_cases hlt : k < s.size
    · have hck := u8_lt s[k]
      have hgk := ba_get s k hlt
      have hbl := ba_len s
      have hxs : x.size = k := by rw [← ba_len, HR.out, lowL_length, List.length_take]; omega
      have hst := lowL_take s.data.toList k (by omega)
      rw [← hgk, ← HR.out] at hst
      have HS := Lib.hid hst
      by_cases h1 : 65 ≤ s[k].toNat
      · by_cases h2 : s[k].toNat ≤ 90
        · have HA := Lib.hid (abc_low s[k] h1 h2 x)
          clear hst hgk hbl
          go_wp2_with (go_quiet (fail))
          go_roundw
          case rel => exact ⟨k + 1, q + nq, _, by omega, by simp [World.drewN], by go_num, rfl, Lib.hid (by rw [HS.out]; exact HA.out)⟩
          case measure => simp [intOf]; omega
        · have HA := Lib.hid (low_lo s[k] (by omega))
          have HB := Lib.hid (ba_app x s k hlt)
          have d2 : decide ((s[k].toNat : Int) ≤ 90) = false := by simp; omega
          clear hst hgk hbl
          go_wp2
          go_roundw
          case rel => exact ⟨k + 1, q, _, by omega, rfl, by go_num, rfl, Lib.hid (by rw [HS.out, HA.out]; exact HB.out)⟩
          case measure => simp [intOf]; omega
      · have HA := Lib.hid (low_lo s[k] (by omega))
        have HB := Lib.hid (ba_app x s k hlt)
        have d2 : decide ((65 : Int) ≤ (s[k].toNat : Int)) = false := by simp; omega
        clear hst hgk hbl
        go_wp2
        go_roundw
        case rel => exact ⟨k + 1, q, _, by omega, rfl, by go_num, rfl, Lib.hid (by rw [HS.out, HA.out]; exact HB.out)⟩
        case measure => simp [intOf]; omega
    · have H := Lib.hid (show x.data.toList = lowL s.data.toList by rw [HR.out, List.take_of_length_le (by rw [ba_len]; omega)])
      clear HR
      go_wp2
      go_ret
      exact ⟨_, rfl, H, q, rfl⟩

/-- What two digits count; -1: they are none. -/
def valI (x y : UInt8) : Int := if hexB x && hexB y then ((pairV x y).toNat : Int) else -1
theorem low_dg (x : UInt8) : ∀ v : Fin 16, (low (dg v.1) = low x) ↔ (hexB x = true ∧ (worth x).toNat = v.1) := by
  have h : ∀ i : Fin 256, ∀ v : Fin 16, (low (dg v.1) = low (UInt8.ofNat i.1)) ↔ (hexB (UInt8.ofNat i.1) = true ∧ (worth (UInt8.ofNat i.1)).toNat = v.1) := by decide +kernel
  have h1 := h ⟨x.toNat, u8_lt x⟩
  rwa [UInt8.ofNat_toNat] at h1
theorem pair_nat : ∀ u v : Fin 16, (((UInt8.ofNat u.1) <<< 4) ||| (UInt8.ofNat v.1)).toNat = 16 * u.1 + v.1 := by decide +kernel
theorem worth_lt (x : UInt8) (h : hexB x = true) : (worth x).toNat < 16 := by
  have h' : ∀ i : Fin 256, hexB (UInt8.ofNat i.1) = true → (worth (UInt8.ofNat i.1)).toNat < 16 := by decide +kernel
  have h1 := h' ⟨x.toNat, u8_lt x⟩
  rw [UInt8.ofNat_toNat] at h1
  exact h1 h
theorem pairV_nat (x y : UInt8) (hx : hexB x = true) (hy : hexB y = true) : (pairV x y).toNat = 16 * (worth x).toNat + (worth y).toNat := by
  have h := pair_nat ⟨(worth x).toNat, worth_lt x hx⟩ ⟨(worth y).toNat, worth_lt y hy⟩
  simp only [UInt8.ofNat_toNat] at h
  exact h
/-- Whether a number's two digits are these, great or small. -/
def hasDs (n : Nat) (x y : UInt8) : Bool := lowL [dg (n / 16), dg (n % 16)] == lowL [x, y]
theorem hasDs_iff (n : Nat) (hn : n < 256) (x y : UInt8) : hasDs n x y = true ↔ (hexB x = true ∧ hexB y = true ∧ (pairV x y).toNat = n) := by
  unfold hasDs lowL
  simp only [List.map_cons, List.map_nil, beq_iff_eq, List.cons.injEq, and_true]
  rw [low_dg x ⟨n / 16, by omega⟩, low_dg y ⟨n % 16, by omega⟩]
  constructor
  · rintro ⟨⟨h1, h2⟩, h3, h4⟩
    refine ⟨h1, h3, ?_⟩
    rw [pairV_nat x y h1 h3, h2, h4]
    simp only; omega
  · rintro ⟨h1, h2, h3⟩
    rw [pairV_nat x y h1 h2] at h3
    have := worth_lt x h1
    have := worth_lt y h2
    refine ⟨⟨h1, ?_⟩, h2, ?_⟩
    · simp only; omega
    · simp only; omega
theorem valI_at (n : Nat) (hn : n < 256) (x y : UInt8) (h : hasDs n x y = true) : valI x y = (n : Int) := by
  obtain ⟨h1, h2, h3⟩ := (hasDs_iff n hn x y).1 h
  unfold valI
  rw [h1, h2, h3]; rfl
theorem valI_no (x y : UInt8) (h : ∀ n, n < 256 → hasDs n x y = false) : valI x y = -1 := by
  unfold valI
  rw [if_neg]
  intro hh
  rw [Bool.and_eq_true] at hh
  have h1 := h (pairV x y).toNat (u8_lt _)
  rw [(hasDs_iff _ (u8_lt _) x y).2 ⟨hh.1, hh.2, rfl⟩] at h1
  cases h1

theorem ba_ext (x y : ByteArray) (h : x.data.toList = y.data.toList) : x = y := by
  apply ByteArray.ext; apply Array.ext'; exact h

set_option maxRecDepth 100000 in
set_option maxHeartbeats 2000000 in
theorem value_any (s : ByteArray) (x y : UInt8) (w : World) (hs : s.data.toList = [x, y]) :
    Calls Try.prog 29 #[.string s] w fun e w' => e = .returned (.int .i64 (valI x y)) ∧ ∃ q, w' = w.drewN q := by
  have hs2 : s.size = 2 := by rw [← ba_len, hs]; rfl
  have con := fun W => refLower_any s W (by omega)
  have HS := Lib.hid hs
  clear hs hs2
  go_enter Try.func29, Try.ntmps29
  go_wp2
  go_loopw [3] (fun i wr => ∃ k q : Nat, k ≤ 256 ∧ i = .int .i64 k ∧ wr = w.drewN q ∧ Hid (∀ j, j < k → hasDs j x y = false)) (fun i _ => 256 - (intOf i).toNat)
  case atStart => exact ⟨0, 0, by omega, rfl, rfl, fun j h => absurd h (Nat.not_lt_zero _)⟩
  case round =>
    obtain ⟨k, q, hk, rfl, rfl, HR⟩ := hrel
    by_cases hlt : k < 256
    · have con1 := fun W => Hex_any k W hlt
      go_wp2_with fail
      refine (con1 _).mono ?_
      rintro e w1 ⟨z, rfl, HZ, q1, rfl⟩
      have con2 := fun W => refLower_any z W (by rw [← ba_len, HZ.out]; show (2 : Nat) ≤ 1099511627775; omega)
      go_wp2_with fail
      refine (con2 _).mono ?_
      rintro e w2 ⟨z2, rfl, HZ2, q2, rfl⟩
      go_wp2_with fail
      refine (con _).mono ?_
      rintro e w3 ⟨z3, rfl, HZ3, q3, rfl⟩
      clear con1 con2
      by_cases he : z2 = z3
      · subst he
        have H := Lib.hid (valI_at k hlt x y (by unfold hasDs; rw [beq_iff_eq, ← HZ.out, ← HS.out, ← HZ2.out, ← HZ3.out]))
        have e1 : (z2.toList == z2.toList) = true := by rw [beq_iff_eq]
        clear con
        go_wp2
        go_ret
        exact ⟨(by rw [H.out]; try rfl), q + q1 + q2 + q3, by simp [World.drewN, Nat.add_assoc]⟩
      · have H := Lib.hid (show hasDs k x y = false by
          unfold hasDs
          rw [beq_eq_false_iff_ne]
          intro h
          apply he
          apply ba_ext
          rw [HZ2.out, HZ3.out, HZ.out, HS.out, h])
        have e1 : (z2.toList == z3.toList) = false := by
          rw [beq_eq_false_iff_ne, Lib.toList_data, Lib.toList_data]
          exact fun h => he (ba_ext _ _ h)
        clear con he
        go_wp2
        go_roundw
        case rel => exact ⟨k + 1, q + q1 + q2 + q3, by omega, by go_num, by simp [World.drewN, Nat.add_assoc], Lib.hid (fun j hj => by
          by_cases hjk : j = k
          · rw [hjk]; exact H.out
          · exact HR.out j (by omega))⟩
        case measure => simp [intOf]; omega
    · have H := Lib.hid (valI_no x y (fun n hn => HR.out n (by omega)))
      clear con HR
      go_wp2
      go_ret
      exact ⟨(by rw [H.out]; try rfl), q, rfl⟩

end Go.Proofs.Ytfhgbokimkmpjaa.Pct
