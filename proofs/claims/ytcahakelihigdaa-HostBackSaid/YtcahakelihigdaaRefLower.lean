/- The document's own Lower. Conditions: a text is of at most 2^40 bytes. -/
import Derived.Test.YtcahakelihigdaaRefIn
namespace Go.Proofs.Ytcahakelihigdaa.Ref
open Go.RowKit Go.Shelf

theorem abc_low (b : UInt8) (h1 : 65 ≤ b.toNat) (h2 : b.toNat ≤ 90) (x : ByteArray) :
    (x ++ (ByteArray.extract ⟨#[97, 98, 99, 100, 101, 102, 103, 104, 105, 106, 107, 108, 109, 110, 111, 112, 113, 114, 115, 116, 117, 118, 119, 120, 121, 122]⟩ (b.toNat - 65) (b.toNat - 64))).data.toList = x.data.toList ++ [low b] := by
  have h : ∀ i : Fin 26, (ByteArray.extract ⟨#[97, 98, 99, 100, 101, 102, 103, 104, 105, 106, 107, 108, 109, 110, 111, 112, 113, 114, 115, 116, 117, 118, 119, 120, 121, 122]⟩ (i.1 + 65 - 65) (i.1 + 65 - 64)).data.toList = [low (UInt8.ofNat (i.1 + 65))] := by decide +kernel
  have h3 := h ⟨b.toNat - 65, by omega⟩
  simp only [show b.toNat - 65 + 65 = b.toNat from by omega] at h3
  rw [UInt8.ofNat_toNat] at h3
  rw [ByteArray.data_append, Array.toList_append, h3]
set_option maxHeartbeats 2000000 in
theorem Lower_any (s : ByteArray) (w : World) (hs : s.size ≤ 1099511627775) :
    Calls Try.prog 24 #[.string s] w fun e w' => ∃ x : ByteArray, e = .returned (.string x) ∧ Hid (x.data.toList = lowL s.data.toList) ∧ ∃ q, w' = w.drewN q := by
  go_enter Try.func24, Try.ntmps24
  go_wp2
  go_loopw [3, 4] (fun o i wr => ∃ k q : Nat, ∃ x : ByteArray, k ≤ s.size ∧ wr = w.drewN q ∧ i = .int .i64 k ∧ o = .string x ∧ Hid (x.data.toList = lowL (s.data.toList.take k))) (fun _ i _ => s.size - (intOf i).toNat)
  case atStart => exact ⟨0, 0, ⟨#[]⟩, Nat.zero_le _, rfl, rfl, rfl, rfl⟩
  case round =>
    obtain ⟨k, q, x, hk, rfl, rfl, rfl, HR⟩ := hrel
    by_cases hlt : k < s.size
    · have hck := u8_lt s[k]
      have hgk := ba_get s k hlt
      have hbl := ba_len s
      have hxs : x.size = k := by rw [← ba_len, HR.out, lowL_length, List.length_take]; omega
      have hst := lowL_take s.data.toList k (by omega)
      rw [← hgk, ← HR.out] at hst
      have HS := Lib.hid hst
      by_cases h1 : 65 ≤ s[k].toNat
      · by_cases h2 : s[k].toNat ≤ 90
        · have HA := Lib.hid (abc_low s[k] h1 h2 x)
          clear hst hgk hbl
          go_wp2_with (go_quiet (fail))
          go_roundw
          case rel => exact ⟨k + 1, q + nq, _, by omega, by simp [World.drewN], by go_num, rfl, Lib.hid (by rw [HS.out]; exact HA.out)⟩
          case measure => simp [intOf]; omega
        · have HA := Lib.hid (low_lo s[k] (by omega))
          have HB := Lib.hid (ba_app x s k hlt)
          have d2 : decide ((s[k].toNat : Int) ≤ 90) = false := by simp; omega
          clear hst hgk hbl
          go_wp2
          go_roundw
          case rel => exact ⟨k + 1, q, _, by omega, rfl, by go_num, rfl, Lib.hid (by rw [HS.out, HA.out]; exact HB.out)⟩
          case measure => simp [intOf]; omega
      · have HA := Lib.hid (low_lo s[k] (by omega))
        have HB := Lib.hid (ba_app x s k hlt)
        have d2 : decide ((65 : Int) ≤ (s[k].toNat : Int)) = false := by simp; omega
        clear hst hgk hbl
        go_wp2
        go_roundw
        case rel => exact ⟨k + 1, q, _, by omega, rfl, by go_num, rfl, Lib.hid (by rw [HS.out, HA.out]; exact HB.out)⟩
        case measure => simp [intOf]; omega
    · have H := Lib.hid (show x.data.toList = lowL s.data.toList by rw [HR.out, List.take_of_length_le (by rw [ba_len]; omega)])
      clear HR
      go_wp2
      go_ret
      exact ⟨_, rfl, H, q, rfl⟩


end Go.Proofs.Ytcahakelihigdaa.Ref
