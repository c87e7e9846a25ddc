/- The document's own Encode and Items. Conditions: a text is of at most 2^38 bytes. -/
import Derived.Test.YtfhgbokimkmpjaaPctS
namespace Go.Proofs.Ytfhgbokimkmpjaa.Pct
open Go.RowKit Go.Shelf

theorem putF_app (x h : ByteArray) (b : UInt8) (hh : h.data.toList = [dg (b.toNat / 16), dg (b.toNat % 16)]) : ((x ++ ⟨#[37]⟩) ++ h).data.toList = x.data.toList ++ putL false b := by
  rw [ByteArray.data_append, Array.toList_append, ByteArray.data_append, Array.toList_append, hh]
  simp [putL]

set_option maxHeartbeats 2000000 in
theorem refEncode_any (s : ByteArray) (p : Int) (w : World) (hs : s.size ≤ 274877906944) :
    Calls Try.prog 9 #[.string s, .int .i64 p] w fun e w' => ∃ x : ByteArray, e = .returned (.string x) ∧ Hid (x.data.toList = encL p s.data.toList) ∧ ∃ q, w' = w.drewN q := by
  go_enter Try.func9, Try.ntmps9
  go_wp2
  go_loopw [5, 6] (fun o i wr => ∃ k q : Nat, ∃ x : ByteArray, k ≤ s.size ∧ wr = w.drewN q ∧ i = .int .i64 k ∧ o = .string x ∧ Hid (x.data.toList = encL p (s.data.toList.take k))) (fun _ i _ => s.size - (intOf i).toNat)
  case atStart => exact ⟨0, 0, ⟨#[]⟩, Nat.zero_le _, rfl, rfl, rfl, rfl⟩
  case round =>
    obtain ⟨k, q, x, hk, rfl, rfl, rfl, HR⟩ := hrel
    by_cases hlt : k < s.size
    · have hck := u8_lt s[k]
      have hxs : x.size ≤ 3 * k := by
        rw [← ba_len, HR.out]
        have h1 := enc_len p (s.data.toList.take k)
        have h2 := List.length_take_le k s.data.toList
        omega
      have hst := enc_snoc p s.data.toList k (by rw [ba_len]; exact hlt)
      rw [← ba_get s k hlt, ← HR.out] at hst
      have con := Stands_any s[k] p
      have con2 := fun W => Hex_any s[k].toNat W hck
      cases hsb : standsB p s[k] with
      | true =>
        rw [hsb] at hst con
        have HS := Lib.hid hst
        have HB := Lib.hid (ba_app x s k hlt)
        clear hst hsb
        go_wp2_with (go_at_call 16; refine (con _).mono ?_; rintro e w' ⟨rfl, rfl⟩)
        go_roundw
        case rel => exact ⟨k + 1, q, _, by omega, rfl, by go_num, rfl, Lib.hid (by rw [HS.out]; exact HB.out)⟩
        case measure => simp [intOf]; omega
      | false =>
        rw [hsb] at hst con
        have HS := Lib.hid hst
        clear hst hsb
        go_wp2_with fail
        refine (con _).mono ?_
        rintro e w' ⟨rfl, rfl⟩
        go_wp2_with fail
        refine (con2 _).mono ?_
        rintro e w' ⟨h, rfl, HH, q1, rfl⟩
        have hh2 : h.size = 2 := by rw [← ba_len, HH.out]; rfl
        have HB := Lib.hid (putF_app x h s[k] HH.out)
        have hh3 : h.size ≤ 2 := by omega
        clear hh2 con con2
        go_wp2
        go_roundw
        case rel => exact ⟨k + 1, q + q1, _, by omega, by simp [World.drewN], by go_num, rfl, Lib.hid (by rw [HS.out]; exact HB.out)⟩
        case measure => simp [intOf]; omega
    · have H := Lib.hid (show x.data.toList = encL p s.data.toList by rw [HR.out, List.take_of_length_le (by rw [ba_len]; omega)])
      clear HR
      go_wp2
      go_ret
      exact ⟨_, rfl, H, q, rfl⟩

end Go.Proofs.Ytfhgbokimkmpjaa.Pct
