/- What the laws of host begin with. Conditions: none. -/
import Derived.Test.YtcahakelihigdaaHostG
import Derived.Test.YtcahakelihigdaaHostH
import Derived.Test.YtcahakelihigdaaHostU
import Derived.Test.YtcahakelihigdaaLawC
import Derived.Lib.SlBytesConst
namespace Go.Proofs.Ytcahakelihigdaa.Host
open Go.RowKit Go.Shelf

theorem conv_bytes {W : World} {q : Option Addr} {n c : Nat} {l : List UInt8} (h : Lib.BytesIn W q n (Lib.numsL l)) (hl : l.length = n) : (convert 22 9 (.slice q n c)).run Try.prog W = .ok (.string ⟨l.toArray⟩) W := by
  have h := h.convert (P := Try.prog) (by rw [Lib.numsL_length, hl]) c 22 5 9 Try.underlying22 Try.underlying5 Try.underlying9
  rwa [strOfNums_numsL] at h
theorem strs_eq (l m : List UInt8) : ((⟨l.toArray⟩ : ByteArray).toList == (⟨m.toArray⟩ : ByteArray).toList) = decide (l = m) := by
  rw [Lib.toList_data, Lib.toList_data, Bool.eq_iff_iff, beq_iff_eq, decide_eq_true_iff]
theorem bytes_on {w w' : World} {q : Option Addr} {n : Nat} {xs : List Int} (h : Lib.BytesIn w q n xs) (hk : Below w.heap.size w w') : Lib.BytesIn w' q n xs := bytes_keep h (Keep.of_below hk) (bytes_lt h)
theorem live_host : parseE [65, 46, 98, 45, 99, 46, 79, 114, 103] = 0 := by decide +kernel
theorem live_low : lowL [65, 46, 98, 45, 99, 46, 79, 114, 103] = [97, 46, 98, 45, 99, 46, 111, 114, 103] := by decide +kernel
theorem live_addr : addressB [49, 46, 50, 46, 51, 46, 52] = true := by decide +kernel

set_option maxRecDepth 100000 in
set_option maxHeartbeats 2000000 in
theorem lives_any (w : World) : Calls Try.prog 7 #[] w fun e w' => e = .returned (.bool true) ∧ Below w.heap.size w w' := by
  have hby := bytes_lit (w := w) #[.int .u8 65, .int .u8 46, .int .u8 98, .int .u8 45, .int .u8 99, .int .u8 46, .int .u8 79, .int .u8 114, .int .u8 103] [65, 46, 98, 45, 99, 46, 79, 114, 103] (9, 10) rfl
  have kc := fun (w : World) (C : Array Value) (n c : Nat) => Lib.run_convert_bytes_const (P := Try.prog) w 22 5 C n c Try.underlying22 Try.underlying5
  have con := Parse_any (some ⟨w.heap.size, 0, none⟩) 9 9 [65, 46, 98, 45, 99, 46, 79, 114, 103] _ rfl (by omega) hby
  have hb0 := (Below.refl _ w).alloc (Nat.le_refl _) (.cells #[.int .u8 65, .int .u8 46, .int .u8 98, .int .u8 45, .int .u8 99, .int .u8 46, .int .u8 79, .int .u8 114, .int .u8 103] 5 (9, 10))
  have e1 := strs_eq [97, 46, 98, 45, 99, 46, 111, 114, 103] [97, 46, 98, 45, 99, 46, 111, 114, 103]
  rw [decide_eq_true rfl] at e1
  clear hby
  go_enter Try.func7, Try.ntmps7
  go_wp2_with fail
  refine con.mono ?_
  intro e w2 ho
  obtain ⟨q, c, rfl, hq, hc, hrow, hb⟩ := can_at0 (n := 9) ho live_host rfl
  rw [live_low] at hrow
  obtain ⟨_, _, hcl, _, _, _, hbs, _⟩ := row_open hrow
  cases hcl
  have hcv := conv_bytes (c := c) hbs rfl
  have hb2 := hb0.trans (hb.mono (by simp))
  have hby2 := bytes_lit (w := w2) #[.int .u8 49, .int .u8 46, .int .u8 50, .int .u8 46, .int .u8 51, .int .u8 46, .int .u8 52] [49, 46, 50, 46, 51, 46, 52] (7, 8) rfl
  have con2 := Address_any (some ⟨w2.heap.size, 0, none⟩) 7 7 [49, 46, 50, 46, 51, 46, 52] _ rfl (by omega) hby2
  rw [live_addr] at con2
  have hb3 := hb2.alloc hb2.size (.cells #[.int .u8 49, .int .u8 46, .int .u8 50, .int .u8 46, .int .u8 51, .int .u8 46, .int .u8 52] 5 (7, 8))
  clear con ho hb0 hb hrow hbs hby2
  go_wp2_with fail
  refine con2.mono ?_
  rintro e w4 ⟨rfl, hb4⟩
  have hb5 := hb3.trans (hb4.mono hb3.size)
  clear con2
  go_wp2
  go_ret
  exact ⟨rfl, hb5⟩

end Go.Proofs.Ytcahakelihigdaa.Host
