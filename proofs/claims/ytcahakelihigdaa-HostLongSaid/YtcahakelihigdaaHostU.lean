/- The document's own Within of hosts. Conditions: texts are of at most 2^40 bytes. -/
import Derived.Test.YtcahakelihigdaaHostT
namespace Go.Proofs.Ytcahakelihigdaa.Ref
open Go.RowKit Go.Shelf

set_option maxHeartbeats 2000000 in
theorem Within_any (s d : ByteArray) (w : World) (hs : s.size ≤ 1099511627775) :
    Calls Try.prog 17 #[.string s, .string d] w fun e w' => e = .returned (.bool (Host.withinB s.data.toList d.data.toList)) ∧ Below w.heap.size w w' := by
  have con := Up_any s w hs
  have HW := Lib.hid (show Host.withinB s.data.toList d.data.toList = (Host.upL s.data.toList).contains d.data.toList from rfl)
  generalize Host.withinB s.data.toList d.data.toList = wb at *
  generalize Host.upL s.data.toList = xs at *
  go_enter Try.func17, Try.ntmps17
  go_wp2_with fail
  refine con.mono ?_
  rintro e w2 ⟨v, rfl, hrow, hbel⟩
  obtain ⟨n, hn⟩ : ∃ n, xs.length = n := ⟨_, rfl⟩
  rw [hn] at hrow
  obtain ⟨q, c, rfl, _, hnc, hcm, hst, hblk⟩ := strs_row hrow
  have HN := Lib.hid hn
  clear con hrow hblk hn
  unfold maxLen at hcm
  go_wp2
  go_loop [10] (fun i => ∃ k : Nat, k ≤ n ∧ i = .int .i64 k ∧ Hid (wb = (xs.drop k).contains d.data.toList)) (fun i => n - (intOf i).toNat)
  case atStart => exact ⟨0, Nat.zero_le _, rfl, HW⟩
  case round =>
    obtain ⟨k, hk, rfl, HR⟩ := hrel
    by_cases hlt : k < n
    · obtain ⟨b, o, rfl, _, hc⟩ := hst (by omega)
      have ck := hc k hlt
      have hd := drop_consS xs k (by rw [HN.out]; exact hlt)
      generalize xs.getD k [] = x at *
      obtain ⟨p, hp, hpv⟩ := str_of x
      rw [hpv] at ck
      subst hp
      have e1 := str_eq p d
      by_cases hpd : p.data.toList = d.data.toList
      · have H := Lib.hid (show wb = true by rw [HR.out, hd, hpd, List.contains_cons]; simp)
        rw [decide_eq_true hpd] at e1
        clear hc hd hpv HR hpd HW
        go_wp2
        go_ret
        exact ⟨by rw [H.out]; try rfl, hbel⟩
      · have H := Lib.hid (show wb = (xs.drop (k + 1)).contains d.data.toList by
          rw [HR.out, hd, List.contains_cons, beq_false_of_ne (fun h => hpd h.symm), Bool.false_or])
        rw [decide_eq_false hpd] at e1
        clear hc hd hpv HR hpd
        go_wp2
        go_round
        case rel => exact ⟨k + 1, by omega, by go_num, H⟩
        case measure => simp [intOf]; omega
    · have H := Lib.hid (show wb = false by rw [HR.out, List.drop_of_length_le (by rw [HN.out]; omega)]; rfl)
      clear HR HW
      go_wp2
      go_ret
      exact ⟨by rw [H.out]; try rfl, hbel⟩

end Go.Proofs.Ytcahakelihigdaa.Ref
