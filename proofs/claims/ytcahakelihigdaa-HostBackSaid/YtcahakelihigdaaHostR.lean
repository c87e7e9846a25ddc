/- The document's own answer on addresses: four numbers. Conditions: none beside the model's greatest length. -/
import Derived.Test.YtcahakelihigdaaHostM
import Derived.Test.YtcahakelihigdaaRefNumber
import Derived.Test.YtcahakelihigdaaRefSplit
namespace Go.Proofs.Ytcahakelihigdaa.Ref
open Go.RowKit Go.Shelf

def numB (p : List UInt8) : Bool := (numOf 255 p).isSome
theorem addr_num (l : List (List UInt8)) : Host.addrB l = (decide (l.length = 4) && l.all numB) := rfl

set_option maxHeartbeats 1000000 in
theorem address4_any (q : Option Addr) (n c : Nat) (xs : List (List UInt8)) (w : World) (hx : xs.length = n) (hn : n ≤ 140737488355328) (h : StIn w q n xs) (hs : ∀ x ∈ xs, x.length ≤ 140737488355328) :
    Calls Try.prog 23 #[.slice q n c] w fun e w' => e = .returned (.bool (Host.addrB xs)) ∧ w = w' := by
  go_enter Try.func23, Try.ntmps23
  go_wp2
  go_loop [9] (fun i => ∃ k : Nat, k ≤ n ∧ i = .int .i64 k ∧ Hid (xs.all numB = (xs.drop k).all numB)) (fun i => n - (intOf i).toNat)
  case atStart => exact ⟨0, Nat.zero_le _, rfl, rfl⟩
  case round =>
    obtain ⟨k, hk, rfl, HR⟩ := hrel
    by_cases hlt : k < n
    · obtain ⟨b, o, rfl, _, hc⟩ := h (by omega)
      have ck := hc k hlt
      have hd := drop_consS xs k (by omega)
      have hm : xs.getD k [] ∈ xs := by
        rw [List.getD, List.getElem?_eq_getElem (by omega)]; exact List.getElem_mem _
      have hsk := hs _ hm
      generalize xs.getD k [] = x at *
      unfold strV at ck
      have con := fun W => Number_any ⟨x.toArray⟩ 255 W hsk (by decide) (by decide)
      rw [show (⟨x.toArray⟩ : ByteArray).data.toList = x from by simp] at con
      unfold numV at con
      have HB := Lib.hid (show xs.all numB = ((numOf 255 x).isSome && (xs.drop (k + 1)).all numB) by rw [HR.out, hd]; rfl)
      clear hd hm hsk hc h hs HR
      cases ho : numOf 255 x with
      | none =>
        rw [ho] at HB con
        have H := Lib.hid (show Host.addrB xs = false by rw [addr_num, HB.out]; simp)
        clear HB ho
        go_wp2_with (go_at_call 36; refine (con _).mono ?_; rintro e w' ⟨rfl, rfl⟩)
        go_ret
        exact ⟨(by rw [H.out]; try rfl), rfl⟩
      | some m =>
        rw [ho] at HB con
        have H := Lib.hid (show xs.all numB = (xs.drop (k + 1)).all numB by rw [HB.out]; simp)
        clear HB ho
        go_wp2_with (go_at_call 36; refine (con _).mono ?_; rintro e w' ⟨rfl, rfl⟩)
        go_round
        case rel => exact ⟨k + 1, by omega, by go_num, H⟩
        case measure => simp [intOf]; omega
    · have H := Lib.hid (show Host.addrB xs = ((n : Int) == 4) by
        rw [addr_num, HR.out, List.drop_of_length_le (by omega), hx, List.all_nil, Bool.and_true, Bool.eq_iff_iff, decide_eq_true_iff, beq_iff_eq]; omega)
      clear HR
      go_wp2
      go_ret
      exact ⟨(by rw [H.out]; try rfl), rfl⟩

end Go.Proofs.Ytcahakelihigdaa.Ref
