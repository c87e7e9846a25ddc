/- Four numbers are parts of a host. Conditions: none. -/
import Derived.Test.YtcahakelihigdaaHostM
namespace Go.Proofs.Ytcahakelihigdaa.Host

theorem num_go (most : Int) : ∀ (p : List UInt8) (n m : Int), Ref.numGo most p n = some m → p.all Ref.decB = true ∧ (n ≤ most → m ≤ most) ∧ (1 ≤ n → n + 9 * (p.length : Int) ≤ m)
  | [], n, m, h => by
    have h' : some n = some m := h
    cases h'
    exact ⟨rfl, id, fun _ => by simp⟩
  | b :: r, n, m, h => by
    unfold Ref.numGo at h
    split at h
    · rename_i hc
      obtain ⟨h1, h2, h3⟩ := num_go most r _ m h
      have hb := (Ref.decB_of b).1 hc.1
      refine ⟨by rw [List.all_cons, hc.1, h1]; rfl, fun _ => h2 (by omega), fun hn => ?_⟩
      have := h3 (by omega)
      rw [List.length_cons]; omega
    · cases h
theorem num_len (p : List UInt8) (h : (Ref.numOf 255 p).isSome = true) : p ≠ [] ∧ p.length ≤ 63 ∧ p.all Ref.decB = true := by
  obtain ⟨m, hm⟩ := Option.isSome_iff_exists.1 h
  unfold Ref.numOf at hm
  split at hm
  · cases hm
  · rename_i hno
    cases p with
    | nil => exact absurd (.inl rfl) hno
    | cons b r =>
      have ha := (num_go 255 _ _ _ hm).1
      refine ⟨by simp, ?_, ha⟩
      by_cases hr : r = []
      · subst hr; simp
      · have h48 : b.toNat ≠ 48 := fun h48 => hno (.inr ⟨by
          have : r.length ≠ 0 := fun h0 => hr (List.eq_nil_of_length_eq_zero h0)
          rw [List.length_cons]; omega, h48⟩)
        unfold Ref.numGo at hm
        split at hm
        · rename_i hc
          have hb := (Ref.decB_of b).1 hc.1
          obtain ⟨_, h2, h3⟩ := num_go 255 r _ m hm
          have h2' := h2 (by omega)
          have h3' := h3 (by omega)
          rw [List.length_cons]; omega
        · cases hm
theorem num_part (p : List UInt8) (h : (Ref.numOf 255 p).isSome = true) : partB p = true := by
  obtain ⟨h1, h2, h3⟩ := num_len p h
  have hl : 0 < p.length := List.length_pos_iff.2 h1
  have hd : ∀ k, k < p.length → Ref.decB (p.getD k 0) = true := fun k hk => by
    rw [List.getD, List.getElem?_eq_getElem hk]
    exact List.all_eq_true.1 h3 _ (List.getElem_mem _)
  have hne : ∀ b : UInt8, Ref.decB b = true → (b != 45) = true := fun b hb => by
    rw [bne_iff_ne]; rintro rfl; revert hb; decide
  unfold partB
  rw [hne _ (hd 0 hl), hne _ (hd _ (by omega)), decide_eq_true h2]
  have he : p.isEmpty = false := by cases p with | nil => exact absurd rfl h1 | cons => rfl
  rw [he]
  have ha : p.all hostByte = true := by
    rw [List.all_eq_true]; intro b hb
    unfold hostByte
    rw [List.all_eq_true.1 h3 b hb]; simp
  rw [ha]; rfl
theorem addr_host (l : List (List UInt8)) (h : addrB l = true) : hostB l = true := by
  have h' := h
  unfold addrB at h'
  rw [Bool.and_eq_true, decide_eq_true_iff, List.all_eq_true] at h'
  unfold hostB
  rw [h, decide_eq_true (by omega), List.all_eq_true.2 (fun p hp => num_part p (h'.2 p hp))]
  simp
/-- Four numbers, and no longer than a host may be. -/
theorem address_of (l : List UInt8) (h : ¬ 253 < l.length) : addressB l = addrB (Ref.splitL 46 l) := by
  unfold addressB
  cases ha : addrB (Ref.splitL 46 l) with
  | false => simp
  | true =>
    have hp : parseE l = 0 := by unfold parseE; rw [if_neg h, if_pos (addr_host _ ha)]
    rw [hp]; rfl
theorem address_big (l : List UInt8) (h : 253 < l.length) : addressB l = false := by
  have hp : parseE l = 3 := by unfold parseE; rw [if_pos h]
  unfold addressB; rw [hp]; rfl

end Go.Proofs.Ytcahakelihigdaa.Host
