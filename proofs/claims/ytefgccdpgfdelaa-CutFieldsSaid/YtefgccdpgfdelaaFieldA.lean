/- Blanks, and texts without them at both ends: cut's and the document's. Conditions: a text is of at most 2^40 bytes. -/
import Derived.Test.YtefgccdpgfdelaaCutK
namespace Go.Proofs.Ytefgccdpgfdelaa
open Go.RowKit Go.Shelf

set_option maxHeartbeats 1000000 in
theorem isBlank_any (b : UInt8) (w : World) :
    Calls Try.prog 33 #[.int .u8 (b.toNat : Int)] w fun e w' => e = .returned (.bool (blankB b)) ∧ w = w' := by
  have hb := u8_lt b
  by_cases h1 : b.toNat = 32
  · have d1 : ((b.toNat : Int) == 32) = true := by rw [beq_iff_eq]; omega
    have H := Lib.hid (show blankB b = true by simp [blankB]; omega)
    clear h1
    go_enter Try.func33, Try.ntmps33
    go_wp2
    go_ret
    exact ⟨(by rw [H.out]; try rfl), rfl⟩
  · have d1 : ((b.toNat : Int) == 32) = false := by rw [beq_eq_false_iff_ne]; omega
    have H := Lib.hid (show blankB b = ((b.toNat : Int) == 9) by rw [Bool.eq_iff_iff, beq_iff_eq]; simp [blankB]; omega)
    clear h1
    go_enter Try.func33, Try.ntmps33
    go_wp2
    go_ret
    exact ⟨(by rw [H.out]; try rfl), rfl⟩

set_option maxHeartbeats 1000000 in
theorem Blank_any (b : UInt8) (w : World) :
    Calls Try.prog 34 #[.int .u8 (b.toNat : Int)] w fun e w' => e = .returned (.bool (blankB b)) ∧ w = w' := by
  have hb := u8_lt b
  by_cases h1 : b.toNat = 32
  · have d1 : ((b.toNat : Int) == 32) = true := by rw [beq_iff_eq]; omega
    have H := Lib.hid (show blankB b = true by simp [blankB]; omega)
    clear h1
    go_enter Try.func34, Try.ntmps34
    go_wp2
    go_ret
    exact ⟨(by rw [H.out]; try rfl), rfl⟩
  · have d1 : ((b.toNat : Int) == 32) = false := by rw [beq_eq_false_iff_ne]; omega
    have H := Lib.hid (show blankB b = ((b.toNat : Int) == 9) by rw [Bool.eq_iff_iff, beq_iff_eq]; simp [blankB]; omega)
    clear h1
    go_enter Try.func34, Try.ntmps34
    go_wp2
    go_ret
    exact ⟨(by rw [H.out]; try rfl), rfl⟩

/-- From f to e lies what is left of l without the blanks at both ends. -/
def Trims (l : List UInt8) (f e : Nat) : Prop :=
  (f = l.length ∧ e = l.length ∧ ∀ j, j < l.length → blankB (l.getD j 0) = true) ∨
  (f < e ∧ e ≤ l.length ∧ (∀ j, j < f → blankB (l.getD j 0) = true) ∧ blankB (l.getD f 0) = false ∧ blankB (l.getD (e - 1) 0) = false ∧ ∀ j, e ≤ j → j < l.length → blankB (l.getD j 0) = true)

theorem first_no (l : List UInt8) : ∀ (d m : Nat), l.length - m = d → (∀ j, j < m → blankB (l.getD j 0) = true) → m ≤ l.length →
    (∀ j, j < l.length → blankB (l.getD j 0) = true) ∨ ∃ f, f < l.length ∧ (∀ j, j < f → blankB (l.getD j 0) = true) ∧ blankB (l.getD f 0) = false
  | 0, m, hd, h, hm => .inl (fun j hj => h j (by omega))
  | d + 1, m, hd, h, hm => by
    by_cases hb : blankB (l.getD m 0) = true
    · exact first_no l d (m + 1) (by omega) (fun j hj => by
        by_cases he : j = m
        · subst he; exact hb
        · exact h j (by omega)) (by omega)
    · exact .inr ⟨m, by omega, h, by simpa using hb⟩
theorem last_no (l : List UInt8) (f : Nat) (hf : blankB (l.getD f 0) = false) : ∀ (m : Nat), f < m → m ≤ l.length → (∀ j, m ≤ j → j < l.length → blankB (l.getD j 0) = true) →
    ∃ e, f < e ∧ e ≤ l.length ∧ blankB (l.getD (e - 1) 0) = false ∧ ∀ j, e ≤ j → j < l.length → blankB (l.getD j 0) = true
  | 0, h, _, _ => absurd h (Nat.not_lt_zero f)
  | m + 1, h, hm, ha => by
    by_cases hb : blankB (l.getD m 0) = true
    · have hne : f ≠ m := by rintro rfl; rw [hf] at hb; cases hb
      exact last_no l f hf m (by omega) (by omega) (fun j hj hl => by
        by_cases he : j = m
        · subst he; exact hb
        · exact ha j (by omega) hl)
    · exact ⟨m + 1, h, hm, by rw [Nat.add_sub_cancel]; simpa using hb, ha⟩
theorem trims (l : List UInt8) : ∃ f e, Trims l f e := by
  rcases first_no l l.length 0 (by omega) (fun j hj => absurd hj (Nat.not_lt_zero j)) (Nat.zero_le _) with h | ⟨f, h1, h2, h3⟩
  · exact ⟨_, _, .inl ⟨rfl, rfl, h⟩⟩
  · obtain ⟨e, h4, h5, h6, h7⟩ := last_no l f h3 l.length h1 (Nat.le_refl _) (fun j h1 h2 => absurd h1 (by omega))
    exact ⟨f, e, .inr ⟨h4, h5, h2, h3, h6, h7⟩⟩
theorem Trims.le {l : List UInt8} {f e : Nat} (h : Trims l f e) : f ≤ e ∧ e ≤ l.length := by
  rcases h with ⟨h1, h2, _⟩ | ⟨h1, h2, _⟩ <;> omega

set_option maxRecDepth 100000 in
set_option maxHeartbeats 4000000 in
theorem cutTrim_any (q : Option Addr) (n c f e : Nat) (l : List UInt8) (w : World) (hl : l.length = n) (hn : n ≤ 1099511627775) (hnc : n ≤ c) (hb : Lib.BytesIn w q n (Lib.numsL l)) (ht : Trims l f e) :
    Calls Try.prog 16 #[.slice q n c] w fun e' w' => ∃ v', e' = .returned v' ∧ w'.ownsRow w.heap.size 5 1 v' (sub l f e).length ((Lib.numsL (sub l f e)).map (Value.int .u8)) ∧ Below w.heap.size w w' := by
  have hle := ht.le
  have con := Clone_any (subA q c f) (e - f) (c - f) (sub l f e) w (by rw [sub_length _ _ _ hle.2]) (by omega) (bytes_sub hb hl hle.1 (by omega) hnc)
  have hsl := fun W => run_slice_sub q n c f e W hle.1 (by omega)
  have hcell : ∀ j, j < n → ∃ b o, q = some ⟨b, o, none⟩ ∧ w.cell? ⟨b, o + j, none⟩ = some (.int .u8 ((l.getD j 0).toNat : Int)) := fun j hj => by
    obtain ⟨b, o, rfl, hc⟩ := hb.at (by omega)
    exact ⟨b, o, rfl, by rw [← numsL_getD l j (by omega)]; exact hc j hj⟩
  have hsz := sub_length l f e hle.2
  rw [hsz]
  rw [hl] at hle
  clear hb hsz
  go_enter Try.func16, Try.ntmps16
  go_wp2
  go_loop [3] (fun i => ∃ k : Nat, k ≤ f ∧ i = .int .i64 k) (fun i => f - (intOf i).toNat)
  case atStart => exact ⟨0, Nat.zero_le _, rfl⟩
  case round =>
    obtain ⟨k, hk, rfl⟩ := hrel
    by_cases hlt : k < f
    · obtain ⟨b, o, rfl, hck⟩ := hcell k (by omega)
      have hbk : blankB (l.getD k 0) = true := by
        rcases ht with ⟨h1, h2, h3⟩ | ⟨h1, h2, h3, _⟩
        · exact h3 k (by omega)
        · exact h3 k hlt
      have cb := isBlank_any (l.getD k 0)
      rw [hbk] at cb
      clear con hsl hcell ht hbk
      generalize l.getD k 0 = bk at *
      have hkn : k < n := by omega
      go_wp2_with (go_at_call 33; refine (cb _).mono ?_; rintro e w' ⟨rfl, rfl⟩)
      go_round
      case rel => exact ⟨k + 1, by omega, by go_num⟩
      case measure => simp [intOf]; omega
    · obtain rfl : k = f := by omega
      rcases ht with ⟨rfl, rfl, h3⟩ | ⟨h1, h2, h3, h4, h5, h6⟩
      · rw [hl] at hk con hsl hle hlt ⊢
        clear hcell h3
        rw [Nat.sub_self] at con hsl
        go_wp2_with fail
        go_loop [4] (fun i => i = .int .i64 (n : Int)) (fun _ => 0)
        case atStart => rfl
        case round =>
          obtain rfl := hrel
          go_wp2_with fail
          refine con.mono ?_
          rintro e w' ⟨v', rfl, hrow, hbel⟩
          go_wp2
          go_ret
          exact ⟨v', rfl, by first | exact hrow | (rw [Nat.sub_self, hl]; exact hrow), hbel⟩
      · obtain ⟨b, o, rfl, hck⟩ := hcell k (by omega)
        have cb := isBlank_any (l.getD k 0)
        rw [h4] at cb
        clear h4
        generalize l.getD k 0 = bk at *
        have hkn : k < n := by omega
        go_wp2_with fail
        refine (cb _).mono ?_
        rintro e w' ⟨rfl, rfl⟩
        go_wp2_with fail
        clear hck h3 hkn
        go_loop [4] (fun i => ∃ t : Nat, e ≤ t + 1 ∧ t + 1 ≤ n ∧ i = .int .i64 ((t : Int) + 1)) (fun i => (intOf i).toNat - e)
        case atStart => exact ⟨n - 1, by omega, by omega, by congr 1; omega⟩
        case round =>
          obtain ⟨t, ht1, ht2, rfl⟩ := hrel
          obtain ⟨b2, o2, hq2, hct⟩ := hcell t (by omega)
          cases hq2
          have ct := isBlank_any (l.getD t 0)
          have d3 : decide ((k : Int) < (t : Int) + 1) = true := by simp; omega
          by_cases het : e < t + 1
          · rw [h6 t (by omega) (by omega)] at ct
            clear h5 h6 con hsl cb hcell
            generalize l.getD t 0 = bt at *
            go_wp2_with fail
            refine (ct _).mono ?_
            rintro e w' ⟨rfl, rfl⟩
            go_wp2
            go_round
            case rel => exact ⟨t - 1, by omega, by omega, by go_num⟩
            case measure => simp [intOf]; omega
          · obtain rfl : e = t + 1 := by omega
            rw [Nat.add_sub_cancel] at h5
            rw [h5] at ct
            push_cast at hsl
            clear h5 h6 cb hcell
            generalize l.getD t 0 = bt at *
            go_wp2_with fail
            refine (ct _).mono ?_
            rintro e w' ⟨rfl, rfl⟩
            go_wp2_with fail
            refine con.mono ?_
            rintro e w' ⟨v', rfl, hrow, hbel⟩
            go_wp2
            go_ret
            exact ⟨_, rfl, hrow, hbel⟩

end Go.Proofs.Ytefgccdpgfdelaa
