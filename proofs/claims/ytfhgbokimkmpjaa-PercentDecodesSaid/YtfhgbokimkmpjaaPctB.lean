/- Which bytes may stand in a place, and whether each percent sign has its two digits: contracts of package percent. Conditions: a text is of at most the model's greatest length. -/
import Derived.Test.YtfhgbokimkmpjaaPctA
import Derived.Test.YtfhgbokimkmpjaaShelf
import Derived.Shelf.Bytes.SlSmallAll
namespace Go.Proofs.Ytfhgbokimkmpjaa.Pct
open Go.RowKit Go.Shelf

theorem indexByte_nonneg (l : List UInt8) (b : UInt8) : (0 ≤ Lib.indexByte l b) ↔ b ∈ l := by
  induction l with
  | nil => simp [Lib.indexByte]
  | cons x r ih =>
    unfold Lib.indexByte
    by_cases h : x = b
    · subst h; simp
    · rw [if_neg (by simpa using h), List.mem_cons, ← ih]
      have hge := Lib.indexByte_ge r b
      have hb : b ≠ x := Ne.symm h
      simp only [hb, false_or, beq_iff_eq]
      split <;> omega
theorem index_in (l : List UInt8) (b : UInt8) : decide (0 ≤ Lib.indexByte l b) = inB b l := by
  unfold inB
  rw [Bool.eq_iff_iff, decide_eq_true_iff, indexByte_nonneg]
  simp
/-- strings.IndexByte, at a byte. -/
theorem Index_any (b : UInt8) (l : List UInt8) (w : World) :
    Calls Try.prog 23 #[.string ⟨l.toArray⟩, .int .u8 (b.toNat : Int)] w fun e w' => ∃ ix : Int, e = .returned (.int .i64 ix) ∧ Hid (decide (0 ≤ ix) = inB b l) ∧ w = w' := by
  refine (Try.strings_IndexByte ⟨l.toArray⟩ (b.toNat : Int) w).mono ?_
  rintro e w' ⟨rfl, rfl⟩
  exact ⟨_, rfl, Lib.hid (by rw [← index_in l b]; simp), rfl⟩

set_option maxHeartbeats 2000000 in
theorem isFree_any (b : UInt8) (w : World) :
    Calls Try.prog 21 #[.int .u8 (b.toNat : Int)] w fun e w' => e = .returned (.bool (freeB b)) ∧ w = w' := by
  have c1 := isLetter_any b
  have c2 := isDecimal_any b
  have c3 := Index_any b freeM
  obtain ⟨x1, H1⟩ : ∃ x, Hid (letB b = x) := ⟨_, rfl⟩
  obtain ⟨x2, H2⟩ : ∃ x, Hid (decB b = x) := ⟨_, rfl⟩
  obtain ⟨x3, H3⟩ : ∃ x, Hid (inB b freeM = x) := ⟨_, rfl⟩
  have H := Lib.hid (show freeB b = (x1 || x2 || x3) by unfold freeB; rw [H1.out, H2.out, H3.out])
  rw [H1.out] at c1
  rw [H2.out] at c2
  rw [H3.out] at c3
  clear H1 H2 H3
  cases x1 <;> cases x2
  · go_enter Try.func21, Try.ntmps21
    go_wp2_with (first | (go_at_call 30; refine (c1 _).mono ?_; rintro e w' ⟨rfl, rfl⟩) | (go_at_call 31; refine (c2 _).mono ?_; rintro e w' ⟨rfl, rfl⟩) | (go_at_call 23; refine (c3 _).mono ?_; rintro e w' ⟨ix, rfl, HI, rfl⟩))
    go_ret
    exact ⟨(by rw [H.out, ← HI.out]; try rfl), rfl⟩
  all_goals
    go_enter Try.func21, Try.ntmps21
    go_wp2_with (first | (go_at_call 30; refine (c1 _).mono ?_; rintro e w' ⟨rfl, rfl⟩) | (go_at_call 31; refine (c2 _).mono ?_; rintro e w' ⟨rfl, rfl⟩))
    go_ret
    exact ⟨(by rw [H.out]; try rfl), rfl⟩

theorem marksOf_any (p : Int) (w : World) :
    Calls Try.prog 24 #[.int .i64 p] w fun e w' => e = .returned (.string ⟨(marksM p).toArray⟩) ∧ w = w' := by
  by_cases h1 : p = 1
  · subst h1
    go_enter Try.func24, Try.ntmps24
    go_wp2
    go_ret
    exact ⟨rfl, rfl⟩
  · have d1 : (p == 1) = false := by simpa using h1
    by_cases h2 : p = 2
    · subst h2
      clear h1 d1
      go_enter Try.func24, Try.ntmps24
      go_wp2
      go_ret
      exact ⟨rfl, rfl⟩
    · have d2 : (p == 2) = false := by simpa using h2
      have H := Lib.hid (show marksM p = [] by unfold marksM; rw [if_neg h1, if_neg h2])
      clear h1 h2
      go_enter Try.func24, Try.ntmps24
      go_wp2
      go_ret
      exact ⟨(by rw [H.out]; try rfl), rfl⟩

set_option maxHeartbeats 2000000 in
theorem stands_any (b : UInt8) (p : Int) (w : World) :
    Calls Try.prog 15 #[.int .u8 (b.toNat : Int), .int .i64 p] w fun e w' => e = .returned (.bool (standsB p b)) ∧ w = w' := by
  have c1 := isFree_any b
  have c2 := marksOf_any p
  have c3 := Index_any b (marksM p)
  obtain ⟨x1, H1⟩ : ∃ x, Hid (freeB b = x) := ⟨_, rfl⟩
  obtain ⟨x3, H3⟩ : ∃ x, Hid (inB b (marksM p) = x) := ⟨_, rfl⟩
  have H := Lib.hid (show standsB p b = (x1 || x3) by unfold standsB; rw [H1.out, H3.out])
  rw [H1.out] at c1
  rw [H3.out] at c3
  clear H1 H3
  generalize marksM p = mk at *
  cases x1
  · go_enter Try.func15, Try.ntmps15
    go_wp2_with (first | (go_at_call 21; refine (c1 _).mono ?_; rintro e w' ⟨rfl, rfl⟩) | (go_at_call 24; refine (c2 _).mono ?_; rintro e w' ⟨rfl, rfl⟩) | (go_at_call 23; refine (c3 _).mono ?_; rintro e w' ⟨ix, rfl, HI, rfl⟩))
    go_ret
    exact ⟨(by rw [H.out, ← HI.out]; try rfl), rfl⟩
  · go_enter Try.func15, Try.ntmps15
    go_wp2_with (first | (go_at_call 21; refine (c1 _).mono ?_; rintro e w' ⟨rfl, rfl⟩))
    go_ret
    exact ⟨(by rw [H.out]; try rfl), rfl⟩

theorem numsL_getD (l : List UInt8) (i : Nat) (h : i < l.length) : (Lib.numsL l).getD i 0 = ((l.getD i 0).toNat : Int) := by
  simp [Lib.numsL, List.getD, List.getElem?_eq_getElem h]
theorem drop_cons (l : List UInt8) (k : Nat) (h : k < l.length) : l.drop k = l.getD k 0 :: l.drop (k + 1) := by
  rw [List.drop_eq_getElem_cons h]; simp [List.getD, List.getElem?_eq_getElem h]

set_option maxHeartbeats 2000000 in
theorem digitsAt_any (q : Option Addr) (n c i : Nat) (bs : List UInt8) (w : World) (hx : bs.length = n) (hn : n ≤ 140737488355328) (hb : Lib.BytesIn w q n (Lib.numsL bs)) (hi : i ≤ n) :
    Calls Try.prog 26 #[.slice q n c, .int .i64 (i : Int)] w fun e w' => e = .returned (.bool (dig2 (bs.drop i))) ∧ w = w' := by
  by_cases h2 : i + 2 ≤ n
  · have hd1 := drop_cons bs i (by omega)
    have hd2 := drop_cons bs (i + 1) (by omega)
    obtain ⟨b, o, rfl, hc⟩ := hb.at (by omega)
    have c1 : w.cell? ⟨b, o + i, none⟩ = some (.int .u8 ((bs.getD i 0).toNat : Int)) := by
      rw [← numsL_getD bs i (by omega)]; exact hc i (by omega)
    have c2 : w.cell? ⟨b, o + (i + 1), none⟩ = some (.int .u8 ((bs.getD (i + 1) 0).toNat : Int)) := by
      rw [← numsL_getD bs (i + 1) (by omega)]; exact hc (i + 1) (by omega)
    generalize bs.getD i 0 = x at *
    generalize bs.getD (i + 1) 0 = y at *
    have k1 := isHexadecimal_any x
    have k2 := isHexadecimal_any y
    obtain ⟨x1, H1⟩ : ∃ z, Hid (hexB x = z) := ⟨_, rfl⟩
    obtain ⟨x2, H2⟩ : ∃ z, Hid (hexB y = z) := ⟨_, rfl⟩
    have H := Lib.hid (show dig2 (bs.drop i) = (x1 && x2) by rw [hd1, hd2]; show (hexB x && hexB y) = _; rw [H1.out, H2.out])
    rw [H1.out] at k1
    rw [H2.out] at k2
    have d2 : decide ((2 : Int) ≤ (n : Int) - (i : Int)) = true := by simp; omega
    clear H1 H2 hd1 hd2 hc hb hx
    cases x1
    · go_enter Try.func26, Try.ntmps26
      go_wp2_with (go_at_call 35; refine (k1 _).mono ?_; rintro e w' ⟨rfl, rfl⟩)
      go_ret
      exact ⟨(by rw [H.out]; try rfl), rfl⟩
    · go_enter Try.func26, Try.ntmps26
      go_wp2_with fail
      refine (k1 _).mono ?_
      rintro e w' ⟨rfl, rfl⟩
      go_wp2_with fail
      refine (k2 _).mono ?_
      rintro e w' ⟨rfl, rfl⟩
      go_wp2
      go_ret
      exact ⟨(by rw [H.out]; try rfl), rfl⟩
  · have d2 : decide ((2 : Int) ≤ (n : Int) - (i : Int)) = false := by simp; omega
    have H := Lib.hid (show dig2 (bs.drop i) = false by
      have hl : (bs.drop i).length < 2 := by rw [List.length_drop]; omega
      generalize bs.drop i = r at hl
      match r, hl with
      | [], _ => rfl
      | [_], _ => rfl)
    clear hb hx
    go_enter Try.func26, Try.ntmps26
    go_wp2
    go_ret
    exact ⟨(by rw [H.out]; try rfl), rfl⟩

set_option maxHeartbeats 2000000 in
theorem whole_any (q : Option Addr) (n c : Nat) (bs : List UInt8) (w : World) (hx : bs.length = n) (hn : n ≤ 140737488355328) (hb : Lib.BytesIn w q n (Lib.numsL bs)) :
    Calls Try.prog 18 #[.slice q n c] w fun e w' => e = .returned (.bool (wholeL bs)) ∧ w = w' := by
  have HX := Lib.hid hx
  clear hx
  go_enter Try.func18, Try.ntmps18
  go_wp2
  go_loop [7] (fun i => ∃ k : Nat, k ≤ n ∧ i = .int .i64 k ∧ Hid (wholeL bs = wholeL (bs.drop k))) (fun i => n - (intOf i).toNat)
  case atStart => exact ⟨0, Nat.zero_le _, rfl, rfl⟩
  case round =>
    obtain ⟨k, hk, rfl, HR⟩ := hrel
    by_cases hlt : k < n
    · have con := digitsAt_any q n c (k + 1) bs w HX.out hn hb (by omega)
      obtain ⟨b, o, rfl, hc⟩ := hb.at (by omega)
      have hck : w.cell? ⟨b, o + k, none⟩ = some (.int .u8 ((bs.getD k 0).toNat : Int)) := by
        rw [← numsL_getD bs k (by rw [HX.out]; exact hlt)]; exact hc k hlt
      have hd : wholeL bs = ((bs.getD k 0 != 37 || dig2 (bs.drop (k + 1))) && wholeL (bs.drop (k + 1))) := by
        rw [HR.out, drop_cons bs k (by rw [HX.out]; exact hlt), whole_cons]
      generalize bs.getD k 0 = bk at *
      obtain ⟨z, HZ⟩ : ∃ z, Hid (dig2 (bs.drop (k + 1)) = z) := ⟨_, rfl⟩
      rw [HZ.out] at con hd
      have hkc : (((k + 1 : Nat) : Int)) = (k : Int) + 1 := by omega
      rw [hkc] at con
      clear hc HR hb hkc
      by_cases he : bk = 37
      · have e1 : ((bk.toNat : Int) == 37) = true := by rw [he]; rfl
        cases z
        · have H := Lib.hid (show wholeL bs = false by rw [hd, he]; rfl)
          clear hd he HZ
          go_wp2_with (go_at_call 26; refine con.mono ?_; rintro e w' ⟨rfl, rfl⟩)
          go_ret
          exact ⟨(by rw [H.out]; try rfl), rfl⟩
        · have H := Lib.hid (show wholeL bs = wholeL (bs.drop (k + 1)) by rw [hd, he]; rfl)
          clear hd he HZ
          go_wp2_with (go_at_call 26; refine con.mono ?_; rintro e w' ⟨rfl, rfl⟩)
          go_round
          case rel => exact ⟨k + 1, by omega, by go_num, H⟩
          case measure => simp [intOf]; omega
      · have e1 : ((bk.toNat : Int) == 37) = false := by
          rw [beq_eq_false_iff_ne]; intro h; exact he (UInt8.toNat_inj.1 (by have : (37 : UInt8).toNat = 37 := rfl; omega))
        have H := Lib.hid (show wholeL bs = wholeL (bs.drop (k + 1)) by rw [hd, show (bk != 37) = true from by simpa using he]; rfl)
        clear hd he HZ con
        go_wp2
        go_round
        case rel => exact ⟨k + 1, by omega, by go_num, H⟩
        case measure => simp [intOf]; omega
    · have H := Lib.hid (show wholeL bs = true by rw [HR.out, List.drop_of_length_le (by rw [HX.out]; omega)]; rfl)
      clear HR hb
      go_wp2
      go_ret
      exact ⟨(by rw [H.out]; try rfl), rfl⟩

end Go.Proofs.Ytfhgbokimkmpjaa.Pct
