/- The document's own Parse of hosts. Conditions: a text is of at most 2^40 bytes. -/
import Derived.Test.YtcahakelihigdaaHostR
import Derived.Test.YtcahakelihigdaaRefLetter
import Derived.Test.YtcahakelihigdaaRefLower
namespace Go.Proofs.Ytcahakelihigdaa.Ref
open Go.RowKit Go.Shelf

theorem below_drewN (w : World) (q : Nat) : Below w.heap.size w (w.drewN q) := ⟨rfl, rfl, rfl, Nat.le_refl _, fun _ _ => rfl⟩
/-- A text as a string's bytes. -/
theorem str_of (x : List UInt8) : ∃ s : ByteArray, s.data.toList = x ∧ strV x = .string s := ⟨⟨x.toArray⟩, by simp, rfl⟩
theorem part_parts (p : List UInt8) : Host.partB p = (!p.isEmpty && decide (p.length ≤ 63) && p.getD 0 0 != 45 && p.getD (p.length - 1) 0 != 45 && p.all Host.hostByte) := rfl
theorem hostByte_of (b : UInt8) : Host.hostByte b = (letB b || decB b || b == 45) := rfl
theorem all_host_drop (l : List UInt8) (k : Nat) (h : k < l.length) : (l.drop k).all Host.hostByte = (Host.hostByte (l.getD k 0) && (l.drop (k + 1)).all Host.hostByte) := by
  rw [drop_cons l k h, List.all_cons]
theorem all_part_drop (l : List (List UInt8)) (k : Nat) (h : k < l.length) : (l.drop k).all Host.partB = (Host.partB (l.getD k []) && (l.drop (k + 1)).all Host.partB) := by
  rw [drop_consS l k h, List.all_cons]
theorem parse_big (t : List UInt8) (h : 253 < t.length) : Host.parseE t = 3 := by unfold Host.parseE; rw [if_pos h]
theorem parse_host (t : List UInt8) (h : ¬ 253 < t.length) (hh : Host.hostB (splitL 46 t) = true) : Host.parseE t = 0 := by unfold Host.parseE; rw [if_neg h, if_pos hh]
theorem parse_none (t : List UInt8) (h : ¬ 253 < t.length) (hh : Host.hostB (splitL 46 t) = false) : Host.parseE t = 2 := by unfold Host.parseE; rw [if_neg h, if_neg (by rw [hh]; simp)]
theorem host_many (l : List (List UInt8)) (h : 8 < l.length) : Host.hostB l = false := by
  unfold Host.hostB; rw [decide_eq_false (by omega)]; rfl
theorem host_part (l : List (List UInt8)) (h : l.all Host.partB = false) : Host.hostB l = false := by
  unfold Host.hostB; rw [h]; simp
theorem host_end (l : List (List UInt8)) (h : ¬ 8 < l.length) (hp : l.all Host.partB = true) (hne : 0 < l.length) : Host.hostB l = (!decB ((l.getD (l.length - 1) []).getD 0 0) || Host.addrB l) := by
  unfold Host.hostB; rw [decide_eq_true (by omega), hp]
  have e : l.getLastD [] = l.getD (l.length - 1) [] := by
    rw [List.getLastD_eq_getLast?, List.getLast?_eq_getElem?]; rfl
  rw [e]; simp

/-- A host's canon, or the error's number. -/
def ParseOut (pe : Int) (lows : List UInt8) (w : World) (e : Ending) (w' : World) : Prop :=
  ∃ x : ByteArray, e = .returned (.tuple #[.string x, .int .i64 pe]) ∧ Hid (x.data.toList = if pe = 0 then lows else []) ∧ Below w.heap.size w w'
theorem out_err {pe n : Int} {lows : List UInt8} {w w' : World} (h : pe = n) (hn : n ≠ 0) (hb : Below w.heap.size w w') : ParseOut pe lows w (.returned (.tuple #[.string ⟨#[]⟩, .int .i64 n])) w' := by
  subst h
  exact ⟨_, rfl, Lib.hid (by rw [if_neg hn]), hb⟩
theorem out_ok {pe : Int} {lows : List UInt8} {w w' : World} {x : ByteArray} (h : pe = 0) (hx : x.data.toList = lows) (hb : Below w.heap.size w w') : ParseOut pe lows w (.returned (.tuple #[.string x, .int .i64 0])) w' := by
  subst h
  exact ⟨_, rfl, Lib.hid (by rw [if_pos rfl]; exact hx), hb⟩

set_option maxRecDepth 100000 in
set_option maxHeartbeats 8000000 in
theorem Parse_any (s : ByteArray) (w : World) (hs : s.size ≤ 1099511627775) :
    Calls Try.prog 9 #[.string s] w fun e w' => ParseOut (Host.parseE s.data.toList) (lowL s.data.toList) w e w' := by
  have hl := ba_len s
  by_cases hbig : 253 < s.size
  · have H := Lib.hid (parse_big s.data.toList (by omega))
    have d1 : decide ((253 : Int) < (s.size : Int)) = true := by simp; omega
    clear hl
    go_enter Try.func9, Try.ntmps9
    go_wp2
    go_ret2
    exact out_err H.out (by decide) (Below.refl _ _)
  · have d1 : decide ((253 : Int) < (s.size : Int)) = false := by simp; omega
    have PH := Lib.hid (parse_host s.data.toList (by omega))
    have PN := Lib.hid (parse_none s.data.toList (by omega))
    have con := Split_any 46 s w hs
    have HP := Lib.hid (split_small 46 s.data.toList)
    have HN : 0 < (splitL 46 s.data.toList).length := List.length_pos_iff.2 (split_ne 46 _)
    obtain ⟨LL, hLL⟩ : ∃ L, s.data.toList = L := ⟨_, rfl⟩
    have hlow := Lower_any s
    rw [hLL] at PH PN con HP HN hlow hl ⊢
    clear hLL
    generalize splitL 46 LL = xs at *
    generalize Host.parseE LL = pe at *
    generalize lowL LL = lows at *
    obtain ⟨n, hn⟩ : ∃ n, xs.length = n := ⟨_, rfl⟩
    rw [hn] at con HN
    have HL := Lib.hid hn
    have hsz : ∀ x ∈ xs, x.length ≤ s.size := fun x hx => by have := HP.out x hx; omega
    have HSZ := Lib.hid hsz
    clear hsz HP hl hn
    go_enter Try.func9, Try.ntmps9
    go_wp2_with fail
    refine con.mono ?_
    rintro e w2 ⟨v, rfl, hrow, hbel⟩
    obtain ⟨q, c, rfl, _, hnc, hcm, hst, hblk⟩ := strs_row hrow
    clear con hrow hblk
    unfold maxLen at hcm
    by_cases h8 : 8 < n
    · have d2 : decide ((8 : Int) < (n : Int)) = true := by simp; omega
      have H := Lib.hid (PN.out (host_many xs (by rw [HL.out]; exact h8)))
      clear PH PN
      go_wp2
      go_ret2
      exact out_err H.out (by decide) hbel
    · have d2 : decide ((8 : Int) < (n : Int)) = false := by simp; omega
      go_wp2
      clear d1 d2
      go_loop [18] (fun i => ∃ k : Nat, k ≤ n ∧ i = .int .i64 k ∧ Hid (xs.all Host.partB = (xs.drop k).all Host.partB)) (fun i => n - (intOf i).toNat)
      case atStart => exact ⟨0, Nat.zero_le _, rfl, rfl⟩
      case round =>
        obtain ⟨k, hk, rfl, HR⟩ := hrel
        by_cases hlt : k < n
        · obtain ⟨b, o, rfl, _, hc⟩ := hst (by omega)
          have ck := hc k hlt
          have hlx := HL.out
          have hd := all_part_drop xs k (by omega)
          have hm : xs.getD k [] ∈ xs := by
            rw [List.getD, List.getElem?_eq_getElem (by omega)]; exact List.getElem_mem _
          have hsk := HSZ.out _ hm
          generalize xs.getD k [] = x at *
          obtain ⟨p, hp, hpv⟩ := str_of x
          rw [hpv] at ck
          subst hp
          have hpl := ba_len p
          rw [hpl] at hsk
          have HB := Lib.hid (show xs.all Host.partB = (Host.partB p.data.toList && (xs.drop (k + 1)).all Host.partB) by rw [HR.out, hd])
          clear hd hm hpv HR hc hlx
          by_cases hz : p.size = 0
          · have e0 : p.toList.isEmpty = true := by
              rw [Lib.toList_data, List.isEmpty_iff]; exact List.eq_nil_of_length_eq_zero (by omega)
            have H := Lib.hid (PN.out (host_part xs (by rw [HB.out, part_parts, ← Lib.toList_data, e0]; rfl)))
            clear HB PH PN hpl hz
            go_wp2
            go_ret2
            exact out_err H.out (by decide) hbel
          · have hz' : 0 < p.size := by omega
            have e0 : p.toList.isEmpty = false := by
              rw [Lib.toList_data, List.isEmpty_eq_false_iff]; intro h; rw [h] at hpl; simp at hpl; omega
            by_cases h63 : 63 < p.size
            · have d3 : decide ((63 : Int) < (p.size : Int)) = true := by simp; omega
              have H := Lib.hid (PN.out (host_part xs (by rw [HB.out, part_parts, hpl, decide_eq_false (by omega)]; simp)))
              clear HB PH PN hpl hz
              go_wp2
              go_ret2
              exact out_err H.out (by decide) hbel
            · have d3 : decide ((63 : Int) < (p.size : Int)) = false := by simp; omega
              have g0 := ba_get p 0 hz'
              have hlp : p.size - 1 < p.size := Nat.sub_lt hz' Nat.one_pos
              have gl := ba_get p (p.size - 1) hlp
              rw [part_parts, hpl, decide_eq_true (by omega), ← g0, ← gl, ← Lib.toList_data, e0] at HB
              by_cases h45 : p[0] = 45
              · have e1 : ((p[0].toNat : Int) == 45) = true := by rw [h45]; rfl
                have H := Lib.hid (PN.out (host_part xs (by rw [HB.out, h45]; rfl)))
                clear HB PH PN hpl hz h45 g0 gl
                go_wp2
                go_ret2
                exact out_err H.out (by decide) hbel
              · have e1 : ((p[0].toNat : Int) == 45) = false := by
                  rw [beq_eq_false_iff_ne]; intro h; exact h45 (UInt8.toNat_inj.1 (by have : (45 : UInt8).toNat = 45 := rfl; omega))
                by_cases h45' : p[p.size - 1]'hlp = 45
                · have e2 : (((p[p.size - 1]'hlp).toNat : Int) == 45) = true := by rw [h45']; rfl
                  have H := Lib.hid (PN.out (host_part xs (by rw [HB.out, h45']; simp)))
                  clear HB PH PN hpl hz h45 h45' g0 gl
                  go_wp2
                  go_ret2
                  exact out_err H.out (by decide) hbel
                · have e2 : (((p[p.size - 1]'hlp).toNat : Int) == 45) = false := by
                    rw [beq_eq_false_iff_ne]; intro h; exact h45' (UInt8.toNat_inj.1 (by have : (45 : UInt8).toNat = 45 := rfl; omega))
                  have HB2 := Lib.hid (show xs.all Host.partB = (p.data.toList.all Host.hostByte && (xs.drop (k + 1)).all Host.partB) by
                    rw [HB.out, Lib.toList_data, bne_iff_ne.2 h45, bne_iff_ne.2 h45']; simp)
                  clear HB g0 gl h45 h45' hz
                  have HPL := Lib.hid hpl
                  clear hpl
                  go_wp2
                  clear e0 d3 e1 e2
                  go_loop [7] (fun j => ∃ m : Nat, m ≤ p.size ∧ j = .int .i64 m ∧ Hid (p.data.toList.all Host.hostByte = (p.data.toList.drop m).all Host.hostByte)) (fun j => p.size - (intOf j).toNat)
                  case atStart => exact ⟨0, Nat.zero_le _, rfl, rfl⟩
                  case round =>
                    obtain ⟨m, hmm, rfl, HQ⟩ := hrel
                    by_cases hml : m < p.size
                    · have hd := all_host_drop p.data.toList m (by rw [HPL.out]; exact hml)
                      rw [← ba_get p m hml, hostByte_of] at hd
                      have c1 := Letter_any p[m]
                      have c2 := Digit_any p[m]
                      have hbm := u8_lt p[m]
                      cases hle : letB p[m] with
                      | true =>
                        rw [hle] at c1 hd
                        have HQ2 := Lib.hid (show p.data.toList.all Host.hostByte = (p.data.toList.drop (m + 1)).all Host.hostByte by rw [HQ.out, hd]; simp)
                        clear hd hle HQ c2
                        go_wp2_with (go_at_call 21; refine (c1 _).mono ?_; rintro e w' ⟨rfl, rfl⟩)
                        go_round
                        case rel => exact ⟨m + 1, by omega, by go_num, HQ2⟩
                        case measure => simp [intOf]; omega
                      | false =>
                        cases hde : decB p[m] with
                        | true =>
                          rw [hle] at c1 hd
                          rw [hde] at c2 hd
                          have HQ2 := Lib.hid (show p.data.toList.all Host.hostByte = (p.data.toList.drop (m + 1)).all Host.hostByte by rw [HQ.out, hd]; simp)
                          clear hd hle hde HQ
                          go_wp2_with (first | (go_at_call 21; refine (c1 _).mono ?_; rintro e w' ⟨rfl, rfl⟩) | (go_at_call 22; refine (c2 _).mono ?_; rintro e w' ⟨rfl, rfl⟩))
                          go_round
                          case rel => exact ⟨m + 1, by omega, by go_num, HQ2⟩
                          case measure => simp [intOf]; omega
                        | false =>
                          rw [hle] at c1 hd
                          rw [hde] at c2 hd
                          by_cases hmi : p[m] = 45
                          · have e3 : ((p[m].toNat : Int) != 45) = false := by rw [hmi]; rfl
                            have HQ2 := Lib.hid (show p.data.toList.all Host.hostByte = (p.data.toList.drop (m + 1)).all Host.hostByte by rw [HQ.out, hd, hmi]; rfl)
                            clear hd hle hde HQ hmi
                            go_wp2_with (first | (go_at_call 21; refine (c1 _).mono ?_; rintro e w' ⟨rfl, rfl⟩) | (go_at_call 22; refine (c2 _).mono ?_; rintro e w' ⟨rfl, rfl⟩))
                            go_round
                            case rel => exact ⟨m + 1, by omega, by go_num, HQ2⟩
                            case measure => simp [intOf]; omega
                          · have e3 : ((p[m].toNat : Int) != 45) = true := by
                              rw [bne_iff_ne]; intro h; exact hmi (UInt8.toNat_inj.1 (by have : (45 : UInt8).toNat = 45 := rfl; omega))
                            have H := Lib.hid (PN.out (host_part xs (by rw [HB2.out, HQ.out, hd, beq_false_of_ne hmi]; rfl)))
                            clear hd hle hde HQ hmi PN PH HB2
                            go_wp2_with (first | (go_at_call 21; refine (c1 _).mono ?_; rintro e w' ⟨rfl, rfl⟩) | (go_at_call 22; refine (c2 _).mono ?_; rintro e w' ⟨rfl, rfl⟩))
                            go_ret2
                            exact out_err H.out (by decide) hbel
                    · have HQ2 := Lib.hid (show xs.all Host.partB = (xs.drop (k + 1)).all Host.partB by
                        rw [HB2.out, HQ.out, List.drop_of_length_le (by rw [HPL.out]; omega), List.all_nil, Bool.true_and])
                      clear HQ HB2
                      go_wp2
                      go_round
                      case rel => exact ⟨k + 1, by omega, by go_num, HQ2⟩
                      case measure => simp [intOf]; omega
        · obtain ⟨b, o, rfl, _, hc⟩ := hst HN
          have ck := hc (n - 1) (by omega)
          have hlx := HL.out
          have hap : xs.all Host.partB = true := by rw [HR.out, List.drop_of_length_le (by omega)]; rfl
          have hm : xs.getD (n - 1) [] ∈ xs := by
            rw [List.getD, List.getElem?_eq_getElem (by omega)]; exact List.getElem_mem _
          have hpm := List.all_eq_true.1 hap _ hm
          have hend := host_end xs (by rw [hlx]; exact h8) hap (by omega)
          rw [hlx] at hend
          have con4 := fun W h => address4_any (some ⟨b, o, none⟩) n c xs W hlx (by omega) h (fun x hx => by have := HSZ.out x hx; omega)
          have HST := Lib.hid (show StIn w2 (some ⟨b, o, none⟩) n xs from fun _ => ⟨b, o, rfl, by assumption, hc⟩)
          generalize xs.getD (n - 1) [] = x at *
          obtain ⟨p, hp, hpv⟩ := str_of x
          rw [hpv] at ck
          subst hp
          have hpl := ba_len p
          have hz' : 0 < p.size := by
            rcases Nat.eq_zero_or_pos p.size with h0 | h0
            · rw [part_parts, List.eq_nil_of_length_eq_zero (l := p.data.toList) (by omega)] at hpm; cases hpm
            · exact h0
          rw [← ba_get p 0 hz'] at hend
          have c2 := Digit_any p[0]
          have hbm := u8_lt p[0]
          obtain rfl : k = n := by omega
          cases hde : decB p[0] with
          | false =>
            rw [hde] at c2 hend
            have H := Lib.hid (PH.out (by rw [hend]; rfl))
            clear hde hend hpm hap hm HR hc hst hpv con4 hpl hlx
            go_wp2_with (first | (go_at_call 22; refine (c2 _).mono ?_; rintro e w' ⟨rfl, rfl⟩) | (go_at_call 24; refine (hlow _ hs).mono ?_; rintro e w3 ⟨z, rfl, HZ, q3, rfl⟩))
            go_ret2
            exact out_ok H.out HZ.out (hbel.trans ((below_drewN _ _).mono hbel.size))
          | true =>
            rw [hde] at c2 hend
            cases had : Host.addrB xs with
            | false =>
              rw [had] at hend con4
              have H := Lib.hid (PN.out (by rw [hend]; rfl))
              clear hde hend hpm hap hm HR hc hst hpv hpl hlx had
              go_wp2_with (first | (go_at_call 22; refine (c2 _).mono ?_; rintro e w' ⟨rfl, rfl⟩) | (go_at_call 23; refine (con4 _ HST.out).mono ?_; rintro e w' ⟨rfl, rfl⟩))
              go_ret2
              exact out_err H.out (by decide) hbel
            | true =>
              rw [had] at hend con4
              have H := Lib.hid (PH.out (by rw [hend]; rfl))
              clear hde hend hpm hap hm HR hc hst hpv hpl hlx had
              go_wp2_with (first | (go_at_call 22; refine (c2 _).mono ?_; rintro e w' ⟨rfl, rfl⟩) | (go_at_call 23; refine (con4 _ HST.out).mono ?_; rintro e w' ⟨rfl, rfl⟩) | (go_at_call 24; refine (hlow _ hs).mono ?_; rintro e w3 ⟨z, rfl, HZ, q3, rfl⟩))
              go_ret2
              exact out_ok H.out HZ.out (hbel.trans ((below_drewN _ _).mono hbel.size))

end Go.Proofs.Ytcahakelihigdaa.Ref
