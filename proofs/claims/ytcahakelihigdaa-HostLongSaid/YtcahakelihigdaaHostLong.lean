/- HostLong: the law returns true at whatever input, and writes nothing that was there. Conditions: none. -/
import Derived.Test.YtcahakelihigdaaRows
import Derived.Test.YtcahakelihigdaaHostJ
import Derived.WalkKit
import Derived.ProofKit
import Derived.OpenShut
import Derived.ChangeOld
import Derived.Below
import Derived.ShutString
namespace Go.Proofs.Ytcahakelihigdaa.hostLong
open Go.ChangeShapes Go.WideShapes Go.ChangeAt Go.RowKit
open Go.ChangeMaps (open_string shut_string)
set_option linter.unusedVariables false

theorem own : ownKnob Try.prog.godebug = none := by kernel_rfl

open Host
open Go.Shelf
set_option maxHeartbeats 8000000 in
set_option maxRecDepth 100000 in
theorem walk (a0 : Int) (a1 : Int) (a2 : Int) (w0 : (Lit.int .i64 a0).wf = true) (w1 : (Lit.int .i64 a1).wf = true) (w2 : (Lit.int .u8 a2).wf = true) (w : World) :
    Calls Try.prog 6 #[.int .i64 a0, .int .i64 a1, .int .u8 a2] w fun e w' => e = .returned (.bool true) ∧ Below w.heap.size w w' := by
  obtain ⟨i0, hi0, hz0, hz1, hz2⟩ := info_parts info_u8
  obtain ⟨c, hc⟩ : ∃ c : UInt8, a2 = (c.toNat : Int) := by
    have h := bounds_u8 w2
    exact ⟨UInt8.ofNat a2.toNat, by simp only [UInt8.toNat_ofNat']; omega⟩
  subst hc
  obtain ⟨p9, hp9, hP⟩ := parts_of a0 10 (by omega) (by omega)
  obtain ⟨z9, hz9, hZ⟩ := parts_of a1 66 (by omega) (by omega)
  clear w0 w1 w2
  obtain ⟨x, hx⟩ : ∃ x, smallB c = x := ⟨_, rfl⟩
  have HXN := Lib.hid (show (x.toNat : Int) = 97 + (c.toNat : Int) % 26 by rw [← hx]; exact small_nat c)
  have HLP := Lib.hid (long_parse p9 z9 c)
  have HLL := Lib.hid (long_len (z9 + 1) x p9)
  rw [hx] at HLP
  clear hx
  have hc8 := Ref.u8_lt c
  go_enter Try.func6, Try.ntmps6
  go_wp2_with fail
  refine (lives_any _).mono ?_
  rintro e w2 ⟨rfl, hw2⟩
  go_wp2_with fail
  rw [hP, hZ]
  clear hP hZ
  obtain ⟨P, HPP⟩ : ∃ P, p9 + 1 = P := ⟨_, rfl⟩
  obtain ⟨Z, HZZ⟩ : ∃ Z, z9 + 1 = Z := ⟨_, rfl⟩
  rw [HPP, HZZ]
  rw [HPP, HZZ] at HLP HLL
  have hP10 : P ≤ 10 := by omega
  have hP0 : 1 ≤ P := by omega
  have hZ66 : Z ≤ 66 := by omega
  have HPQ := Lib.hid HPP
  have HZQ := Lib.hid HZZ
  clear HPP HZZ hp9 hz9
  go_loopw [7, 24] (fun t i wr => ∃ k n : Nat, k ≤ P ∧ i = .int .i64 k ∧ wr.ownsRow w2.heap.size 5 1 t n ((Lib.numsL (longL Z x k)).map (Value.int .u8)) ∧ Below w2.heap.size w2 wr) (fun _ i _ => P - (intOf i).toNat)
  case atStart => exact ⟨0, 0, Nat.zero_le _, rfl, World.ownsRow_nil _ _ _ _, Below.refl _ _⟩
  case round =>
    obtain ⟨k, n, hk, rfl, hrow0, hbel0⟩ := hrel
    have hbs0 := hbel0.size
    by_cases hlt : k < P
    · by_cases hk0 : k = 0
      · have hn0 : n = 0 := by have := hrow0.1; rw [hk0] at this; simpa [Lib.numsL, longL] using this.symm
        have HN : n ≤ 671 + 0 := by omega
        have hrow1 : wr.ownsRow w2.heap.size 5 1 u7 n ((Lib.numsL (aheadL Z x k)).map (Value.int .u8)) := by rw [hk0] at hrow0 ⊢; exact hrow0
        have d0 : decide (0 < k) = false := by simp; omega
        clear hrow0 hn0 hk0
        go_wp2
        go_loopw [7, 33] (fun t j wr => ∃ m n : Nat, m ≤ Z ∧ n ≤ 671 + m ∧ j = .int .i64 m ∧ wr.ownsRow w2.heap.size 5 1 t n ((Lib.numsL (aheadL Z x k ++ List.replicate m x)).map (Value.int .u8)) ∧ Below w2.heap.size w2 wr) (fun _ j _ => Z - (intOf j).toNat)
        case atStart => exact ⟨0, _, Nat.zero_le _, HN, rfl, by simpa using hrow1, hbel0⟩
        case round =>
          obtain ⟨m, nn, hm, hnn, rfl, hrow, hbel⟩ := hrel
          have hbs := hbel.size
          by_cases hml : m < Z
          · have HR := Lib.hid (show (Lib.numsL (aheadL Z x k ++ List.replicate (m + 1) x)).map (Value.int .u8) = (Lib.numsL (aheadL Z x k ++ List.replicate m x)).map (Value.int .u8) ++ [.int .u8 (x.toNat : Int)] by
              rw [List.replicate_succ', ← List.append_assoc]; simp [Lib.numsL])
            rw [HXN.out] at HR
            go_wp2_with (at_builtin; refine wpList_append_own_at _ rfl _ _ 22 rfl w2.heap.size 5 i0 (.int .u8 0) 1 1 Try.underlying22 hi0 hz0 hz1 hz2 rfl (by decide) _ _ _ rfl (hrow.alloc _) ⟨wr.heap.size, 0, none⟩ 1 1 [.int .u8 (97 + (c.toNat : Int) % 26)] rfl rfl (cell_one_new _ _ _) (by simp [Value.oneCell']) (by unfold maxLen; omega) (by omega) (by simp; omega) ?_; intro v' w1 hown' hgrow _ _)
            have hb1 : Below w2.heap.size wr w1 := ((Below.refl _ wr).alloc hbs _).grown hgrow (by simp; omega) (fun b hb => (hrow.lt b hb).1)
            go_roundw
            case rel => exact ⟨m + 1, nn + 1, by omega, by omega, by go_num, by rw [HR.out]; exact hown', hbel.trans hb1⟩
            case measure => simp [intOf]; omega
          · have HE := Lib.hid (show aheadL Z x k ++ List.replicate m x = longL Z x (k + 1) by rw [long_succ, show m = Z by omega])
            rw [HE.out] at hrow
            have hnl : nn = (longL Z x (k + 1)).length := by have := hrow.1; simpa [Lib.numsL] using this.symm
            clear HE
            go_wp2
            go_roundw
            case rel => exact ⟨k + 1, nn, by omega, by go_num, hrow, hbel⟩
            case measure => simp [intOf]; omega
      · have d0 : decide (0 < k) = true := by simp; omega
        have hn0 : n ≤ 67 * 10 := by
          have h1 := hrow0.1
          have h2 := ahead_len Z x k hZ66
          rw [ahead_succ Z x k hk0, List.length_append] at h2
          rw [List.length_map, Lib.numsL_length, Nat.mul_one] at h1
          omega
        have HA := Lib.hid (show (Lib.numsL (aheadL Z x k)).map (Value.int .u8) = (Lib.numsL (longL Z x k)).map (Value.int .u8) ++ [.int .u8 46] by
          rw [ahead_succ Z x k hk0]; simp [Lib.numsL])
        have HN1 : n + 1 ≤ 671 := by omega
        clear hk0
        go_wp2_with (at_builtin; refine wpList_append_own_at _ rfl _ _ 22 rfl w2.heap.size 5 i0 (.int .u8 0) 1 1 Try.underlying22 hi0 hz0 hz1 hz2 rfl (by decide) _ _ _ rfl (hrow0.alloc _) ⟨wr.heap.size, 0, none⟩ 1 1 [.int .u8 46] rfl rfl (cell_one_new _ _ _) (by simp [Value.oneCell']) (by unfold maxLen; omega) (by omega) (by simp; omega) ?_; intro v' w1 hown' hgrow _ _)
        have hb1 : Below w2.heap.size wr w1 := ((Below.refl _ wr).alloc hbs0 _).grown hgrow (by simp; omega) (fun b hb => (hrow0.lt b hb).1)
        have hbel1 := hbel0.trans hb1
        have hrow1 := hown'
        rw [← HA.out] at hrow1
        have HN : n + 1 ≤ 671 + 0 := HN1
        clear hown' hgrow hb1 hrow0 hbel0 hbs0 HA d0
        go_loopw [7, 33] (fun t j wr => ∃ m n : Nat, m ≤ Z ∧ n ≤ 671 + m ∧ j = .int .i64 m ∧ wr.ownsRow w2.heap.size 5 1 t n ((Lib.numsL (aheadL Z x k ++ List.replicate m x)).map (Value.int .u8)) ∧ Below w2.heap.size w2 wr) (fun _ j _ => Z - (intOf j).toNat)
        case atStart => exact ⟨0, _, Nat.zero_le _, HN, rfl, by simpa using hrow1, hbel1⟩
        case round =>
          obtain ⟨m, nn, hm, hnn, rfl, hrow, hbel⟩ := hrel
          have hbs := hbel.size
          by_cases hml : m < Z
          · have HR := Lib.hid (show (Lib.numsL (aheadL Z x k ++ List.replicate (m + 1) x)).map (Value.int .u8) = (Lib.numsL (aheadL Z x k ++ List.replicate m x)).map (Value.int .u8) ++ [.int .u8 (x.toNat : Int)] by
              rw [List.replicate_succ', ← List.append_assoc]; simp [Lib.numsL])
            rw [HXN.out] at HR
            go_wp2_with (at_builtin; refine wpList_append_own_at _ rfl _ _ 22 rfl w2.heap.size 5 i0 (.int .u8 0) 1 1 Try.underlying22 hi0 hz0 hz1 hz2 rfl (by decide) _ _ _ rfl (hrow.alloc _) ⟨wr.heap.size, 0, none⟩ 1 1 [.int .u8 (97 + (c.toNat : Int) % 26)] rfl rfl (cell_one_new _ _ _) (by simp [Value.oneCell']) (by unfold maxLen; omega) (by omega) (by simp; omega) ?_; intro v' w1 hown' hgrow _ _)
            have hb1 : Below w2.heap.size wr w1 := ((Below.refl _ wr).alloc hbs _).grown hgrow (by simp; omega) (fun b hb => (hrow.lt b hb).1)
            go_roundw
            case rel => exact ⟨m + 1, nn + 1, by omega, by omega, by go_num, by rw [HR.out]; exact hown', hbel.trans hb1⟩
            case measure => simp [intOf]; omega
          · have HE := Lib.hid (show aheadL Z x k ++ List.replicate m x = longL Z x (k + 1) by rw [long_succ, show m = Z by omega])
            rw [HE.out] at hrow
            have hnl : nn = (longL Z x (k + 1)).length := by have := hrow.1; simpa [Lib.numsL] using this.symm
            clear HE
            go_wp2
            go_roundw
            case rel => exact ⟨k + 1, nn, by omega, by go_num, hrow, hbel⟩
            case measure => simp [intOf]; omega
    · have hkP : k = P := by omega
      rw [hkP] at hrow0
      have hmul : P * Z ≤ 10 * 66 := Nat.mul_le_mul hP10 hZ66
      obtain ⟨q7, c7, rfl, hlen7, hnc7, hcm7, hb7, _⟩ := row_open hrow0
      have hnl : n = P * Z + p9 := by rw [← hlen7]; exact HLL.out
      have hn700 : n ≤ 700 := by have := HPQ.out; omega
      have con := Parse_any q7 n c7 (longL Z x P) wr hlen7 (by omega) hb7
      have hw3 := hw2.trans (hbel0.mono hw2.size)
      have HL7 := Lib.hid hlen7
      clear hlen7 hmul hkP
      by_cases hbig : 253 < n
      · have d1 : decide ((253 : Int) < (n : Int)) = true := by simp; omega
        have HE := Lib.hid (show parseE (longL Z x P) = 3 by rw [HLP.out, if_pos (by omega)])
        clear HLP HLL hrow0 hb7 hnl
        go_wp2_with fail
        refine con.mono ?_
        intro e w4 ho
        obtain ⟨q, c4, rfl, _, hb4⟩ := can_at ho HE.out (by decide)
        have hw4 := hw3.trans (hb4.mono hw3.size)
        clear con ho
        go_wp2
        go_ret
        exact ⟨rfl, hw4⟩
      · have d1 : decide ((253 : Int) < (n : Int)) = false := by simp; omega
        by_cases hp8 : P ≤ 8
        · have d2 : decide ((P : Int) ≤ (8 : Int)) = true := by simp; omega
          by_cases hz63 : Z ≤ 63
          · have d3 : decide ((Z : Int) ≤ (63 : Int)) = true := by simp; omega
            have HE := Lib.hid (show parseE (longL Z x P) = 0 by rw [HLP.out, if_neg (by omega), if_pos ⟨hp8, hz63⟩])
            clear HLP HLL hrow0 hb7 hnl
            go_wp2_with fail
            refine con.mono ?_
            intro e w4 ho
            obtain ⟨q, c4, rfl, _, _, _, hb4⟩ := can_at0 ho HE.out HL7.out
            have hw4 := hw3.trans (hb4.mono hw3.size)
            clear con ho
            go_wp2
            go_ret
            exact ⟨rfl, hw4⟩
          · have d3 : decide ((Z : Int) ≤ (63 : Int)) = false := by simp; omega
            have HE := Lib.hid (show parseE (longL Z x P) = 2 by rw [HLP.out, if_neg (by omega), if_neg (fun h => hz63 h.2)])
            clear HLP HLL hrow0 hb7 hnl
            go_wp2_with fail
            refine con.mono ?_
            intro e w4 ho
            obtain ⟨q, c4, rfl, _, hb4⟩ := can_at ho HE.out (by decide)
            have hw4 := hw3.trans (hb4.mono hw3.size)
            clear con ho
            go_wp2
            go_ret
            exact ⟨rfl, hw4⟩
        · have d2 : decide ((P : Int) ≤ (8 : Int)) = false := by simp; omega
          have HE := Lib.hid (show parseE (longL Z x P) = 2 by rw [HLP.out, if_neg (by omega), if_neg (fun h => hp8 h.1)])
          clear HLP HLL hrow0 hb7 hnl
          go_wp2_with fail
          refine con.mono ?_
          intro e w4 ho
          obtain ⟨q, c4, rfl, _, hb4⟩ := can_at ho HE.out (by decide)
          have hw4 := hw3.trans (hb4.mono hw3.size)
          clear con ho
          go_wp2
          go_ret
          exact ⟨rfl, hw4⟩

set_option maxRecDepth 100000 in
theorem lifted (os : Os) (started : os.Started) (H : Type) (enc : TypeId × Value → H) :
    ReturnsInHanded {} Try.checked os 6 .any (Rows.hostLongSpec.pre6 enc Try.prog Try.f6 Rows.hostLongRow.domain false) (Rows.hostLongSpec.post enc Try.prog Try.f6 false true false false) := by
  refine returnsInHanded_of_change (C := Try.checked) own started (by kernel_rfl) Try.func6
    (ChangeSpec.witness6 (enc := enc) (C := Try.checked) false ⟨#[], #[.int .i64 0, .int .i64 0, .int .u8 0], []⟩ 8 (by kernel_rfl) (by kernel_rfl) (by kernel_rfl) (by kernel_rfl)) ?_
  intro W base args ds gs before hval0 hW hcnd _
  have hval : ∀ (j : Nat) t v, Try.f6.params[j]? = some t → args[j]? = some v → Value.okWide Try.prog W .any base t v := hval0
  have hW' := hW
  obtain ⟨p, q, hA0, hV, rfl, hfz, hnd⟩ := hW
  have hA : DataW.TrodAll enc Try.prog W 0 (fun _ => true) true Try.f6.params.toList args.toList ds p := hA0
  rw [Try.params6] at hA hval
  obtain ⟨v0, vs0, d0, ds0, p0, q0, hargs, rfl, rfl, h0, r0⟩ := trodAll_cons hA
  obtain ⟨v1, vs1, d1, ds1, p1, q1, rfl, rfl, rfl, h1, r1⟩ := trodAll_cons r0
  obtain ⟨v2, vs2, d2, ds2, p2, q2, rfl, rfl, rfl, h2, r2⟩ := trodAll_cons r1
  obtain ⟨rfl, rfl, rfl⟩ := trodAll_nil r2
  obtain rfl : args = #[v0, v1, v2] := by cases args; simp_all
  obtain ⟨rfl, rfl⟩ := trodVars_none hV
  obtain ⟨a0, rfl, rfl, rfl, w0⟩ := open_int Try.underlying3 (hval 0 3 v0 rfl rfl) h0
  obtain ⟨a1, rfl, rfl, rfl, w1⟩ := open_int Try.underlying3 (hval 1 3 v1 rfl rfl) h1
  obtain ⟨a2, rfl, rfl, rfl, w2⟩ := open_int Try.underlying5 (hval 2 5 v2 rfl rfl) h2
  clear hA0 hval0
  refine (walk a0 a1 a2 w0 w1 w2 W).mono fun e W' ⟨he, bel⟩ => ?_
  subst he
  exact ⟨_, rfl, _, _, _, [], _, [], hW', trodAll_mk1 (shut_bool Try.underlying4 _), (trodAll_cons_mk (shut_int Try.underlying3 w0) (trodAll_cons_mk (shut_int Try.underlying3 w1) (trodAll_cons_mk (shut_int Try.underlying5 w2) trodAll_mk0))), rfl, bel.frame _, fun h => by cases h⟩

theorem over : Rows.hostLongRow.holds Try.pinned (OpenSpec.ofChange Rows.hostLongSpec) :=
  OpenClaim.holds_of_wide 6 Try.f6 rfl rfl rfl rfl rfl rfl rfl ⟨rfl, rfl, rfl, rfl, rfl⟩ rfl rfl rfl rfl rfl (by kernel_rfl) Try.func6 (by kernel_rfl)
    (of_decide_eq_true (by kernel_rfl)) (by unfold Func.isWrapper; first | (rw [if_pos (by decide +kernel)]; kernel_rfl) | (rw [if_neg (by decide +kernel)]; exact ⟨rfl, rfl⟩))
    (fun os started H enc _ => lifted os started H enc)

theorem proved : Rows.HostLongSaid :=
  over
end Go.Proofs.Ytcahakelihigdaa.hostLong
