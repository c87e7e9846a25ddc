/- The document's Fields. Conditions: a text is of at most 2^40 bytes. -/
import Derived.Test.YtefgccdpgfdelaaFieldA
namespace Go.Proofs.Ytefgccdpgfdelaa
open Go.RowKit Go.Shelf

/-- The pieces that have bytes. -/
def fieldsOf (l : List UInt8) (xs : List (Nat × Nat)) : List (List UInt8) := (xs.filter fun x => decide (x.1 < x.2)).map fun x => sub l x.1 x.2
def fieldsL (l : List UInt8) : List (List UInt8) := fieldsOf l (spansL blankB l)
theorem fieldsOf_some (l : List UInt8) (pre : List (Nat × Nat)) (f k : Nat) (h : f < k) : fieldsOf l (pre ++ [(f, k)]) = fieldsOf l pre ++ [sub l f k] := by
  unfold fieldsOf; simp [List.filter_append, h]
theorem fieldsOf_none (l : List UInt8) (pre : List (Nat × Nat)) (f k : Nat) (h : ¬ f < k) : fieldsOf l (pre ++ [(f, k)]) = fieldsOf l pre := by
  unfold fieldsOf; simp [List.filter_append, h]
theorem fieldsOf_mid (l : List UInt8) (pre : List (Nat × Nat)) (x : Nat × Nat) (rest : List (Nat × Nat)) (hx : spansL blankB l = pre ++ x :: rest) (h : x.1 < x.2) : ∃ r, fieldsL l = fieldsOf l pre ++ sub l x.1 x.2 :: r := by
  refine ⟨fieldsOf l rest, ?_⟩
  unfold fieldsL
  rw [hx]
  unfold fieldsOf
  simp [List.filter_append, List.filter_cons, h]

/-- Where the document's Fields stands before round k. -/
def At_ (l : List UInt8) (k : Nat) (x : List UInt8) (fs : List (List UInt8)) : Prop :=
  (k < l.length → ∃ f pre, f ≤ k ∧ x = sub l f k ∧ spansL blankB l = pre ++ spansGo blankB (l.drop k) k f ∧ fs = fieldsOf l pre) ∧ (k = l.length → fs = fieldsL l)

theorem at_zero (l : List UInt8) : At_ l 0 [] [] := by
  refine ⟨fun _ => ⟨0, [], Nat.le_refl _, (sub_nil l 0).symm, rfl, rfl⟩, fun h => ?_⟩
  obtain rfl : l = [] := List.eq_nil_of_length_eq_zero h.symm
  rfl
theorem at_len {l : List UInt8} {k : Nat} {x : List UInt8} {fs : List (List UInt8)} (h : At_ l k x fs) (hk : k < l.length) : x.length ≤ k := by
  obtain ⟨f, pre, hf, rfl, _, _⟩ := h.1 hk
  rw [sub_length _ _ _ (by omega)]; omega

theorem at_end {l : List UInt8} {k f : Nat} {pre : List (Nat × Nat)} (hk : k = l.length) (h : spansL blankB l = pre ++ spansGo blankB (l.drop k) k f) : fieldsL l = fieldsOf l (pre ++ [(f, k)]) := by
  unfold fieldsL
  rw [h, List.drop_of_length_le (by omega)]
  rfl
theorem at_blank {l : List UInt8} {k : Nat} {x : List UInt8} {fs : List (List UInt8)} (h : At_ l k x fs) (hk : k < l.length) (hb : blankB (l.getD k 0) = true) :
    (x = [] → At_ l (k + 1) [] fs) ∧ (x ≠ [] → At_ l (k + 1) [] (fs ++ [x])) := by
  obtain ⟨f, pre, hf, rfl, hs, rfl⟩ := h.1 hk
  have hs2 : spansL blankB l = (pre ++ [(f, k)]) ++ spansGo blankB (l.drop (k + 1)) (k + 1) (k + 1) := by
    rw [hs, drop_cons l k hk, List.append_assoc]; conv => lhs; unfold spansGo; rw [if_pos hb]
    rfl
  have hsl := sub_length l f k (by omega)
  constructor
  · intro hx
    have hfk : ¬ f < k := by intro hlt; rw [hx] at hsl; simp at hsl; omega
    rw [← fieldsOf_none l pre f k hfk]
    exact ⟨fun _ => ⟨k + 1, _, Nat.le_refl _, (sub_nil _ _).symm, hs2, rfl⟩, fun he => by rw [at_end he hs2, fieldsOf_none _ _ _ _ (Nat.lt_irrefl _)]⟩
  · intro hx
    have hfk : f < k := by
      rcases Nat.lt_or_ge f k with h1 | h1
      · exact h1
      · exact absurd (List.eq_nil_of_length_eq_zero (by omega)) hx
    rw [← fieldsOf_some l pre f k hfk]
    exact ⟨fun _ => ⟨k + 1, _, Nat.le_refl _, (sub_nil _ _).symm, hs2, rfl⟩, fun he => by rw [at_end he hs2, fieldsOf_none _ _ _ _ (Nat.lt_irrefl _)]⟩
theorem at_more {l : List UInt8} {k : Nat} {x : List UInt8} {fs : List (List UInt8)} (h : At_ l k x fs) (hk : k < l.length) (hb : blankB (l.getD k 0) = false) :
    (k + 1 < l.length → At_ l (k + 1) (x ++ [l.getD k 0]) fs) ∧ (k + 1 = l.length → At_ l (k + 1) [] (fs ++ [x ++ [l.getD k 0]])) := by
  obtain ⟨f, pre, hf, rfl, hs, rfl⟩ := h.1 hk
  have hs2 : spansL blankB l = pre ++ spansGo blankB (l.drop (k + 1)) (k + 1) f := by
    rw [hs, drop_cons l k hk]; conv => lhs; unfold spansGo; rw [if_neg (by rw [hb]; simp)]
  rw [← sub_snoc l f k hf hk]
  refine ⟨fun h1 => ⟨fun _ => ⟨f, pre, by omega, rfl, hs2, rfl⟩, fun he => absurd he (by omega)⟩, fun h1 => ⟨fun h2 => absurd h2 (by omega), fun _ => ?_⟩⟩
  rw [at_end h1 hs2, fieldsOf_some _ _ _ _ (by omega)]

set_option maxRecDepth 100000 in
set_option maxHeartbeats 4000000 in
theorem refFields_any (s : ByteArray) (w : World) (hs : s.size ≤ 1099511627775) :
    Calls Try.prog 15 #[.string s] w fun e w' => ∃ v, e = .returned v ∧ w'.ownsRow w.heap.size 9 1 v (fieldsL s.data.toList).length ((fieldsL s.data.toList).map strV) ∧ Below w.heap.size w w' := by
  obtain ⟨i0, hi0, hz0, hz1, hz2⟩ := info_parts info_str
  have hl := ba_len s
  go_enter Try.func15, Try.ntmps15
  go_wp2
  go_loopw [3, 4, 5] (fun o a i wr => ∃ k : Nat, ∃ x : ByteArray, ∃ fs : List (List UInt8), k ≤ s.size ∧ fs.length ≤ k ∧ i = .int .i64 k ∧ a = .string x ∧ Hid (At_ s.data.toList k x.data.toList fs) ∧
    wr.ownsRow w.heap.size 9 1 o fs.length (fs.map strV) ∧ Below w.heap.size w wr) (fun _ _ i _ => s.size - (intOf i).toNat)
  case atStart =>
    exact ⟨0, ⟨#[]⟩, [], Nat.zero_le _, Nat.zero_le _, rfl, rfl, at_zero _, World.ownsRow_made w #[] 0 (Nat.le_refl _) (Nat.zero_le _) rfl, (Below.refl _ _).alloc (Nat.le_refl _) _⟩
  case round =>
    obtain ⟨k, x, fs, hk, hfk, rfl, rfl, HX, hrow, hbel⟩ := hrel
    have hbl := hbel.size
    by_cases hlt : k < s.size
    · have hgk := ba_get s k hlt
      have hxk : x.size ≤ k := by rw [← ba_len]; exact at_len HX.out (by omega)
      have cb := fun W => Blank_any s[k] W
      by_cases hb : blankB s[k] = true
      · have hab := at_blank HX.out (show k < s.data.toList.length by omega) (by rw [← hgk]; exact hb)
        rw [hb] at cb
        by_cases hx : x.data.toList = []
        · have e1 : x.toList.isEmpty = true := by rw [Lib.toList_data, hx]; rfl
          have H := Lib.hid (hab.1 hx)
          obtain rfl : x = ⟨#[]⟩ := by apply ByteArray.ext; apply Array.ext'; rw [hx]
          clear hab hx hgk hl HX hb e1
          go_wp2_with fail
          refine (cb _).mono ?_
          rintro e w' ⟨rfl, rfl⟩
          go_wp2_with fail
          go_roundw
          case rel => exact ⟨k + 1, _, fs, by omega, by omega, by go_num, rfl, H, hrow, hbel⟩
          case measure => simp [intOf]; omega
        · have e1 : x.toList.isEmpty = false := by rw [Lib.toList_data, List.isEmpty_eq_false_iff]; exact hx
          have H := Lib.hid (hab.2 hx)
          have HV := Lib.hid (show strV x.data.toList = .string x from rfl)
          clear hab hx hgk hl HX hb
          go_wp2_with fail
          refine (cb _).mono ?_
          rintro e w' ⟨rfl, rfl⟩
          go_wp2_with fail
          refine (cb _).mono ?_
          rintro e w' ⟨rfl, rfl⟩
          go_wp2_with (at_builtin; refine wpList_append_own _ rfl _ _ 24 rfl w.heap.size 9 i0 (.string ByteArray.empty) 1 16 Try.underlying24 hi0 hz0 hz1 hz2 rfl (by decide) _ _ _ rfl (hrow.alloc _) ⟨wr.heap.size, 0, none⟩ 1 1 [.string x] rfl rfl (cell_one_new _ _ _) (by simp [Value.oneCell']) (by unfold maxLen; omega) (by omega) (by simp; omega) ?_; intro v' w1 hown' hgrow _)
          have hb1 : Below w.heap.size wr w1 := ((Below.refl _ wr).alloc hbl _).grown hgrow (by simp; omega) (fun b hb => (hrow.lt b hb).1)
          go_roundw
          case rel =>
            refine ⟨k + 1, ⟨#[]⟩, fs ++ [x.data.toList], by omega, by simp; omega, by go_num, rfl, H, ?_, hbel.trans hb1⟩
            rw [List.map_append, List.length_append]
            show w1.ownsRow _ _ _ _ _ (_ ++ [strV (x.data.toList)])
            rw [show strV (x.data.toList) = .string x from HV.out]
            exact hown'
          case measure => simp [intOf]; omega
      · have hbf : blankB s[k] = false := by simpa using hb
        have hab := at_more HX.out (show k < s.data.toList.length by omega) (by rw [← hgk]; exact hbf)
        rw [hbf] at cb
        have hba := ba_app x s k hlt
        have hxe := hba
        rw [hgk] at hba
        rw [← hba] at hab
        have e1 : (x ++ s.extract k (k + 1)).toList.isEmpty = false := by rw [Lib.toList_data, List.isEmpty_eq_false_iff, hxe]; simp
        have hx1 : ¬ 9223372036854775807 < x.size + (min (k + 1) s.size - k) := by omega
        by_cases hlast : k + 1 = s.size
        · have e2 : ((k : Int) == (s.size : Int) - 1) = true := by rw [beq_iff_eq]; omega
          have H := Lib.hid (hab.2 (by omega))
          have HV := Lib.hid (show strV (x ++ s.extract k (k + 1)).data.toList = .string (x ++ s.extract k (k + 1)) from rfl)
          clear hlast hab hgk hl HX hb hbf hba hxe
          go_wp2_with fail
          refine (cb _).mono ?_
          rintro e w' ⟨rfl, rfl⟩
          go_wp2_with fail
          refine (cb _).mono ?_
          rintro e w' ⟨rfl, rfl⟩
          go_wp2_with (at_builtin; refine wpList_append_own _ rfl _ _ 24 rfl w.heap.size 9 i0 (.string ByteArray.empty) 1 16 Try.underlying24 hi0 hz0 hz1 hz2 rfl (by decide) _ _ _ rfl (hrow.alloc _) ⟨wr.heap.size, 0, none⟩ 1 1 [.string (x ++ s.extract k (k + 1))] rfl rfl (cell_one_new _ _ _) (by simp [Value.oneCell']) (by unfold maxLen; omega) (by omega) (by simp; omega) ?_; intro v' w1 hown' hgrow _)
          have hb1 : Below w.heap.size wr w1 := ((Below.refl _ wr).alloc hbl _).grown hgrow (by simp; omega) (fun b hb => (hrow.lt b hb).1)
          go_roundw
          case rel =>
            refine ⟨k + 1, ⟨#[]⟩, fs ++ [(x ++ s.extract k (k + 1)).data.toList], by omega, by simp; omega, by go_num, rfl, H, ?_, hbel.trans hb1⟩
            rw [List.map_append, List.length_append]
            show w1.ownsRow _ _ _ _ _ (_ ++ [strV ((x ++ s.extract k (k + 1)).data.toList)])
            rw [show strV ((x ++ s.extract k (k + 1)).data.toList) = .string (x ++ s.extract k (k + 1)) from HV.out]
            exact hown'
          case measure => simp [intOf]; omega
        · have e2 : ((k : Int) == (s.size : Int) - 1) = false := by rw [beq_eq_false_iff_ne]; omega
          have H := Lib.hid (hab.1 (by omega))
          clear hab hgk hl HX hb hbf hba hxe
          go_wp2_with fail
          refine (cb _).mono ?_
          rintro e w' ⟨rfl, rfl⟩
          go_wp2_with fail
          refine (cb _).mono ?_
          rintro e w' ⟨rfl, rfl⟩
          go_wp2_with fail
          go_roundw
          case rel => exact ⟨k + 1, _, fs, by omega, by omega, by go_num, rfl, H, hrow, hbel⟩
          case measure => simp [intOf]; omega
    · have H := Lib.hid (HX.out.2 (by omega))
      clear HX
      go_wp2
      go_ret
      refine ⟨_, rfl, ?_, hbel⟩
      rw [← H.out]
      exact hrow

end Go.Proofs.Ytefgccdpgfdelaa
