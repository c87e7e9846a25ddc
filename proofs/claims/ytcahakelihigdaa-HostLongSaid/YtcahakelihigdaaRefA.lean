/- The document's own Split: the pieces. Conditions: a text is of at most 2^40 bytes. -/
import Derived.Test.YtcahakelihigdaaLawB
import Derived.Test.YtcahakelihigdaaCutI
namespace Go.Proofs.Ytcahakelihigdaa
open Go.RowKit Go.Shelf

/-- The pieces of a text, out of their bounds. -/
def piecesOf (l : List UInt8) (xs : List (Nat × Nat)) : List (List UInt8) := xs.map fun x => sub l x.1 x.2
theorem piecesOf_snoc (l : List UInt8) (pre : List (Nat × Nat)) (x : Nat × Nat) : piecesOf l (pre ++ [x]) = piecesOf l pre ++ [sub l x.1 x.2] := by simp [piecesOf]
theorem sub_snoc (l : List UInt8) (f k : Nat) (hf : f ≤ k) (hk : k < l.length) : sub l f (k + 1) = sub l f k ++ [l.getD k 0] := by
  unfold sub
  rw [show k + 1 - f = (k - f) + 1 from by omega, List.take_succ_eq_append_getElem (by simp; omega)]
  simp [List.getD, List.getElem?_eq_getElem hk]
  congr 1
  omega
theorem sub_nil (l : List UInt8) (k : Nat) : sub l k k = [] := by unfold sub; simp

theorem ba_app (x s : ByteArray) (k : Nat) (h : k < s.size) : (x ++ s.extract k (k + 1)).data.toList = x.data.toList ++ [s[k]] := by
  rw [ByteArray.data_append, ByteArray.data_extract, Array.toList_append, Array.toList_extract]
  congr 1
  rw [ba_get s k h]
  have h' : k < s.data.toList.length := h
  simp [List.extract, List.getD, List.getElem?_eq_getElem h', List.take_one, List.head?_drop]

set_option maxRecDepth 100000 in
set_option maxHeartbeats 2000000 in
theorem refSplit_any (c : UInt8) (s : ByteArray) (w : World) (hs : s.size ≤ 1099511627775) :
    Calls Try.prog 20 #[.string s, .int .u8 (c.toNat : Int)] w fun e w' => ∃ v, e = .returned v ∧ w'.ownsRow w.heap.size 9 1 v (piecesOf s.data.toList (spansL (isB c) s.data.toList)).length ((piecesOf s.data.toList (spansL (isB c) s.data.toList)).map strV) ∧ Below w.heap.size w w' := by
  obtain ⟨i0, hi0, hz0, hz1, hz2⟩ := info_parts info_str
  have hl := ba_len s
  go_enter Try.func20, Try.ntmps20
  go_wp2
  go_loopw [5, 6, 7] (fun o a i wr => ∃ k f : Nat, ∃ pre : List (Nat × Nat), ∃ x : ByteArray, k ≤ s.size ∧ f ≤ k ∧ pre.length ≤ k ∧ i = .int .i64 k ∧ a = .string x ∧ Hid (x.data.toList = sub s.data.toList f k) ∧ Hid (spansL (isB c) s.data.toList = pre ++ spansGo (isB c) (s.data.toList.drop k) k f) ∧
    wr.ownsRow w.heap.size 9 1 o pre.length ((piecesOf s.data.toList pre).map strV) ∧ Below w.heap.size w wr) (fun _ _ i _ => s.size - (intOf i).toNat)
  case atStart =>
    exact ⟨0, 0, [], ⟨#[]⟩, Nat.zero_le _, Nat.zero_le _, Nat.zero_le _, rfl, rfl, rfl, rfl, World.ownsRow_made w #[] 0 (Nat.le_refl _) (Nat.zero_le _) rfl, (Below.refl _ _).alloc (Nat.le_refl _) _⟩
  case round =>
    obtain ⟨k, f, pre, x, hk, hf, hpk, rfl, rfl, HX, HS, hrow, hbel⟩ := hrel
    have hbl := hbel.size
    by_cases hlt : k < s.size
    · have hck := u8_lt s[k]
      have hcc := u8_lt c
      have hdc := drop_cons s.data.toList k (by omega)
      rw [← ba_get s k hlt] at hdc
      by_cases he : s[k] = c
      · have e1 : (((s[k].toNat : Nat) : Int) == (c.toNat : Int)) = true := by rw [beq_iff_eq, he]
        have HS2 := Lib.hid (show spansL (isB c) s.data.toList = (pre ++ [(f, k)]) ++ spansGo (isB c) (s.data.toList.drop (k + 1)) (k + 1) (k + 1) by
          rw [HS.out, hdc, List.append_assoc]; conv => lhs; unfold spansGo; rw [if_pos (by unfold isB; rw [beq_iff_eq]; exact he)]
          rfl)
        have HP := Lib.hid (piecesOf_snoc s.data.toList pre (f, k))
        have HV := Lib.hid (show strV (sub s.data.toList f k) = .string x by unfold strV; rw [← HX.out])
        clear hdc he HS hl HX
        go_wp2_with (at_builtin; refine wpList_append_own _ rfl _ _ 34 rfl w.heap.size 9 i0 (.string ByteArray.empty) 1 16 Try.underlying34 hi0 hz0 hz1 hz2 rfl (by decide) _ _ _ rfl (hrow.alloc _) ⟨wr.heap.size, 0, none⟩ 1 1 [.string x] rfl rfl (cell_one_new _ _ _) (by simp [Value.oneCell']) (by unfold maxLen; omega) (by omega) (by simp; omega) ?_; intro v' w1 hown' hgrow _)
        have hb1 : Below w.heap.size wr w1 := ((Below.refl _ wr).alloc hbl _).grown hgrow (by simp; omega) (fun b hb => (hrow.lt b hb).1)
        go_roundw
        case rel =>
          refine ⟨k + 1, k + 1, pre ++ [(f, k)], ⟨#[]⟩, by omega, Nat.le_refl _, by simp; omega, by go_num, rfl, ?_, HS2, ?_, hbel.trans hb1⟩
          · show [] = _; rw [sub_nil]
          · rw [HP.out, List.map_append, List.length_append]
            show w1.ownsRow _ _ _ _ _ (_ ++ [strV (sub s.data.toList f k)])
            rw [HV.out]
            exact hown'
        case measure => simp [intOf]; omega
      · have e1 : (((s[k].toNat : Nat) : Int) == (c.toNat : Int)) = false := by
          rw [beq_eq_false_iff_ne]; intro h; exact he (UInt8.toNat_inj.1 (by omega))
        have HS2 := Lib.hid (show spansL (isB c) s.data.toList = pre ++ spansGo (isB c) (s.data.toList.drop (k + 1)) (k + 1) f by rw [HS.out, hdc]; conv => lhs; unfold spansGo; rw [if_neg (by unfold isB; rw [beq_iff_eq]; exact he)])
        have hxs : x.size = k - f := by rw [← ba_len, HX.out, sub_length _ _ _ (by rw [ba_len]; omega)]
        have hx1 : ¬ 9223372036854775807 < x.size + (min (k + 1) s.size - k) := by omega
        have HX2 := Lib.hid (show (x ++ s.extract k (k + 1)).data.toList = sub s.data.toList f (k + 1) by rw [ba_app x s k hlt, HX.out, sub_snoc _ _ _ hf (by rw [ba_len]; omega), ba_get s k hlt])
        clear hdc he HS hl HX hxs
        go_wp2
        go_roundw
        case rel => exact ⟨k + 1, f, pre, _, by omega, by omega, by omega, by go_num, rfl, HX2, HS2, hrow, hbel⟩
        case measure => simp [intOf]; omega
    · have HS2 := Lib.hid (show spansL (isB c) s.data.toList = pre ++ [(f, s.size)] by rw [HS.out, List.drop_of_length_le (by omega), show k = s.size by omega]; rfl)
      have HP := Lib.hid (piecesOf_snoc s.data.toList pre (f, s.size))
      have HV := Lib.hid (show strV (sub s.data.toList f s.size) = .string x by unfold strV; rw [show s.size = k by omega, ← HX.out])
      clear HS hl HX
      go_wp2_with (at_builtin; refine wpList_append_own _ rfl _ _ 34 rfl w.heap.size 9 i0 (.string ByteArray.empty) 1 16 Try.underlying34 hi0 hz0 hz1 hz2 rfl (by decide) _ _ _ rfl (hrow.alloc _) ⟨wr.heap.size, 0, none⟩ 1 1 [.string x] rfl rfl (cell_one_new _ _ _) (by simp [Value.oneCell']) (by unfold maxLen; omega) (by omega) (by simp; omega) ?_; intro v' w1 hown' hgrow _)
      have hb1 : Below w.heap.size wr w1 := ((Below.refl _ wr).alloc hbl _).grown hgrow (by simp; omega) (fun b hb => (hrow.lt b hb).1)
      go_ret
      refine ⟨_, rfl, ?_, hbel.trans hb1⟩
      rw [HS2.out, HP.out, List.map_append, List.length_append]
      show w1.ownsRow _ _ _ _ _ (_ ++ [strV (sub s.data.toList f s.size)])
      rw [HV.out]
      simp only [piecesOf, List.length_map] at hown' ⊢
      exact hown'

end Go.Proofs.Ytcahakelihigdaa
