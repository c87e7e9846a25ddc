/- The document's own Split. Conditions: a text is of at most 2^40 bytes. -/
import Derived.Test.YtcahakelihigdaaRefIn
import Derived.Maps.AppendAt
import Derived.Maps.OwnIn
import Derived.Laws.AppendOwnNone
import Derived.OwnWalkIn
namespace Go.Proofs.Ytcahakelihigdaa.Ref
open Go.RowKit Go.Shelf

/-- A text as a value. -/
def strV (x : List UInt8) : Value := .string ⟨x.toArray⟩
theorem info_str : (Try.prog.info? 9).map (fun i => (i.zero, i.size, i.bytes)) = some (some (.string ByteArray.empty), 1, 16) := by kernel_rfl
/-- The slice at q holds these texts. -/
def StIn (w : World) (q : Option Addr) (n : Nat) (xs : List (List UInt8)) : Prop :=
  0 < n → ∃ b o, q = some ⟨b, o, none⟩ ∧ b < w.heap.size ∧ ∀ i, i < n → w.cell? ⟨b, o + i, none⟩ = some (strV (xs.getD i []))
theorem strs_row {W : World} {base n : Nat} {v : Value} {xs : List (List UInt8)} (h : W.ownsRow base 9 1 v n (xs.map strV)) :
    ∃ q c, v = .slice q n c ∧ xs.length = n ∧ n ≤ c ∧ c ≤ maxLen ∧ StIn W q n xs ∧ (∀ a, q = some a → a.block < W.heap.size ∧ base ≤ a.block) := by
  have hl : xs.length = n := by have := h.1; simpa using this
  rcases h.2 with ⟨rfl, rfl⟩ | ⟨g, cap, cur, rfl, hb, hg, h1, h2, h3, h4⟩
  · exact ⟨none, 0, rfl, hl, Nat.le_refl _, Nat.zero_le _, fun h0 => absurd h0 (Nat.lt_irrefl 0), by intro a ha; cases ha⟩
  · have hlt := (Array.getElem?_eq_some_iff.1 hg).1
    refine ⟨some ⟨g, 0, none⟩, cap, rfl, hl, h1, h2, fun h0 => ⟨g, 0, rfl, hlt, fun i hi => ?_⟩, fun a ha => by cases ha; exact ⟨hlt, hb⟩⟩
    have hi' : i < xs.length := by omega
    have hcur : cur[i]? = some (strV (xs.getD i [])) := by
      have : (cur.toList.take (n * 1))[i]? = some (strV (xs.getD i [])) := by
        rw [h4]
        simp [List.getElem?_eq_getElem hi', List.getD]
      rw [List.getElem?_take, if_pos (by omega)] at this
      simpa using this
    simp only [World.cell?, hg, Nat.zero_add]
    exact hcur
theorem StIn.below {B : Nat} {w w' : World} {q : Option Addr} {n : Nat} {xs : List (List UInt8)} (h : StIn w q n xs) (hk : Below B w w') (hq : ∀ a, q = some a → 0 < n → a.block < B) : StIn w' q n xs := fun h0 => by
  obtain ⟨b, o, rfl, hb, hc⟩ := h h0
  exact ⟨b, o, rfl, Nat.lt_of_lt_of_le hb hk.size, fun i hi => (hk.cell (p := ⟨b, o + i, none⟩) (hq ⟨b, o, none⟩ rfl h0)).trans (hc i hi)⟩
theorem StIn.on {w w' : World} {q : Option Addr} {n : Nat} {xs : List (List UInt8)} (h : StIn w q n xs) (hk : Below w.heap.size w w') : StIn w' q n xs :=
  h.below hk fun a ha h0 => by obtain ⟨b, o, rfl, hb, _⟩ := h h0; cases ha; exact hb

set_option maxRecDepth 100000 in
set_option maxHeartbeats 2000000 in
theorem Split_any (c : UInt8) (s : ByteArray) (w : World) (hs : s.size ≤ 1099511627775) :
    Calls Try.prog 20 #[.string s, .int .u8 (c.toNat : Int)] w fun e w' => ∃ v, e = .returned v ∧ w'.ownsRow w.heap.size 9 1 v (splitL c s.data.toList).length ((splitL c s.data.toList).map strV) ∧ Below w.heap.size w w' := by
  obtain ⟨i0, hi0, hz0, hz1, hz2⟩ := info_parts info_str
  have hl := Lib.hid (ba_len s)
  go_enter Try.func20, Try.ntmps20
  go_wp2
  go_loopw [5, 6, 7] (fun o a i wr => ∃ k : Nat, ∃ pre : List (List UInt8), ∃ x : ByteArray, k ≤ s.size ∧ pre.length ≤ k ∧ x.size ≤ k ∧ i = .int .i64 k ∧ a = .string x ∧ Hid (splitL c s.data.toList = pre ++ onto x.data.toList (splitL c (s.data.toList.drop k))) ∧
    wr.ownsRow w.heap.size 9 1 o pre.length (pre.map strV) ∧ Below w.heap.size w wr) (fun _ _ i _ => s.size - (intOf i).toNat)
  case atStart =>
    exact ⟨0, [], ⟨#[]⟩, Nat.zero_le _, Nat.zero_le _, Nat.zero_le _, rfl, rfl, Lib.hid (by rw [List.drop_zero, List.nil_append]; exact (onto_nil _ (split_ne _ _)).symm), World.ownsRow_made w #[] 0 (Nat.le_refl _) (Nat.zero_le _) rfl, (Below.refl _ _).alloc (Nat.le_refl _) _⟩
  case round =>
    obtain ⟨k, pre, x, hk, hpk, hxs, rfl, rfl, HS, hrow, hbel⟩ := hrel
    have hbl := hbel.size
    by_cases hlt : k < s.size
    · have hck := u8_lt s[k]
      have hcc := u8_lt c
      have hdc := drop_cons s.data.toList k (by rw [hl.out]; exact hlt)
      rw [← ba_get s k hlt] at hdc
      by_cases he : s[k] = c
      · have e1 : (((s[k].toNat : Nat) : Int) == (c.toNat : Int)) = true := by rw [beq_iff_eq, he]
        have HS2 := Lib.hid (show splitL c s.data.toList = (pre ++ [x.data.toList]) ++ onto [] (splitL c (s.data.toList.drop (k + 1))) by
          rw [HS.out, hdc, he, split_is, onto_nil _ (split_ne _ _), List.append_assoc]; simp [onto])
        clear hdc he HS hxs
        go_wp2_with (at_builtin; refine wpList_append_own _ rfl _ _ 34 rfl w.heap.size 9 i0 (.string ByteArray.empty) 1 16 Try.underlying34 hi0 hz0 hz1 hz2 rfl (by decide) _ _ _ rfl (hrow.alloc _) ⟨wr.heap.size, 0, none⟩ 1 1 [.string x] rfl rfl (cell_one_new _ _ _) (by simp [Value.oneCell']) (by unfold maxLen; omega) (by omega) (by simp; omega) ?_; intro v' w1 hown' hgrow _)
        have hb1 : Below w.heap.size wr w1 := ((Below.refl _ wr).alloc hbl _).grown hgrow (by simp; omega) (fun b hb => (hrow.lt b hb).1)
        go_roundw
        case rel =>
          refine ⟨k + 1, pre ++ [x.data.toList], ⟨#[]⟩, by omega, by simp; omega, Nat.zero_le _, by go_num, rfl, HS2, ?_, hbel.trans hb1⟩
          rw [List.map_append, List.length_append]
          exact hown'
        case measure => simp [intOf]; omega
      · have e1 : (((s[k].toNat : Nat) : Int) == (c.toNat : Int)) = false := by
          rw [beq_eq_false_iff_ne]; intro h; exact he (UInt8.toNat_inj.1 (by omega))
        have HS2 := Lib.hid (show splitL c s.data.toList = pre ++ onto (x ++ s.extract k (k + 1)).data.toList (splitL c (s.data.toList.drop (k + 1))) by
          rw [HS.out, hdc, split_not c _ _ he, onto_onto _ _ _ (split_ne _ _), ba_app x s k hlt])
        have hx2 : (x ++ s.extract k (k + 1)).size ≤ k + 1 := by rw [← ba_len, ba_app x s k hlt, List.length_append, ba_len]; simp; exact hxs
        clear hdc he HS
        go_wp2
        go_roundw
        case rel => exact ⟨k + 1, pre, _, by omega, by omega, hx2, by go_num, rfl, HS2, hrow, hbel⟩
        case measure => simp [intOf]; omega
    · have HS2 := Lib.hid (show splitL c s.data.toList = pre ++ [x.data.toList] by rw [HS.out, List.drop_of_length_le (by rw [hl.out]; omega)]; simp [splitL, onto])
      clear HS
      go_wp2_with (at_builtin; refine wpList_append_own _ rfl _ _ 34 rfl w.heap.size 9 i0 (.string ByteArray.empty) 1 16 Try.underlying34 hi0 hz0 hz1 hz2 rfl (by decide) _ _ _ rfl (hrow.alloc _) ⟨wr.heap.size, 0, none⟩ 1 1 [.string x] rfl rfl (cell_one_new _ _ _) (by simp [Value.oneCell']) (by unfold maxLen; omega) (by omega) (by simp; omega) ?_; intro v' w1 hown' hgrow _)
      have hb1 : Below w.heap.size wr w1 := ((Below.refl _ wr).alloc hbl _).grown hgrow (by simp; omega) (fun b hb => (hrow.lt b hb).1)
      go_ret
      refine ⟨_, rfl, ?_, hbel.trans hb1⟩
      rw [HS2.out, List.map_append, List.length_append]
      exact hown'

end Go.Proofs.Ytcahakelihigdaa.Ref
