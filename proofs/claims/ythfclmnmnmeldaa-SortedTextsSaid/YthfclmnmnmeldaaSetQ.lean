/- The document's own answer Both: what is in the first list and is, or is not, in the second. Conditions: at most 2^40 values. -/
import Derived.Test.YthfclmnmnmeldaaSetP
import Derived.OwnWalk
namespace Go.Proofs.Ythfclmnmnmeldaa
open Go.RowKit Go.Shelf

/-- What is in the first, and is in the second (or is not). -/
def bothL (xs ys : List Int) (b : Bool) : List Int := xs.filter fun x => hasL ys x == b
theorem bothL_snoc_in (xs ys : List Int) (b : Bool) (x : Int) (h : (hasL ys x == b) = true) : bothL (xs ++ [x]) ys b = bothL xs ys b ++ [x] := by unfold bothL; simp [List.filter_append, h]
theorem bothL_snoc_out (xs ys : List Int) (b : Bool) (x : Int) (h : (hasL ys x == b) = false) : bothL (xs ++ [x]) ys b = bothL xs ys b := by unfold bothL; simp [List.filter_append, h]
theorem bothL_length (xs ys : List Int) (b : Bool) : (bothL xs ys b).length ≤ xs.length := List.length_filter_le _ _
theorem take_snoc {α : Type} (xs : List α) (k : Nat) (x : α) (h : xs[k]? = some x) : xs.take (k + 1) = xs.take k ++ [x] := by
  obtain ⟨hk, rfl⟩ := List.getElem?_eq_some_iff.1 h
  rw [List.take_succ_eq_append_getElem hk]

set_option maxRecDepth 100000 in
set_option maxHeartbeats 2000000 in
theorem Both_any (q1 q2 : Option Addr) (n1 c1 n2 c2 : Nat) (xs ys : List Int) (b : Bool) (w : World) (h1 : SlIn (Value.int .i64) w q1 n1 xs) (h2 : SlIn (Value.int .i64) w q2 n2 ys) (hm : n1 ≤ 1099511627776) (hn2 : n2 ≤ 140737488355328) :
    Calls Try.prog 13 #[.slice q1 n1 c1, .slice q2 n2 c2, .bool b] w fun e w' => ∃ q c, e = .returned (.slice q (bothL xs ys b).length c) ∧ SlIn (Value.int .i64) w' q (bothL xs ys b).length (bothL xs ys b) ∧ (∃ a, q = some a) ∧ Below w.heap.size w w' := by
  obtain ⟨i0, hi0, hz0, hz1, hz2⟩ := info_parts info_int
  have hl1 := Lib.hid h1.1
  have hmade : (w.alloc (.cells #[] 3)).ownsRow w.heap.size 3 1 (.slice (some ⟨w.heap.size, 0, none⟩) 0 0) 0 [] := World.ownsRow_made w #[] 0 (Nat.le_refl _) (Nat.zero_le _) rfl
  have hB0 := below_alloc (w := w) (.cells #[] 3)
  go_enter Try.func13, Try.ntmps13
  go_wp2
  go_loopw [7, 13] (fun v i wr => ∃ k : Nat, k ≤ n1 ∧ i = .int .i64 k ∧ (∃ g c, v = .slice (some ⟨g, 0, none⟩) (bothL (xs.take k) ys b).length c) ∧ wr.ownsRow w.heap.size 3 1 v (bothL (xs.take k) ys b).length ((bothL (xs.take k) ys b).map (Value.int .i64)) ∧ Below w.heap.size w wr) (fun _ i _ => n1 - (intOf i).toNat)
  case atStart => exact ⟨0, Nat.zero_le _, rfl, ⟨_, _, rfl⟩, hmade, hB0⟩
  case round =>
    obtain ⟨k, hk, rfl, ⟨g, cc, rfl⟩, hrow, hbr⟩ := hrel
    have hpl := bothL_length (xs.take k) ys b
    have hpk : (bothL (xs.take k) ys b).length ≤ k := Nat.le_trans hpl (List.length_take_le _ _)
    have hs1 := h1.below hbr h1.lt
    have hs2 := h2.below hbr h2.lt
    have hszr := hbr.size
    clear hpl hmade hB0
    by_cases hlt : k < n1
    · obtain ⟨bb, o, rfl, hbl, hc⟩ := hs1.at (by omega)
      obtain ⟨x, hx, _⟩ := drop_getElem xs k (by rw [hl1.out]; exact hlt)
      have hck := hc k x hx
      have con := In_any q2 n2 c2 ys x wr hs2 hn2
      have HT := Lib.hid (take_snoc xs k x hx)
      clear hc hx hs1 hs2
      by_cases hin : (hasL ys x == b) = true
      · have HP := Lib.hid (bothL_snoc_in (xs.take k) ys b x hin)
        generalize hasL ys x = r at con hin
        generalize bothL (xs.take k) ys b = ps at hrow hpk HP
        go_wp2_with fail
        refine con.mono ?_
        rintro e w' ⟨rfl, rfl⟩
        go_wp2_with (at_builtin; go_must (refine wpList_append_own_at _ rfl _ _ 22 rfl w.heap.size 3 i0 (.int .i64 0) 1 8 Try.underlying22 hi0 hz0 hz1 hz2 rfl (by decide) _ _ _ rfl (hrow.alloc _) ⟨wr.heap.size, 0, none⟩ 1 1 [.int .i64 x] rfl rfl (cell_one_new _ _ _) (by simp [Value.oneCell']) (by unfold maxLen; omega) (by omega) (by simp; omega) ?_); intro v' w1 hown' hgrow _ hat)
        obtain ⟨g', cap', rfl⟩ := ownsRow_succ hown'
        have hb1 := (hbr.alloc hszr (.cells #[.int .i64 x] 3)).grown hgrow (by simp; omega) (fun j ej => (hrow.lt j ej).1)
        go_roundw
        case rel =>
          refine ⟨k + 1, by omega, by go_num, ?_, ?_, hb1⟩
          · rw [HT.out, HP.out]; exact ⟨g', cap', by simp⟩
          · rw [HT.out, HP.out]; simpa using hown'
        case measure => simp [intOf]; omega
      · have hin' : (hasL ys x == b) = false := by simpa using hin
        have HP := Lib.hid (bothL_snoc_out (xs.take k) ys b x hin')
        clear hin
        generalize hasL ys x = r at con hin'
        go_wp2_with fail
        refine con.mono ?_
        rintro e w' ⟨rfl, rfl⟩
        go_wp2
        go_roundw
        case rel =>
          refine ⟨k + 1, by omega, by go_num, ?_, ?_, hbr⟩
          · rw [HT.out, HP.out]; exact ⟨g, cc, rfl⟩
          · rw [HT.out, HP.out]; exact hrow
        case measure => simp [intOf]; omega
    · obtain rfl : k = n1 := by omega
      have HT := Lib.hid (show xs.take k = xs from List.take_of_length_le (by rw [hl1.out]; omega))
      clear hs1 hs2
      rw [HT.out] at hrow hpk
      obtain ⟨q, c, he, hqc, _, hsl, hqb⟩ := slIn_of_owns hrow
      cases he
      go_wp2
      go_ret
      exact ⟨_, _, by rw [HT.out]; rfl, hsl, ⟨_, rfl⟩, hbr⟩

end Go.Proofs.Ythfclmnmnmeldaa
