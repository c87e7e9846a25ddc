/- The law's own helper Same: are two lists of texts the same. Conditions: none beside the model's greatest length. -/
import Derived.Test.YtcahakelihigdaaLawA
namespace Go.Proofs.Ytcahakelihigdaa
open Go.RowKit Go.Shelf

/-- How a list of texts lies. -/
def StrsIn (w : World) (p : Option Addr) (n : Nat) (xs : List (List UInt8)) : Prop :=
  0 < n → ∃ b o, p = some ⟨b, o, none⟩ ∧ ∀ i, i < n → w.cell? ⟨b, o + i, none⟩ = some (strV (xs.getD i []))
def sameL (xs ys : List (List UInt8)) : Bool := decide (xs = ys)
def sameS (x y : List UInt8) : Bool := decide (x = y)

theorem strs_row {W : World} {base n : Nat} {v : Value} {xs : List (List UInt8)} (h : W.ownsRow base 9 1 v n (xs.map strV)) :
    ∃ q c, v = .slice q n c ∧ xs.length = n ∧ n ≤ c ∧ c ≤ maxLen ∧ StrsIn W q n xs ∧ (∀ a, q = some a → a.block < W.heap.size ∧ base ≤ a.block) := by
  have hl : xs.length = n := by have := h.1; simpa using this
  rcases h.2 with ⟨rfl, rfl⟩ | ⟨g, cap, cur, rfl, hb, hg, h1, h2, h3, h4⟩
  · exact ⟨none, 0, rfl, hl, Nat.le_refl _, Nat.zero_le _, fun h0 => absurd h0 (Nat.lt_irrefl 0), by intro a ha; cases ha⟩
  · refine ⟨some ⟨g, 0, none⟩, cap, rfl, hl, h1, h2, fun h0 => ⟨g, 0, rfl, fun i hi => ?_⟩, fun a ha => by cases ha; exact ⟨(Array.getElem?_eq_some_iff.1 hg).1, hb⟩⟩
    have hi' : i < xs.length := by omega
    have hcur : cur[i]? = some (strV (xs.getD i [])) := by
      have : (cur.toList.take (n * 1))[i]? = some (strV (xs.getD i [])) := by
        rw [h4]
        simp [List.getElem?_eq_getElem hi', List.getD]
      rw [List.getElem?_take, if_pos (by omega)] at this
      simpa using this
    simp only [World.cell?, hg, Nat.zero_add]
    exact hcur

theorem drop_consS (l : List (List UInt8)) (k : Nat) (h : k < l.length) : l.drop k = l.getD k [] :: l.drop (k + 1) := by
  rw [List.drop_eq_getElem_cons h]
  simp [List.getD, List.getElem?_eq_getElem h]

set_option maxHeartbeats 1000000 in
theorem Same_any (p1 p2 : Option Addr) (n c m d : Nat) (xs ys : List (List UInt8)) (w : World) (hx : xs.length = n) (hy : ys.length = m) (hn : n ≤ 140737488355328) (hm : m ≤ 140737488355328) (h1 : StrsIn w p1 n xs) (h2 : StrsIn w p2 m ys) :
    Calls Try.prog 14 #[.slice p1 n c, .slice p2 m d] w fun e w' => e = .returned (.bool (sameL xs ys)) ∧ ∃ q, w' = w.drewN q := by
  by_cases hnm : n = m
  · subst hnm
    have e0 : ((n : Int) != (n : Int)) = false := by simp
    go_enter Try.func14, Try.ntmps14
    go_wp2
    go_loopw [13] (fun i wr => ∃ k q : Nat, k ≤ n ∧ i = .int .i64 k ∧ wr = w.drewN q ∧ Hid (sameL xs ys = sameL (xs.drop k) (ys.drop k))) (fun i _ => n - (intOf i).toNat)
    case atStart => exact ⟨0, 0, Nat.zero_le _, rfl, rfl, rfl⟩
    case round =>
      obtain ⟨k, q, hk, rfl, rfl, HR⟩ := hrel
      by_cases hlt : k < n
      · obtain ⟨b1, o1, rfl, hc1⟩ := h1 (by omega)
        obtain ⟨b2, o2, rfl, hc2⟩ := h2 (by omega)
        have c1 := hc1 k hlt
        have c2 := hc2 k hlt
        have d1 := drop_consS xs k (by omega)
        have d2 := drop_consS ys k (by omega)
        clear hc1 hc2 h1 h2 e0
        generalize xs.getD k [] = x at c1 d1
        generalize ys.getD k [] = y at c2 d2
        unfold strV at c1 c2
        by_cases hxy : x = y
        · subst hxy
          have HR2 := Lib.hid (show sameL xs ys = sameL (xs.drop (k + 1)) (ys.drop (k + 1)) by rw [HR.out, d1, d2]; unfold sameL; simp)
          clear d1 d2 HR
          go_wp2
          go_quiet (fail)
          go_wp2
          go_roundw
          case rel => exact ⟨k + 1, q + nq, by omega, by go_num, rfl, HR2⟩
          case measure => simp [intOf]; omega
        · have hne' : (x == y) = false := by rw [beq_eq_false_iff_ne]; exact hxy
          have H := Lib.hid (show sameL xs ys = false by rw [HR.out, d1, d2]; unfold sameL; simp [hxy])
          clear d1 d2 HR hxy
          go_wp2
          go_quiet (fail)
          go_wp2
          go_ret
          exact ⟨(by rw [H.out]; try rfl), q + nq, by simp [World.drewN, Nat.add_assoc]⟩
      · have H := Lib.hid (show sameL xs ys = true by rw [HR.out, List.drop_of_length_le (by omega), List.drop_of_length_le (by omega)]; rfl)
        go_wp2
        go_ret
        exact ⟨(by rw [H.out]; try rfl), q, rfl⟩
  · have e0 : ((n : Int) != (m : Int)) = true := by rw [bne_iff_ne]; omega
    have H := Lib.hid (show sameL xs ys = false by unfold sameL; rw [decide_eq_false_iff_not]; intro h; apply hnm; rw [← hx, ← hy, h])
    go_enter Try.func14, Try.ntmps14
    go_wp2
    go_ret
    exact ⟨(by rw [H.out]; try rfl), 0, rfl⟩

end Go.Proofs.Ytcahakelihigdaa
