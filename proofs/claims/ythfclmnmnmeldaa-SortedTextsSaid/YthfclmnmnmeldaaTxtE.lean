/- package sorted at texts: Len, At, All. Conditions: a row is of at most the model's greatest length. -/
import Derived.Test.YthfclmnmnmeldaaTxtD
namespace Go.Proofs.Ythfclmnmnmeldaa.S
open Go.RowKit Go.Shelf
attribute [local go_sem] Oper.semAt_some

/-- The text at a place. -/
def atS (xs : List (List UInt8)) (i : Int) : Option (List UInt8) := if 0 ≤ i then xs[i.toNat]? else none
def hasS (xs : List (List UInt8)) (x : List UInt8) : Bool := xs.contains x

theorem Len_any (v : Value) (xs : List (List UInt8)) (w : World) (h : SetIs encStr w v xs) :
    Calls Try.prog 26 #[v] w fun e w' => e = .returned (.int .i64 xs.length) ∧ Below w.heap.size w w' := by
  obtain ⟨q, n, c, rfl, _, _, hs, _⟩ := h
  have hl := Lib.hid hs.1
  clear hs
  go_enter Try.func26, Try.ntmps26
  go_wp2
  go_ret
  exact ⟨(by rw [hl.out]; try rfl), below_alloc _⟩

set_option maxHeartbeats 1000000 in
theorem At_any (v : Value) (xs : List (List UInt8)) (i : Int) (w : World) (h : SetIs encStr w v xs) :
    Calls Try.prog 27 #[v, .int .i64 i] w fun e w' => e = .returned (.tuple #[.string ⟨((atS xs i).getD []).toArray⟩, .bool (atS xs i).isSome]) ∧ Below w.heap.size w w' := by
  obtain ⟨q, n, c, rfl, _, hn, hs, _⟩ := h
  have hl := hs.1
  by_cases h0 : i < 0
  · have H := Lib.hid (show atS xs i = none by unfold atS; rw [if_neg (by omega)])
    have d0 : decide (i < 0) = true := by simpa using h0
    clear hs hl
    go_enter Try.func27, Try.ntmps27
    go_wp2
    go_ret2
    exact ⟨(by rw [H.out]; try rfl), below_alloc _⟩
  · have d0 : decide (i < 0) = false := by simpa using h0
    by_cases h1 : (n : Int) ≤ i
    · have H := Lib.hid (show atS xs i = none by unfold atS; rw [if_pos (by omega), List.getElem?_eq_none (by omega)])
      have d1 : decide ((n : Int) ≤ i) = true := by simpa using h1
      clear hs hl
      go_enter Try.func27, Try.ntmps27
      go_wp2
      go_ret2
      exact ⟨(by rw [H.out]; try rfl), below_alloc _⟩
    · have d1 : decide ((n : Int) ≤ i) = false := by simpa using h1
      obtain ⟨k, rfl⟩ : ∃ k : Nat, i = k := ⟨i.toNat, by omega⟩
      have hkn : k < n := by omega
      obtain ⟨x, hx, _⟩ := drop_getElem xs k (by omega)
      have H := Lib.hid (show atS xs (k : Int) = some x by unfold atS; rw [if_pos (by omega)]; simpa using hx)
      obtain ⟨b, o, rfl, hb, hc⟩ := hs.at (by omega)
      have hck := hc k x hx
      have hck' : (w.alloc (.cells #[.slice (some ⟨b, o, none⟩) n c] 43)).cell? ⟨b, o + k, none⟩ = some (.string ⟨x.toArray⟩) := (World.cell?_of_block (Below.heap_alloc w _ b hb)).trans hck
      clear hs hl hc hx hck h0 h1
      go_enter Try.func27, Try.ntmps27
      go_wp2
      go_ret2
      exact ⟨(by rw [H.out]; try rfl), below_alloc _⟩

theorem All_any (v : Value) (xs : List (List UInt8)) (w : World) (h : SetIs encStr w v xs) :
    Calls Try.prog 40 #[v] w fun e w' => ∃ q c, e = .returned (.func (.func 64) #[] #[.pointer (some ⟨w.heap.size + 1, 0, none⟩)]) ∧ xs.length ≤ c ∧ xs.length ≤ 140737488355328 ∧ SlIn encStr w' q xs.length xs ∧
      Boxed w' (w.heap.size + 1) 41 (.slice q xs.length c) ∧ w'.heap.size = w.heap.size + 2 ∧ Below w.heap.size w w' := by
  obtain ⟨q, n, c, rfl, hc, hn, hs, _⟩ := h
  obtain rfl := hs.1
  have hs2 := (hs.alloc (.cells #[.slice q xs.length c] 43)).alloc (.cells #[.slice q xs.length c] 41)
  have b2 := Boxed.new (w.alloc (.cells #[.slice q xs.length c] 43)) 41 (.slice q xs.length c)
  rw [World.size_alloc] at b2
  have con : ∀ W : World, Calls Try.prog 54 #[.slice q xs.length c] W fun e w' => e = .returned (.func (.func 64) #[] #[.pointer (some ⟨W.heap.size, 0, none⟩)]) ∧ w' = W.alloc (.cells #[.slice q xs.length c] 41) := fun W => by
    clear hs hs2 b2 hc hn
    go_enter Try.func54, Try.ntmps54
    go_wp2
    go_ret
    exact ⟨rfl, rfl⟩
  clear hs
  go_enter Try.func40, Try.ntmps40
  go_wp2_with fail
  refine (con _).mono ?_
  rintro e w' ⟨rfl, rfl⟩
  go_wp2
  go_ret
  exact ⟨q, c, rfl, hc, hn, hs2, b2, by simp, (below_alloc _).trans ((below_alloc _).mono (by simp))⟩

set_option maxRecDepth 100000 in
set_option maxHeartbeats 2000000 in
theorem All1_iter (B : Nat) (q : Option Addr) (n c : Nat) (xs : List (List UInt8)) (RB : Nat → Prop) (w0 : World) (hm : n ≤ 140737488355328)
    (h : SlIn encStr w0 q n xs) (hq : ∀ a, q = some a → 0 < n → RB a.block) (b : Boxed w0 B 41 (.slice q n c)) (hR : RB B) :
    IterC Try.prog 64 #[.pointer (some ⟨B, 0, none⟩)] (NumArg encStr) (nums 0 xs) RB w0 := by
  intro l J Jx W hW hJ hJx hY h0
  refine (callsIn_wide (n := 1)).1 ?_
  refine callsIn_of_wp Try.func64 rfl trivial ?_ rfl
  simp only [Try.ntmps64, List.size_toArray, List.length_cons, List.length_nil, Nat.reduceAdd, Nat.reduceSub, Array.replicate_succ, Array.replicate_zero, List.push_toArray, List.append_toArray, List.nil_append, List.cons_append]
  have k1 := (hW.boxed b hR).cell
  have hl := Lib.hid h.1
  gi_wp2
  gi_loopw [7] (fun i wr => ∃ k : Nat, ∃ pre, k ≤ n ∧ i = .int .i64 k ∧ Keep RB W wr ∧ Hid (nums 0 xs = pre ++ nums k (xs.drop k)) ∧ J pre (fun _ => False) wr) (fun i _ => n - (intOf i).toNat)
  case atStart => exact ⟨0, [], Nat.zero_le _, rfl, Keep.refl _ _, rfl, h0⟩
  case round =>
    obtain ⟨k, pre, hk, rfl, hK, HX, hJr⟩ := hrel
    by_cases hlt : k < n
    · obtain ⟨bb, o, rfl, hb, hc⟩ := (h.keep (hW.trans hK) hq).at (by omega)
      obtain ⟨x, hx, hd⟩ := drop_getElem xs k (by rw [hl.out]; exact hlt)
      have hck := hc k x hx
      have HX2 := Lib.hid (show nums 0 xs = pre ++ (k, x) :: nums (k + 1) (xs.drop (k + 1)) by rw [HX.out, hd]; rfl)
      obtain ⟨fn, tmps, assign, body, hy, hRR⟩ := hY pre (k, x) _ (fun _ => False) (fun _ => False) #[.int .i64 k, .string ⟨x.toArray⟩] wr HX2.out hJr (fun _ h => h.elim) ⟨rfl, rfl⟩ (fun _ h => h)
      clear HX hd hx hc hY h hb
      gi_wp2_with fail
      refine hRR.mono ?_
      rintro e W3 ⟨hk3, (⟨rfl, hJ3⟩ | ⟨rfl, hJx3⟩)⟩
      · gi_wp2
        go_roundw
        case rel => exact ⟨k + 1, pre ++ [(k, x)], by omega, by go_num, hK.trans (hk3.mono fun _ _ h => .inl h), Lib.hid (by rw [HX2.out]; simp), hJ _ _ _ _ _ hJ3 (Keep.refl _ _) (fun _ h => h.elim)⟩
        case measure => simp [intOf]; omega
      · gi_wp2
        refine bodyPost_ret (results_none rfl _ _ _) rfl ?_
        exact ⟨⟨_, rfl⟩, fun _ => False, fun _ h => h.elim, .inr ⟨pre ++ [(k, x)], _, by rw [HX2.out, List.append_assoc]; rfl, hJx _ _ _ _ _ hJx3 (Keep.refl _ _) (fun _ h => h.elim)⟩⟩
    · have HX2 := Lib.hid (show nums 0 xs = pre by rw [HX.out, List.drop_of_length_le (by rw [hl.out]; omega)]; unfold nums; simp)
      clear HX hY h
      gi_wp2
      refine bodyPost_end (results_none rfl _ _ _) rfl ?_
      exact ⟨⟨_, rfl⟩, fun _ => False, fun _ h => h.elim, .inl (by rw [HX2.out]; exact hJr)⟩

end Go.Proofs.Ythfclmnmnmeldaa.S
