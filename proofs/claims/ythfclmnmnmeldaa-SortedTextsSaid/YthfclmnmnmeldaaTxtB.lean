/- package sorted at texts: where the least is, and the iterator of two sets. Conditions: a row is of at most the model's greatest length. -/
import Derived.Test.YthfclmnmnmeldaaTxtA
namespace Go.Proofs.Ythfclmnmnmeldaa.S
open Go.RowKit Go.Shelf
attribute [local go_sem] Oper.semAt_some

theorem whereNext_any (q1 q2 : Option Addr) (n1 c1 n2 c2 : Nat) (xs ys : List (List UInt8)) (w : World) (h1 : SlIn encStr w q1 n1 xs) (h2 : SlIn encStr w q2 n2 ys) (hn1 : n1 ≤ 140737488355328) (hn2 : n2 ≤ 140737488355328) :
    Calls Try.prog 86 #[.slice q1 n1 c1, .slice q2 n2 c2] w fun e w' => e = .returned (.int .u8 (whereL xs ys : Nat)) ∧ ∃ k, w' = w.drewN k := by
  have l1 := h1.1
  have l2 := h2.1
  cases ys with
  | nil =>
    obtain rfl : n2 = 0 := by simpa using l2.symm
    have H := Lib.hid (show whereL xs [] = 1 by unfold whereL; rfl)
    clear h1 h2 l1 l2
    go_enter Try.func86, Try.ntmps86
    go_wp2
    go_ret
    exact ⟨by rw [H.out]; rfl, 0, rfl⟩
  | cons y ys =>
    have z2 : ((n2 : Int) == 0) = false := by rw [beq_eq_false_iff_ne]; simp at l2; omega
    have p2 : 0 < n2 := by simp at l2; omega
    cases xs with
    | nil =>
      obtain rfl : n1 = 0 := by simpa using l1.symm
      have H := Lib.hid (show whereL ([] : List (List UInt8)) (y :: ys) = 2 by unfold whereL; rfl)
      clear h1 h2 l1 l2
      go_enter Try.func86, Try.ntmps86
      go_wp2
      go_ret
      exact ⟨by rw [H.out]; rfl, 0, rfl⟩
    | cons x xs =>
      have z1 : ((n1 : Int) == 0) = false := by rw [beq_eq_false_iff_ne]; simp at l1; omega
      have p1 : 0 < n1 := by simp at l1; omega
      obtain ⟨b1, o1, rfl, _, k1⟩ := h1.at p1
      obtain ⟨b2, o2, rfl, _, k2⟩ := h2.at p2
      have e1 : w.cell? ⟨b1, o1, none⟩ = some (.string ⟨x.toArray⟩) := k1 0 x rfl
      have e2 : w.cell? ⟨b2, o2, none⟩ = some (.string ⟨y.toArray⟩) := k2 0 y rfl
      clear k1 k2 h1 h2 l1 l2
      rcases Lin.tri x y with hxy | hxy | hxy
      · have H := Lib.hid (show whereL (x :: xs) (y :: ys) = 1 by rw [whereL_cons]; rw [if_pos hxy])
        have con := fun w => cmpS_any x y w
        rw [cmpS_lt x y hxy] at con
        clear hxy
        go_enter Try.func86, Try.ntmps86
        go_wp2_with (go_quiet ((go_at_call 95; exact Calls.quiet_of_same (con _))))
        go_ret
        exact ⟨by rw [H.out]; rfl, _, rfl⟩
      · have H := Lib.hid (show whereL (x :: xs) (y :: ys) = 3 by rw [whereL_cons, hxy]; rw [if_neg (Lin.irr y), if_neg (Lin.irr y)])
        have con := fun w => cmpS_any x y w
        rw [cmpS_eq x y hxy] at con
        clear hxy
        go_enter Try.func86, Try.ntmps86
        go_wp2_with (go_quiet ((go_at_call 95; exact Calls.quiet_of_same (con _))))
        go_ret
        exact ⟨by rw [H.out]; rfl, _, rfl⟩
      · have H := Lib.hid (show whereL (x :: xs) (y :: ys) = 2 by rw [whereL_cons]; rw [if_neg (lin_asym hxy), if_pos hxy])
        have con := fun w => cmpS_any x y w
        rw [cmpS_gt x y hxy] at con
        clear hxy
        go_enter Try.func86, Try.ntmps86
        go_wp2_with (go_quiet ((go_at_call 95; exact Calls.quiet_of_same (con _))))
        go_ret
        exact ⟨by rw [H.out]; rfl, _, rfl⟩

theorem run_slice_tail (q : Option Addr) (n c : Nat) (W : World) (hn : 0 < n) (_hnc : n ≤ c) :
    (Instr.slice 41 (.slice q n c) (some (.int .i64 1)) none none).run Try.prog W = .ok (.slice (tlA q c) (n - 1) (c - 1)) W := by
  have hs : ∀ w, (Go.sizeOf 9).run Try.prog w = .ok 1 w := Try.sizeOf9
  have he : Try.prog.elem 41 = 9 := by kernel_rfl
  have h := run_slice_l (P := Try.prog) (w := W) 41 q n c (by rw [he]; exact Try.underlying41) .i64 1 (by omega) (by omega)
  rw [h, he, hs]
  simp only [Result.andThen, sliced, tlA]
  try congr 2

set_option maxRecDepth 100000 in
set_option maxHeartbeats 2000000 in
/-- What both tells: all values, each with where it is. -/
theorem both1_iter (B1 B2 : Nat) (q1 q2 : Option Addr) (n1 c1 n2 c2 : Nat) (xs ys : List (List UInt8)) (RB : Nat → Prop) (w0 : World) (hn1 : n1 ≤ c1) (hn2 : n2 ≤ c2) (hm1 : n1 ≤ 140737488355328) (hm2 : n2 ≤ 140737488355328)
    (h1 : SlIn encStr w0 q1 n1 xs) (h2 : SlIn encStr w0 q2 n2 ys) (hq1 : ∀ a, q1 = some a → 0 < n1 → RB a.block) (hq2 : ∀ a, q2 = some a → 0 < n2 → RB a.block)
    (b1 : Boxed w0 B1 43 (.slice q1 n1 c1)) (b2 : Boxed w0 B2 43 (.slice q2 n2 c2)) (hR1 : RB B1) (hR2 : RB B2) :
    IterC Try.prog 85 #[.pointer (some ⟨B1, 0, none⟩), .pointer (some ⟨B2, 0, none⟩)] (WhArg encStr) (mrg xs ys) RB w0 := by
  intro l J Jx W hW hJ hJx hY h0
  refine (callsIn_wide (n := 1)).1 ?_
  refine callsIn_of_wp Try.func85 rfl trivial ?_ rfl
  simp only [Try.ntmps85, List.size_toArray, List.length_cons, List.length_nil, Nat.reduceAdd, Nat.reduceSub, Array.replicate_succ, Array.replicate_zero, List.push_toArray, List.append_toArray, List.nil_append, List.cons_append]
  have k1 := (hW.boxed b1 hR1).cell
  have k2 := (hW.boxed b2 hR2).cell
  gi_wp2_with (gi_quiet (fail))
  gi_loopw [4, 5] (fun this that wr => BothI encStr RB W (mrg xs ys) J this that wr) (fun this that _ => slen this + slen that)
  case atStart =>
    exact ⟨q1, n1, c1, xs, q2, n2, c2, ys, [], rfl, rfl, hn1, hn2, hm1, hm2, (h1.keep hW hq1).drewN _, (h2.keep hW hq2).drewN _, hq1, hq2, Keep.drewN _ _ _, rfl, hJ _ _ _ _ _ h0 (Keep.drewN _ _ _) (fun _ h => h.elim)⟩
  case round =>
    clear h1 h2 hn1 hn2 hm1 hm2 hq1 hq2 b1 b2 k1 k2 h0
    obtain ⟨q1, n1, c1, ts, q2, n2, c2, us, pre, rfl, rfl, hn1, hn2, hm1, hm2, h1, h2, hq1, hq2, hK, HX, hJr⟩ := hrel
    have hl1 := h1.1
    have hl2 := h2.1
    by_cases hz : ts ≠ [] ∨ us ≠ []
    · obtain ⟨x, ts', us', hcase⟩ := mrg_step ts us hz
      have con := whereNext_any q1 q2 n1 c1 n2 c2 ts us wr h1 h2 hm1 hm2
      rcases hcase with ⟨hw, hm, rfl, rfl⟩ | ⟨hw, hm, rfl, rfl⟩ | ⟨hw, hm, rfl, y, rfl⟩
      · rw [hw] at con
        have p1 : 0 < n1 := by simp at hl1; omega
        have p1' : decide ((0 : Int) < (n1 : Int)) = true := by simp; omega
        obtain ⟨b1, o1, rfl, _, k1⟩ := h1.at p1
        have e1 : wr.cell? ⟨b1, o1, none⟩ = some (.string ⟨x.toArray⟩) := k1 0 x rfl
        have hsl1 := fun W => run_slice_tail (some ⟨b1, o1, none⟩) n1 c1 W p1 hn1
        have t1 := h1.tail hn1
        have hq1' := tlA_blk (c := c1) hq1
        generalize tlA (some ⟨b1, o1, none⟩) c1 = q1' at hsl1 t1 hq1'
        have HX2 := Lib.hid (show mrg xs ys = pre ++ (1, x) :: mrg ts' us' by rw [HX.out, hm])
        have t2 := h2
        have hq2' := hq2
        clear k1 hw hm HX hl1 hl2 hz h1 h2 hq1 hq2
        gi_wp2_with fail
        refine ⟨trivial, (callsIn_wide.2 con).mono ?_⟩
        rintro e w' ⟨rfl, k, rfl⟩
        gi_wp2_with (gi_quiet (fail))
        obtain ⟨fn, tmps, assign, body, hy, hR⟩ := hY pre (1, x) _ (fun _ => False) (fun _ => False) #[.int .u8 1, .string ⟨x.toArray⟩] (wr.drewN (k + nq)) HX2.out (hJ _ _ _ _ _ hJr (Keep.drewN _ _ _) (fun _ h => h.elim)) (fun _ h => h.elim) ⟨rfl, rfl⟩ (fun _ h => h)
        rw [hy]
        clear hY hy con
        simp only [Oper.uponIn]
        refine ⟨fun _ => Nat.le_refl _, RoundIn.mono hR ?_⟩
        rintro e W3 ⟨hk3, (⟨rfl, hJ3⟩ | ⟨rfl, hJx3⟩)⟩
        · have hK3 : Keep RB wr W3 := (Keep.drewN RB wr (k + nq)).trans (hk3.mono fun _ _ h => .inl h)
          clear hR
          gi_wp2
          go_roundw
          case rel => exact ⟨q1', n1 - 1, c1 - 1, ts', q2, n2, c2, us', pre ++ [(1, x)], rfl, rfl, by omega, by omega, by omega, by omega, t1.keep hK3 hq1', t2.keep hK3 hq2', hq1', hq2', hK.trans hK3, Lib.hid (by rw [HX2.out]; simp), hJ _ _ _ _ _ hJ3 (Keep.refl _ _) (fun _ h => h.elim)⟩
          case measure => simp [slen]; omega
        · gi_wp2
          refine bodyPost_ret (results_none rfl _ _ _) rfl ?_
          exact ⟨⟨_, rfl⟩, fun _ => False, fun _ h => h.elim, .inr ⟨pre ++ [(1, x)], _, by rw [HX2.out, List.append_assoc]; rfl, hJx _ _ _ _ _ hJx3 (Keep.refl _ _) (fun _ h => h.elim)⟩⟩
      · rw [hw] at con
        have p2 : 0 < n2 := by simp at hl2; omega
        have p2' : decide ((0 : Int) < (n2 : Int)) = true := by simp; omega
        obtain ⟨b2, o2, rfl, _, k2⟩ := h2.at p2
        have e2 : wr.cell? ⟨b2, o2, none⟩ = some (.string ⟨x.toArray⟩) := k2 0 x rfl
        have hsl2 := fun W => run_slice_tail (some ⟨b2, o2, none⟩) n2 c2 W p2 hn2
        have t2 := h2.tail hn2
        have hq2' := tlA_blk (c := c2) hq2
        generalize tlA (some ⟨b2, o2, none⟩) c2 = q2' at hsl2 t2 hq2'
        have HX2 := Lib.hid (show mrg xs ys = pre ++ (2, x) :: mrg ts' us' by rw [HX.out, hm])
        have t1 := h1
        have hq1' := hq1
        clear k2 hw hm HX hl2 hz h1 h2 hq1 hq2
        by_cases hc0 : 0 < n1
        · have p1' : decide ((0 : Int) < (n1 : Int)) = true := by simp; omega
          clear hl1
          gi_wp2_with fail
          refine ⟨trivial, (callsIn_wide.2 con).mono ?_⟩
          rintro e w' ⟨rfl, k, rfl⟩
          gi_wp2_with (gi_quiet (fail))
          obtain ⟨fn, tmps, assign, body, hy, hR⟩ := hY pre (2, x) _ (fun _ => False) (fun _ => False) #[.int .u8 2, .string ⟨x.toArray⟩] (wr.drewN (k + nq)) HX2.out (hJ _ _ _ _ _ hJr (Keep.drewN _ _ _) (fun _ h => h.elim)) (fun _ h => h.elim) ⟨rfl, rfl⟩ (fun _ h => h)
          rw [hy]
          clear hY hy con
          simp only [Oper.uponIn]
          refine ⟨fun _ => Nat.le_refl _, RoundIn.mono hR ?_⟩
          rintro e W3 ⟨hk3, (⟨rfl, hJ3⟩ | ⟨rfl, hJx3⟩)⟩
          · have hK3 : Keep RB wr W3 := (Keep.drewN RB wr (k + nq)).trans (hk3.mono fun _ _ h => .inl h)
            clear hR
            gi_wp2
            go_roundw
            case rel => exact ⟨q1, n1, c1, ts', q2', n2 - 1, c2 - 1, us', pre ++ [(2, x)], rfl, rfl, by omega, by omega, by omega, by omega, t1.keep hK3 hq1', t2.keep hK3 hq2', hq1', hq2', hK.trans hK3, Lib.hid (by rw [HX2.out]; simp), hJ _ _ _ _ _ hJ3 (Keep.refl _ _) (fun _ h => h.elim)⟩
            case measure => simp [slen]; omega
          · gi_wp2
            refine bodyPost_ret (results_none rfl _ _ _) rfl ?_
            exact ⟨⟨_, rfl⟩, fun _ => False, fun _ h => h.elim, .inr ⟨pre ++ [(2, x)], _, by rw [HX2.out, List.append_assoc]; rfl, hJx _ _ _ _ _ hJx3 (Keep.refl _ _) (fun _ h => h.elim)⟩⟩
        · obtain rfl : n1 = 0 := by omega
          have p1' : decide ((0 : Int) < ((0 : Nat) : Int)) = false := by simp
          clear hl1
          gi_wp2_with fail
          refine ⟨trivial, (callsIn_wide.2 con).mono ?_⟩
          rintro e w' ⟨rfl, k, rfl⟩
          gi_wp2_with (gi_quiet (fail))
          obtain ⟨fn, tmps, assign, body, hy, hR⟩ := hY pre (2, x) _ (fun _ => False) (fun _ => False) #[.int .u8 2, .string ⟨x.toArray⟩] (wr.drewN (k + nq)) HX2.out (hJ _ _ _ _ _ hJr (Keep.drewN _ _ _) (fun _ h => h.elim)) (fun _ h => h.elim) ⟨rfl, rfl⟩ (fun _ h => h)
          rw [hy]
          clear hY hy con
          simp only [Oper.uponIn]
          refine ⟨fun _ => Nat.le_refl _, RoundIn.mono hR ?_⟩
          rintro e W3 ⟨hk3, (⟨rfl, hJ3⟩ | ⟨rfl, hJx3⟩)⟩
          · have hK3 : Keep RB wr W3 := (Keep.drewN RB wr (k + nq)).trans (hk3.mono fun _ _ h => .inl h)
            clear hR
            gi_wp2
            go_roundw
            case rel => exact ⟨q1, 0, c1, ts', q2', n2 - 1, c2 - 1, us', pre ++ [(2, x)], rfl, rfl, by omega, by omega, by omega, by omega, t1.keep hK3 hq1', t2.keep hK3 hq2', hq1', hq2', hK.trans hK3, Lib.hid (by rw [HX2.out]; simp), hJ _ _ _ _ _ hJ3 (Keep.refl _ _) (fun _ h => h.elim)⟩
            case measure => simp [slen]; omega
          · gi_wp2
            refine bodyPost_ret (results_none rfl _ _ _) rfl ?_
            exact ⟨⟨_, rfl⟩, fun _ => False, fun _ h => h.elim, .inr ⟨pre ++ [(2, x)], _, by rw [HX2.out, List.append_assoc]; rfl, hJx _ _ _ _ _ hJx3 (Keep.refl _ _) (fun _ h => h.elim)⟩⟩
      · rw [hw] at con
        have p1 : 0 < n1 := by simp at hl1; omega
        have p1' : decide ((0 : Int) < (n1 : Int)) = true := by simp; omega
        obtain ⟨b1, o1, rfl, _, k1⟩ := h1.at p1
        have e1 : wr.cell? ⟨b1, o1, none⟩ = some (.string ⟨x.toArray⟩) := k1 0 x rfl
        have hsl1 := fun W => run_slice_tail (some ⟨b1, o1, none⟩) n1 c1 W p1 hn1
        have t1 := h1.tail hn1
        have hq1' := tlA_blk (c := c1) hq1
        generalize tlA (some ⟨b1, o1, none⟩) c1 = q1' at hsl1 t1 hq1'
        have p2 : 0 < n2 := by simp at hl2; omega
        have p2' : decide ((0 : Int) < (n2 : Int)) = true := by simp; omega
        obtain ⟨b2, o2, rfl, _, k2⟩ := h2.at p2
        have e2 : wr.cell? ⟨b2, o2, none⟩ = some (.string ⟨y.toArray⟩) := k2 0 y rfl
        have hsl2 := fun W => run_slice_tail (some ⟨b2, o2, none⟩) n2 c2 W p2 hn2
        have t2 := h2.tail hn2
        have hq2' := tlA_blk (c := c2) hq2
        generalize tlA (some ⟨b2, o2, none⟩) c2 = q2' at hsl2 t2 hq2'
        have HX2 := Lib.hid (show mrg xs ys = pre ++ (3, x) :: mrg ts' us' by rw [HX.out, hm])
        clear k1 k2 hw hm HX hl1 hl2 hz h1 h2 hq1 hq2
        gi_wp2_with fail
        refine ⟨trivial, (callsIn_wide.2 con).mono ?_⟩
        rintro e w' ⟨rfl, k, rfl⟩
        gi_wp2_with (gi_quiet (fail))
        refine uponIn_yield (hY pre (3, x) _ (fun _ => False) (fun _ => False) #[.int .u8 3, .string ⟨x.toArray⟩] _ HX2.out (hJ _ _ _ _ _ hJr (Keep.drewN _ _ _) (fun _ h => h.elim)) (fun _ h => h.elim) ⟨rfl, rfl⟩ (fun _ h => h)) ?_ ?_ ?_
        rotate_left
        · rintro c w ⟨_, ⟨h, _⟩ | ⟨h, _⟩⟩ <;> cases h
        · rintro w ⟨_, ⟨h, _⟩ | ⟨h, _⟩⟩ <;> cases h
        clear hY con
        rintro v W3 ⟨hk3, (⟨he, hJ3⟩ | ⟨he, hJx3⟩)⟩
        all_goals cases he
        · have hK3 : Keep RB wr W3 := (Keep.drewN RB wr _).trans (hk3.mono fun _ _ h => .inl h)
          gi_wp2
          go_roundw
          case rel => exact ⟨q1', n1 - 1, c1 - 1, ts', q2', n2 - 1, c2 - 1, us', pre ++ [(3, x)], rfl, rfl, by omega, by omega, by omega, by omega, t1.keep hK3 hq1', t2.keep hK3 hq2', hq1', hq2', hK.trans hK3, Lib.hid (by rw [HX2.out]; simp), hJ _ _ _ _ _ hJ3 (Keep.refl _ _) (fun _ h => h.elim)⟩
          case measure => simp [slen]; omega
        · gi_wp2
          refine bodyPost_ret (results_none rfl _ _ _) rfl ?_
          exact ⟨⟨_, rfl⟩, fun _ => False, fun _ h => h.elim, .inr ⟨pre ++ [(3, x)], _, by rw [HX2.out, List.append_assoc]; rfl, hJx _ _ _ _ _ hJx3 (Keep.refl _ _) (fun _ h => h.elim)⟩⟩
    · obtain ⟨rfl, rfl⟩ : ts = [] ∧ us = [] := by
        constructor
        · exact Classical.byContradiction fun h => hz (.inl h)
        · exact Classical.byContradiction fun h => hz (.inr h)
      obtain rfl : n1 = 0 := by simpa using hl1.symm
      obtain rfl : n2 = 0 := by simpa using hl2.symm
      have HX2 := Lib.hid (show mrg xs ys = pre by rw [HX.out]; unfold mrg; simp)
      clear hY h1 h2 hl1 hl2 hz HX
      gi_wp2
      refine bodyPost_end (results_none rfl _ _ _) rfl ?_
      exact ⟨⟨_, rfl⟩, fun _ => False, fun _ h => h.elim, .inl (by rw [HX2.out]; exact hJr)⟩

end Go.Proofs.Ythfclmnmnmeldaa.S
