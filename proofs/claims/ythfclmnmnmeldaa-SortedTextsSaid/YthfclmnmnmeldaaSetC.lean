/- The iterator of two sets' values: it tells all, rising, each with where it is. Conditions: a row is of at most the model's greatest length. -/
import Derived.Test.YthfclmnmnmeldaaSetB
import Derived.RangeFuncNested
import Derived.RangeFuncBound
import Derived.RangeFuncCalls
import Derived.RangeFuncLeaves
import Derived.Sort.QuietIn
import Derived.OwnWalkIn
import Derived.TacticsInMore
import Derived.LoopNIn
import Derived.LoopIn
namespace Go.Proofs.Ythfclmnmnmeldaa
open Go.RowKit Go.Shelf
attribute [local go_sem] Oper.semAt_some

/-- A place and a value, as yield takes them. -/
def WhArg {α : Type} (enc : α → Value) (x : Nat × α) (args : Array Value) (G : Nat → Prop) (_W : World) : Prop := args = #[.int .u8 (x.1 : Int), enc x.2] ∧ G = fun _ => False

theorem mrg_step {α : Type} [LT α] [DecidableLT α] (xs ys : List α) (h : xs ≠ [] ∨ ys ≠ []) :
    ∃ x xs' ys', (whereL xs ys = 1 ∧ mrg xs ys = (1, x) :: mrg xs' ys' ∧ xs = x :: xs' ∧ ys' = ys) ∨ (whereL xs ys = 2 ∧ mrg xs ys = (2, x) :: mrg xs' ys' ∧ ys = x :: ys' ∧ xs' = xs) ∨ (whereL xs ys = 3 ∧ mrg xs ys = (3, x) :: mrg xs' ys' ∧ xs = x :: xs' ∧ ∃ y, ys = y :: ys') := by
  cases xs with
  | nil =>
    cases ys with
    | nil => simp at h
    | cons y ys => exact ⟨y, [], ys, .inr (.inl ⟨rfl, by conv => lhs; unfold mrg, rfl, rfl⟩)⟩
  | cons x xs =>
    cases ys with
    | nil => exact ⟨x, xs, [], .inl ⟨rfl, by conv => lhs; unfold mrg, rfl, rfl⟩⟩
    | cons y ys =>
      by_cases h1 : x < y
      · exact ⟨x, xs, y :: ys, .inl ⟨by rw [whereL_cons, if_pos h1], by conv => lhs; unfold mrg; rw [if_pos h1], rfl, rfl⟩⟩
      · by_cases h2 : y < x
        · exact ⟨y, x :: xs, ys, .inr (.inl ⟨by rw [whereL_cons, if_neg h1, if_pos h2], by conv => lhs; unfold mrg; rw [if_neg h1, if_pos h2], rfl, rfl⟩)⟩
        · exact ⟨x, xs, ys, .inr (.inr ⟨by rw [whereL_cons, if_neg h1, if_neg h2], by conv => lhs; unfold mrg; rw [if_neg h1, if_neg h2], rfl, y, rfl⟩)⟩

/-- A slice's length. -/
def slen : Value → Nat
  | .slice _ n _ => n
  | _ => 0
/-- The address of what is left without the first. -/
def tlA (q : Option Addr) (c : Nat) : Option Addr := if c = 1 then q else q.map (·.add 1)

theorem SlIn.tail {α : Type} {enc : α → Value} {w : World} {q : Option Addr} {n c : Nat} {x : α} {xs : List α} (h : SlIn enc w q n (x :: xs)) (hnc : n ≤ c) : SlIn enc w (tlA q c) (n - 1) xs := by
  have hl := h.1
  simp only [List.length_cons] at hl
  refine ⟨by omega, fun hn => ?_⟩
  obtain ⟨b, o, rfl, hb, hc⟩ := h.at (by omega)
  refine ⟨b, o + 1, ?_, hb, fun i y hy => ?_⟩
  · unfold tlA; rw [if_neg (by omega)]; simp [Addr.add]
  · have := hc (i + 1) y (by simpa using hy)
    rwa [show o + (i + 1) = o + 1 + i by omega] at this
theorem tlA_blk {RB : Nat → Prop} {q : Option Addr} {n c : Nat} (hq : ∀ a, q = some a → 0 < n → RB a.block) : ∀ a, tlA q c = some a → 0 < n - 1 → RB a.block := by
  intro a ha hn
  unfold tlA at ha
  split at ha
  · exact hq a ha (by omega)
  · cases q with
    | none => simp at ha
    | some b => simp [Addr.add] at ha; subst ha; exact hq b rfl (by omega)

theorem run_slice_tail (q : Option Addr) (n c : Nat) (W : World) (hn : 0 < n) (_hnc : n ≤ c) :
    (Instr.slice 22 (.slice q n c) (some (.int .i64 1)) none none).run Try.prog W = .ok (.slice (tlA q c) (n - 1) (c - 1)) W := by
  have hs : ∀ w, (Go.sizeOf 3).run Try.prog w = .ok 1 w := Try.sizeOf3
  have he : Try.prog.elem 22 = 3 := by kernel_rfl
  have h := run_slice_l (P := Try.prog) (w := W) 22 q n c (by rw [he]; exact Try.underlying22) .i64 1 (by omega) (by omega)
  rw [h, he, hs]
  simp only [Result.andThen, sliced, tlA]
  try congr 2

/-- A call of yield, outside of a round. -/
theorem uponIn_yield {P : Program} {o : Oper} {a : Act} {K : Act → World → Prop} {Q : Exit → Act → World → Prop} {l : Nat} {args : Array Value} {W : World} {R : Ending → World → Prop} (h : YieldAt Fence.wide 0 P l args W R)
    (hk : ∀ v w, R (.returned v) w → K (a.put o.dst v) w) (hp : ∀ c w, ¬ R (.panicked c) w) (ho : ∀ w, ¬ R .outgrown w) : Oper.uponIn Fence.wide 1 P o a K Q ((Instr.yield l args).run P W) := by
  obtain ⟨fn, tmps, assign, body, hy, hR⟩ := h
  rw [hy]
  simp only [Oper.uponIn]
  refine ⟨fun _ => Nat.le_refl _, RoundIn.mono hR fun e w' hr => ?_⟩
  cases e with
  | returned v => exact hk v w' hr
  | panicked c => exact (hp c w' hr).elim
  | outgrown => exact (ho w' hr).elim

/-- Between two rounds of both. -/
def BothI {α : Type} [LT α] [DecidableLT α] (enc : α → Value) (RB : Nat → Prop) (W0 : World) (all : List (Nat × α)) (J : List (Nat × α) → (Nat → Prop) → World → Prop) (this that : Value) (wr : World) : Prop :=
  ∃ q1 n1 c1 xs q2 n2 c2 ys pre, this = .slice q1 n1 c1 ∧ that = .slice q2 n2 c2 ∧ n1 ≤ c1 ∧ n2 ≤ c2 ∧ n1 ≤ 140737488355328 ∧ n2 ≤ 140737488355328 ∧ SlIn enc wr q1 n1 xs ∧ SlIn enc wr q2 n2 ys ∧
    (∀ a, q1 = some a → 0 < n1 → RB a.block) ∧ (∀ a, q2 = some a → 0 < n2 → RB a.block) ∧ Keep RB W0 wr ∧ Hid (all = pre ++ mrg xs ys) ∧ J pre (fun _ => False) wr

set_option maxRecDepth 100000 in
set_option maxHeartbeats 2000000 in
/-- What both tells: all values, each with where it is. -/
theorem both1_iter (B1 B2 : Nat) (q1 q2 : Option Addr) (n1 c1 n2 c2 : Nat) (xs ys : List Int) (RB : Nat → Prop) (w0 : World) (hn1 : n1 ≤ c1) (hn2 : n2 ≤ c2) (hm1 : n1 ≤ 140737488355328) (hm2 : n2 ≤ 140737488355328)
    (h1 : SlIn (Value.int .i64) w0 q1 n1 xs) (h2 : SlIn (Value.int .i64) w0 q2 n2 ys) (hq1 : ∀ a, q1 = some a → 0 < n1 → RB a.block) (hq2 : ∀ a, q2 = some a → 0 < n2 → RB a.block)
    (b1 : Boxed w0 B1 25 (.slice q1 n1 c1)) (b2 : Boxed w0 B2 25 (.slice q2 n2 c2)) (hR1 : RB B1) (hR2 : RB B2) :
    IterC Try.prog 49 #[.pointer (some ⟨B1, 0, none⟩), .pointer (some ⟨B2, 0, none⟩)] (WhArg (Value.int .i64)) (mrg xs ys) RB w0 := by
  intro l J Jx W hW hJ hJx hY h0
  refine (callsIn_wide (n := 1)).1 ?_
  refine callsIn_of_wp Try.func49 rfl trivial ?_ rfl
  simp only [Try.ntmps49, List.size_toArray, List.length_cons, List.length_nil, Nat.reduceAdd, Nat.reduceSub, Array.replicate_succ, Array.replicate_zero, List.push_toArray, List.append_toArray, List.nil_append, List.cons_append]
  have k1 := (hW.boxed b1 hR1).cell
  have k2 := (hW.boxed b2 hR2).cell
  gi_wp2_with (gi_quiet (fail))
  gi_loopw [4, 5] (fun this that wr => BothI (Value.int .i64) RB W (mrg xs ys) J this that wr) (fun this that _ => slen this + slen that)
  case atStart =>
    exact ⟨q1, n1, c1, xs, q2, n2, c2, ys, [], rfl, rfl, hn1, hn2, hm1, hm2, (h1.keep hW hq1).drewN _, (h2.keep hW hq2).drewN _, hq1, hq2, Keep.drewN _ _ _, rfl, hJ _ _ _ _ _ h0 (Keep.drewN _ _ _) (fun _ h => h.elim)⟩
  case round =>
    clear h1 h2 hn1 hn2 hm1 hm2 hq1 hq2 b1 b2 k1 k2 h0
    obtain ⟨q1, n1, c1, ts, q2, n2, c2, us, pre, rfl, rfl, hn1, hn2, hm1, hm2, h1, h2, hq1, hq2, hK, HX, hJr⟩ := hrel
    have hl1 := h1.1
    have hl2 := h2.1
    by_cases hz : ts ≠ [] ∨ us ≠ []
    · obtain ⟨x, ts', us', hcase⟩ := mrg_step ts us hz
      have con := whereNext_any q1 q2 n1 c1 n2 c2 ts us wr h1 h2 hm1 hm2
      rcases hcase with ⟨hw, hm, rfl, rfl⟩ | ⟨hw, hm, rfl, rfl⟩ | ⟨hw, hm, rfl, y, rfl⟩
      · rw [hw] at con
        have p1 : 0 < n1 := by simp at hl1; omega
        have p1' : decide ((0 : Int) < (n1 : Int)) = true := by simp; omega
        obtain ⟨b1, o1, rfl, _, k1⟩ := h1.at p1
        have e1 : wr.cell? ⟨b1, o1, none⟩ = some (.int .i64 x) := k1 0 x rfl
        have hsl1 := fun W => run_slice_tail (some ⟨b1, o1, none⟩) n1 c1 W p1 hn1
        have t1 := h1.tail hn1
        have hq1' := tlA_blk (c := c1) hq1
        generalize tlA (some ⟨b1, o1, none⟩) c1 = q1' at hsl1 t1 hq1'
        have HX2 := Lib.hid (show mrg xs ys = pre ++ (1, x) :: mrg ts' us' by rw [HX.out, hm])
        have t2 := h2
        have hq2' := hq2
        clear k1 hw hm HX hl1 hl2 hz h1 h2 hq1 hq2
        gi_wp2_with fail
        refine ⟨trivial, (callsIn_wide.2 con).mono ?_⟩
        rintro e w' ⟨rfl, k, rfl⟩
        gi_wp2_with (gi_quiet (fail))
        obtain ⟨fn, tmps, assign, body, hy, hR⟩ := hY pre (1, x) _ (fun _ => False) (fun _ => False) #[.int .u8 1, .int .i64 x] (wr.drewN (k + nq)) HX2.out (hJ _ _ _ _ _ hJr (Keep.drewN _ _ _) (fun _ h => h.elim)) (fun _ h => h.elim) ⟨rfl, rfl⟩ (fun _ h => h)
        rw [hy]
        clear hY hy con
        simp only [Oper.uponIn]
        refine ⟨fun _ => Nat.le_refl _, RoundIn.mono hR ?_⟩
        rintro e W3 ⟨hk3, (⟨rfl, hJ3⟩ | ⟨rfl, hJx3⟩)⟩
        · have hK3 : Keep RB wr W3 := (Keep.drewN RB wr (k + nq)).trans (hk3.mono fun _ _ h => .inl h)
          clear hR
          gi_wp2
          go_roundw
          case rel => exact ⟨q1', n1 - 1, c1 - 1, ts', q2, n2, c2, us', pre ++ [(1, x)], rfl, rfl, by omega, by omega, by omega, by omega, t1.keep hK3 hq1', t2.keep hK3 hq2', hq1', hq2', hK.trans hK3, Lib.hid (by rw [HX2.out]; simp), hJ _ _ _ _ _ hJ3 (Keep.refl _ _) (fun _ h => h.elim)⟩
          case measure => simp [slen]; omega
        · gi_wp2
          refine bodyPost_ret (results_none rfl _ _ _) rfl ?_
          exact ⟨⟨_, rfl⟩, fun _ => False, fun _ h => h.elim, .inr ⟨pre ++ [(1, x)], _, by rw [HX2.out, List.append_assoc]; rfl, hJx _ _ _ _ _ hJx3 (Keep.refl _ _) (fun _ h => h.elim)⟩⟩
      · rw [hw] at con
        have p2 : 0 < n2 := by simp at hl2; omega
        have p2' : decide ((0 : Int) < (n2 : Int)) = true := by simp; omega
        obtain ⟨b2, o2, rfl, _, k2⟩ := h2.at p2
        have e2 : wr.cell? ⟨b2, o2, none⟩ = some (.int .i64 x) := k2 0 x rfl
        have hsl2 := fun W => run_slice_tail (some ⟨b2, o2, none⟩) n2 c2 W p2 hn2
        have t2 := h2.tail hn2
        have hq2' := tlA_blk (c := c2) hq2
        generalize tlA (some ⟨b2, o2, none⟩) c2 = q2' at hsl2 t2 hq2'
        have HX2 := Lib.hid (show mrg xs ys = pre ++ (2, x) :: mrg ts' us' by rw [HX.out, hm])
        have t1 := h1
        have hq1' := hq1
        clear k2 hw hm HX hl2 hz h1 h2 hq1 hq2
        by_cases hc0 : 0 < n1
        · have p1' : decide ((0 : Int) < (n1 : Int)) = true := by simp; omega
          clear hl1
          gi_wp2_with fail
          refine ⟨trivial, (callsIn_wide.2 con).mono ?_⟩
          rintro e w' ⟨rfl, k, rfl⟩
          gi_wp2_with (gi_quiet (fail))
          obtain ⟨fn, tmps, assign, body, hy, hR⟩ := hY pre (2, x) _ (fun _ => False) (fun _ => False) #[.int .u8 2, .int .i64 x] (wr.drewN (k + nq)) HX2.out (hJ _ _ _ _ _ hJr (Keep.drewN _ _ _) (fun _ h => h.elim)) (fun _ h => h.elim) ⟨rfl, rfl⟩ (fun _ h => h)
          rw [hy]
          clear hY hy con
          simp only [Oper.uponIn]
          refine ⟨fun _ => Nat.le_refl _, RoundIn.mono hR ?_⟩
          rintro e W3 ⟨hk3, (⟨rfl, hJ3⟩ | ⟨rfl, hJx3⟩)⟩
          · have hK3 : Keep RB wr W3 := (Keep.drewN RB wr (k + nq)).trans (hk3.mono fun _ _ h => .inl h)
            clear hR
            gi_wp2
            go_roundw
            case rel => exact ⟨q1, n1, c1, ts', q2', n2 - 1, c2 - 1, us', pre ++ [(2, x)], rfl, rfl, by omega, by omega, by omega, by omega, t1.keep hK3 hq1', t2.keep hK3 hq2', hq1', hq2', hK.trans hK3, Lib.hid (by rw [HX2.out]; simp), hJ _ _ _ _ _ hJ3 (Keep.refl _ _) (fun _ h => h.elim)⟩
            case measure => simp [slen]; omega
          · gi_wp2
            refine bodyPost_ret (results_none rfl _ _ _) rfl ?_
            exact ⟨⟨_, rfl⟩, fun _ => False, fun _ h => h.elim, .inr ⟨pre ++ [(2, x)], _, by rw [HX2.out, List.append_assoc]; rfl, hJx _ _ _ _ _ hJx3 (Keep.refl _ _) (fun _ h => h.elim)⟩⟩
        · obtain rfl : n1 = 0 := by omega
          have p1' : decide ((0 : Int) < ((0 : Nat) : Int)) = false := by simp
          clear hl1
          gi_wp2_with fail
          refine ⟨trivial, (callsIn_wide.2 con).mono ?_⟩
          rintro e w' ⟨rfl, k, rfl⟩
          gi_wp2_with (gi_quiet (fail))
          obtain ⟨fn, tmps, assign, body, hy, hR⟩ := hY pre (2, x) _ (fun _ => False) (fun _ => False) #[.int .u8 2, .int .i64 x] (wr.drewN (k + nq)) HX2.out (hJ _ _ _ _ _ hJr (Keep.drewN _ _ _) (fun _ h => h.elim)) (fun _ h => h.elim) ⟨rfl, rfl⟩ (fun _ h => h)
          rw [hy]
          clear hY hy con
          simp only [Oper.uponIn]
          refine ⟨fun _ => Nat.le_refl _, RoundIn.mono hR ?_⟩
          rintro e W3 ⟨hk3, (⟨rfl, hJ3⟩ | ⟨rfl, hJx3⟩)⟩
          · have hK3 : Keep RB wr W3 := (Keep.drewN RB wr (k + nq)).trans (hk3.mono fun _ _ h => .inl h)
            clear hR
            gi_wp2
            go_roundw
            case rel => exact ⟨q1, 0, c1, ts', q2', n2 - 1, c2 - 1, us', pre ++ [(2, x)], rfl, rfl, by omega, by omega, by omega, by omega, t1.keep hK3 hq1', t2.keep hK3 hq2', hq1', hq2', hK.trans hK3, Lib.hid (by rw [HX2.out]; simp), hJ _ _ _ _ _ hJ3 (Keep.refl _ _) (fun _ h => h.elim)⟩
            case measure => simp [slen]; omega
          · gi_wp2
            refine bodyPost_ret (results_none rfl _ _ _) rfl ?_
            exact ⟨⟨_, rfl⟩, fun _ => False, fun _ h => h.elim, .inr ⟨pre ++ [(2, x)], _, by rw [HX2.out, List.append_assoc]; rfl, hJx _ _ _ _ _ hJx3 (Keep.refl _ _) (fun _ h => h.elim)⟩⟩
      · rw [hw] at con
        have p1 : 0 < n1 := by simp at hl1; omega
        have p1' : decide ((0 : Int) < (n1 : Int)) = true := by simp; omega
        obtain ⟨b1, o1, rfl, _, k1⟩ := h1.at p1
        have e1 : wr.cell? ⟨b1, o1, none⟩ = some (.int .i64 x) := k1 0 x rfl
        have hsl1 := fun W => run_slice_tail (some ⟨b1, o1, none⟩) n1 c1 W p1 hn1
        have t1 := h1.tail hn1
        have hq1' := tlA_blk (c := c1) hq1
        generalize tlA (some ⟨b1, o1, none⟩) c1 = q1' at hsl1 t1 hq1'
        have p2 : 0 < n2 := by simp at hl2; omega
        have p2' : decide ((0 : Int) < (n2 : Int)) = true := by simp; omega
        obtain ⟨b2, o2, rfl, _, k2⟩ := h2.at p2
        have e2 : wr.cell? ⟨b2, o2, none⟩ = some (.int .i64 y) := k2 0 y rfl
        have hsl2 := fun W => run_slice_tail (some ⟨b2, o2, none⟩) n2 c2 W p2 hn2
        have t2 := h2.tail hn2
        have hq2' := tlA_blk (c := c2) hq2
        generalize tlA (some ⟨b2, o2, none⟩) c2 = q2' at hsl2 t2 hq2'
        have HX2 := Lib.hid (show mrg xs ys = pre ++ (3, x) :: mrg ts' us' by rw [HX.out, hm])
        clear k1 k2 hw hm HX hl1 hl2 hz h1 h2 hq1 hq2
        gi_wp2_with fail
        refine ⟨trivial, (callsIn_wide.2 con).mono ?_⟩
        rintro e w' ⟨rfl, k, rfl⟩
        gi_wp2_with (gi_quiet (fail))
        refine uponIn_yield (hY pre (3, x) _ (fun _ => False) (fun _ => False) #[.int .u8 3, .int .i64 x] _ HX2.out (hJ _ _ _ _ _ hJr (Keep.drewN _ _ _) (fun _ h => h.elim)) (fun _ h => h.elim) ⟨rfl, rfl⟩ (fun _ h => h)) ?_ ?_ ?_
        rotate_left
        · rintro c w ⟨_, ⟨h, _⟩ | ⟨h, _⟩⟩ <;> cases h
        · rintro w ⟨_, ⟨h, _⟩ | ⟨h, _⟩⟩ <;> cases h
        clear hY con
        rintro v W3 ⟨hk3, (⟨he, hJ3⟩ | ⟨he, hJx3⟩)⟩
        all_goals cases he
        · have hK3 : Keep RB wr W3 := (Keep.drewN RB wr _).trans (hk3.mono fun _ _ h => .inl h)
          gi_wp2
          go_roundw
          case rel => exact ⟨q1', n1 - 1, c1 - 1, ts', q2', n2 - 1, c2 - 1, us', pre ++ [(3, x)], rfl, rfl, by omega, by omega, by omega, by omega, t1.keep hK3 hq1', t2.keep hK3 hq2', hq1', hq2', hK.trans hK3, Lib.hid (by rw [HX2.out]; simp), hJ _ _ _ _ _ hJ3 (Keep.refl _ _) (fun _ h => h.elim)⟩
          case measure => simp [slen]; omega
        · gi_wp2
          refine bodyPost_ret (results_none rfl _ _ _) rfl ?_
          exact ⟨⟨_, rfl⟩, fun _ => False, fun _ h => h.elim, .inr ⟨pre ++ [(3, x)], _, by rw [HX2.out, List.append_assoc]; rfl, hJx _ _ _ _ _ hJx3 (Keep.refl _ _) (fun _ h => h.elim)⟩⟩
    · obtain ⟨rfl, rfl⟩ : ts = [] ∧ us = [] := by
        constructor
        · exact Classical.byContradiction fun h => hz (.inl h)
        · exact Classical.byContradiction fun h => hz (.inr h)
      obtain rfl : n1 = 0 := by simpa using hl1.symm
      obtain rfl : n2 = 0 := by simpa using hl2.symm
      have HX2 := Lib.hid (show mrg xs ys = pre by rw [HX.out]; unfold mrg; simp)
      clear hY h1 h2 hl1 hl2 hz HX
      gi_wp2
      refine bodyPost_end (results_none rfl _ _ _) rfl ?_
      exact ⟨⟨_, rfl⟩, fun _ => False, fun _ h => h.elim, .inl (by rw [HX2.out]; exact hJr)⟩

end Go.Proofs.Ythfclmnmnmeldaa
