/- Package arena at no arena: of, Put, Get, Set, Drop; the laws' all of none; same of the same. Conditions: none. -/
import Derived.Test.YtkpcakmkmkidpaaArnF
namespace Go.Proofs.Ytkpcakmkmkidpaa.Arn
open Go.RowKit Go.Shelf
attribute [local go_sem] Oper.semAt_some wide_fn
set_option linter.unusedVariables false

theorem of_nil (h : Int) (w : World) : Calls Try.prog 25 #[.pointer none, .int .i64 h] w fun e w' => e = .returned (.pointer none) ∧ w = w' := by
  go_enter Try.func25, Try.ntmps25
  go_wp2
  go_ret
  exact ⟨rfl, rfl⟩
theorem Put_nil (x : Int) (w : World) : Calls Try.prog 8 #[.pointer none, .int .i64 x] w fun e w' => e = .returned (.tuple #[.int .i64 0, .int .i64 1]) ∧ w = w' := by
  go_enter Try.func8, Try.ntmps8
  go_wp2
  go_ret2
  exact ⟨rfl, rfl⟩
theorem Get_nil (h : Int) (w : World) : Calls Try.prog 9 #[.pointer none, .int .i64 h] w fun e w' => e = .returned (.tuple #[.int .i64 0, .bool false]) ∧ Below w.heap.size w w' := by
  have con := of_nil h w
  go_enter Try.func9, Try.ntmps9
  go_wp2_with fail
  refine con.mono ?_
  rintro e w' ⟨rfl, rfl⟩
  clear con
  go_wp2
  go_ret2
  exact ⟨rfl, blk_alloc _⟩
theorem Set_nil (h x : Int) (w : World) : Calls Try.prog 12 #[.pointer none, .int .i64 h, .int .i64 x] w fun e w' => e = .returned (.bool false) ∧ w = w' := by
  have con := of_nil h w
  go_enter Try.func12, Try.ntmps12
  go_wp2_with fail
  refine con.mono ?_
  rintro e w' ⟨rfl, rfl⟩
  clear con
  go_wp2
  go_ret
  exact ⟨rfl, rfl⟩
theorem Drop_nil (h : Int) (w : World) : Calls Try.prog 13 #[.pointer none, .int .i64 h] w fun e w' => e = .returned (.bool false) ∧ w = w' := by
  have con := of_nil h w
  go_enter Try.func13, Try.ntmps13
  go_wp2_with fail
  refine con.mono ?_
  rintro e w' ⟨rfl, rfl⟩
  clear con
  go_wp2
  go_ret
  exact ⟨rfl, rfl⟩
/-- all of an arena, whose pointer All has boxed. -/
theorem all_arena (base b size pb : Nat) (sl : List (Sl Int)) (w : World) (h : LiesA base b size pb sl w) (hb : b < w.heap.size) : Calls Try.prog 10 #[.func (.func 27) #[] #[.pointer (some ⟨pb, 0, none⟩)]] w (AllOut sl w) := by
  have hp := World.block_lt_of_cell? w _ h.2.2
  refine all_any _ _ (LiesA base b size pb) sl w eg_all2 (All2_iter base b size pb) (fun W hW => h.on hb hp (fun v ha k hk => (ha.row.lt k hk).2) hW) ?_
  obtain ⟨v, ha⟩ := h.1
  have := ha.len; have := ha.size2; omega
theorem all_nil (w : World) : Calls Try.prog 10 #[.func (.func 26) #[] #[]] w (AllOut [] w) :=
  all_any _ _ _ [] w eg_all1 All1_iter (fun W hW => rfl) (by simp)
theorem some_arena (base b size pb : Nat) (sl : List (Sl Int)) (n : Int) (w : World) (h : LiesA base b size pb sl w) (hb : b < w.heap.size) (hn : -9223372036854775808 ≤ n ∧ n ≤ 9223372036854775807) :
    Calls Try.prog 20 #[.func (.func 27) #[] #[.pointer (some ⟨pb, 0, none⟩)], .int .i64 n] w fun e w' => e = .returned (.tuple #[.int .i64 (someF ((allS 0 sl).map Prod.fst) n).1, .bool (someF ((allS 0 sl).map Prod.fst) n).2]) ∧ Below w.heap.size w w' := by
  have hp := World.block_lt_of_cell? w _ h.2.2
  refine some_any _ _ (LiesA base b size pb) sl n w eg_all2 (All2_iter base b size pb) (fun W hW => h.on hb hp (fun v ha k hk => (ha.row.lt k hk).2) hW) ?_ hn
  obtain ⟨v, ha⟩ := h.1
  have := ha.len; have := ha.size2; omega
theorem same_yes (q1 : Option Addr) (n1 c1 : Nat) (q2 : Option Addr) (n2 c2 : Nat) (xs : List Int) (w : World) (h1 : NumsIn w q1 n1 xs) (h2 : NumsIn w q2 n2 xs) (hn1 : n1 ≤ 1099511627776) (hn2 : n2 ≤ 1099511627776) :
    Calls Try.prog 19 #[.slice q1 n1 c1, .slice q2 n2 c2] w fun e w' => e = .returned (.bool true) ∧ Below w.heap.size w w' :=
  (same_any q1 n1 c1 xs q2 n2 c2 xs w h1 h2 hn1 hn2).mono fun e w' ⟨he, hb⟩ => ⟨by rw [he]; simp, hb⟩
/-- An arena that lies lies for its iterator too, once its pointer is boxed. -/
theorem lies_of {base b size : Nat} {v : Value} {sl : List (Sl Int)} {w : World} (h : At base b size v sl w) (hf : Few 1099511627776 sl) : LiesA base b size w.heap.size sl (w.alloc (.cells #[.pointer (some ⟨b, 0, none⟩)] 24)) :=
  ⟨⟨v, h.on (blk_alloc _)⟩, hf, (Boxed.new w _ _).cell⟩
end Go.Proofs.Ytkpcakmkmkidpaa.Arn
