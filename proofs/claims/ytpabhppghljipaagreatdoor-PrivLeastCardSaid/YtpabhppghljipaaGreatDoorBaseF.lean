/- What these laws want besides. Conditions: as each says. -/
import Derived.Test.YtpabhppghljipaaGreatDoorBaseD
import Derived.OwnWalk

namespace Go.Proofs.YtpabhppghljipaaGreatDoor

theorem cmpL_neg {α : Type} [LT α] [DecidableEq α] [DecidableLT α] [LE α] [Std.IsLinearOrder α] [Std.LawfulOrderLT α] : ∀ xs ys : List α, cmpL xs ys = -cmpL ys xs
  | [], [] => rfl
  | [], _ :: _ => rfl
  | _ :: _, [] => rfl
  | x :: xs, y :: ys => by
    unfold cmpL
    by_cases h : x < y
    · rw [if_pos h, if_neg (lin_asym h), if_pos h]
    · by_cases k : y < x
      · rw [if_neg h, if_pos k, if_pos k]; rfl
      · rw [if_neg h, if_neg k, if_neg k, if_neg h, cmpL_neg xs ys]
theorem cmpL_eq {α : Type} [LT α] [DecidableEq α] [DecidableLT α] [LE α] [Std.IsLinearOrder α] [Std.LawfulOrderLT α] : ∀ xs ys : List α, cmpL xs ys = 0 ↔ xs = ys
  | [], [] => by simp [cmpL]
  | [], _ :: _ => by simp [cmpL]
  | _ :: _, [] => by simp [cmpL]
  | x :: xs, y :: ys => by
    unfold cmpL
    by_cases h : x < y
    · rw [if_pos h]; simp; intro e; exact absurd e (lin_ne h)
    · by_cases k : y < x
      · rw [if_neg h, if_pos k]; simp; intro e; exact absurd e.symm (lin_ne k)
      · rw [if_neg h, if_neg k, cmpL_eq xs ys, lin_eq h k]; simp
end Go.Proofs.YtpabhppghljipaaGreatDoor

namespace Go.Proofs.YtpabhppghljipaaGreatDoor.Ref

theorem drop_consS (l : List (List UInt8)) (k : Nat) (h : k < l.length) : l.drop k = l.getD k [] :: l.drop (k + 1) := by
  rw [List.drop_eq_getElem_cons h]; simp [List.getD, List.getElem?_eq_getElem h]

end Go.Proofs.YtpabhppghljipaaGreatDoor.Ref

namespace Go.Proofs.YtpabhppghljipaaGreatDoor.privLeast
open Go.ChangeShapes Go.WideShapes Go.ChangeAt Go.RowKit
set_option linter.unusedVariables false

theorem own : ownKnob Tryz.prog.godebug = none := by kernel_rfl
theorem laidOut : laidOutB Tryz.prog = true := by kernel_rfl
theorem gTab : Tryz.prog.globalNamed "internal/strconv.uint64pow10" = some 3 := by kernel_rfl

def IsRow (k : IntKind) (w : World) (a : Option Addr) (len cap : Nat) (zs : List Int) : Prop :=
  (a = none ∧ len = 0 ∧ cap = 0 ∧ zs = []) ∨
  ∃ x, a = some x ∧ len ≤ cap ∧ cap ≤ maxLen ∧ zs.length = cap ∧ (∀ i, i < zs.length → w.cell? (x.add i) = some (.int k (zs.getD i 0))) ∧ ∀ n ∈ zs, (Lit.int k n).wf = true

/-- The law's walk. -/
def Walks : Prop := ∀ (a0 : Option Addr) (len0 cap0 : Nat) (z0 : List Int) (a1 : Option Addr) (len1 cap1 : Nat) (z1 : List Int) (a2 : Option Addr) (len2 cap2 : Nat) (z2 : List Int) (w : World), IsRow .u8 w a0 len0 cap0 z0 → IsRow .u8 w a1 len1 cap1 z1 → IsRow .u8 w a2 len2 cap2 z2 → Url.Gl w →
  Calls Tryz.prog 6 #[.slice a0 len0 cap0, .slice a1 len1 cap1, .slice a2 len2 cap2] w fun e w' => e = .returned (.bool true) ∧ Below w.heap.size w w'

theorem gl {W : World} (hL : laidMetH Tryz.prog Rows.privLeastRow.laid W) (hsh : W.ShapedOpen Tryz.prog) : Url.Gl W := by
  refine ⟨?_, ?_⟩
  · exact cell_of_shapedOpen_int (t := 3) (zero := #[.int .i64 0]) hsh (by decide +kernel) (by kernel_rfl) rfl (by kernel_rfl) (by kernel_rfl) (by kernel_rfl)
  · have hL' : laidMet Tryz.prog Rows.privLeastRow.laid W := by
      rw [MakeChecks.laidMetH_plain _ _ _ (by kernel_rfl)] at hL; exact hL
    exact Lib.tabIs_of_head (rest := [("unicode/utf8.acceptRanges", Rows.laid_unicode_utf8_acceptRanges), ("unicode/utf8.first", Rows.laid_unicode_utf8_first)]) (t := 246) (e := 153) (n := 20) (k := .u64) (zs := Lib.pow10Tab) (g := 3) gTab (by kernel_rfl) (by kernel_rfl) (by kernel_rfl) (by kernel_rfl) (by kernel_rfl) (show laidMet Tryz.prog [("internal/strconv.uint64pow10", Lib.tabData .u64 Lib.pow10Tab), ("unicode/utf8.acceptRanges", Rows.laid_unicode_utf8_acceptRanges), ("unicode/utf8.first", Rows.laid_unicode_utf8_first)] W from hL'.tail.tail)

set_option maxRecDepth 100000 in
/-- What the walk gives, for every argument and every world that holds the listed tables. -/
theorem contract (hw : Walks) (H : Type) (enc : TypeId × Value → H) (W : World) (base : Nat) (args : Array Value) (ds gs : List (DataW H)) (before : List MemPlace)
    (hval0 : ∀ (j : Nat) t v, Tryz.f6.params[j]? = some t → args[j]? = some v → Value.okWide Tryz.prog W .any base t v)
    (hW : DataW.Whole enc Tryz.prog Tryz.f6.params.toList Rows.privLeastSpec.vars false W args.toList ds gs before) (hL : laidMetH Tryz.prog Rows.privLeastRow.laid W) (hsh : W.ShapedOpen Tryz.prog) :
    Calls Tryz.prog 6 args W fun e W' => ∃ v, e = .returned v ∧ Rows.privLeastSpec.post enc Tryz.prog Tryz.f6 false true false false W args v W' := by
  have hval : ∀ (j : Nat) t v, Tryz.f6.params[j]? = some t → args[j]? = some v → Value.okWide Tryz.prog W .any base t v := hval0
  have hW' := hW
  obtain ⟨p, q, hA0, hV, rfl, hfz, hnd⟩ := hW
  have hA : DataW.TrodAll enc Tryz.prog W 0 (fun _ => true) true Tryz.f6.params.toList args.toList ds p := hA0
  rw [Tryz.params6] at hA hval
  obtain ⟨v0, vs0, d0, ds0, p0, q0, hargs, rfl, rfl, h0, r0⟩ := trodAll_cons hA
  obtain ⟨v1, vs1, d1, ds1, p1, q1, rfl, rfl, rfl, h1, r1⟩ := trodAll_cons r0
  obtain ⟨v2, vs2, d2, ds2, p2, q2, rfl, rfl, rfl, h2, r2⟩ := trodAll_cons r1
  obtain ⟨rfl, rfl, rfl⟩ := trodAll_nil r2
  obtain rfl : args = #[v0, v1, v2] := by cases args; simp_all
  obtain ⟨rfl, rfl⟩ := trodVars_none hV
  obtain ⟨a0, len0, cap0, rfl⟩ := okWide_slice Tryz.underlying22 (hval 0 22 v0 rfl rfl)
  have k0 := h0
  have lt0 : ∀ x ∈ p0, x.block < W.heap.size := by obtain ⟨m, hm⟩ := k0; exact DataW.trod_lt m _ _ _ hm
  obtain ⟨z0, w0⟩ : ∃ zs, IsRow .u8 W a0 len0 cap0 zs := by
    obtain ⟨fuel, hf⟩ := h0
    rcases open_ints Tryz.underlying22 Tryz.underlying5 (by kernel_rfl) hf with ⟨hcs, _⟩ | ⟨x, l, c, zs, hcs, _, hl, hm, hz, _, hcell, hwz⟩
    · simp [Value.cells] at hcs
      obtain ⟨rfl, rfl, rfl⟩ := hcs
      exact ⟨[], .inl ⟨rfl, rfl, rfl, rfl⟩⟩
    · simp [Value.cells] at hcs
      obtain ⟨rfl, rfl, rfl⟩ := hcs
      exact ⟨zs, .inr ⟨_, rfl, hl, hm, by simpa using hz, hcell, hwz⟩⟩
  obtain ⟨a1, len1, cap1, rfl⟩ := okWide_slice Tryz.underlying22 (hval 1 22 v1 rfl rfl)
  have k1 := h1
  have lt1 : ∀ x ∈ p1, x.block < W.heap.size := by obtain ⟨m, hm⟩ := k1; exact DataW.trod_lt m _ _ _ hm
  obtain ⟨z1, w1⟩ : ∃ zs, IsRow .u8 W a1 len1 cap1 zs := by
    obtain ⟨fuel, hf⟩ := h1
    rcases open_ints Tryz.underlying22 Tryz.underlying5 (by kernel_rfl) hf with ⟨hcs, _⟩ | ⟨x, l, c, zs, hcs, _, hl, hm, hz, _, hcell, hwz⟩
    · simp [Value.cells] at hcs
      obtain ⟨rfl, rfl, rfl⟩ := hcs
      exact ⟨[], .inl ⟨rfl, rfl, rfl, rfl⟩⟩
    · simp [Value.cells] at hcs
      obtain ⟨rfl, rfl, rfl⟩ := hcs
      exact ⟨zs, .inr ⟨_, rfl, hl, hm, by simpa using hz, hcell, hwz⟩⟩
  obtain ⟨a2, len2, cap2, rfl⟩ := okWide_slice Tryz.underlying22 (hval 2 22 v2 rfl rfl)
  have k2 := h2
  have lt2 : ∀ x ∈ p2, x.block < W.heap.size := by obtain ⟨m, hm⟩ := k2; exact DataW.trod_lt m _ _ _ hm
  obtain ⟨z2, w2⟩ : ∃ zs, IsRow .u8 W a2 len2 cap2 zs := by
    obtain ⟨fuel, hf⟩ := h2
    rcases open_ints Tryz.underlying22 Tryz.underlying5 (by kernel_rfl) hf with ⟨hcs, _⟩ | ⟨x, l, c, zs, hcs, _, hl, hm, hz, _, hcell, hwz⟩
    · simp [Value.cells] at hcs
      obtain ⟨rfl, rfl, rfl⟩ := hcs
      exact ⟨[], .inl ⟨rfl, rfl, rfl, rfl⟩⟩
    · simp [Value.cells] at hcs
      obtain ⟨rfl, rfl, rfl⟩ := hcs
      exact ⟨zs, .inr ⟨_, rfl, hl, hm, by simpa using hz, hcell, hwz⟩⟩
  clear hA0 hval0
  refine (hw a0 len0 cap0 z0 a1 len1 cap1 z1 a2 len2 cap2 z2 W w0 w1 w2 (gl hL hsh)).mono fun e W' ⟨he, bel⟩ => ?_
  subst he
  exact ⟨_, rfl, _, _, _, [], _, [], hW', trodAll_mk1 (shut_bool Tryz.underlying4 _), (trodAll_cons_mk (Below.trod laidOut (by kernel_rfl) (of_decide_eq_true (by kernel_rfl)) k0 bel lt0) (trodAll_cons_mk (Below.trod laidOut (by kernel_rfl) (of_decide_eq_true (by kernel_rfl)) k1 bel lt1) (trodAll_cons_mk (Below.trod laidOut (by kernel_rfl) (of_decide_eq_true (by kernel_rfl)) k2 bel lt2) trodAll_mk0))), rfl, bel.frame _, fun h => by cases h⟩

/-- The door's own heap meets the condition. -/
theorem door_met (os : Os) : laidMet Tryz.prog Rows.privLeastRow.laid ((World.laidAll Tryz.prog os Rows.privLeastRow.laid).forCall (fun _ _ => 0) ⟨#[], #[.slice none 0 0, .slice none 0 0, .slice none 0 0], []⟩).memory :=
  laidMet_laidAll _ (by kernel_rfl) (by kernel_rfl)
theorem reads (os : Os) {H : Type} (enc : TypeId × Value → H) : ∃ places, DataW.whole enc Tryz.prog ((World.laidAll Tryz.prog os Rows.privLeastRow.laid).forCall (fun _ _ => 0) ⟨#[], #[.slice none 0 0, .slice none 0 0, .slice none 0 0], []⟩).memory Tryz.f6.params.toList Rows.privLeastSpec.vars false #[Value.slice none 0 0, Value.slice none 0 0, Value.slice none 0 0].toList 8 = some ([.nil, .nil, .nil], [], places) :=
  ⟨[], by kernel_rfl⟩

set_option maxRecDepth 100000 in
theorem lifted (hw : Walks) (os : Os) (started : os.Started) (H : Type) (enc : TypeId × Value → H) (F : Stop.Interp) :
    ReturnsInHanded {} Tryz.checked os 6 .any ((OpenSpec.ofChange Rows.privLeastSpec).preRow enc Tryz.prog Tryz.f6 Rows.privLeastRow.domain false Rows.privLeastRow.laid) (((OpenSpec.ofChange Rows.privLeastSpec).at F).post enc Tryz.prog Tryz.f6 false true false false) := by
  obtain ⟨places, hx⟩ := reads os enc
  refine returnsInHanded_of_row (C := Tryz.checked) (s := OpenSpec.ofChange Rows.privLeastSpec) own started (by kernel_rfl) Tryz.func6
    (witness_row_at (enc := enc) (C := Tryz.checked) false (World.laidAll Tryz.prog os Rows.privLeastRow.laid) #[.slice none 0 0, .slice none 0 0, .slice none 0 0] (World.laidAll_os _ _ _) (by kernel_rfl) (by kernel_rfl) (by kernel_rfl)
      (OpenSpec.preRow_of_cond 8 hx (by kernel_rfl) (fun k hk => by cases hk) (by kernel_rfl) (door_met os))) ?_
  intro W base args ds gs before hval hW _ _ _ hL hsh _
  exact contract hw H enc W base args ds gs before hval hW hL hsh

theorem said (hw : Walks) : Rows.PrivLeastSaid :=
  OpenClaim.holds_of_cond 6 Tryz.f6 rfl rfl rfl rfl rfl rfl rfl ⟨rfl, rfl, rfl, rfl, rfl⟩ rfl rfl rfl rfl rfl (by kernel_rfl) Tryz.func6 (by kernel_rfl)
    (of_decide_eq_true (by kernel_rfl)) (by unfold Func.isWrapper; first | (rw [if_pos (by decide +kernel)]; kernel_rfl) | (rw [if_neg (by decide +kernel)]; exact ⟨rfl, rfl⟩))
    (fun os started H enc _ F => by rw [OpenClaim.pre_eq_preRow]; exact lifted hw os started H enc F)

/-- No parameter wants a stand-in; the program's own looks are off. -/
theorem plain (f : FuncId) (fn : Func) (hf : Tryz.pinned.checked.prog.funcNamed "cordon/cordonlaw10.PrivLeast" = some f) (hfn : Tryz.pinned.checked.prog.funcs[f]? = some fn) :
    false = Tryz.pinned.checked.prog.looks [] ∧ ∀ (j : Nat) t, fn.params[j]? = some t → Tryz.pinned.checked.prog.wantsStandIn t = false := by
  obtain rfl : f = 6 := Option.some.inj ((show Tryz.prog.funcNamed "cordon/cordonlaw10.PrivLeast" = some 6 by kernel_rfl).symm.trans hf) |>.symm
  obtain rfl : fn = Tryz.f6 := (Option.some.inj (Tryz.func6.symm.trans hfn)).symm
  refine ⟨by kernel_rfl, fun j t ht => ?_⟩
  rw [Tryz.params6] at ht
  obtain rfl : t = 22 := by simpa using Array.mem_of_getElem? ht
  exact (show Tryz.prog.wantsStandIn 22 = false by kernel_rfl)

/-- The card, given the walk. -/
theorem card (hw : Walks) : Rows.PrivLeastCardSaid :=
  Claim7.holds_tied_plain_at .later [] _ _ _ _ (said hw) (fun _ h => by cases h) (by kernel_rfl) (fun _ h => by cases h) privLeast_row_tie rfl ⟨rfl, rfl⟩ (by kernel_rfl) rfl plain (by kernel_rfl)

end Go.Proofs.YtpabhppghljipaaGreatDoor.privLeast

namespace Go.Proofs.YtpabhppghljipaaGreatDoor.Frm
set_option linter.unusedVariables false

/-- The set that a number's bits tell, of these names. -/
def setB {α : Type} [DecidableEq α] (names : List α) (s : Nat) : α → Bool := fun p => (List.range names.length).any fun i => decide (names[i]? = some p) && decide (s / 2 ^ i % 2 = 1)
theorem set_iff {α : Type} [DecidableEq α] (names : List α) (s : Nat) (p : α) : setB names s p = true ↔ ∃ i : Nat, names[i]? = some p ∧ s / 2 ^ i % 2 = 1 := by
  unfold setB
  rw [List.any_eq_true]
  constructor
  · rintro ⟨i, _, h⟩
    rw [Bool.and_eq_true] at h
    exact ⟨i, of_decide_eq_true h.1, of_decide_eq_true h.2⟩
  · rintro ⟨i, h1, h2⟩
    refine ⟨i, List.mem_range.2 (List.getElem?_eq_some_iff.1 h1).1, ?_⟩
    rw [decide_eq_true h1, decide_eq_true h2]; rfl
/-- The number of a set. -/
def numB {α : Type} (S : α → Bool) : List α → Nat
  | [] => 0
  | p :: r => (if S p = true then 1 else 0) + 2 * numB S r
theorem num_lt {α : Type} (S : α → Bool) : ∀ names : List α, numB S names < 2 ^ names.length
  | [] => by simp [numB]
  | p :: r => by
    have ih := num_lt S r
    rw [numB, List.length_cons, Nat.pow_succ]
    split <;> omega
theorem num_bit {α : Type} (S : α → Bool) : ∀ (names : List α) (i : Nat) (p : α), names[i]? = some p → (numB S names / 2 ^ i % 2 = 1 ↔ S p = true)
  | [], i, p, h => by simp at h
  | q :: r, 0, p, h => by
    obtain rfl : q = p := by simpa using h
    rw [numB, Nat.pow_zero, Nat.div_one]
    split
    · rename_i hs; exact ⟨fun _ => hs, fun _ => by omega⟩
    · rename_i hs; exact ⟨fun h => by omega, fun h => absurd h hs⟩
  | q :: r, i + 1, p, h => by
    have ih := num_bit S r i p (by simpa using h)
    rw [numB, Nat.pow_succ', ← Nat.div_div_eq_div_mul]
    have e : ((if S q = true then 1 else 0) + 2 * numB S r) / 2 = numB S r := by split <;> omega
    rw [e]; exact ih
theorem set_num {α : Type} [DecidableEq α] (S : α → Bool) (names : List α) (hd : names.Nodup) (p : α) (hp : p ∈ names) : setB names (numB S names) p = S p := by
  rw [Bool.eq_iff_iff, set_iff]
  constructor
  · rintro ⟨i, h1, h2⟩
    exact (num_bit S names i p h1).1 h2
  · intro h
    obtain ⟨i, hi, rfl⟩ := List.mem_iff_getElem.1 hp
    have h1 : names[i]? = some names[i] := List.getElem?_eq_getElem hi
    exact ⟨i, h1, (num_bit S names i _ h1).2 h⟩
theorem holds_same {α : Type} (f : List (List α)) (S T : α → Bool) (h : ∀ c ∈ f, ∀ p ∈ c, S p = T p) : holdsB f S = holdsB f T := by
  rw [Bool.eq_iff_iff, holds_iff, holds_iff]
  constructor
  · intro k c hc
    obtain ⟨p, hp, h1⟩ := k c hc
    exact ⟨p, hp, by rw [← h c hc p hp]; exact h1⟩
  · intro k c hc
    obtain ⟨p, hp, h1⟩ := k c hc
    exact ⟨p, hp, by rw [h c hc p hp]; exact h1⟩
/-- Implying, set by set of the names. -/
theorem imp_names {α : Type} [DecidableEq α] (names : List α) (hd : names.Nodup) (f g : List (List α)) (hf : ∀ c ∈ f, ∀ p ∈ c, p ∈ names) (hg : ∀ c ∈ g, ∀ p ∈ c, p ∈ names) :
    impB f g = true ↔ ∀ s : Nat, s < 2 ^ names.length → holdsB f (setB names s) = true → holdsB g (setB names s) = true := by
  rw [imp_means]
  constructor
  · intro h s _; exact h _
  · intro h S hS
    have e1 := holds_same f (setB names (numB S names)) S fun c hc p hp => set_num S names hd p (hf c hc p hp)
    have e2 := holds_same g (setB names (numB S names)) S fun c hc p hp => set_num S names hd p (hg c hc p hp)
    rw [← e2]
    exact h _ (num_lt S names) (by rw [e1]; exact hS)

/-- What is left of clauses: those within which no other one is. -/
def least {α : Type} (l : List (List α)) (x : List α) : Prop := x ∈ l ∧ ∀ y ∈ l, (∀ p ∈ y, p ∈ x) → ∀ p ∈ x, p ∈ y
theorem least_under {α : Type} [DecidableEq α] (l : List (List α)) : ∀ (n : Nat) (x : List α), x ∈ l → (∀ y ∈ l, y.Nodup) → x.length ≤ n → ∃ y, least l y ∧ ∀ p ∈ y, p ∈ x := by
  intro n
  induction n with
  | zero =>
    intro x hx hd hl
    have : x = [] := List.eq_nil_of_length_eq_zero (by omega)
    subst this
    exact ⟨[], ⟨hx, fun y _ _ p hp => by cases hp⟩, fun p hp => hp⟩
  | succ n ih =>
    intro x hx hd hl
    by_cases h : ∃ y, y ∈ l ∧ (∀ p ∈ y, p ∈ x) ∧ ∃ p, p ∈ x ∧ p ∉ y
    · obtain ⟨y, hy, hs, p, hp, hpy⟩ := h
      have hlt : y.length ≤ n := by
        have h1 : y.length ≤ (x.erase p).length := by
          refine (hd y hy).length_le_of_subset fun q hq => ?_
          exact (List.mem_erase_of_ne (fun e => hpy (by rw [← e]; exact hq))).2 (hs q hq)
        rw [List.length_erase_of_mem hp] at h1
        omega
      obtain ⟨z, hz, hzs⟩ := ih y hy hd hlt
      exact ⟨z, hz, fun q hq => hs q (hzs q hq)⟩
    · exact ⟨x, ⟨hx, fun y hy hs p hp => Decidable.byContradiction fun hpy => h ⟨y, hy, hs, p, hp, hpy⟩⟩, fun p hp => hp⟩
/-- What is left holds for the same sets. -/
theorem left_holds {α : Type} [DecidableEq α] (l r : List (List α)) (hd : ∀ y ∈ l, y.Nodup) (h1 : ∀ x ∈ r, x ∈ l) (h2 : ∀ x, least l x → ∃ y ∈ r, ∀ p ∈ y, p ∈ x) (S : α → Bool) : holdsB r S = holdsB l S := by
  rw [Bool.eq_iff_iff, holds_iff, holds_iff]
  constructor
  · intro h c hc
    obtain ⟨x, hx, hs⟩ := least_under l c.length c hc hd (Nat.le_refl _)
    obtain ⟨y, hy, ht⟩ := h2 x hx
    obtain ⟨p, hp, k⟩ := h y hy
    exact ⟨p, hs p (ht p hp), k⟩
  · intro h c hc
    exact h c (h1 c hc)
end Go.Proofs.YtpabhppghljipaaGreatDoor.Frm

namespace Go.Proofs.YtpabhppghljipaaGreatDoor.privMore
open Go.ChangeShapes Go.WideShapes Go.ChangeAt Go.RowKit
set_option linter.unusedVariables false

theorem own : ownKnob Tryz.prog.godebug = none := by kernel_rfl
theorem laidOut : laidOutB Tryz.prog = true := by kernel_rfl
theorem gTab : Tryz.prog.globalNamed "internal/strconv.uint64pow10" = some 3 := by kernel_rfl

def IsRow (k : IntKind) (w : World) (a : Option Addr) (len cap : Nat) (zs : List Int) : Prop :=
  (a = none ∧ len = 0 ∧ cap = 0 ∧ zs = []) ∨
  ∃ x, a = some x ∧ len ≤ cap ∧ cap ≤ maxLen ∧ zs.length = cap ∧ (∀ i, i < zs.length → w.cell? (x.add i) = some (.int k (zs.getD i 0))) ∧ ∀ n ∈ zs, (Lit.int k n).wf = true

/-- The law's walk. -/
def Walks : Prop := ∀ (a0 : Option Addr) (len0 cap0 : Nat) (z0 : List Int) (a1 : Option Addr) (len1 cap1 : Nat) (z1 : List Int) (a2 : Option Addr) (len2 cap2 : Nat) (z2 : List Int) (a3 : Option Addr) (len3 cap3 : Nat) (z3 : List Int) (w : World), IsRow .u8 w a0 len0 cap0 z0 → IsRow .u8 w a1 len1 cap1 z1 → IsRow .u8 w a2 len2 cap2 z2 → IsRow .u8 w a3 len3 cap3 z3 → Url.Gl w →
  Calls Tryz.prog 5 #[.slice a0 len0 cap0, .slice a1 len1 cap1, .slice a2 len2 cap2, .slice a3 len3 cap3] w fun e w' => e = .returned (.bool true) ∧ Below w.heap.size w w'

theorem gl {W : World} (hL : laidMetH Tryz.prog Rows.privMoreRow.laid W) (hsh : W.ShapedOpen Tryz.prog) : Url.Gl W := by
  refine ⟨?_, ?_⟩
  · exact cell_of_shapedOpen_int (t := 3) (zero := #[.int .i64 0]) hsh (by decide +kernel) (by kernel_rfl) rfl (by kernel_rfl) (by kernel_rfl) (by kernel_rfl)
  · have hL' : laidMet Tryz.prog Rows.privMoreRow.laid W := by
      rw [MakeChecks.laidMetH_plain _ _ _ (by kernel_rfl)] at hL; exact hL
    exact Lib.tabIs_of_head (rest := [("unicode/utf8.acceptRanges", Rows.laid_unicode_utf8_acceptRanges), ("unicode/utf8.first", Rows.laid_unicode_utf8_first)]) (t := 246) (e := 153) (n := 20) (k := .u64) (zs := Lib.pow10Tab) (g := 3) gTab (by kernel_rfl) (by kernel_rfl) (by kernel_rfl) (by kernel_rfl) (by kernel_rfl) (show laidMet Tryz.prog [("internal/strconv.uint64pow10", Lib.tabData .u64 Lib.pow10Tab), ("unicode/utf8.acceptRanges", Rows.laid_unicode_utf8_acceptRanges), ("unicode/utf8.first", Rows.laid_unicode_utf8_first)] W from hL'.tail.tail)

set_option maxRecDepth 100000 in
/-- What the walk gives, for every argument and every world that holds the listed tables. -/
theorem contract (hw : Walks) (H : Type) (enc : TypeId × Value → H) (W : World) (base : Nat) (args : Array Value) (ds gs : List (DataW H)) (before : List MemPlace)
    (hval0 : ∀ (j : Nat) t v, Tryz.f5.params[j]? = some t → args[j]? = some v → Value.okWide Tryz.prog W .any base t v)
    (hW : DataW.Whole enc Tryz.prog Tryz.f5.params.toList Rows.privMoreSpec.vars false W args.toList ds gs before) (hL : laidMetH Tryz.prog Rows.privMoreRow.laid W) (hsh : W.ShapedOpen Tryz.prog) :
    Calls Tryz.prog 5 args W fun e W' => ∃ v, e = .returned v ∧ Rows.privMoreSpec.post enc Tryz.prog Tryz.f5 false true false false W args v W' := by
  have hval : ∀ (j : Nat) t v, Tryz.f5.params[j]? = some t → args[j]? = some v → Value.okWide Tryz.prog W .any base t v := hval0
  have hW' := hW
  obtain ⟨p, q, hA0, hV, rfl, hfz, hnd⟩ := hW
  have hA : DataW.TrodAll enc Tryz.prog W 0 (fun _ => true) true Tryz.f5.params.toList args.toList ds p := hA0
  rw [Tryz.params5] at hA hval
  obtain ⟨v0, vs0, d0, ds0, p0, q0, hargs, rfl, rfl, h0, r0⟩ := trodAll_cons hA
  obtain ⟨v1, vs1, d1, ds1, p1, q1, rfl, rfl, rfl, h1, r1⟩ := trodAll_cons r0
  obtain ⟨v2, vs2, d2, ds2, p2, q2, rfl, rfl, rfl, h2, r2⟩ := trodAll_cons r1
  obtain ⟨v3, vs3, d3, ds3, p3, q3, rfl, rfl, rfl, h3, r3⟩ := trodAll_cons r2
  obtain ⟨rfl, rfl, rfl⟩ := trodAll_nil r3
  obtain rfl : args = #[v0, v1, v2, v3] := by cases args; simp_all
  obtain ⟨rfl, rfl⟩ := trodVars_none hV
  obtain ⟨a0, len0, cap0, rfl⟩ := okWide_slice Tryz.underlying22 (hval 0 22 v0 rfl rfl)
  have k0 := h0
  have lt0 : ∀ x ∈ p0, x.block < W.heap.size := by obtain ⟨m, hm⟩ := k0; exact DataW.trod_lt m _ _ _ hm
  obtain ⟨z0, w0⟩ : ∃ zs, IsRow .u8 W a0 len0 cap0 zs := by
    obtain ⟨fuel, hf⟩ := h0
    rcases open_ints Tryz.underlying22 Tryz.underlying5 (by kernel_rfl) hf with ⟨hcs, _⟩ | ⟨x, l, c, zs, hcs, _, hl, hm, hz, _, hcell, hwz⟩
    · simp [Value.cells] at hcs
      obtain ⟨rfl, rfl, rfl⟩ := hcs
      exact ⟨[], .inl ⟨rfl, rfl, rfl, rfl⟩⟩
    · simp [Value.cells] at hcs
      obtain ⟨rfl, rfl, rfl⟩ := hcs
      exact ⟨zs, .inr ⟨_, rfl, hl, hm, by simpa using hz, hcell, hwz⟩⟩
  obtain ⟨a1, len1, cap1, rfl⟩ := okWide_slice Tryz.underlying22 (hval 1 22 v1 rfl rfl)
  have k1 := h1
  have lt1 : ∀ x ∈ p1, x.block < W.heap.size := by obtain ⟨m, hm⟩ := k1; exact DataW.trod_lt m _ _ _ hm
  obtain ⟨z1, w1⟩ : ∃ zs, IsRow .u8 W a1 len1 cap1 zs := by
    obtain ⟨fuel, hf⟩ := h1
    rcases open_ints Tryz.underlying22 Tryz.underlying5 (by kernel_rfl) hf with ⟨hcs, _⟩ | ⟨x, l, c, zs, hcs, _, hl, hm, hz, _, hcell, hwz⟩
    · simp [Value.cells] at hcs
      obtain ⟨rfl, rfl, rfl⟩ := hcs
      exact ⟨[], .inl ⟨rfl, rfl, rfl, rfl⟩⟩
    · simp [Value.cells] at hcs
      obtain ⟨rfl, rfl, rfl⟩ := hcs
      exact ⟨zs, .inr ⟨_, rfl, hl, hm, by simpa using hz, hcell, hwz⟩⟩
  obtain ⟨a2, len2, cap2, rfl⟩ := okWide_slice Tryz.underlying22 (hval 2 22 v2 rfl rfl)
  have k2 := h2
  have lt2 : ∀ x ∈ p2, x.block < W.heap.size := by obtain ⟨m, hm⟩ := k2; exact DataW.trod_lt m _ _ _ hm
  obtain ⟨z2, w2⟩ : ∃ zs, IsRow .u8 W a2 len2 cap2 zs := by
    obtain ⟨fuel, hf⟩ := h2
    rcases open_ints Tryz.underlying22 Tryz.underlying5 (by kernel_rfl) hf with ⟨hcs, _⟩ | ⟨x, l, c, zs, hcs, _, hl, hm, hz, _, hcell, hwz⟩
    · simp [Value.cells] at hcs
      obtain ⟨rfl, rfl, rfl⟩ := hcs
      exact ⟨[], .inl ⟨rfl, rfl, rfl, rfl⟩⟩
    · simp [Value.cells] at hcs
      obtain ⟨rfl, rfl, rfl⟩ := hcs
      exact ⟨zs, .inr ⟨_, rfl, hl, hm, by simpa using hz, hcell, hwz⟩⟩
  obtain ⟨a3, len3, cap3, rfl⟩ := okWide_slice Tryz.underlying22 (hval 3 22 v3 rfl rfl)
  have k3 := h3
  have lt3 : ∀ x ∈ p3, x.block < W.heap.size := by obtain ⟨m, hm⟩ := k3; exact DataW.trod_lt m _ _ _ hm
  obtain ⟨z3, w3⟩ : ∃ zs, IsRow .u8 W a3 len3 cap3 zs := by
    obtain ⟨fuel, hf⟩ := h3
    rcases open_ints Tryz.underlying22 Tryz.underlying5 (by kernel_rfl) hf with ⟨hcs, _⟩ | ⟨x, l, c, zs, hcs, _, hl, hm, hz, _, hcell, hwz⟩
    · simp [Value.cells] at hcs
      obtain ⟨rfl, rfl, rfl⟩ := hcs
      exact ⟨[], .inl ⟨rfl, rfl, rfl, rfl⟩⟩
    · simp [Value.cells] at hcs
      obtain ⟨rfl, rfl, rfl⟩ := hcs
      exact ⟨zs, .inr ⟨_, rfl, hl, hm, by simpa using hz, hcell, hwz⟩⟩
  clear hA0 hval0
  refine (hw a0 len0 cap0 z0 a1 len1 cap1 z1 a2 len2 cap2 z2 a3 len3 cap3 z3 W w0 w1 w2 w3 (gl hL hsh)).mono fun e W' ⟨he, bel⟩ => ?_
  subst he
  exact ⟨_, rfl, _, _, _, [], _, [], hW', trodAll_mk1 (shut_bool Tryz.underlying4 _), (trodAll_cons_mk (Below.trod laidOut (by kernel_rfl) (of_decide_eq_true (by kernel_rfl)) k0 bel lt0) (trodAll_cons_mk (Below.trod laidOut (by kernel_rfl) (of_decide_eq_true (by kernel_rfl)) k1 bel lt1) (trodAll_cons_mk (Below.trod laidOut (by kernel_rfl) (of_decide_eq_true (by kernel_rfl)) k2 bel lt2) (trodAll_cons_mk (Below.trod laidOut (by kernel_rfl) (of_decide_eq_true (by kernel_rfl)) k3 bel lt3) trodAll_mk0)))), rfl, bel.frame _, fun h => by cases h⟩

/-- The door's own heap meets the condition. -/
theorem door_met (os : Os) : laidMet Tryz.prog Rows.privMoreRow.laid ((World.laidAll Tryz.prog os Rows.privMoreRow.laid).forCall (fun _ _ => 0) ⟨#[], #[.slice none 0 0, .slice none 0 0, .slice none 0 0, .slice none 0 0], []⟩).memory :=
  laidMet_laidAll _ (by kernel_rfl) (by kernel_rfl)
theorem reads (os : Os) {H : Type} (enc : TypeId × Value → H) : ∃ places, DataW.whole enc Tryz.prog ((World.laidAll Tryz.prog os Rows.privMoreRow.laid).forCall (fun _ _ => 0) ⟨#[], #[.slice none 0 0, .slice none 0 0, .slice none 0 0, .slice none 0 0], []⟩).memory Tryz.f5.params.toList Rows.privMoreSpec.vars false #[Value.slice none 0 0, Value.slice none 0 0, Value.slice none 0 0, Value.slice none 0 0].toList 8 = some ([.nil, .nil, .nil, .nil], [], places) :=
  ⟨[], by kernel_rfl⟩

set_option maxRecDepth 100000 in
theorem lifted (hw : Walks) (os : Os) (started : os.Started) (H : Type) (enc : TypeId × Value → H) (F : Stop.Interp) :
    ReturnsInHanded {} Tryz.checked os 5 .any ((OpenSpec.ofChange Rows.privMoreSpec).preRow enc Tryz.prog Tryz.f5 Rows.privMoreRow.domain false Rows.privMoreRow.laid) (((OpenSpec.ofChange Rows.privMoreSpec).at F).post enc Tryz.prog Tryz.f5 false true false false) := by
  obtain ⟨places, hx⟩ := reads os enc
  refine returnsInHanded_of_row (C := Tryz.checked) (s := OpenSpec.ofChange Rows.privMoreSpec) own started (by kernel_rfl) Tryz.func5
    (witness_row_at (enc := enc) (C := Tryz.checked) false (World.laidAll Tryz.prog os Rows.privMoreRow.laid) #[.slice none 0 0, .slice none 0 0, .slice none 0 0, .slice none 0 0] (World.laidAll_os _ _ _) (by kernel_rfl) (by kernel_rfl) (by kernel_rfl)
      (OpenSpec.preRow_of_cond 8 hx (by kernel_rfl) (fun k hk => by cases hk) (by kernel_rfl) (door_met os))) ?_
  intro W base args ds gs before hval hW _ _ _ hL hsh _
  exact contract hw H enc W base args ds gs before hval hW hL hsh

theorem said (hw : Walks) : Rows.PrivMoreSaid :=
  OpenClaim.holds_of_cond 5 Tryz.f5 rfl rfl rfl rfl rfl rfl rfl ⟨rfl, rfl, rfl, rfl, rfl⟩ rfl rfl rfl rfl rfl (by kernel_rfl) Tryz.func5 (by kernel_rfl)
    (of_decide_eq_true (by kernel_rfl)) (by unfold Func.isWrapper; first | (rw [if_pos (by decide +kernel)]; kernel_rfl) | (rw [if_neg (by decide +kernel)]; exact ⟨rfl, rfl⟩))
    (fun os started H enc _ F => by rw [OpenClaim.pre_eq_preRow]; exact lifted hw os started H enc F)

/-- No parameter wants a stand-in; the program's own looks are off. -/
theorem plain (f : FuncId) (fn : Func) (hf : Tryz.pinned.checked.prog.funcNamed "cordon/cordonlaw10.PrivMore" = some f) (hfn : Tryz.pinned.checked.prog.funcs[f]? = some fn) :
    false = Tryz.pinned.checked.prog.looks [] ∧ ∀ (j : Nat) t, fn.params[j]? = some t → Tryz.pinned.checked.prog.wantsStandIn t = false := by
  obtain rfl : f = 5 := Option.some.inj ((show Tryz.prog.funcNamed "cordon/cordonlaw10.PrivMore" = some 5 by kernel_rfl).symm.trans hf) |>.symm
  obtain rfl : fn = Tryz.f5 := (Option.some.inj (Tryz.func5.symm.trans hfn)).symm
  refine ⟨by kernel_rfl, fun j t ht => ?_⟩
  rw [Tryz.params5] at ht
  obtain rfl : t = 22 := by simpa using Array.mem_of_getElem? ht
  exact (show Tryz.prog.wantsStandIn 22 = false by kernel_rfl)

/-- The card, given the walk. -/
theorem card (hw : Walks) : Rows.PrivMoreCardSaid :=
  Claim7.holds_tied_plain_at .later [] _ _ _ _ (said hw) (fun _ h => by cases h) (by kernel_rfl) (fun _ h => by cases h) privMore_row_tie rfl ⟨rfl, rfl⟩ (by kernel_rfl) rfl plain (by kernel_rfl)

end Go.Proofs.YtpabhppghljipaaGreatDoor.privMore

namespace Go.Proofs.YtpabhppghljipaaGreatDoor.privMeans
open Go.ChangeShapes Go.WideShapes Go.ChangeAt Go.RowKit
set_option linter.unusedVariables false

theorem own : ownKnob Tryz.prog.godebug = none := by kernel_rfl
theorem laidOut : laidOutB Tryz.prog = true := by kernel_rfl
theorem gTab : Tryz.prog.globalNamed "internal/strconv.uint64pow10" = some 3 := by kernel_rfl

def IsRow (k : IntKind) (w : World) (a : Option Addr) (len cap : Nat) (zs : List Int) : Prop :=
  (a = none ∧ len = 0 ∧ cap = 0 ∧ zs = []) ∨
  ∃ x, a = some x ∧ len ≤ cap ∧ cap ≤ maxLen ∧ zs.length = cap ∧ (∀ i, i < zs.length → w.cell? (x.add i) = some (.int k (zs.getD i 0))) ∧ ∀ n ∈ zs, (Lit.int k n).wf = true

/-- The law's walk. -/
def Walks : Prop := ∀ (a0 : Option Addr) (len0 cap0 : Nat) (z0 : List Int) (a1 : Option Addr) (len1 cap1 : Nat) (z1 : List Int) (a2 : Option Addr) (len2 cap2 : Nat) (z2 : List Int) (w : World), IsRow .u8 w a0 len0 cap0 z0 → IsRow .u8 w a1 len1 cap1 z1 → IsRow .u8 w a2 len2 cap2 z2 → Url.Gl w →
  Calls Tryz.prog 4 #[.slice a0 len0 cap0, .slice a1 len1 cap1, .slice a2 len2 cap2] w fun e w' => e = .returned (.bool true) ∧ Below w.heap.size w w'

theorem gl {W : World} (hL : laidMetH Tryz.prog Rows.privMeansRow.laid W) (hsh : W.ShapedOpen Tryz.prog) : Url.Gl W := by
  refine ⟨?_, ?_⟩
  · exact cell_of_shapedOpen_int (t := 3) (zero := #[.int .i64 0]) hsh (by decide +kernel) (by kernel_rfl) rfl (by kernel_rfl) (by kernel_rfl) (by kernel_rfl)
  · have hL' : laidMet Tryz.prog Rows.privMeansRow.laid W := by
      rw [MakeChecks.laidMetH_plain _ _ _ (by kernel_rfl)] at hL; exact hL
    exact Lib.tabIs_of_head (rest := [("unicode/utf8.acceptRanges", Rows.laid_unicode_utf8_acceptRanges), ("unicode/utf8.first", Rows.laid_unicode_utf8_first)]) (t := 246) (e := 153) (n := 20) (k := .u64) (zs := Lib.pow10Tab) (g := 3) gTab (by kernel_rfl) (by kernel_rfl) (by kernel_rfl) (by kernel_rfl) (by kernel_rfl) (show laidMet Tryz.prog [("internal/strconv.uint64pow10", Lib.tabData .u64 Lib.pow10Tab), ("unicode/utf8.acceptRanges", Rows.laid_unicode_utf8_acceptRanges), ("unicode/utf8.first", Rows.laid_unicode_utf8_first)] W from hL'.tail.tail)

set_option maxRecDepth 100000 in
/-- What the walk gives, for every argument and every world that holds the listed tables. -/
theorem contract (hw : Walks) (H : Type) (enc : TypeId × Value → H) (W : World) (base : Nat) (args : Array Value) (ds gs : List (DataW H)) (before : List MemPlace)
    (hval0 : ∀ (j : Nat) t v, Tryz.f4.params[j]? = some t → args[j]? = some v → Value.okWide Tryz.prog W .any base t v)
    (hW : DataW.Whole enc Tryz.prog Tryz.f4.params.toList Rows.privMeansSpec.vars false W args.toList ds gs before) (hL : laidMetH Tryz.prog Rows.privMeansRow.laid W) (hsh : W.ShapedOpen Tryz.prog) :
    Calls Tryz.prog 4 args W fun e W' => ∃ v, e = .returned v ∧ Rows.privMeansSpec.post enc Tryz.prog Tryz.f4 false true false false W args v W' := by
  have hval : ∀ (j : Nat) t v, Tryz.f4.params[j]? = some t → args[j]? = some v → Value.okWide Tryz.prog W .any base t v := hval0
  have hW' := hW
  obtain ⟨p, q, hA0, hV, rfl, hfz, hnd⟩ := hW
  have hA : DataW.TrodAll enc Tryz.prog W 0 (fun _ => true) true Tryz.f4.params.toList args.toList ds p := hA0
  rw [Tryz.params4] at hA hval
  obtain ⟨v0, vs0, d0, ds0, p0, q0, hargs, rfl, rfl, h0, r0⟩ := trodAll_cons hA
  obtain ⟨v1, vs1, d1, ds1, p1, q1, rfl, rfl, rfl, h1, r1⟩ := trodAll_cons r0
  obtain ⟨v2, vs2, d2, ds2, p2, q2, rfl, rfl, rfl, h2, r2⟩ := trodAll_cons r1
  obtain ⟨rfl, rfl, rfl⟩ := trodAll_nil r2
  obtain rfl : args = #[v0, v1, v2] := by cases args; simp_all
  obtain ⟨rfl, rfl⟩ := trodVars_none hV
  obtain ⟨a0, len0, cap0, rfl⟩ := okWide_slice Tryz.underlying22 (hval 0 22 v0 rfl rfl)
  have k0 := h0
  have lt0 : ∀ x ∈ p0, x.block < W.heap.size := by obtain ⟨m, hm⟩ := k0; exact DataW.trod_lt m _ _ _ hm
  obtain ⟨z0, w0⟩ : ∃ zs, IsRow .u8 W a0 len0 cap0 zs := by
    obtain ⟨fuel, hf⟩ := h0
    rcases open_ints Tryz.underlying22 Tryz.underlying5 (by kernel_rfl) hf with ⟨hcs, _⟩ | ⟨x, l, c, zs, hcs, _, hl, hm, hz, _, hcell, hwz⟩
    · simp [Value.cells] at hcs
      obtain ⟨rfl, rfl, rfl⟩ := hcs
      exact ⟨[], .inl ⟨rfl, rfl, rfl, rfl⟩⟩
    · simp [Value.cells] at hcs
      obtain ⟨rfl, rfl, rfl⟩ := hcs
      exact ⟨zs, .inr ⟨_, rfl, hl, hm, by simpa using hz, hcell, hwz⟩⟩
  obtain ⟨a1, len1, cap1, rfl⟩ := okWide_slice Tryz.underlying22 (hval 1 22 v1 rfl rfl)
  have k1 := h1
  have lt1 : ∀ x ∈ p1, x.block < W.heap.size := by obtain ⟨m, hm⟩ := k1; exact DataW.trod_lt m _ _ _ hm
  obtain ⟨z1, w1⟩ : ∃ zs, IsRow .u8 W a1 len1 cap1 zs := by
    obtain ⟨fuel, hf⟩ := h1
    rcases open_ints Tryz.underlying22 Tryz.underlying5 (by kernel_rfl) hf with ⟨hcs, _⟩ | ⟨x, l, c, zs, hcs, _, hl, hm, hz, _, hcell, hwz⟩
    · simp [Value.cells] at hcs
      obtain ⟨rfl, rfl, rfl⟩ := hcs
      exact ⟨[], .inl ⟨rfl, rfl, rfl, rfl⟩⟩
    · simp [Value.cells] at hcs
      obtain ⟨rfl, rfl, rfl⟩ := hcs
      exact ⟨zs, .inr ⟨_, rfl, hl, hm, by simpa using hz, hcell, hwz⟩⟩
  obtain ⟨a2, len2, cap2, rfl⟩ := okWide_slice Tryz.underlying22 (hval 2 22 v2 rfl rfl)
  have k2 := h2
  have lt2 : ∀ x ∈ p2, x.block < W.heap.size := by obtain ⟨m, hm⟩ := k2; exact DataW.trod_lt m _ _ _ hm
  obtain ⟨z2, w2⟩ : ∃ zs, IsRow .u8 W a2 len2 cap2 zs := by
    obtain ⟨fuel, hf⟩ := h2
    rcases open_ints Tryz.underlying22 Tryz.underlying5 (by kernel_rfl) hf with ⟨hcs, _⟩ | ⟨x, l, c, zs, hcs, _, hl, hm, hz, _, hcell, hwz⟩
    · simp [Value.cells] at hcs
      obtain ⟨rfl, rfl, rfl⟩ := hcs
      exact ⟨[], .inl ⟨rfl, rfl, rfl, rfl⟩⟩
    · simp [Value.cells] at hcs
      obtain ⟨rfl, rfl, rfl⟩ := hcs
      exact ⟨zs, .inr ⟨_, rfl, hl, hm, by simpa using hz, hcell, hwz⟩⟩
  clear hA0 hval0
  refine (hw a0 len0 cap0 z0 a1 len1 cap1 z1 a2 len2 cap2 z2 W w0 w1 w2 (gl hL hsh)).mono fun e W' ⟨he, bel⟩ => ?_
  subst he
  exact ⟨_, rfl, _, _, _, [], _, [], hW', trodAll_mk1 (shut_bool Tryz.underlying4 _), (trodAll_cons_mk (Below.trod laidOut (by kernel_rfl) (of_decide_eq_true (by kernel_rfl)) k0 bel lt0) (trodAll_cons_mk (Below.trod laidOut (by kernel_rfl) (of_decide_eq_true (by kernel_rfl)) k1 bel lt1) (trodAll_cons_mk (Below.trod laidOut (by kernel_rfl) (of_decide_eq_true (by kernel_rfl)) k2 bel lt2) trodAll_mk0))), rfl, bel.frame _, fun h => by cases h⟩

/-- The door's own heap meets the condition. -/
theorem door_met (os : Os) : laidMet Tryz.prog Rows.privMeansRow.laid ((World.laidAll Tryz.prog os Rows.privMeansRow.laid).forCall (fun _ _ => 0) ⟨#[], #[.slice none 0 0, .slice none 0 0, .slice none 0 0], []⟩).memory :=
  laidMet_laidAll _ (by kernel_rfl) (by kernel_rfl)
theorem reads (os : Os) {H : Type} (enc : TypeId × Value → H) : ∃ places, DataW.whole enc Tryz.prog ((World.laidAll Tryz.prog os Rows.privMeansRow.laid).forCall (fun _ _ => 0) ⟨#[], #[.slice none 0 0, .slice none 0 0, .slice none 0 0], []⟩).memory Tryz.f4.params.toList Rows.privMeansSpec.vars false #[Value.slice none 0 0, Value.slice none 0 0, Value.slice none 0 0].toList 8 = some ([.nil, .nil, .nil], [], places) :=
  ⟨[], by kernel_rfl⟩

set_option maxRecDepth 100000 in
theorem lifted (hw : Walks) (os : Os) (started : os.Started) (H : Type) (enc : TypeId × Value → H) (F : Stop.Interp) :
    ReturnsInHanded {} Tryz.checked os 4 .any ((OpenSpec.ofChange Rows.privMeansSpec).preRow enc Tryz.prog Tryz.f4 Rows.privMeansRow.domain false Rows.privMeansRow.laid) (((OpenSpec.ofChange Rows.privMeansSpec).at F).post enc Tryz.prog Tryz.f4 false true false false) := by
  obtain ⟨places, hx⟩ := reads os enc
  refine returnsInHanded_of_row (C := Tryz.checked) (s := OpenSpec.ofChange Rows.privMeansSpec) own started (by kernel_rfl) Tryz.func4
    (witness_row_at (enc := enc) (C := Tryz.checked) false (World.laidAll Tryz.prog os Rows.privMeansRow.laid) #[.slice none 0 0, .slice none 0 0, .slice none 0 0] (World.laidAll_os _ _ _) (by kernel_rfl) (by kernel_rfl) (by kernel_rfl)
      (OpenSpec.preRow_of_cond 8 hx (by kernel_rfl) (fun k hk => by cases hk) (by kernel_rfl) (door_met os))) ?_
  intro W base args ds gs before hval hW _ _ _ hL hsh _
  exact contract hw H enc W base args ds gs before hval hW hL hsh

theorem said (hw : Walks) : Rows.PrivMeansSaid :=
  OpenClaim.holds_of_cond 4 Tryz.f4 rfl rfl rfl rfl rfl rfl rfl ⟨rfl, rfl, rfl, rfl, rfl⟩ rfl rfl rfl rfl rfl (by kernel_rfl) Tryz.func4 (by kernel_rfl)
    (of_decide_eq_true (by kernel_rfl)) (by unfold Func.isWrapper; first | (rw [if_pos (by decide +kernel)]; kernel_rfl) | (rw [if_neg (by decide +kernel)]; exact ⟨rfl, rfl⟩))
    (fun os started H enc _ F => by rw [OpenClaim.pre_eq_preRow]; exact lifted hw os started H enc F)

/-- No parameter wants a stand-in; the program's own looks are off. -/
theorem plain (f : FuncId) (fn : Func) (hf : Tryz.pinned.checked.prog.funcNamed "cordon/cordonlaw10.PrivMeans" = some f) (hfn : Tryz.pinned.checked.prog.funcs[f]? = some fn) :
    false = Tryz.pinned.checked.prog.looks [] ∧ ∀ (j : Nat) t, fn.params[j]? = some t → Tryz.pinned.checked.prog.wantsStandIn t = false := by
  obtain rfl : f = 4 := Option.some.inj ((show Tryz.prog.funcNamed "cordon/cordonlaw10.PrivMeans" = some 4 by kernel_rfl).symm.trans hf) |>.symm
  obtain rfl : fn = Tryz.f4 := (Option.some.inj (Tryz.func4.symm.trans hfn)).symm
  refine ⟨by kernel_rfl, fun j t ht => ?_⟩
  rw [Tryz.params4] at ht
  obtain rfl : t = 22 := by simpa using Array.mem_of_getElem? ht
  exact (show Tryz.prog.wantsStandIn 22 = false by kernel_rfl)

/-- The card, given the walk. -/
theorem card (hw : Walks) : Rows.PrivMeansCardSaid :=
  Claim7.holds_tied_plain_at .later [] _ _ _ _ (said hw) (fun _ h => by cases h) (by kernel_rfl) (fun _ h => by cases h) privMeans_row_tie rfl ⟨rfl, rfl⟩ (by kernel_rfl) rfl plain (by kernel_rfl)

end Go.Proofs.YtpabhppghljipaaGreatDoor.privMeans

namespace Go.Proofs.YtpabhppghljipaaGreatDoor.privFlows
open Go.ChangeShapes Go.WideShapes Go.ChangeAt Go.RowKit
set_option linter.unusedVariables false

theorem own : ownKnob Tryz.prog.godebug = none := by kernel_rfl
theorem laidOut : laidOutB Tryz.prog = true := by kernel_rfl
theorem gTab : Tryz.prog.globalNamed "internal/strconv.uint64pow10" = some 3 := by kernel_rfl

def IsRow (k : IntKind) (w : World) (a : Option Addr) (len cap : Nat) (zs : List Int) : Prop :=
  (a = none ∧ len = 0 ∧ cap = 0 ∧ zs = []) ∨
  ∃ x, a = some x ∧ len ≤ cap ∧ cap ≤ maxLen ∧ zs.length = cap ∧ (∀ i, i < zs.length → w.cell? (x.add i) = some (.int k (zs.getD i 0))) ∧ ∀ n ∈ zs, (Lit.int k n).wf = true

/-- The law's walk. -/
def Walks : Prop := ∀ (a0 : Option Addr) (len0 cap0 : Nat) (z0 : List Int) (a1 : Option Addr) (len1 cap1 : Nat) (z1 : List Int) (a2 : Option Addr) (len2 cap2 : Nat) (z2 : List Int) (w : World), IsRow .u8 w a0 len0 cap0 z0 → IsRow .u8 w a1 len1 cap1 z1 → IsRow .u8 w a2 len2 cap2 z2 → Url.Gl w →
  Calls Tryz.prog 3 #[.slice a0 len0 cap0, .slice a1 len1 cap1, .slice a2 len2 cap2] w fun e w' => e = .returned (.bool true) ∧ Below w.heap.size w w'

theorem gl {W : World} (hL : laidMetH Tryz.prog Rows.privFlowsRow.laid W) (hsh : W.ShapedOpen Tryz.prog) : Url.Gl W := by
  refine ⟨?_, ?_⟩
  · exact cell_of_shapedOpen_int (t := 3) (zero := #[.int .i64 0]) hsh (by decide +kernel) (by kernel_rfl) rfl (by kernel_rfl) (by kernel_rfl) (by kernel_rfl)
  · have hL' : laidMet Tryz.prog Rows.privFlowsRow.laid W := by
      rw [MakeChecks.laidMetH_plain _ _ _ (by kernel_rfl)] at hL; exact hL
    exact Lib.tabIs_of_head (rest := [("unicode/utf8.acceptRanges", Rows.laid_unicode_utf8_acceptRanges), ("unicode/utf8.first", Rows.laid_unicode_utf8_first)]) (t := 246) (e := 153) (n := 20) (k := .u64) (zs := Lib.pow10Tab) (g := 3) gTab (by kernel_rfl) (by kernel_rfl) (by kernel_rfl) (by kernel_rfl) (by kernel_rfl) (show laidMet Tryz.prog [("internal/strconv.uint64pow10", Lib.tabData .u64 Lib.pow10Tab), ("unicode/utf8.acceptRanges", Rows.laid_unicode_utf8_acceptRanges), ("unicode/utf8.first", Rows.laid_unicode_utf8_first)] W from hL'.tail.tail)

set_option maxRecDepth 100000 in
/-- What the walk gives, for every argument and every world that holds the listed tables. -/
theorem contract (hw : Walks) (H : Type) (enc : TypeId × Value → H) (W : World) (base : Nat) (args : Array Value) (ds gs : List (DataW H)) (before : List MemPlace)
    (hval0 : ∀ (j : Nat) t v, Tryz.f3.params[j]? = some t → args[j]? = some v → Value.okWide Tryz.prog W .any base t v)
    (hW : DataW.Whole enc Tryz.prog Tryz.f3.params.toList Rows.privFlowsSpec.vars false W args.toList ds gs before) (hL : laidMetH Tryz.prog Rows.privFlowsRow.laid W) (hsh : W.ShapedOpen Tryz.prog) :
    Calls Tryz.prog 3 args W fun e W' => ∃ v, e = .returned v ∧ Rows.privFlowsSpec.post enc Tryz.prog Tryz.f3 false true false false W args v W' := by
  have hval : ∀ (j : Nat) t v, Tryz.f3.params[j]? = some t → args[j]? = some v → Value.okWide Tryz.prog W .any base t v := hval0
  have hW' := hW
  obtain ⟨p, q, hA0, hV, rfl, hfz, hnd⟩ := hW
  have hA : DataW.TrodAll enc Tryz.prog W 0 (fun _ => true) true Tryz.f3.params.toList args.toList ds p := hA0
  rw [Tryz.params3] at hA hval
  obtain ⟨v0, vs0, d0, ds0, p0, q0, hargs, rfl, rfl, h0, r0⟩ := trodAll_cons hA
  obtain ⟨v1, vs1, d1, ds1, p1, q1, rfl, rfl, rfl, h1, r1⟩ := trodAll_cons r0
  obtain ⟨v2, vs2, d2, ds2, p2, q2, rfl, rfl, rfl, h2, r2⟩ := trodAll_cons r1
  obtain ⟨rfl, rfl, rfl⟩ := trodAll_nil r2
  obtain rfl : args = #[v0, v1, v2] := by cases args; simp_all
  obtain ⟨rfl, rfl⟩ := trodVars_none hV
  obtain ⟨a0, len0, cap0, rfl⟩ := okWide_slice Tryz.underlying22 (hval 0 22 v0 rfl rfl)
  have k0 := h0
  have lt0 : ∀ x ∈ p0, x.block < W.heap.size := by obtain ⟨m, hm⟩ := k0; exact DataW.trod_lt m _ _ _ hm
  obtain ⟨z0, w0⟩ : ∃ zs, IsRow .u8 W a0 len0 cap0 zs := by
    obtain ⟨fuel, hf⟩ := h0
    rcases open_ints Tryz.underlying22 Tryz.underlying5 (by kernel_rfl) hf with ⟨hcs, _⟩ | ⟨x, l, c, zs, hcs, _, hl, hm, hz, _, hcell, hwz⟩
    · simp [Value.cells] at hcs
      obtain ⟨rfl, rfl, rfl⟩ := hcs
      exact ⟨[], .inl ⟨rfl, rfl, rfl, rfl⟩⟩
    · simp [Value.cells] at hcs
      obtain ⟨rfl, rfl, rfl⟩ := hcs
      exact ⟨zs, .inr ⟨_, rfl, hl, hm, by simpa using hz, hcell, hwz⟩⟩
  obtain ⟨a1, len1, cap1, rfl⟩ := okWide_slice Tryz.underlying22 (hval 1 22 v1 rfl rfl)
  have k1 := h1
  have lt1 : ∀ x ∈ p1, x.block < W.heap.size := by obtain ⟨m, hm⟩ := k1; exact DataW.trod_lt m _ _ _ hm
  obtain ⟨z1, w1⟩ : ∃ zs, IsRow .u8 W a1 len1 cap1 zs := by
    obtain ⟨fuel, hf⟩ := h1
    rcases open_ints Tryz.underlying22 Tryz.underlying5 (by kernel_rfl) hf with ⟨hcs, _⟩ | ⟨x, l, c, zs, hcs, _, hl, hm, hz, _, hcell, hwz⟩
    · simp [Value.cells] at hcs
      obtain ⟨rfl, rfl, rfl⟩ := hcs
      exact ⟨[], .inl ⟨rfl, rfl, rfl, rfl⟩⟩
    · simp [Value.cells] at hcs
      obtain ⟨rfl, rfl, rfl⟩ := hcs
      exact ⟨zs, .inr ⟨_, rfl, hl, hm, by simpa using hz, hcell, hwz⟩⟩
  obtain ⟨a2, len2, cap2, rfl⟩ := okWide_slice Tryz.underlying22 (hval 2 22 v2 rfl rfl)
  have k2 := h2
  have lt2 : ∀ x ∈ p2, x.block < W.heap.size := by obtain ⟨m, hm⟩ := k2; exact DataW.trod_lt m _ _ _ hm
  obtain ⟨z2, w2⟩ : ∃ zs, IsRow .u8 W a2 len2 cap2 zs := by
    obtain ⟨fuel, hf⟩ := h2
    rcases open_ints Tryz.underlying22 Tryz.underlying5 (by kernel_rfl) hf with ⟨hcs, _⟩ | ⟨x, l, c, zs, hcs, _, hl, hm, hz, _, hcell, hwz⟩
    · simp [Value.cells] at hcs
      obtain ⟨rfl, rfl, rfl⟩ := hcs
      exact ⟨[], .inl ⟨rfl, rfl, rfl, rfl⟩⟩
    · simp [Value.cells] at hcs
      obtain ⟨rfl, rfl, rfl⟩ := hcs
      exact ⟨zs, .inr ⟨_, rfl, hl, hm, by simpa using hz, hcell, hwz⟩⟩
  clear hA0 hval0
  refine (hw a0 len0 cap0 z0 a1 len1 cap1 z1 a2 len2 cap2 z2 W w0 w1 w2 (gl hL hsh)).mono fun e W' ⟨he, bel⟩ => ?_
  subst he
  exact ⟨_, rfl, _, _, _, [], _, [], hW', trodAll_mk1 (shut_bool Tryz.underlying4 _), (trodAll_cons_mk (Below.trod laidOut (by kernel_rfl) (of_decide_eq_true (by kernel_rfl)) k0 bel lt0) (trodAll_cons_mk (Below.trod laidOut (by kernel_rfl) (of_decide_eq_true (by kernel_rfl)) k1 bel lt1) (trodAll_cons_mk (Below.trod laidOut (by kernel_rfl) (of_decide_eq_true (by kernel_rfl)) k2 bel lt2) trodAll_mk0))), rfl, bel.frame _, fun h => by cases h⟩

/-- The door's own heap meets the condition. -/
theorem door_met (os : Os) : laidMet Tryz.prog Rows.privFlowsRow.laid ((World.laidAll Tryz.prog os Rows.privFlowsRow.laid).forCall (fun _ _ => 0) ⟨#[], #[.slice none 0 0, .slice none 0 0, .slice none 0 0], []⟩).memory :=
  laidMet_laidAll _ (by kernel_rfl) (by kernel_rfl)
theorem reads (os : Os) {H : Type} (enc : TypeId × Value → H) : ∃ places, DataW.whole enc Tryz.prog ((World.laidAll Tryz.prog os Rows.privFlowsRow.laid).forCall (fun _ _ => 0) ⟨#[], #[.slice none 0 0, .slice none 0 0, .slice none 0 0], []⟩).memory Tryz.f3.params.toList Rows.privFlowsSpec.vars false #[Value.slice none 0 0, Value.slice none 0 0, Value.slice none 0 0].toList 8 = some ([.nil, .nil, .nil], [], places) :=
  ⟨[], by kernel_rfl⟩

set_option maxRecDepth 100000 in
theorem lifted (hw : Walks) (os : Os) (started : os.Started) (H : Type) (enc : TypeId × Value → H) (F : Stop.Interp) :
    ReturnsInHanded {} Tryz.checked os 3 .any ((OpenSpec.ofChange Rows.privFlowsSpec).preRow enc Tryz.prog Tryz.f3 Rows.privFlowsRow.domain false Rows.privFlowsRow.laid) (((OpenSpec.ofChange Rows.privFlowsSpec).at F).post enc Tryz.prog Tryz.f3 false true false false) := by
  obtain ⟨places, hx⟩ := reads os enc
  refine returnsInHanded_of_row (C := Tryz.checked) (s := OpenSpec.ofChange Rows.privFlowsSpec) own started (by kernel_rfl) Tryz.func3
    (witness_row_at (enc := enc) (C := Tryz.checked) false (World.laidAll Tryz.prog os Rows.privFlowsRow.laid) #[.slice none 0 0, .slice none 0 0, .slice none 0 0] (World.laidAll_os _ _ _) (by kernel_rfl) (by kernel_rfl) (by kernel_rfl)
      (OpenSpec.preRow_of_cond 8 hx (by kernel_rfl) (fun k hk => by cases hk) (by kernel_rfl) (door_met os))) ?_
  intro W base args ds gs before hval hW _ _ _ hL hsh _
  exact contract hw H enc W base args ds gs before hval hW hL hsh

theorem said (hw : Walks) : Rows.PrivFlowsSaid :=
  OpenClaim.holds_of_cond 3 Tryz.f3 rfl rfl rfl rfl rfl rfl rfl ⟨rfl, rfl, rfl, rfl, rfl⟩ rfl rfl rfl rfl rfl (by kernel_rfl) Tryz.func3 (by kernel_rfl)
    (of_decide_eq_true (by kernel_rfl)) (by unfold Func.isWrapper; first | (rw [if_pos (by decide +kernel)]; kernel_rfl) | (rw [if_neg (by decide +kernel)]; exact ⟨rfl, rfl⟩))
    (fun os started H enc _ F => by rw [OpenClaim.pre_eq_preRow]; exact lifted hw os started H enc F)

/-- No parameter wants a stand-in; the program's own looks are off. -/
theorem plain (f : FuncId) (fn : Func) (hf : Tryz.pinned.checked.prog.funcNamed "cordon/cordonlaw10.PrivFlows" = some f) (hfn : Tryz.pinned.checked.prog.funcs[f]? = some fn) :
    false = Tryz.pinned.checked.prog.looks [] ∧ ∀ (j : Nat) t, fn.params[j]? = some t → Tryz.pinned.checked.prog.wantsStandIn t = false := by
  obtain rfl : f = 3 := Option.some.inj ((show Tryz.prog.funcNamed "cordon/cordonlaw10.PrivFlows" = some 3 by kernel_rfl).symm.trans hf) |>.symm
  obtain rfl : fn = Tryz.f3 := (Option.some.inj (Tryz.func3.symm.trans hfn)).symm
  refine ⟨by kernel_rfl, fun j t ht => ?_⟩
  rw [Tryz.params3] at ht
  obtain rfl : t = 22 := by simpa using Array.mem_of_getElem? ht
  exact (show Tryz.prog.wantsStandIn 22 = false by kernel_rfl)

/-- The card, given the walk. -/
theorem card (hw : Walks) : Rows.PrivFlowsCardSaid :=
  Claim7.holds_tied_plain_at .later [] _ _ _ _ (said hw) (fun _ h => by cases h) (by kernel_rfl) (fun _ h => by cases h) privFlows_row_tie rfl ⟨rfl, rfl⟩ (by kernel_rfl) rfl plain (by kernel_rfl)

end Go.Proofs.YtpabhppghljipaaGreatDoor.privFlows

namespace Go.Proofs.YtpabhppghljipaaGreatDoor.Ref
open Go.RowKit Go.Shelf

/-- A text as a value. -/
def strV (x : List UInt8) : Value := .string ⟨x.toArray⟩
end Go.Proofs.YtpabhppghljipaaGreatDoor.Ref

namespace Go.Proofs.YtpabhppghljipaaGreatDoor.Frm
set_option linter.unusedVariables false

theorem imp_refl (f : List (List (List UInt8))) : impB f f = true := (imp_means f f).2 fun _ h => h
theorem red_holds (l : List (List (List UInt8))) (h : ∀ c ∈ l, Rises c) (S : List UInt8 → Bool) : holdsB (redL l) S = holdsB l S := by
  refine left_holds l (redL l) (fun y hy => rises_nodup y (h y hy)) (fun x hx => ((mem_red l x).1 hx).1) (fun x hx => ?_) S
  obtain ⟨h1, h2⟩ := hx
  refine ⟨x, (mem_red l x).2 ⟨h1, fun y hy hs => ?_⟩, fun p hp => hp⟩
  exact rises_ext (h y hy) (h x h1) fun a => ⟨hs a, h2 y hy hs a⟩
/-- Both; one of both. -/
def andF (f g : List (List (List UInt8))) : List (List (List UInt8)) := redL (f ++ g)
theorem and_rise (f g : List (List (List UInt8))) (hf : Canon f) (hg : Canon g) : ∀ c ∈ f ++ g, Rises c := fun c hc => by
  rcases List.mem_append.1 hc with h | h
  · exact hf.each c h
  · exact hg.each c h
theorem and_holds (f g : List (List (List UInt8))) (hf : Canon f) (hg : Canon g) (S : List UInt8 → Bool) : holdsB (andF f g) S = (holdsB f S && holdsB g S) := by
  unfold andF
  rw [red_holds _ (and_rise f g hf hg), holds_app]
theorem and_imp (f g h : List (List (List UInt8))) (hf : Canon f) (hg : Canon g) : impB h (andF f g) = (impB h f && impB h g) := by
  rw [Bool.eq_iff_iff, Bool.and_eq_true, imp_means, imp_means, imp_means]
  constructor
  · intro k
    refine ⟨fun S hS => ?_, fun S hS => ?_⟩
    · have := k S hS; rw [and_holds f g hf hg, Bool.and_eq_true] at this; exact this.1
    · have := k S hS; rw [and_holds f g hf hg, Bool.and_eq_true] at this; exact this.2
  · rintro ⟨k1, k2⟩ S hS
    rw [and_holds f g hf hg, k1 S hS, k2 S hS]; rfl
theorem and_app (f p h : List (List (List UInt8))) (hf : Canon f) (hp : Canon p) : impB (andF f p) h = impB (f ++ p) h := by
  rw [Bool.eq_iff_iff, app_imp, imp_means]
  constructor
  · intro k S h1 h2; exact k S (by rw [and_holds f p hf hp, h1, h2]; rfl)
  · intro k S hS
    rw [and_holds f p hf hp, Bool.and_eq_true] at hS
    exact k S hS.1 hS.2
theorem imp_always (f : List (List (List UInt8))) : impB f [] = true := rfl
def flowsB (l o : Lab) : Bool := impB o.s l.s && impB l.i o.i
theorem flows_refl (l : Lab) : flowsB l l = true := by unfold flowsB; rw [imp_refl, imp_refl]; rfl
theorem by_more (p q : List (List (List UInt8))) (l o : Lab) (hc : impB p q = true) (h : flowsBy q l o = true) : flowsBy p l o = true := by
  unfold flowsBy at *
  rw [Bool.and_eq_true, app_imp, app_imp] at *
  exact ⟨fun S a b => h.1 S a ((imp_means p q).1 hc S b), fun S a b => h.2 S a ((imp_means p q).1 hc S b)⟩
theorem by_none (l o : Lab) : flowsBy [] l o = flowsB l o := by unfold flowsBy flowsB; rw [List.append_nil, List.append_nil]
theorem by_never (l o : Lab) : flowsBy [[]] l o = true := by
  unfold flowsBy
  rw [Bool.and_eq_true, app_imp, app_imp]
  have hn : ∀ S : List UInt8 → Bool, holdsB [[]] S = true → False := fun S h => by cases h
  exact ⟨fun S _ b => (hn S b).elim, fun S _ b => (hn S b).elim⟩
theorem by_flows (p : List (List (List UInt8))) (l o : Lab) (h : flowsB l o = true) : flowsBy p l o = true := by_more p [] l o (imp_always p) (by rw [by_none]; exact h)
/-- The least label to which one flows. -/
def leastF (p : List (List (List UInt8))) (l : Lab) : Lab := ⟨lessF l.s p, andF l.i p⟩
theorem least_flows (p : List (List (List UInt8))) (l o : Lab) (hl : LabOk l) (hp : Canon p) : flowsB (leastF p l) o = flowsBy p l o := by
  unfold flowsB flowsBy leastF
  simp only
  rw [less_imp, and_app _ _ _ hl.i hp]
theorem least_self (p : List (List (List UInt8))) (l : Lab) (hl : LabOk l) (hp : Canon p) : flowsBy p l (leastF p l) = true := by rw [← least_flows p l _ hl hp]; exact flows_refl _
theorem least_under_l (p : List (List (List UInt8))) (l : Lab) (hl : LabOk l) (hp : Canon p) : flowsB (leastF p l) l = true := by rw [least_flows p l l hl hp]; exact by_flows p l l (flows_refl l)

end Go.Proofs.YtpabhppghljipaaGreatDoor.Frm

namespace Go.Proofs.YtpabhppghljipaaGreatDoor.Frm

set_option linter.unusedVariables false

/-- Is clause i kept, by the first k? -/
def keptK (l : List (List (List UInt8))) (i : Nat) (x : List (List UInt8)) (k : Nat) : Bool := (List.range k).all fun j => match l[j]? with
  | some y => !(subB y x && (decide (y.length < x.length) || decide (j < i)))
  | none => true
theorem keptK_zero (l : List (List (List UInt8))) (i : Nat) (x : List (List UInt8)) : keptK l i x 0 = true := rfl
theorem keptK_succ (l : List (List (List UInt8))) (i : Nat) (x y : List (List UInt8)) (k : Nat) (h : l[k]? = some y) : keptK l i x (k + 1) = (keptK l i x k && !(subB y x && (decide (y.length < x.length) || decide (k < i)))) := by
  unfold keptK
  rw [List.range_succ, List.all_append]
  simp [h]
theorem kept_no (l : List (List (List UInt8))) (i : Nat) (x y : List (List UInt8)) (k : Nat) (h : l[k]? = some y) (hs : (subB y x && (decide (y.length < x.length) || decide (k < i))) = true) : keptK l i x (k + 1) = false := by rw [keptK_succ l i x y k h, hs]; simp
theorem kept_go (l : List (List (List UInt8))) (i : Nat) (x y : List (List UInt8)) (k : Nat) (h : l[k]? = some y) (hs : (subB y x && (decide (y.length < x.length) || decide (k < i))) = false) : keptK l i x (k + 1) = keptK l i x k := by rw [keptK_succ l i x y k h, hs]; simp
theorem rise_sub (x y : List (List UInt8)) (hx : Rises x) (hy : Rises y) (hs : ∀ p ∈ y, p ∈ x) (hl : x.length ≤ y.length) : y = x :=
  rises_ext hy hx fun a => ⟨hs a, fun ha => Decidable.byContradiction fun hn => by
    have hd : (a :: y).Nodup := List.nodup_cons.2 ⟨hn, rises_nodup y hy⟩
    have := hd.length_le_of_subset (l₂ := x) (fun b hb => by
      rcases List.mem_cons.1 hb with rfl | hb
      · exact ha
      · exact hs b hb)
    rw [List.length_cons] at this
    omega⟩
theorem kept_iff (l : List (List (List UInt8))) (hl : ∀ c ∈ l, Rises c) (i : Nat) (x : List (List UInt8)) (hx : l[i]? = some x) :
    keptK l i x l.length = true ↔ (∀ y ∈ l, (∀ p ∈ y, p ∈ x) → y = x) ∧ ∀ j, j < i → l[j]? ≠ some x := by
  have hxm := List.mem_of_getElem? hx
  unfold keptK
  rw [List.all_eq_true]
  constructor
  · intro h
    refine ⟨fun y hy hs => ?_, fun j hj e => ?_⟩
    · obtain ⟨j, hj, rfl⟩ := List.getElem_of_mem hy
      have h1 := h j (List.mem_range.2 hj)
      rw [List.getElem?_eq_getElem hj] at h1
      simp only at h1
      rw [(subB_iff _ _).2 hs, Bool.true_and, Bool.not_eq_true', Bool.or_eq_false_iff] at h1
      exact rise_sub x _ (hl x hxm) (hl _ hy) hs (by have := of_decide_eq_false h1.1; omega)
    · have hjl : j < l.length := (List.getElem?_eq_some_iff.1 e).1
      have h1 := h j (List.mem_range.2 hjl)
      rw [e] at h1
      simp only at h1
      rw [(subB_iff x x).2 (fun a ha => ha), Bool.true_and, Bool.not_eq_true', Bool.or_eq_false_iff] at h1
      exact of_decide_eq_false h1.2 hj
  · rintro ⟨h1, h2⟩ j hj
    have hjl := List.mem_range.1 hj
    rw [List.getElem?_eq_getElem hjl]
    simp only
    cases hs : subB l[j] x with
    | false => rfl
    | true =>
      have e := h1 _ (List.getElem_mem hjl) ((subB_iff _ _).1 hs)
      rw [Bool.true_and, Bool.not_eq_true', Bool.or_eq_false_iff]
      refine ⟨decide_eq_false (by rw [e]; omega), decide_eq_false fun hlt => h2 j hlt (by rw [List.getElem?_eq_getElem hjl, e])⟩
theorem RedK.start (l : List (List (List UInt8))) : RedK l 0 [] := ⟨Rises.nil, fun x => ⟨fun h => (by cases h), fun ⟨⟨j, hj, _⟩, _⟩ => by omega⟩⟩
theorem RedK.len {l : List (List (List UInt8))} {i : Nat} {out : List (List (List UInt8))} (h : RedK l i out) : out.length ≤ l.length :=
  (rises_nodup' out h.rise).length_le_of_subset fun a ha => by
    obtain ⟨⟨j, _, e⟩, _⟩ := (h.mem a).1 ha
    exact List.mem_of_getElem? e
  where rises_nodup' (out : List (List (List UInt8))) (h : Rises out) : out.Nodup := rises_nodup out h
theorem RedK.skip {l : List (List (List UInt8))} {i : Nat} {out : List (List (List UInt8))} {x : List (List UInt8)} (h : RedK l i out) (hl : ∀ c ∈ l, Rises c) (hx : l[i]? = some x) (hk : keptK l i x l.length = false) : RedK l (i + 1) out := by
  refine ⟨h.rise, fun z => (h.mem z).trans ⟨fun ⟨⟨j, hj, e⟩, h2⟩ => ⟨⟨j, by omega, e⟩, h2⟩, fun ⟨⟨j, hj, e⟩, h2⟩ => ⟨?_, h2⟩⟩⟩
  by_cases hji : j = i
  · subst hji
    rw [hx] at e
    cases e
    have hn : ¬ ((∀ y ∈ l, (∀ p ∈ y, p ∈ x) → y = x) ∧ ∀ i, i < j → l[i]? ≠ some x) := fun k => by
      rw [(kept_iff l hl j x hx).2 k] at hk; cases hk
    refine Decidable.byContradiction fun hne => hn ⟨h2, fun i hi e => hne ⟨i, hi, e⟩⟩
  · exact ⟨j, by omega, e⟩
theorem RedK.take {l : List (List (List UInt8))} {i : Nat} {out : List (List (List UInt8))} {x : List (List UInt8)} (h : RedK l i out) (hl : ∀ c ∈ l, Rises c) (hx : l[i]? = some x) (hk : keptK l i x l.length = true)
    (a : Nat) (h1 : ∀ j y, j < a → out[j]? = some y → y < x) (h2 : ∀ z, out[a]? = some z → ¬ z < x) : RedK l (i + 1) (out.take a ++ x :: out.drop a) := by
  obtain ⟨k1, k2⟩ := (kept_iff l hl i x hx).1 hk
  have hno : x ∉ out := fun hm => by
    obtain ⟨⟨j, hj, e⟩, _⟩ := (h.mem x).1 hm
    exact k2 j hj e
  have ht : ∀ y ∈ out.take a, y < x := fun y hy => by
    obtain ⟨j, hj, rfl⟩ := List.getElem_of_mem hy
    rw [List.length_take] at hj
    exact h1 j _ (by omega) (by rw [List.getElem_take, List.getElem?_eq_getElem (by omega)])
  have hd : ∀ y ∈ out.drop a, x < y := fun y hy => by
    obtain ⟨j, hj, rfl⟩ := List.getElem_of_mem hy
    rw [List.length_drop] at hj
    rw [List.getElem_drop]
    have ha : out[a]? = some out[a] := List.getElem?_eq_getElem (by omega)
    have hx0 : x < out[a] := by
      rcases Lin.tri x out[a] with k | k | k
      · exact k
      · exact absurd (k ▸ List.getElem_mem _) hno
      · exact absurd k (h2 _ ha)
    by_cases e : j = 0
    · subst e; simpa using hx0
    · exact Lin.tr hx0 (List.pairwise_iff_getElem.1 h.rise a (a + j) (by omega) (by omega) (by omega))
  refine ⟨?_, fun z => ?_⟩
  · refine List.pairwise_append.2 ⟨h.rise.sublist (List.take_sublist a out), List.pairwise_cons.2 ⟨hd, h.rise.sublist (List.drop_sublist a out)⟩, fun y hy z hz => ?_⟩
    rcases List.mem_cons.1 hz with rfl | hz
    · exact ht y hy
    · exact Lin.tr (ht y hy) (hd z hz)
  · have hm : z ∈ out.take a ++ x :: out.drop a ↔ z = x ∨ z ∈ out := by
      rw [List.mem_append, List.mem_cons]
      constructor
      · rintro (h | h | h)
        · exact .inr (List.mem_of_mem_take h)
        · exact .inl h
        · exact .inr (List.mem_of_mem_drop h)
      · rintro (h | h)
        · exact .inr (.inl h)
        · have h : z ∈ out.take a ++ out.drop a := by rw [List.take_append_drop]; exact h
          rcases List.mem_append.1 h with h | h
          · exact .inl h
          · exact .inr (.inr h)
    rw [hm, h.mem]
    constructor
    · rintro (rfl | ⟨⟨j, hj, e⟩, h2⟩)
      · exact ⟨⟨i, by omega, hx⟩, k1⟩
      · exact ⟨⟨j, by omega, e⟩, h2⟩
    · rintro ⟨⟨j, hj, e⟩, h2⟩
      by_cases hji : j = i
      · subst hji; rw [hx] at e; cases e; exact .inl rfl
      · exact .inr ⟨⟨j, by omega, e⟩, h2⟩
/-! ### implying, clause by clause -/
/-- Has one of the first k clauses said it? -/
def saidK (f : List (List (List UInt8))) (c : List (List UInt8)) (k : Nat) : Bool := (f.take k).any fun x => subB x c
theorem saidK_zero (f : List (List (List UInt8))) (c : List (List UInt8)) : saidK f c 0 = false := rfl
theorem saidK_succ (f : List (List (List UInt8))) (c x : List (List UInt8)) (k : Nat) (h : f[k]? = some x) : saidK f c (k + 1) = (saidK f c k || subB x c) := by
  obtain ⟨hk, rfl⟩ := List.getElem?_eq_some_iff.1 h
  unfold saidK
  rw [List.take_succ_eq_append_getElem hk, List.any_append]
  simp
theorem saidK_all (f : List (List (List UInt8))) (c : List (List UInt8)) : saidK f c f.length = f.any fun x => subB x c := by unfold saidK; rw [List.take_length]
end Go.Proofs.YtpabhppghljipaaGreatDoor.Frm

namespace Go.Proofs.YtpabhppghljipaaGreatDoor
open Go.RowKit Go.Shelf
attribute [local go_sem] Oper.semAt_some

/-- A text as a value. -/
def strV (x : List UInt8) : Value := .string ⟨x.toArray⟩
end Go.Proofs.YtpabhppghljipaaGreatDoor

namespace Go.Proofs.YtpabhppghljipaaGreatDoor
open Go.RowKit Go.Shelf

/-- How a list of texts lies. -/
def StrsIn (w : World) (p : Option Addr) (n : Nat) (xs : List (List UInt8)) : Prop :=
  0 < n → ∃ b o, p = some ⟨b, o, none⟩ ∧ ∀ i, i < n → w.cell? ⟨b, o + i, none⟩ = some (strV (xs.getD i []))
def sameL (xs ys : List (List UInt8)) : Bool := decide (xs = ys)
theorem drop_consS (l : List (List UInt8)) (k : Nat) (h : k < l.length) : l.drop k = l.getD k [] :: l.drop (k + 1) := by
  rw [List.drop_eq_getElem_cons h]
  simp [List.getD, List.getElem?_eq_getElem h]

set_option maxHeartbeats 1000000 in
theorem Same_any (p1 p2 : Option Addr) (n c m d : Nat) (xs ys : List (List UInt8)) (w : World) (hx : xs.length = n) (hy : ys.length = m) (hn : n ≤ 140737488355328) (hm : m ≤ 140737488355328) (h1 : StrsIn w p1 n xs) (h2 : StrsIn w p2 m ys) :
    Calls Tryz.prog 61 #[.slice p1 n c, .slice p2 m d] w fun e w' => e = .returned (.bool (sameL xs ys)) ∧ ∃ q, w' = w.drewN q := by
  by_cases hnm : n = m
  · subst hnm
    have e0 : ((n : Int) != (n : Int)) = false := by simp
    go_enter Tryz.func61, Tryz.ntmps61
    go_wp2
    go_loopw [13] (fun i wr => ∃ k q : Nat, k ≤ n ∧ i = .int .i64 k ∧ wr = w.drewN q ∧ Hid (sameL xs ys = sameL (xs.drop k) (ys.drop k))) (fun i _ => n - (intOf i).toNat)
    case atStart => exact ⟨0, 0, Nat.zero_le _, rfl, rfl, rfl⟩
    case round =>
      obtain ⟨k, q, hk, rfl, rfl, HR⟩ := hrel
      by_cases hlt : k < n
      · obtain ⟨b1, o1, rfl, hc1⟩ := h1 (by omega)
        obtain ⟨b2, o2, rfl, hc2⟩ := h2 (by omega)
        have c1 := hc1 k hlt
        have c2 := hc2 k hlt
        have d1 := drop_consS xs k (by omega)
        have d2 := drop_consS ys k (by omega)
        clear hc1 hc2 h1 h2 e0
        generalize xs.getD k [] = x at c1 d1
        generalize ys.getD k [] = y at c2 d2
        unfold strV at c1 c2
        by_cases hxy : x = y
        · subst hxy
          have HR2 := Lib.hid (show sameL xs ys = sameL (xs.drop (k + 1)) (ys.drop (k + 1)) by rw [HR.out, d1, d2]; unfold sameL; simp)
          clear d1 d2 HR
          go_wp2
          go_quiet (fail)
          go_wp2
          go_roundw
          case rel => exact ⟨k + 1, q + nq, by omega, by go_num, rfl, HR2⟩
          case measure => simp [intOf]; omega
        · have hne' : (x == y) = false := by rw [beq_eq_false_iff_ne]; exact hxy
          have H := Lib.hid (show sameL xs ys = false by rw [HR.out, d1, d2]; unfold sameL; simp [hxy])
          clear d1 d2 HR hxy
          go_wp2
          go_quiet (fail)
          go_wp2
          go_ret
          exact ⟨(by rw [H.out]; try rfl), q + nq, by simp [World.drewN, Nat.add_assoc]⟩
      · have H := Lib.hid (show sameL xs ys = true by rw [HR.out, List.drop_of_length_le (by omega), List.drop_of_length_le (by omega)]; rfl)
        go_wp2
        go_ret
        exact ⟨(by rw [H.out]; try rfl), q, rfl⟩
  · have e0 : ((n : Int) != (m : Int)) = true := by rw [bne_iff_ne]; omega
    have H := Lib.hid (show sameL xs ys = false by unfold sameL; rw [decide_eq_false_iff_not]; intro h; apply hnm; rw [← hx, ← hy, h])
    go_enter Tryz.func61, Tryz.ntmps61
    go_wp2
    go_ret
    exact ⟨(by rw [H.out]; try rfl), 0, rfl⟩

end Go.Proofs.YtpabhppghljipaaGreatDoor

namespace Go.Proofs.YtpabhppghljipaaGreatDoor
open Go.RowKit Go.Shelf
attribute [local go_sem] Oper.semAt_some

/-- A number and a value, as yield takes them. -/
def NumArg {α : Type} (enc : α → Value) (x : Nat × α) (args : Array Value) (G : Nat → Prop) (_W : World) : Prop := args = #[.int .i64 (x.1 : Int), enc x.2] ∧ G = fun _ => False
/-- Values, counted. -/
def nums {α : Type} : Nat → List α → List (Nat × α)
  | _, [] => []
  | k, x :: r => (k, x) :: nums (k + 1) r
theorem nums_snd {α : Type} : ∀ (k : Nat) (l : List α), (nums k l).map Prod.snd = l
  | _, [] => rfl
  | k, x :: r => by unfold nums; rw [List.map_cons, nums_snd (k + 1) r]
end Go.Proofs.YtpabhppghljipaaGreatDoor

namespace Go.Proofs.YtpabhppghljipaaGreatDoor
open Go.RowKit Go.Shelf

theorem take_snoc {α : Type} (xs : List α) (k : Nat) (x : α) (h : xs[k]? = some x) : xs.take (k + 1) = xs.take k ++ [x] := by
  obtain ⟨hk, rfl⟩ := List.getElem?_eq_some_iff.1 h
  rw [List.take_succ_eq_append_getElem hk]

end Go.Proofs.YtpabhppghljipaaGreatDoor

namespace Go.Proofs.YtpabhppghljipaaGreatDoor
open Go.RowKit Go.Shelf

/-- The address of what goes on at place l. -/
def subR (q : Option Addr) (c l : Nat) : Option Addr := if c = l then q else q.map (·.add l)
def hdA (q : Option Addr) (c : Nat) : Option Addr := if c = 0 then q else q.map (·.add 0)
theorem subR_some (a : Addr) (c l : Nat) : ∃ a', subR (some a) c l = some a' ∧ a'.block = a.block := by
  unfold subR; split
  · exact ⟨a, rfl, rfl⟩
  · exact ⟨_, rfl, by simp [Addr.add]; try split <;> rfl⟩
theorem hdA_some (a : Addr) (c : Nat) : ∃ a', hdA (some a) c = some a' ∧ a'.block = a.block := by
  unfold hdA; split
  · exact ⟨a, rfl, rfl⟩
  · exact ⟨_, rfl, by simp [Addr.add]; try split <;> rfl⟩

theorem SlIn.take {α : Type} {enc : α → Value} {w : World} {q : Option Addr} {n c : Nat} {xs : List α} (h : SlIn enc w q n xs) (k : Nat) (hk : k ≤ n) (hnc : n ≤ c) : SlIn enc w (hdA q c) k (xs.take k) := by
  refine ⟨by have := h.1; simp; omega, fun hp => ?_⟩
  obtain ⟨b, o, rfl, hb, hc⟩ := h.at (by omega)
  refine ⟨b, o, ?_, hb, fun i x hx => ?_⟩
  · unfold hdA; rw [if_neg (by omega)]; simp [Addr.add]
  · rw [List.getElem?_take] at hx
    split at hx
    · exact hc i x hx
    · cases hx
theorem SlIn.drop {α : Type} {enc : α → Value} {w : World} {q : Option Addr} {n c : Nat} {xs : List α} (h : SlIn enc w q n xs) (k : Nat) (hk : k ≤ n) (hnc : n ≤ c) : SlIn enc w (subR q c k) (n - k) (xs.drop k) := by
  refine ⟨by have := h.1; simp; omega, fun hp => ?_⟩
  obtain ⟨b, o, rfl, hb, hc⟩ := h.at (by omega)
  refine ⟨b, o + k, ?_, hb, fun i x hx => ?_⟩
  · unfold subR; rw [if_neg (by omega)]
    by_cases h0 : k = 0
    · subst h0; simp [Addr.add]
    · simp [Addr.add, h0]
  · rw [List.getElem?_drop] at hx
    have := hc (k + i) x hx
    rwa [show o + (k + i) = o + k + i by omega] at this

end Go.Proofs.YtpabhppghljipaaGreatDoor

namespace Go.Proofs.YtpabhppghljipaaGreatDoor.S
open Go.RowKit Go.Shelf
attribute [local go_sem] Oper.semAt_some

set_option maxRecDepth 100000 in
set_option maxHeartbeats 2000000 in
theorem All1_iter (B : Nat) (q : Option Addr) (n c : Nat) (xs : List (List UInt8)) (RB : Nat → Prop) (w0 : World) (hm : n ≤ 140737488355328)
    (h : SlIn encStr w0 q n xs) (hq : ∀ a, q = some a → 0 < n → RB a.block) (b : Boxed w0 B 49 (.slice q n c)) (hR : RB B) :
    IterC Tryz.prog 114 #[.pointer (some ⟨B, 0, none⟩)] (NumArg encStr) (nums 0 xs) RB w0 := by
  intro l J Jx W hW hJ hJx hY h0
  refine (callsIn_wide (n := 1)).1 ?_
  refine callsIn_of_wp Tryz.func114 rfl trivial ?_ rfl
  simp only [Tryz.ntmps114, List.size_toArray, List.length_cons, List.length_nil, Nat.reduceAdd, Nat.reduceSub, Array.replicate_succ, Array.replicate_zero, List.push_toArray, List.append_toArray, List.nil_append, List.cons_append]
  have k1 := (hW.boxed b hR).cell
  have hl := Lib.hid h.1
  gi_wp2
  gi_loopw [7] (fun i wr => ∃ k : Nat, ∃ pre, k ≤ n ∧ i = .int .i64 k ∧ Keep RB W wr ∧ Hid (nums 0 xs = pre ++ nums k (xs.drop k)) ∧ J pre (fun _ => False) wr) (fun i _ => n - (intOf i).toNat)
  case atStart => exact ⟨0, [], Nat.zero_le _, rfl, Keep.refl _ _, rfl, h0⟩
  case round =>
    obtain ⟨k, pre, hk, rfl, hK, HX, hJr⟩ := hrel
    by_cases hlt : k < n
    · obtain ⟨bb, o, rfl, hb, hc⟩ := (h.keep (hW.trans hK) hq).at (by omega)
      obtain ⟨x, hx, hd⟩ := drop_getElem xs k (by rw [hl.out]; exact hlt)
      have hck := hc k x hx
      have HX2 := Lib.hid (show nums 0 xs = pre ++ (k, x) :: nums (k + 1) (xs.drop (k + 1)) by rw [HX.out, hd]; rfl)
      obtain ⟨fn, tmps, assign, body, hy, hRR⟩ := hY pre (k, x) _ (fun _ => False) (fun _ => False) #[.int .i64 k, .string ⟨x.toArray⟩] wr HX2.out hJr (fun _ h => h.elim) ⟨rfl, rfl⟩ (fun _ h => h)
      clear HX hd hx hc hY h hb
      gi_wp2_with fail
      refine hRR.mono ?_
      rintro e W3 ⟨hk3, (⟨rfl, hJ3⟩ | ⟨rfl, hJx3⟩)⟩
      · gi_wp2
        go_roundw
        case rel => exact ⟨k + 1, pre ++ [(k, x)], by omega, by go_num, hK.trans (hk3.mono fun _ _ h => .inl h), Lib.hid (by rw [HX2.out]; simp), hJ _ _ _ _ _ hJ3 (Keep.refl _ _) (fun _ h => h.elim)⟩
        case measure => simp [intOf]; omega
      · gi_wp2
        refine bodyPost_ret (results_none rfl _ _ _) rfl ?_
        exact ⟨⟨_, rfl⟩, fun _ => False, fun _ h => h.elim, .inr ⟨pre ++ [(k, x)], _, by rw [HX2.out, List.append_assoc]; rfl, hJx _ _ _ _ _ hJx3 (Keep.refl _ _) (fun _ h => h.elim)⟩⟩
    · have HX2 := Lib.hid (show nums 0 xs = pre by rw [HX.out, List.drop_of_length_le (by rw [hl.out]; omega)]; unfold nums; simp)
      clear HX hY h
      gi_wp2
      refine bodyPost_end (results_none rfl _ _ _) rfl ?_
      exact ⟨⟨_, rfl⟩, fun _ => False, fun _ h => h.elim, .inl (by rw [HX2.out]; exact hJr)⟩

end Go.Proofs.YtpabhppghljipaaGreatDoor.S

namespace Go.Proofs.YtpabhppghljipaaGreatDoor.S
open Go.RowKit Go.Shelf
attribute [local go_sem] Oper.semAt_some

theorem Cmp_any (v1 v2 : Value) (xs ys : List (List UInt8)) (w : World) (h1 : SetIs encStr w v1 xs) (h2 : SetIs encStr w v2 ys) :
    Calls Tryz.prog 81 #[v1, v2] w fun e w' => e = .returned (.int .i64 (cmpL xs ys)) ∧ Below w.heap.size w w' := by
  obtain ⟨q1, n1, c1, rfl, _, hn1, hs1, _⟩ := h1
  obtain ⟨q2, n2, c2, rfl, _, hn2, hs2, _⟩ := h2
  have con := Compare_any q1 q2 n1 c1 n2 c2 xs ys _ ((hs1.alloc (.cells #[.slice q1 n1 c1] 82)).alloc (.cells #[.slice q2 n2 c2] 82)) ((hs2.alloc _).alloc _) hn1 hn2
  clear hs1 hs2
  generalize cmpL xs ys = r at con ⊢
  go_enter Tryz.func81, Tryz.ntmps81
  go_wp2_with fail
  refine con.mono ?_
  rintro e w' ⟨rfl, rfl⟩
  go_wp2
  go_ret
  exact ⟨rfl, (below_alloc _).trans ((below_alloc _).mono (by simp))⟩

end Go.Proofs.YtpabhppghljipaaGreatDoor.S

namespace Go.Proofs.YtpabhppghljipaaGreatDoor.Frm
open Cls
set_option linter.unusedVariables false

def impK (f g : List (List (List UInt8))) (names : List (List UInt8)) (k : Nat) : Bool := (List.range k).all fun s => !holdsB f (setB names s) || holdsB g (setB names s)
theorem impK_succ (f g : List (List (List UInt8))) (names : List (List UInt8)) (k : Nat) : impK f g names (k + 1) = (impK f g names k && (!holdsB f (setB names k) || holdsB g (setB names k))) := by
  unfold impK; rw [List.range_succ, List.all_append]; simp
/-- Both. -/
def andR (f g : List (List (List UInt8))) : Sum Int (List (List (List UInt8))) := ofF (f ++ g)
end Go.Proofs.YtpabhppghljipaaGreatDoor.Frm

namespace Go.Proofs.YtpabhppghljipaaGreatDoor.Frm
open Cls
set_option linter.unusedVariables false

/-! ### joins and meets, with their errors -/
theorem andR_is (f g x : List (List (List UInt8))) (h : andR f g = .inr x) : x = andF f g := by
  unfold andR ofF at h
  split at h
  · cases h; rfl
  · cases h
theorem and_err3 (f g : List (List (List UInt8))) (n : Int) (h : andR f g = .inl n) : n = 3 := errF _ n h
/-! ### flowing, set by set -/
theorem impK_names (f g : List (List (List UInt8))) (names : List (List UInt8)) (hd : names.Nodup) (hf : ∀ c ∈ f, ∀ p ∈ c, p ∈ names) (hg : ∀ c ∈ g, ∀ p ∈ c, p ∈ names) : impK f g names (2 ^ names.length) = impB f g := by
  rw [Bool.eq_iff_iff, imp_names names hd f g hf hg]
  unfold impK
  rw [List.all_eq_true]
  constructor
  · intro h s hs k
    have := h s (List.mem_range.2 hs)
    rw [k] at this; simpa using this
  · intro h s hs
    cases k : holdsB f (setB names s) with
    | false => rfl
    | true => rw [h s (List.mem_range.1 hs) k]; rfl
/-- All principals of some formulas, rising. -/
def namesA (fs : List (List (List (List UInt8)))) : List (List UInt8) := sortR fs.flatten.flatten
theorem namesA_nodup (fs : List (List (List (List UInt8)))) : (namesA fs).Nodup := rises_nodup _ (sort_rises _)
theorem namesA_mem (fs : List (List (List (List UInt8)))) (f : List (List (List UInt8))) (hf : f ∈ fs) : ∀ c ∈ f, ∀ p ∈ c, p ∈ namesA fs := fun c hc p hp => (mem_sort p _).2 (List.mem_flatten.2 ⟨c, List.mem_flatten.2 ⟨f, hf, hc⟩, hp⟩)
/-! ### one principal -/
end Go.Proofs.YtpabhppghljipaaGreatDoor.Frm

namespace Go.Proofs.YtpabhppghljipaaGreatDoor.Cls
open Go.RowKit Go.Shelf Url Org Frm
attribute [local go_sem] Oper.semAt_some

set_option maxHeartbeats 1000000 in
theorem Cmp_any (v1 v2 : Value) (x y : List (List UInt8)) (w : World) (h1 : SetIs encStr w v1 x) (h2 : SetIs encStr w v2 y) :
    Calls Tryz.prog 63 #[v1, v2] w fun e w' => e = .returned (.int .i64 (cmpL x y)) ∧ Below w.heap.size w w' := by
  obtain ⟨q1, n1, c1, rfl⟩ := set_form h1
  obtain ⟨q2, n2, c2, rfl⟩ := set_form h2
  have A1 := below_alloc (w := w) (.cells #[.slice q1 n1 c1] 84)
  have A2 := A1.trans ((below_alloc (w := w.alloc (.cells #[.slice q1 n1 c1] 84)) (.cells #[.slice q2 n2 c2] 84)).mono A1.size)
  have con := S.Cmp_any _ _ x y _ (h1.below A2) (h2.below A2)
  clear h1 h2
  go_enter Tryz.func63, Tryz.ntmps63
  go_wp2_with fail
  refine con.mono ?_
  rintro e w' ⟨rfl, hb⟩
  go_wp2
  go_ret
  exact ⟨rfl, A2.trans (hb.mono A2.size)⟩

end Go.Proofs.YtpabhppghljipaaGreatDoor.Cls

namespace Go.Proofs.YtpabhppghljipaaGreatDoor.Cls
open Go.RowKit Go.Shelf Url Org Frm
attribute [local go_sem] Oper.semAt_some

/-- A text, as yield takes it. -/
def StrArg (x : List UInt8) (args : Array Value) (G : Nat → Prop) (_W : World) : Prop := args = #[.string ⟨x.toArray⟩] ∧ G = fun _ => False

theorem All_any (q : Option Addr) (n c : Nat) (w : World) :
    Calls Tryz.prog 55 #[.agg #[.slice q n c]] w fun e w' => e = .returned (.func (.func 73) #[] #[.pointer (some ⟨w.heap.size, 0, none⟩)]) ∧ w' = w.alloc (.cells #[.slice q n c] 84) := by
  go_enter Tryz.func55, Tryz.ntmps55
  go_wp2
  go_ret
  exact ⟨rfl, rfl⟩

theorem setAll_any (q : Option Addr) (n c : Nat) (w : World) :
    Calls Tryz.prog 74 #[.agg #[.slice q n c]] w fun e w' => e = .returned (.func (.func 114) #[] #[.pointer (some ⟨w.heap.size + 1, 0, none⟩)]) ∧
      w' = (w.alloc (.cells #[.slice q n c] 82)).alloc (.cells #[.slice q n c] 49) := by
  have con : ∀ W : World, Calls Tryz.prog 94 #[.slice q n c] W fun e w' => e = .returned (.func (.func 114) #[] #[.pointer (some ⟨W.heap.size, 0, none⟩)]) ∧ w' = W.alloc (.cells #[.slice q n c] 49) := fun W => by
    go_enter Tryz.func94, Tryz.ntmps94
    go_wp2
    go_ret
    exact ⟨rfl, rfl⟩
  go_enter Tryz.func74, Tryz.ntmps74
  go_wp2_with fail
  refine (con _).mono ?_
  rintro e w' ⟨rfl, rfl⟩
  go_wp2
  go_ret
  exact ⟨by simp, rfl⟩

set_option maxRecDepth 100000 in
set_option maxHeartbeats 4000000 in
/-- What All tells: all principals. -/
theorem All1_iter (B : Nat) (q : Option Addr) (n c : Nat) (x : List (List UInt8)) (RB : Nat → Prop) (w0 : World) (hm : n ≤ 140737488355328)
    (h : SlIn encStr w0 q n x) (hq : ∀ a, q = some a → 0 < n → RB a.block) (b : Boxed w0 B 84 (.slice q n c)) (hR : RB B) (hRs : ∀ b, RB b → b < w0.heap.size) :
    IterC Tryz.prog 73 #[.pointer (some ⟨B, 0, none⟩)] StrArg x RB w0 := by
  intro l J Jx W hW hJ hJx hY h0
  refine (callsIn_wide (n := 1)).1 ?_
  refine callsIn_of_wp_marks Tryz.func73 rfl trivial ?_ rfl
  simp only [Tryz.ntmps73, List.size_toArray, List.length_cons, List.length_nil, Nat.reduceAdd, Nat.reduceSub, Array.replicate_succ, Array.replicate_zero, List.push_toArray, List.append_toArray, List.nil_append, List.cons_append]
  have hW0 := hW.size
  have aB := hW.boxed b hR
  have hs1 := h.keep hW hq
  have cB := (aB.alloc (.cells #[.func (.yield l) #[] #[]] 115)).cell
  have con := fun W => setAll_any q n c W
  have hN := Lib.hid (nums_snd 0 x)
  clear h b hW
  gi_wp2_with fail
  refine ⟨trivial, (callsIn_wide.2 (con _)).mono ?_⟩
  rintro e W' ⟨rfl, rfl⟩
  gi_wp2
  obtain ⟨W1, hW1⟩ : ∃ W1, ((W.alloc (.cells #[.func (.yield l) #[] #[]] 115)).alloc (.cells #[.slice q n c] 82)).alloc (.cells #[.slice q n c] 49) = W1 := ⟨_, rfl⟩
  have hk1 : ∀ S, Keep S W W1 := fun S => hW1 ▸ ((Keep.alloc S _ _).trans (Keep.alloc S _ _)).trans (Keep.alloc S _ _)
  have a0 : Boxed W1 W.heap.size 115 (.func (.yield l) #[] #[]) := hW1 ▸ ((Boxed.new W _ _).alloc _).alloc _
  have a2 : Boxed W1 (W.heap.size + 1 + 1) 49 (.slice q n c) := by
    have := Boxed.new ((W.alloc (.cells #[.func (.yield l) #[] #[]] 115)).alloc (.cells #[.slice q n c] 82)) 49 (.slice q n c)
    rw [World.size_alloc, World.size_alloc] at this
    exact hW1 ▸ this
  have hsz : W1.heap.size = W.heap.size + 3 := by rw [← hW1]; simp
  rw [hW1]
  clear hW1 cB con
  obtain ⟨RBin, hRBin⟩ : ∃ RBin : Nat → Prop, RBin = fun b => RB b ∨ b = W.heap.size ∨ b = W.heap.size + 1 + 1 := ⟨_, rfl⟩
  obtain ⟨Ow, hOw⟩ : ∃ Ow : Nat → Prop, Ow = fun b => W.heap.size ≤ b ∧ b < W1.heap.size := ⟨_, rfl⟩
  have hRl : ∀ b, RBin b → b < W1.heap.size := fun b hb => by rw [hRBin] at hb; rcases hb with hb | hb; (have := hRs b hb; omega); omega
  have hRBo : ∀ b, RB b → RBin b := fun b hb => by rw [hRBin]; exact .inl hb
  have hOwR : ∀ b, RBin b → RB b ∨ Ow b := fun b hb => by
    have h1 := hRl b hb
    rw [hRBin] at hb; rw [hOw]
    rcases hb with hb | hb
    · exact .inl hb
    · exact .inr ⟨by omega, h1⟩
  have r0 : RBin W.heap.size := by rw [hRBin]; exact .inr (.inl rfl)
  have r2 : RBin (W.heap.size + 1 + 1) := by rw [hRBin]; exact .inr (.inr rfl)
  have hOwl : ∀ b, Ow b → W.heap.size ≤ b ∧ b < W1.heap.size := fun b hb => by rw [hOw] at hb; exact hb
  clear hRBin hOw
  refine rf_law (gf := 114) (lb := #[.pointer (some ⟨W.heap.size + 1 + 1, 0, none⟩)]) rfl (enters_of Tryz.func114 (by kernel_rfl) rfl)
    (S.All1_iter (W.heap.size + 1 + 1) q n c x RBin W1 hm (hs1.keep (hk1 (fun _ => True)) fun _ _ _ => trivial) (fun a h1 h2 => hRBo _ (hq a h1 h2)) a2 r2) (Keep.refl _ _) hRl (fun x args G W h => by rw [h.1]; rfl)
    (AdI RBin Ow W1 J (List.map Prod.snd) (fun _ _ => True)) (AdX J Jx x) (AdI_abide hJ hRl (fun _ _ _ _ _ => trivial)) (AdX_abide hJ hJx)
    ⟨Keep.refl _ _, (fun _ h => h.elim), trivial, Ow, hJ _ _ _ _ _ h0 (hk1 _) (fun b hb => ⟨.inr (hOwl b hb).1, (hOwl b hb).2⟩), (fun _ h => h.elim), (fun _ h => h), (fun b hb => (hOwl b hb).2)⟩ ?round ?done ?stop
  case round =>
    rintro ll pre ⟨i, t⟩ rest Pv G args Wr hll hxs ⟨hKI, hge, _, Q, hj, hPQ, hOQ, hQl⟩ hPl hGl hPb hGP ⟨rfl, rfl⟩
    gi_wp2
    refine ⟨Keep.refl _ _, fun W2 hk2 hs2 r hr => ?_⟩
    have hlW : W1.heap.size ≤ ll := hge ll hPl
    have j2 : J (pre.map Prod.snd) Q W2 := hJ _ _ _ _ _ hj (hk2.mono fun b _ hb => by rintro rfl; exact hb (hPQ _ hPl)) fun b hb => ⟨.inl hb, by have := hQl b hb; omega⟩
    have k2 : Keep RBin W1 W2 := hKI.trans (hk2.mono fun b _ hb => by have := hRl b hb; omega)
    have hQ2 : ∀ b, Q b → b < W2.heap.size := fun b hb => by have := hQl b hb; omega
    have c0 := (k2.boxed a0 r0).cell
    have hys : x = pre.map Prod.snd ++ t :: rest.map Prod.snd := by
      have e := congrArg (List.map Prod.snd) hxs
      rw [hN.out] at e
      rw [e]; simp
    obtain ⟨fn, tmps, assign, body, hy, hRR⟩ := hY (pre.map Prod.snd) t _ Q (fun _ => False) #[.string ⟨t.toArray⟩] W2 hys j2 hQ2 ⟨rfl, rfl⟩ (fun _ h => h.elim)
    have HYS := Lib.hid hys
    clear hys hxs hY hs2 hr hk2
    gi_wp2_with fail
    refine ⟨rfl, RoundIn.mono hRR ?_⟩
    rintro e W5 ⟨hk5, (⟨rfl, hJ5⟩ | ⟨rfl, hJx5⟩)⟩
    · have hkk : Keep (fun b => RBin b ∨ Pv b) W2 W5 := hk5.mono fun b _ h => h.elim (fun h => (hOwR b h).imp id fun h => ⟨hOQ b h, id⟩) (fun h => .inr ⟨hPQ b h, id⟩)
      have hz5 := hk5.size
      clear hRR hy
      gi_wp2
      refine ⟨hkk, k2.trans (hkk.mono fun b _ h => .inl h), fun b hb => hge b hb, trivial, fun b => Q b ∧ ¬ False, ?_, fun b hb => ⟨hPQ b hb, id⟩, fun b hb => ⟨hOQ b hb, id⟩, fun b hb => by have := hQ2 b hb.1; omega⟩
      rw [List.map_append]
      exact hJ5
    · have hkk : Keep (fun b => RBin b ∨ Pv b) W2 W5 := hk5.mono fun b _ h => h.elim (fun h => (hOwR b h).imp id fun h => ⟨hOQ b h, id⟩) (fun h => .inr ⟨hPQ b h, id⟩)
      have hz5 := hk5.size
      clear hRR hy
      gi_wp2
      exact ⟨hkk, rfl, fun b => Q b ∧ ¬ False, fun b hb => ⟨hPQ b hb, id⟩, fun b hb => by have := hQ2 b hb.1; omega, .inr ⟨_, rest.map Prod.snd, by rw [HYS.out, List.append_assoc]; rfl, hJx5⟩⟩
  case done =>
    rintro D Pv Wd hD hPD hPl ⟨_, hge, _, Q, hj, hPQ, hOQ, hQl⟩ hK
    rw [hN.out] at hj
    gi_wp2
    refine ⟨by simp, .inl ⟨_, _, rfl, run_takeDeferred hK, ?_⟩⟩
    refine ⟨_, results_none rfl _ _ _, ⟨_, rfl⟩, Q, ?_, .inl ?_⟩
    · intro b hb; rw [World.putObj_size]; exact hQl b hb
    · exact hJ _ _ _ _ _ hj (Keep.putObj _ _ _ (fun h => h (hPQ D hPD))) (fun b hb => ⟨.inl hb, by rw [World.putObj_size]; exact hQl b hb⟩)
  case stop =>
    rintro D cc pre rest Pv Wd hD hPD hPl hxs ⟨rfl, Q, hPQ, hQl, hj⟩ hK
    gi_wp2
    refine ⟨by simp, .inl ⟨_, _, rfl, run_takeDeferred hK, ?_⟩⟩
    refine ⟨_, results_none rfl _ _ _, ⟨_, rfl⟩, Q, ?_, ?_⟩
    · intro b hb; rw [World.putObj_size]; exact hQl b hb
    · have hkp : Keep (fun b => ¬ Q b) Wd (Wd.putObj D (.deferred none)) := Keep.putObj _ _ _ (fun h => h (hPQ D hPD))
      have hqp : ∀ b, Q b → (Q b ∨ Wd.heap.size ≤ b) ∧ b < (Wd.putObj D (.deferred none)).heap.size := fun b hb => ⟨.inl hb, by rw [World.putObj_size]; exact hQl b hb⟩
      rcases hj with hj | ⟨pre', rest', he, hj⟩
      · exact .inl (hJ _ _ _ _ _ hj hkp hqp)
      · exact .inr ⟨pre', rest', he, hJx _ _ _ _ _ hj hkp hqp⟩

end Go.Proofs.YtpabhppghljipaaGreatDoor.Cls

namespace Go.Proofs.YtpabhppghljipaaGreatDoor.Cls
open Go.RowKit Go.Shelf Url Org Frm
attribute [local go_sem] Oper.semAt_some

/-- Are texts few, and short? -/
def fewB (l : List (List UInt8)) : Bool := decide (l.length ≤ 24) && l.all fun t => decide (t.length ≤ 60)
theorem few_of (l : List (List UInt8)) (h : fewB l = true) : l.length ≤ 24 ∧ ∀ t ∈ l, t.length ≤ 60 := by
  unfold fewB at h
  rw [Bool.and_eq_true] at h
  exact ⟨of_decide_eq_true h.1, fun t ht => of_decide_eq_true (List.all_eq_true.1 h.2 t ht)⟩

end Go.Proofs.YtpabhppghljipaaGreatDoor.Cls

namespace Go.Proofs.YtpabhppghljipaaGreatDoor.Frm
open Go.RowKit Go.Shelf Go.Sort Url Org Cls
attribute [local go_sem] Oper.semAt_some
set_option linter.unusedVariables false

set_option maxHeartbeats 1000000 in
theorem Len_any (v : Value) (f : List (List (List UInt8))) (w : World) (h : FrmIs w v f) :
    Calls Tryz.prog 27 #[v] w fun e w' => e = .returned (.int .i64 f.length) ∧ Below w.heap.size w w' := by
  obtain ⟨q, n, c, rfl, _, _, h3⟩ := h
  obtain rfl := h3.len
  clear h3
  go_enter Tryz.func27, Tryz.ntmps27
  go_wp2
  go_ret
  exact ⟨rfl, below_alloc _⟩
theorem Never_any (w : World) : Calls Tryz.prog 24 #[] w fun e w' => ∃ q n c, e = .returned (.agg #[.slice q n c]) ∧ FrmIs w' (.agg #[.slice q n c]) [[]] ∧ Below w.heap.size w w' := by
  obtain ⟨W, hW⟩ : ∃ W, (w.alloc (.cells #[.slice (some ⟨w.heap.size + 1, 0, none⟩) 1 1] 26)).alloc (.cells #[.slice none 0 0] 84) = W := ⟨_, rfl⟩
  have b0 : Boxed W w.heap.size 26 (.slice (some ⟨w.heap.size + 1, 0, none⟩) 1 1) := hW ▸ (Boxed.new w _ _).alloc _
  have b1 : Boxed W (w.heap.size + 1) 84 (.slice none 0 0) := by
    have := Boxed.new (w.alloc (.cells #[.slice (some ⟨w.heap.size + 1, 0, none⟩) 1 1] 26)) 84 (.slice none 0 0)
    rw [World.size_alloc] at this
    exact hW ▸ this
  have hb : Below w.heap.size w W := hW ▸ ((Below.refl _ w).alloc (Nat.le_refl _) _).alloc (by simp) _
  have HW := Lib.hid hW
  have k0 := b0.cell
  have hf : FrmIs W (.agg #[.slice (some ⟨w.heap.size + 1, 0, none⟩) 1 1]) [[]] := ⟨_, _, _, rfl, (fun h => by cases h), Nat.le_refl _, [((none, 0, 0), [])], ⟨rfl, fun _ => ⟨_, _, rfl, b1.lt, fun i x hx => by
    cases i with
    | zero => cases hx; exact b1.cell
    | succ i => simp at hx⟩⟩, fun z hz => by rw [List.mem_singleton.1 hz]; exact ⟨set_nil _, by simp⟩, rfl⟩
  clear hW b0 b1
  go_enter Tryz.func24, Tryz.ntmps24
  go_wp2
  rw [HW.out]
  refine bodyPost_ret (v := .agg #[.slice (some ⟨w.heap.size + 1, 0, none⟩) 1 1]) (by simp [results, Tryz.f24, go_sem, k0]) rfl ?_
  exact ⟨_, _, _, rfl, hf, hb⟩
end Go.Proofs.YtpabhppghljipaaGreatDoor.Frm

namespace Go.Proofs.YtpabhppghljipaaGreatDoor.Frm
open Go.RowKit Go.Shelf Go.Sort Url Org Cls
attribute [local go_sem] Oper.semAt_some
set_option linter.unusedVariables false

theorem take_eq {α : Type} (xs ys : List α) (k : Nat) (x y : α) (hx : xs[k]? = some x) (hy : ys[k]? = some y) (h : xs.take k = ys.take k) (e : x = y) : xs.take (k + 1) = ys.take (k + 1) := by
  rw [(take_snoc xs k x hx).1, (take_snoc ys k y hy).1, h, e]

set_option maxRecDepth 100000 in
set_option maxHeartbeats 8000000 in
theorem CompareFunc_any (q1 q2 : Option Addr) (n1 c1 n2 c2 : Nat) (xs ys : List (List (List UInt8))) (w : World) (h1 : ClsIn w q1 n1 xs) (h2 : ClsIn w q2 n2 ys) (hn1 : n1 ≤ 140737488355328) (hn2 : n2 ≤ 140737488355328) :
    Calls Tryz.prog 62 #[.slice q1 n1 c1, .slice q2 n2 c2, .func (.func 63) #[] #[]] w fun e w' => ∃ i : Int, e = .returned (.int .i64 i) ∧ (i == 0) = decide (xs = ys) ∧ Below w.heap.size w w' := by
  have hl1 := Lib.hid h1.len
  have hl2 := Lib.hid h2.len
  go_enter Tryz.func62, Tryz.ntmps62
  go_wp2
  go_loopw [13] (fun i wr => ∃ k : Nat, k ≤ n1 ∧ k ≤ n2 ∧ i = .int .i64 k ∧ Hid (xs.take k = ys.take k) ∧ Below w.heap.size w wr) (fun i _ => n1 - (intOf i).toNat)
  case atStart => exact ⟨0, Nat.zero_le _, Nat.zero_le _, rfl, rfl, Below.refl _ _⟩
  case round =>
    obtain ⟨k, hk1, hk2, rfl, HR, hB⟩ := hrel
    by_cases hlt : k < n1
    · obtain ⟨b1, o1, xq, xn, xc, x, rfl, hx, ck1, hsx, hfx⟩ := (h1.below hB).at k hlt
      by_cases hlt2 : k < n2
      · obtain ⟨b2, o2, yq, yn, yc, y, rfl, hy, ck2, hsy, hfy⟩ := (h2.below hB).at k hlt2
        have d2 : decide ((n2 : Int) ≤ (k : Int)) = false := by simp; omega
        have ka := Keep.alloc (fun _ => True) wr (.cells #[.slice xq xn xc] 84)
        have hlb : b2 < wr.heap.size := World.block_lt_of_cell? wr _ ck2
        have ck2' : (wr.alloc (.cells #[.slice xq xn xc] 84)).cell? ⟨b2, o2 + k, none⟩ = some (.slice yq yn yc) := (World.cell?_of_block (ka.block b2 hlb trivial)).trans ck2
        have A1 := below_alloc (w := wr) (.cells #[.slice xq xn xc] 84)
        have A2 := A1.trans ((below_alloc (w := wr.alloc (.cells #[.slice xq xn xc] 84)) (.cells #[.slice yq yn yc] 84)).mono A1.size)
        have cA := ((Boxed.new wr 84 (.slice xq xn xc)).alloc (.cells #[.slice yq yn yc] 84)).cell
        have cB := (Boxed.new (wr.alloc (.cells #[.slice xq xn xc] 84)) 84 (.slice yq yn yc)).cell
        rw [World.size_alloc] at cB
        have con := Cls.Cmp_any _ _ x y _ (hsx.below A2) (hsy.below A2)
        have hBB := hB.trans (A2.mono hB.size)
        have HX := Lib.hid hx
        have HY := Lib.hid hy
        have HC := Lib.hid (cmpL_eq x y)
        generalize cmpL x y = r at con HC
        clear hx hy h1 h2 hsx hsy ka A1 A2
        by_cases hr : r = 0
        · have HR2 := Lib.hid (take_eq xs ys k x y HX.out HY.out HR.out (HC.out.1 hr))
          have d3 : ((r : Int) != 0) = false := by rw [hr]; rfl
          clear hr
          go_wp2_with fail
          refine con.mono ?_
          rintro e w3 ⟨rfl, hb3⟩
          have A3 := hBB.trans (hb3.mono hBB.size)
          clear con hb3 cA cB
          go_wp2
          go_roundw
          case rel => exact ⟨k + 1, by omega, by omega, by go_num, HR2, A3⟩
          case measure => simp [intOf]; omega
        · have HN := Lib.hid (show (r == 0) = decide (xs = ys) by
            rw [beq_eq_false_iff_ne.2 hr, eq_comm, decide_eq_false_iff_not]
            intro e
            have h1 := HX.out
            rw [e, HY.out] at h1
            exact hr (HC.out.2 (Option.some.inj h1).symm))
          have d3 : ((r : Int) != 0) = true := by unfold bne; rw [beq_eq_false_iff_ne.2 hr]; rfl
          clear hr
          go_wp2_with fail
          refine con.mono ?_
          rintro e w3 ⟨rfl, hb3⟩
          have A3 := hBB.trans (hb3.mono hBB.size)
          clear con hb3 cA cB
          go_wp2
          go_ret
          exact ⟨_, rfl, HN.out, A3⟩
      · have d2 : decide ((n2 : Int) ≤ (k : Int)) = true := by simp; omega
        have HN := Lib.hid (show ((1 : Int) == 0) = decide (xs = ys) by
          rw [eq_comm, show ((1 : Int) == 0) = false from rfl, decide_eq_false_iff_not]
          intro e
          have := hl1.out
          rw [e, hl2.out] at this
          omega)
        have hBB := hB.trans ((below_alloc (w := wr) (.cells #[.slice xq xn xc] 84)).mono hB.size)
        clear hx hsx h1 h2
        go_wp2
        go_ret
        exact ⟨_, rfl, HN.out, hBB⟩
    · obtain rfl : k = n1 := by omega
      clear h1 h2
      by_cases hlt2 : k < n2
      · have d2 : decide ((k : Int) < (n2 : Int)) = true := by simp; omega
        have HN := Lib.hid (show ((-1 : Int) == 0) = decide (xs = ys) by
          rw [eq_comm, show ((-1 : Int) == 0) = false from rfl, decide_eq_false_iff_not]
          intro e
          have := hl1.out
          rw [e, hl2.out] at this
          omega)
        go_wp2
        go_ret
        exact ⟨_, rfl, HN.out, hB⟩
      · have d2 : decide ((k : Int) < (n2 : Int)) = false := by simp; omega
        have HN := Lib.hid (show ((0 : Int) == 0) = decide (xs = ys) by
          rw [eq_comm, show ((0 : Int) == 0) = true from rfl, decide_eq_true_iff]
          have := HR.out
          rwa [List.take_of_length_le (by rw [hl1.out]; omega), List.take_of_length_le (by rw [hl2.out]; omega)] at this)
        go_wp2
        go_ret
        exact ⟨_, rfl, HN.out, hB⟩

set_option maxRecDepth 100000 in
set_option maxHeartbeats 4000000 in
theorem Same_any (v1 v2 : Value) (f g : List (List (List UInt8))) (w : World) (h1 : FrmIs w v1 f) (h2 : FrmIs w v2 g) (lf : f.length ≤ 1099511627776) (lg : g.length ≤ 1099511627776) :
    Calls Tryz.prog 47 #[v1, v2] w fun e w' => e = .returned (.bool (decide (f = g))) ∧ Below w.heap.size w w' := by
  obtain ⟨q1, n1, c1, rfl⟩ := frm_form h1
  obtain ⟨q2, n2, c2, rfl⟩ := frm_form h2
  obtain ⟨_, _, r1⟩ := h1.row
  obtain ⟨_, _, r2⟩ := h2.row
  have A1 := below_alloc (w := w) (.cells #[.slice q1 n1 c1] 26)
  have A2 := A1.trans ((below_alloc (w := w.alloc (.cells #[.slice q1 n1 c1] 26)) (.cells #[.slice q2 n2 c2] 26)).mono A1.size)
  have e1 := r1.len
  have e2 := r2.len
  have con := CompareFunc_any q1 q2 n1 c1 n2 c2 f g _ (r1.below A2) (r2.below A2) (by omega) (by omega)
  clear h1 h2 r1 r2 e1 e2
  generalize decide (f = g) = b at con ⊢
  go_enter Tryz.func47, Tryz.ntmps47
  go_wp2_with fail
  refine con.mono ?_
  rintro e w' ⟨i, rfl, hi, hb⟩
  have HI := Lib.hid hi
  clear hi con
  go_wp2
  go_ret
  exact ⟨(by first | rfl | (rw [← HI.out]; rfl)), A2.trans (hb.mono A2.size)⟩

end Go.Proofs.YtpabhppghljipaaGreatDoor.Frm

namespace Go.Proofs.YtpabhppghljipaaGreatDoor.Frm
open Go.RowKit Go.Shelf Go.Sort Url Org Cls
attribute [local go_sem] Oper.semAt_some
set_option linter.unusedVariables false

set_option maxRecDepth 100000 in
set_option maxHeartbeats 4000000 in
theorem Grow_cls (n : Nat) (w : World) (hn : n ≤ 1099511627776) :
    Calls Tryz.prog 76 #[.slice none 0 0, .int .i64 n] w fun e w' => ∃ v, e = .returned v ∧ w'.ownsRow w.heap.size 84 1 v 0 [] ∧ Below w.heap.size w w' := by
  by_cases h0 : n = 0
  · subst h0
    go_enter Tryz.func76, Tryz.ntmps76
    go_wp2
    go_ret
    exact ⟨_, rfl, World.ownsRow_nil _ _ _ _, Below.refl _ _⟩
  obtain ⟨i0, hi0, hz0, hz1, hz2⟩ := info_parts info_cls
  have h1 : ¬ ((n : Int) < 0) := by omega
  have h4 : (n : Int) > 0 := by omega
  have h4' : decide (0 < n) = true := by simp; omega
  have hold : (Builtin.firstCells i0.size 0 (.slice none 0 0)).run Tryz.prog w.drew = .ok ([] : List Value).toArray w.drew := run_firstCells_none w.drew i0.size 0 0 0
  have hrz := Lib.run_append_grow_zeros (P := Tryz.prog) w 24 3 24 84 i0 (.agg #[.slice none 0 0]) .i64 .i64 Tryz.underlying24 Tryz.underlying3 hi0 hz0 none 0 0 [] hold n (by omega) (by omega) (by omega) (by omega) (by rw [hz2]; omega)
    (growslice_fits (by omega) (by rw [hz2]; omega))
  simp only [Nat.zero_add] at hrz
  have hG : n ≤ grownCap w n 0 84 := grownCap_ge w _ _ _
  have hGm : grownCap w n 0 84 ≤ maxLen := grownCap_le_maxLen w n 0 84 (by unfold maxLen; omega)
  have hz : ∀ k, (Builtin.zeroCells (Value.agg #[.slice none 0 0]).cells k).size = k := fun k => by simp [Builtin.zeroCells, Value.cells]
  have hsz : (([] : List Value).toArray ++ Builtin.zeroCells (Value.agg #[.slice none 0 0]).cells n ++ Builtin.zeroCells (Value.agg #[.slice none 0 0]).cells (grownCap w n 0 84 - n)).size = grownCap w n 0 84 * 1 := by
    rw [Array.size_append, Array.size_append, hz, hz, List.size_toArray, List.length_nil]; omega
  have hown := World.ownsRow_made (e := 84) (size := 1) (base := w.heap.size) w.drew _ (grownCap w n 0 84) (Nat.le_refl _) hGm hsz
  have hbel := (Below.refl w.heap.size w).drew.alloc (Nat.le_refl _) (.cells (([] : List Value).toArray ++ Builtin.zeroCells (Value.agg #[.slice none 0 0]).cells n ++ Builtin.zeroCells (Value.agg #[.slice none 0 0]).cells (grownCap w n 0 84 - n)) 84)
  have hgm : ((grownCap w n 0 84 : Nat) : Int) ≤ 9223372036854775807 := by unfold maxLen at hGm; omega
  clear hold hsz hGm hz
  generalize grownCap w n 0 84 = G at *
  generalize (([] : List Value).toArray ++ Builtin.zeroCells (Value.agg #[.slice none 0 0]).cells n ++ Builtin.zeroCells (Value.agg #[.slice none 0 0]).cells (G - n)) = cs at *
  go_enter Tryz.func76, Tryz.ntmps76
  go_wp2_with (at_builtin; refine Lib.wpList_append_run _ rfl _ _ _ _ rfl _ _ rfl rfl _ _ hrz ?_)
  go_ret
  exact ⟨_, rfl, hown, hbel⟩

set_option maxRecDepth 100000 in
set_option maxHeartbeats 8000000 in
/-- slices.Concat of two rows. -/
theorem Concat_cls (b : Nat) (q1 q2 : Option Addr) (n1 c1 n2 c2 : Nat) (zs1 zs2 : List Cl) (w : World) (hc0 : w.cell? ⟨b, 0, none⟩ = some (.slice q1 n1 c1)) (hc1 : w.cell? ⟨b, 1, none⟩ = some (.slice q2 n2 c2))
    (h1 : SlIn encC w q1 n1 zs1) (h2 : SlIn encC w q2 n2 zs2) (hq1 : q1 = none → c1 = 0) (hq2 : q2 = none → c2 = 0) (hs : n1 + n2 ≤ 1099511627776) :
    Calls Tryz.prog 58 #[.slice (some ⟨b, 0, none⟩) 2 2] w fun e w' => ∃ v, e = .returned v ∧ w'.ownsRow w.heap.size 84 1 v (n1 + n2) ((zs1 ++ zs2).map encC) ∧ Below w.heap.size w w' := by
  have con := Grow_cls (n1 + n2) w hs
  have hbl := World.block_lt_of_cell? w _ hc0
  have d1 : decide ((n1 : Int) < 0) = false := by simp
  have hcast : ((n1 + n2 : Nat) : Int) = (n1 : Int) + n2 := by omega
  rw [hcast] at con
  clear hcast
  have d2 : decide ((n1 : Int) + (n2 : Int) < 0) = false := by simp; omega
  go_enter Tryz.func58, Tryz.ntmps58
  go_wp2
  go_loop [3, 11] (fun s i => (i = .int .i64 0 ∧ s = .int .i64 0) ∨ (i = .int .i64 1 ∧ s = .int .i64 n1) ∨ (i = .int .i64 2 ∧ s = .int .i64 ((n1 : Int) + n2))) (fun _ i => 2 - (intOf i).toNat)
  case atStart => exact .inl ⟨rfl, rfl⟩
  case round =>
    rcases hrel with ⟨rfl, rfl⟩ | ⟨rfl, rfl⟩ | ⟨rfl, rfl⟩
    · go_wp2
      go_round
      case rel => exact .inr (.inl ⟨by go_num, by go_num⟩)
      case measure => simp [intOf]
    · go_wp2
      go_round
      case rel => exact .inr (.inr ⟨by go_num, by go_num⟩)
      case measure => simp [intOf]
    · have l1 := h1.1
      have l2 := h2.1
      go_wp2_with fail
      refine con.mono ?_
      rintro e w1 ⟨v1, rfl, hown, hbel⟩
      clear con
      go_wp2
      go_loopw [6, 27] (fun v i wr => ∃ (k : Nat) (ls : List Cl), i = .int .i64 k ∧ ((k = 0 ∧ ls = []) ∨ (k = 1 ∧ ls = zs1) ∨ (k = 2 ∧ ls = zs1 ++ zs2)) ∧ wr.ownsRow w.heap.size 84 1 v ls.length (ls.map encC) ∧ Below w.heap.size w wr) (fun _ i _ => 2 - (intOf i).toNat)
      case atStart => exact ⟨0, [], rfl, .inl ⟨rfl, rfl⟩, hown, hbel⟩
      case round =>
        obtain ⟨k, ls, rfl, hk, hrow, hB⟩ := hrel
        have hbs := hB.size
        rcases hk with ⟨rfl, rfl⟩ | ⟨rfl, rfl⟩ | ⟨rfl, rfl⟩
        · have hc0' : wr.cell? ⟨b, 0, none⟩ = some (.slice q1 n1 c1) := (World.cell?_of_block (hB.block b hbl)).trans hc0
          have hs1 := h1.below hB h1.lt
          clear hown
          go_wp2_with (at_builtin; refine wpList_append_cls rfl _ _ rfl w.heap.size _ 0 _ rfl hrow q1 n1 c1 zs1 rfl hq1 hs1 (by omega) hbs ?_; intro v4 w4 hown4 hgrow4)
          go_roundw
          case rel =>
            refine ⟨1, zs1, by go_num, .inr (.inl ⟨rfl, rfl⟩), ?_, hB.trans ((Below.refl _ _).grown hgrow4 hbs (fun b h => (hrow.lt b h).1))⟩
            rw [l1]; simpa using hown4
          case measure => simp [intOf]
        · have hc1' : wr.cell? ⟨b, 1, none⟩ = some (.slice q2 n2 c2) := (World.cell?_of_block (hB.block b hbl)).trans hc1
          have hs2 := h2.below hB h2.lt
          clear hown
          go_wp2_with (at_builtin; refine wpList_append_cls rfl _ _ rfl w.heap.size _ _ _ rfl hrow q2 n2 c2 zs2 rfl hq2 hs2 (by omega) hbs ?_; intro v4 w4 hown4 hgrow4)
          go_roundw
          case rel =>
            refine ⟨2, ls ++ zs2, by go_num, .inr (.inr ⟨rfl, rfl⟩), ?_, hB.trans ((Below.refl _ _).grown hgrow4 hbs (fun b h => (hrow.lt b h).1))⟩
            rw [List.length_append, l2, List.map_append]; exact hown4
          case measure => simp [intOf]
        · have hrow' : wr.ownsRow w.heap.size 84 1 u6 (n1 + n2) ((zs1 ++ zs2).map encC) := by
            have := hrow
            rwa [List.length_append, l1, l2] at this
          clear hown hrow
          go_wp2
          go_ret
          exact ⟨_, rfl, hrow', hB⟩

set_option maxRecDepth 100000 in
set_option maxHeartbeats 8000000 in
theorem And_any (v1 v2 : Value) (f g : List (List (List UInt8))) (w : World) (h1 : FrmIs w v1 f) (h2 : FrmIs w v2 g) (lf : f.length + g.length ≤ 1099511627776) :
    Calls Tryz.prog 39 #[v1, v2] w (FrmOut (andR f g) w) := by
  obtain ⟨q1, n1, c1, rfl⟩ := frm_form h1
  obtain ⟨q2, n2, c2, rfl⟩ := frm_form h2
  obtain ⟨hq1, _, zs1, s1, z1, rfl⟩ := h1.row
  obtain ⟨hq2, _, zs2, s2, z2, rfl⟩ := h2.row
  obtain ⟨W0, hW0⟩ : ∃ W0, ((w.alloc (.cells #[.slice q1 n1 c1] 26)).alloc (.cells #[.slice q2 n2 c2] 26)).alloc (.cells #[.slice none 0 0] 26) = W0 := ⟨_, rfl⟩
  have b0 : Boxed W0 w.heap.size 26 (.slice q1 n1 c1) := hW0 ▸ ((Boxed.new w _ _).alloc _).alloc _
  have b1 : Boxed W0 (w.heap.size + 1) 26 (.slice q2 n2 c2) := by
    have := (Boxed.new (w.alloc (.cells #[.slice q1 n1 c1] 26)) 26 (.slice q2 n2 c2)).alloc (.cells #[.slice none 0 0] 26)
    rw [World.size_alloc] at this
    exact hW0 ▸ this
  have b2 : Boxed W0 (w.heap.size + 2) 26 (.slice none 0 0) := by
    have := Boxed.new ((w.alloc (.cells #[.slice q1 n1 c1] 26)).alloc (.cells #[.slice q2 n2 c2] 26)) 26 (.slice none 0 0)
    rw [World.size_alloc, World.size_alloc] at this
    exact hW0 ▸ this
  have hB0 : Below w.heap.size w W0 := hW0 ▸ (((Below.refl _ w).alloc (Nat.le_refl _) _).alloc (by simp) _).alloc (by simp; omega) _
  have hs0 : W0.heap.size = w.heap.size + 3 := by rw [← hW0]; simp
  obtain ⟨W3, hW3⟩ : ∃ W3, W0.alloc (.cells #[.slice q1 n1 c1, .slice q2 n2 c2] 24) = W3 := ⟨_, rfl⟩
  have hB3 : Below W0.heap.size W0 W3 := hW3 ▸ below_alloc _
  have A3 := hB0.trans (hB3.mono hB0.size)
  have hc0 : W3.cell? ⟨W0.heap.size, 0, none⟩ = some (.slice q1 n1 c1) := by rw [← hW3]; simp
  have hc1 : W3.cell? ⟨W0.heap.size, 1, none⟩ = some (.slice q2 n2 c2) := by rw [← hW3]; simp
  have e1 := s1.1
  have e2 := s2.1
  rw [List.length_map, List.length_map, e1, e2] at lf
  have con := Concat_cls W0.heap.size q1 q2 n1 c1 n2 c2 zs1 zs2 W3 hc0 hc1 (s1.below A3 s1.lt) (s2.below A3 s2.lt) hq1 hq2 lf
  rw [hs0] at con
  have b3 := (Keep.of_below hB3).boxed b2 b2.lt
  have k0 := b0.cell
  have k1 := b1.cell
  have HZ := Lib.hid (show ∀ z ∈ zs1 ++ zs2, ClAt W3 z from fun z hz => (List.mem_append.1 hz).elim (fun h => (z1 z h).below A3) (fun h => (z2 z h).below A3))
  have HR := Lib.hid (show andR (zs1.map Prod.snd) (zs2.map Prod.snd) = ofF ((zs1 ++ zs2).map Prod.snd) by rw [List.map_append]; rfl)
  have HL := Lib.hid (show (zs1 ++ zs2).length = n1 + n2 by rw [List.length_append, e1, e2])
  have HW0 := Lib.hid hW0
  have HW3 := Lib.hid hW3
  have HS0 := Lib.hid hs0
  generalize zs1 ++ zs2 = zs at *
  clear hW0 hW3 h1 h2 s1 s2 z1 z2 hc0 hc1 hs0 e1 e2
  go_enter Tryz.func39, Tryz.ntmps39
  go_wp2_with fail
  rw [HW0.out]
  rw [HW3.out]
  refine con.mono ?_
  rintro e w4 ⟨v4, rfl, hown, hb4⟩
  obtain ⟨q5, c5, rfl, hc5, hm5, hs5, _⟩ := slIn_of_owns hown
  have b4 := (Keep.of_below hb4).boxed b3 b3.lt
  have A4 := A3.trans (hb4.mono A3.size)
  have con2 := Of_any q5 (n1 + n2) c5 (zs.map Prod.snd) w4 ⟨zs, hs5, fun z hz => (HZ.out z hz).below hb4, rfl⟩ (fun h => by subst h; exact (Cls.row_nil hown).2) lf
  rw [← HR.out] at con2
  generalize n1 + n2 = n at *
  clear con hown hs5 hb4 hm5 hc5 HW0 HW3 k0 k1
  go_wp2_with fail
  refine con2.mono ?_
  rintro e w6 ⟨q6, n6, c6, rfl, hs6, hq6, hb6⟩
  have b6 := (Keep.of_below hb6).boxed b4 b4.lt
  have A6 := A4.trans (hb6.mono A4.size)
  have kf := b6.frozen
  have kc := b6.cell
  have hlt := b4.lt
  clear con2
  go_wp2
  refine bodyPost_ret (ret_frm2 rfl _ _ (w.heap.size + 2) _ rfl (b6.set _)) rfl ?_
  exact ⟨q6, n6, c6, rfl, hs6.set b6 (fun x h => by cases h) (fun a ha => by have := hq6 a ha; omega), (fun a ha => Nat.le_trans A4.size (hq6 a ha)), A6.setCell (by simp; omega) _⟩

end Go.Proofs.YtpabhppghljipaaGreatDoor.Frm

namespace Go.Proofs.YtpabhppghljipaaGreatDoor.Frm
open Go.RowKit Go.Shelf Go.Sort Url Org Cls
attribute [local go_sem] Oper.semAt_some
set_option linter.unusedVariables false

/-! ### lives -/
/-! ### Of -/
/-! ### what is told, collected -/
set_option maxRecDepth 100000 in
set_option maxHeartbeats 4000000 in
theorem all07_any (gf : Nat) (lb : Array Value) (x : List (List UInt8)) (RB : Nat → Prop) (w : World) (eg : ∀ args w, (callFunc gf args).run Tryz.prog w = .ok (.enter gf args) w)
    (hi : IterC Tryz.prog gf lb StrArg x RB w) (hRs : ∀ b, RB b → b < w.heap.size) (hN : x.length ≤ 1099511627776) :
    Calls Tryz.prog 54 #[.func (.func gf) #[] lb] w fun e w' => ∃ v, e = .returned v ∧ w'.ownsRow w.heap.size 9 1 v x.length (x.map encStr) ∧ Below w.heap.size w w' := by
  obtain ⟨i0, hi0, hz0, hz1, hz2⟩ := info_parts S.info_str
  have hnf : ∀ w' : World, (binOp .eql 96 (.func (.func gf) #[] lb) .nilFunc).run Tryz.prog w' = .ok (.bool false) w' := fun _ => by kernel_rfl
  refine (callsIn_wide (n := 1)).1 ?_
  refine callsIn_of_wp_marks Tryz.func54 rfl trivial ?_ rfl
  simp only [Tryz.ntmps54, List.size_toArray, List.length_cons, List.length_nil, Nat.reduceAdd, Nat.reduceSub, Array.replicate_succ, Array.replicate_zero, List.push_toArray, List.append_toArray, List.nil_append, List.cons_append]
  gi_wp2
  obtain ⟨W0, hW0⟩ : ∃ W0, w.alloc (.cells #[.slice none 0 0] 49) = W0 := ⟨_, rfl⟩
  have b0 : Boxed W0 w.heap.size 49 (.slice none 0 0) := by rw [← hW0]; exact Boxed.new w _ _
  have hB0 : Below w.heap.size w W0 := by rw [← hW0]; exact below_alloc _
  have hs0 : W0.heap.size = w.heap.size + 1 := by rw [← hW0]; simp
  rw [hW0]
  clear hW0 hnf
  have hRl : ∀ b, RB b → b < W0.heap.size := fun b hb => by have := hRs b hb; omega
  refine rf_law (gf := gf) (lb := lb) rfl eg hi ((Keep.of_below hB0).mono fun b _ hb => hRs b hb) hRl (fun x args G W h => by rw [h.1]; rfl)
    (ColI 49 9 w.heap.size (fun b => b < w.heap.size) W0) (fun _ _ _ _ => False) (ColI_abide _ _ _ _ _ (by omega) (fun b hb => by omega)) (fun _ _ _ _ _ _ h _ _ => h)
    ⟨_, b0, World.ownsRow_nil _ _ _ _, (fun _ h => h.elim), (fun _ h => by cases h), Keep.refl _ _⟩ ?round ?done ?stop
  case round =>
    rintro ll pre t rest Pv G args Wr hll hxs ⟨v, hbx, hrow, hge, hnv, hKW⟩ hPl hGl hPb hGP ⟨rfl, rfl⟩
    have hlen : pre.length + rest.length + 1 = x.length := by rw [hxs]; simp; omega
    have hpl : pre.length + 1 ≤ 1099511627776 := by omega
    clear hlen
    gi_wp2
    refine ⟨Keep.refl _ _, fun W2 hk2 hs2 r hr => ?_⟩
    have hnP : ∀ b, b < W0.heap.size → ¬ Pv b := fun b hb h => by have := hge b h; omega
    have hk2' : Keep (fun b => ¬ Pv b) Wr W2 := hk2.mono fun b _ hb h => hb (h ▸ hPl)
    replace hbx := hk2'.boxed hbx (hnP _ (by omega))
    replace hrow := hk2'.row hrow hnv
    have hK2 : Keep (fun b => b < w.heap.size) W0 W2 := hKW.trans (hk2'.mono fun b _ hb => hnP b (by omega))
    have hPl2 : ∀ b, Pv b → b < W2.heap.size := fun b hb => by rw [hs2]; exact hPb b hb
    have cB := hbx.cell
    have hszW := hK2.size
    clear hxs hr hk2 hk2' hs2 hKW
    gi_wp2_with (gi_at_builtin; go_must (refine wpListIn_append_own_at _ rfl _ _ 49 rfl W0.heap.size 9 i0 (.string ByteArray.empty) 1 16 Tryz.underlying49 hi0 hz0 hz1 hz2 rfl (by decide) _ _ _ rfl (hrow.alloc _) ⟨W2.heap.size, 0, none⟩ 1 1 [encStr t] rfl rfl (cell_one_new _ _ _) (by simp [encStr, Value.oneCell']) (by unfold maxLen; omega) (by omega) (by simp; omega) ?_); intro v' w1 hown' hgrow _ hat; obtain ⟨g', cap', rfl⟩ := ownsRow_succ hown'; obtain ⟨hv1, hv2, hr2, hkk⟩ := appended_keep (S := fun b => RB b ∨ Pv b ∨ b < w.heap.size) hbx (by decide) hrow (fun h => by rcases h with h | h | h; (have := hRs _ h; omega); exact hnP w.heap.size (by omega) h; omega) (fun b hb h => by have h0 := (hrow.lt b hb).1; rcases h with h | h | h; (have := hRs _ h; omega); exact hnv b hb h; omega) hown' hgrow; have hc1 := hv1.cell; have hf1 := hv1.frozen)
    refine ⟨hkk.mono fun b _ h => h.elim .inl fun h => .inr (.inl h), _, hv2, ?_, fun b hb => hge b hb, fun b hb hp => ?_, hK2.trans (hkk.mono fun b _ h => .inr (.inr h))⟩
    · simpa using hr2
    · rcases hat with h | h
      · exact hnv b (h ▸ hb) hp
      · rw [h] at hb; cases hb; have h5 := hPl2 _ hp; simp at h5; omega
  case done =>
    rintro D Pv Wd hD hPD hPl ⟨v, hbx, hrow, hge, hnv, hKW⟩ hK
    have cB := hbx.cell
    gi_wp2
    have hB : Keep (fun b => b < w.heap.size) w Wd := (Keep.of_below hB0).trans hKW
    refine ⟨by simp, .inl ⟨_, _, rfl, run_takeDeferred hK, ?_⟩⟩
    refine ⟨_, results_tmp rfl _ _ _, v, rfl, row_base ((Keep.putObj (S := fun b => ¬ Pv b) Wd D _ (fun h => h hPD)).row hrow hnv) (by omega), (hB.trans (Keep.putObj _ _ _ (by omega))).below (Nat.le_refl _)⟩
  case stop =>
    rintro D c pre rest Pv Wd _ _ _ _ h _
    exact h.elim

end Go.Proofs.YtpabhppghljipaaGreatDoor.Frm

namespace Go.Proofs.YtpabhppghljipaaGreatDoor.Frm
open Go.RowKit Go.Shelf Go.Sort Url Org Cls
attribute [local go_sem] Oper.semAt_some
set_option linter.unusedVariables false

theorem info_strs : (Tryz.prog.info? 49).map (fun i => (i.zero, i.size, i.bytes)) = some (some (.slice none 0 0), 1, 24) := by kernel_rfl
theorem RefIn.len {w : World} {q : Option Addr} {n : Nat} {xs : List (List (List UInt8))} (h : RefIn w q n xs) : xs.length = n := by
  obtain ⟨zs, h1, _, rfl⟩ := h
  rw [List.length_map]; exact h1.1
theorem RefIn.below {w w' : World} {q : Option Addr} {n : Nat} {xs : List (List (List UInt8))} (h : RefIn w q n xs) (hb : Below w.heap.size w w') : RefIn w' q n xs := by
  obtain ⟨zs, h1, h2, rfl⟩ := h
  exact ⟨zs, h1.below hb h1.lt, fun z hz => ⟨(h2 z hz).1.below hb, (h2 z hz).2⟩, rfl⟩

set_option maxRecDepth 100000 in
set_option maxHeartbeats 16000000 in
theorem all08_new (gf : Nat) (lb : Array Value) (zs : List Cl) (w : World) (eg : ∀ args w, (callFunc gf args).run Tryz.prog w = .ok (.enter gf args) w)
    (hi : IterC Tryz.prog gf lb ClArg zs (fun b => b < w.heap.size) w) (hz : ∀ z ∈ zs, ClAt w z) (hN : zs.length ≤ 1000) :
    Calls Tryz.prog 34 #[.func (.func gf) #[] lb] w fun e w' => ∃ q n c, e = .returned (.slice q n c) ∧ RefIn w' q n (zs.map Prod.snd) ∧ (∀ a, q = some a → w.heap.size ≤ a.block) ∧ (q = none → c = 0) ∧ Below w.heap.size w w' := by
  obtain ⟨i0, hi0, hz0, hz1, hz2⟩ := info_parts info_strs
  have hnf : ∀ w' : World, (binOp .eql 66 (.func (.func gf) #[] lb) .nilFunc).run Tryz.prog w' = .ok (.bool false) w' := fun _ => by kernel_rfl
  refine (callsIn_wide (n := 1)).1 ?_
  refine callsIn_of_wp_marks Tryz.func34 rfl trivial ?_ rfl
  simp only [Tryz.ntmps34, List.size_toArray, List.length_cons, List.length_nil, Nat.reduceAdd, Nat.reduceSub, Array.replicate_succ, Array.replicate_zero, List.push_toArray, List.append_toArray, List.nil_append, List.cons_append]
  gi_wp2
  obtain ⟨W0, hW0⟩ : ∃ W0, (w.alloc (.cells #[] 49)).alloc (.cells #[.slice (some ⟨w.heap.size, 0, none⟩) 0 0] 32) = W0 := ⟨_, rfl⟩
  have b0 : Boxed W0 (w.heap.size + 1) 32 (.slice (some ⟨w.heap.size, 0, none⟩) 0 0) := by
    have := Boxed.new (w.alloc (.cells #[] 49)) 32 (.slice (some ⟨w.heap.size, 0, none⟩) 0 0)
    rw [World.size_alloc] at this
    exact hW0 ▸ this
  have hrow0 : W0.ownsRow w.heap.size 49 1 (.slice (some ⟨w.heap.size, 0, none⟩) 0 0) 0 [] := hW0 ▸ (World.ownsRow_made w #[] 0 (Nat.le_refl _) (Nat.zero_le _) rfl).alloc _
  have hB0 : Below w.heap.size w W0 := hW0 ▸ ((Below.refl _ w).alloc (Nat.le_refl _) _).alloc (by simp) _
  have hs0 : W0.heap.size = w.heap.size + 2 := by rw [← hW0]; simp
  rw [hW0]
  clear hW0 hnf
  refine rf_law (gf := gf) (lb := lb) rfl eg hi (Keep.of_below hB0) (fun b hb => by omega) (fun x args G W h => by rw [h.1]; rfl)
    (fun pre Pv W => RefL (w.heap.size + 1) w.heap.size W0 Pv W (pre.map Prod.snd)) (fun _ _ _ _ => False)
    (fun s Pv Pv' A B h hk hp => h.step (by omega) (by omega) hk (fun b hb => (hp b hb).1)) (fun _ _ _ _ _ _ h _ _ => h)
    ⟨_, [], b0, hrow0, (fun z hz => by cases hz), rfl, (fun _ h => h.elim), (fun _ _ h => h), Keep.refl _ _⟩ ?round ?done ?stop
  case round =>
    rintro ll pre ⟨⟨xq, xn, xc⟩, x⟩ rest Pv G args Wr hll hxs ⟨v, ls, hbx, hrow, hzs, hacc, hge, hnv, hKW⟩ hPl hGl hPb hGP ⟨harg, rfl⟩
    obtain rfl : args = #[.agg #[.slice xq xn xc]] := harg
    have hxm : ((xq, xn, xc), x) ∈ zs := by rw [hxs]; simp
    have hpl : ls.length + 1 ≤ 1000 := by
      have h1 := congrArg List.length hacc
      rw [List.length_map, List.length_map] at h1
      rw [hxs, List.length_append, List.length_cons] at hN
      omega
    clear hxs
    have hll2 := hPb ll hPl
    have hszr := hKW.size
    gi_wp2
    refine ⟨Keep.alloc _ _ _, fun W5 hk5 hs5 r hr => ?_⟩
    have hka := Keep.alloc (fun _ => True) Wr (.cells #[.slice xq xn xc] 84)
    have bx := hk5.boxed (Boxed.new Wr 84 (.slice xq xn xc)) (by omega)
    have hk5' : Keep (fun b => ¬ Pv b) Wr W5 := (hka.mono fun _ _ _ => trivial).trans (hk5.mono fun b _ hb h => hb (h ▸ hPl))
    replace hbx := hk5'.boxed hbx (fun h => by have := hge _ h; omega)
    replace hrow := hk5'.row hrow hnv
    replace hzs : ∀ z ∈ ls, (ClAt W5 z ∧ (z.1.1 = none → z.1.2.2 = 0)) ∧ ∀ a, z.1.1 = some a → 0 < z.1.2.1 → ¬ Pv a.block ∧ W0.heap.size ≤ a.block ∧ v.ownBlock ≠ some a.block := fun z hz => ⟨⟨(hzs z hz).1.1.from hk5' (fun a ha h0 => ((hzs z hz).2 a ha h0).1), (hzs z hz).1.2⟩, (hzs z hz).2⟩
    have hK5 : Keep (fun b => b < w.heap.size) W0 W5 := hKW.trans (hk5'.mono fun b _ hb h => by have := hge b h; omega)
    have hPl5 : ∀ b, Pv b → b < W5.heap.size := fun b hb => Nat.lt_of_lt_of_le (hPb b hb) hk5'.size
    have hszW : W0.heap.size ≤ W5.heap.size := hK5.size
    have A5 : Below w.heap.size w W5 := hB0.trans (hK5.below (by omega))
    have hz5 := (hz _ hxm).below A5
    clear hr hk5 hk5' hs5 hKW hka
    obtain ⟨Wd, hWd⟩ : ∃ Wd, W5.drew = Wd := ⟨_, rfl⟩
    have hkd : ∀ S, Keep S W5 Wd := fun S => by rw [← hWd]; exact Keep.drew S W5
    have HSZD := Lib.hid (show Wd.heap.size = W5.heap.size by rw [← hWd]; rfl)
    replace hbx := (hkd (fun _ => True)).boxed hbx trivial
    replace hrow := (hkd (fun _ => True)).row hrow (fun _ _ => trivial)
    replace bx := (hkd (fun _ => True)).boxed bx trivial
    replace hzs : ∀ z ∈ ls, (ClAt Wd z ∧ (z.1.1 = none → z.1.2.2 = 0)) ∧ ∀ a, z.1.1 = some a → 0 < z.1.2.1 → ¬ Pv a.block ∧ W0.heap.size ≤ a.block ∧ v.ownBlock ≠ some a.block := fun z hz => ⟨⟨(hzs z hz).1.1.keep (hkd _), (hzs z hz).1.2⟩, (hzs z hz).2⟩
    replace hz5 := hz5.keep (hkd _)
    have con := Cls.All_any xq xn xc Wd
    obtain ⟨W6, hW6⟩ : ∃ W6, Wd.alloc (.cells #[.slice xq xn xc] 84) = W6 := ⟨_, rfl⟩
    have bc : Boxed W6 Wd.heap.size 84 (.slice xq xn xc) := hW6 ▸ Boxed.new Wd _ _
    have hb6 : Below Wd.heap.size Wd W6 := hW6 ▸ below_alloc _
    have hz6 := hz5.below hb6
    obtain ⟨_, _, _, hee, hxc, hxn, hsx, hrx⟩ := hz6.set
    cases hee
    have hxl := hsx.1
    have con2 := all07_any 73 #[.pointer (some ⟨Wd.heap.size, 0, none⟩)] x (fun b => b < W6.heap.size) W6 (enters_of Tryz.func73 (by kernel_rfl) rfl)
      (Cls.All1_iter Wd.heap.size xq xn xc x _ W6 hxn hsx hsx.lt bc bc.lt (fun _ h => h)) (fun _ h => h) (Nat.le_trans hz6.few (by decide))
    have hfew : x.length ≤ 16 := hz6.few
    have HFEW := Lib.hid hfew
    generalize x.length = m at con2 hfew
    have c0 := hbx.cell
    have cx := bx.cell
    have HWd := Lib.hid hWd
    have HX := Lib.hid hxl
    clear hWd hsx hz6 hz5 hxl
    gi_wp2_with fail
    refine region_anyO (fun j => decide (j ≠ 6)) (fun X => X.cell? ⟨w.heap.size + 1, 0, none⟩ = some v) (by kernel_rfl) ?_
    rw [HWd.out]
    refine anyO_take 0 (v := v) rfl (by kernel_rfl) (by kernel_rfl) (by kernel_rfl) (by kernel_rfl) (by kernel_rfl) (fun _ _ _ h => h) ⟨.inl ⟨by rfl, ?_⟩, fun _ => rfl⟩ c0 ?_
    · rintro w h1; go_simp
    refine anyO_one 1 (by kernel_rfl) rfl fun K hK => ?_
    go_simp
    refine hK _ _ (fun _ => c0) ?_
    clear hK K
    refine anyO_one 2 (by kernel_rfl) rfl fun K hK => ?_
    go_simp
    refine ⟨trivial, rfl, (CallsIn.inRound ll (callsIn_wide.2 con)).mono ?_⟩
    rintro e w4 ⟨rfl, hw4⟩
    rw [hW6] at hw4
    subst hw4
    have c4' := ((Keep.of_below hb6).boxed hbx hbx.lt).cell
    refine hK _ _ (fun _ => c4') ?_
    clear hK K con
    refine anyO_one 3 (by kernel_rfl) rfl fun K hK => ?_
    go_simp
    refine ⟨trivial, rfl, (CallsIn.inRound ll (callsIn_wide.2 con2)).mono ?_⟩
    rintro e w6 ⟨v6, rfl, hrow6, hbel⟩
    obtain ⟨q6, c6, rfl, hc6, hcm6, hs6, hq6⟩ := slIn_of_owns hrow6
    have hz6 : ClAt w6 ((q6, m, c6), x) := ⟨⟨_, _, _, rfl, hc6, show m ≤ 140737488355328 by omega, hs6, hrx⟩, HFEW.out⟩
    have hzn : q6 = none → c6 = 0 := fun h => by subst h; exact (Cls.row_nil hrow6).2
    have hbw : Below Wd.heap.size Wd w6 := hb6.trans (hbel.mono hb6.size)
    have kb := Keep.of_below hbw
    have hbx4 := kb.boxed hbx hbx.lt
    have hrow4 := kb.row hrow (fun b hb => (hrow.lt b hb).2)
    have hsz6 := hbw.size
    have hszn := hb6.size
    have c5' := hbx4.cell
    refine hK _ _ (fun _ => c5') ?_
    clear hK K con2
    refine anyO_one 4 (by kernel_rfl) rfl fun K hK => ?_
    go_simp
    have c6' := (hbx4.alloc (.cells #[.slice q6 m c6] 49)).cell
    refine hK _ _ (fun _ => c6') ?_
    clear hK K
    refine anyO_one 5 (by kernel_rfl) rfl fun K hK => ?_
    rw [if_pos (by rfl)]
    refine S.wpIn_append_own _ _ 32 rfl w.heap.size 49 i0 (.slice none 0 0) 1 24 Tryz.underlying32 hi0 hz0 hz1 hz2 rfl (by decide) v ls.length _ rfl (hrow4.alloc _) ⟨w6.heap.size, 0, none⟩ 1 1 [.slice q6 m c6] rfl rfl (cell_one_new _ _ _) (by simp [Value.oneCell']) (by unfold maxLen; omega) (by omega) (by have := HSZD.out; simp; omega) ?_
    intro v2 w7 hown' hgrow hat
    obtain ⟨g', cap', rfl⟩ := ownsRow_succ hown'
    obtain ⟨hv1, hv2, hr2, hkk⟩ := appended_keep (S := fun b => b ≠ w.heap.size + 1 ∧ v.ownBlock ≠ some b) hbx4 (by decide) hrow4 (fun h => h.1 rfl) (fun b hb h => h.2 hb) hown' hgrow
    have c7 := hv1.cell
    have f7 := hv1.frozen
    refine hK _ _ (fun _ => c7) ?_
    clear hK K
    refine anyO_one 6 (by kernel_rfl) rfl fun K hK => ?_
    go_simp
    refine hK _ _ (fun h => absurd h (by decide)) ?_
    clear hK K
    refine anyO_done (by kernel_rfl) ?_ _
    clear c7 f7 c6' c5' c4' c0 cx
    gi_wp2
    have hszd := HSZD.out
    have hat' : some g' = v.ownBlock ∨ some g' = some (w6.alloc (.cells #[.slice q6 m c6] 49)).heap.size := hat
    have hg : ∀ b, some g' = some b → v.ownBlock = some b ∨ w6.heap.size + 1 ≤ b := fun b hb => by
      rcases hat' with h | h
      · exact .inl (h ▸ hb)
      · rw [h] at hb
        have := Option.some.inj hb
        simp at this
        exact .inr (by omega)
    have hk6 : ∀ S : Nat → Prop, (∀ b, S b → b < w6.heap.size ∧ b ≠ w.heap.size + 1 ∧ v.ownBlock ≠ some b) → Keep S w6 (w7.setCell ⟨w.heap.size + 1, 0, none⟩ (.slice (some ⟨g', 0, none⟩) (ls.length + 1) cap')) := fun S hS => hkk.mono fun b _ h => (hS b h).2
    have hk5 : ∀ S : Nat → Prop, (∀ b, S b → b < Wd.heap.size ∧ b ≠ w.heap.size + 1 ∧ v.ownBlock ≠ some b) → Keep S Wd (w7.setCell ⟨w.heap.size + 1, 0, none⟩ (.slice (some ⟨g', 0, none⟩) (ls.length + 1) cap')) := fun S hS => (kb.mono fun b _ h => (hS b h).1).trans (hk6 S fun b h => ⟨by have := (hS b h).1; omega, (hS b h).2⟩)
    have hown5 : ∀ b, v.ownBlock = some b → w.heap.size ≤ b ∧ b < Wd.heap.size := fun b hb => hrow.lt b hb
    have hkr : ∀ b, b < w.heap.size → b < Wd.heap.size ∧ b ≠ w.heap.size + 1 ∧ v.ownBlock ≠ some b := fun b hb => ⟨by omega, by omega, fun e => by have := (hown5 b e).1; omega⟩
    refine ⟨(hkd _).trans (hk5 _ (fun b hb => ?_)), _, ls ++ [((q6, m, c6), x)], hv2, by simpa [encC] using hr2, fun z hz => ?_, ?_, fun b hb => hge b hb, fun b hb hp => ?_, hK5.trans ((hkd _).trans (hk5 _ hkr))⟩
    · rcases hb with h | h
      · exact hkr b h
      · exact ⟨by have := hPl5 b h; omega, fun e => by have := hge b h; omega, fun e => hnv b e h⟩
    · rcases List.mem_append.1 hz with h | h
      · obtain ⟨⟨k1, k3⟩, k2⟩ := hzs z h
        refine ⟨⟨k1.from (hk5 (fun b => b < Wd.heap.size ∧ b ≠ w.heap.size + 1 ∧ v.ownBlock ≠ some b) (fun b hb => hb)) (fun a ha h0 => ?_), k3⟩, fun a ha h0 => ?_⟩
        · obtain ⟨j1, j2, j3⟩ := k2 a ha h0
          exact ⟨k1.lt a ha h0, by omega, j3⟩
        · obtain ⟨j1, j2, j3⟩ := k2 a ha h0
          refine ⟨j1, j2, fun e => ?_⟩
          rcases hg a.block e with h | h
          · exact j3 h
          · have := k1.lt a ha h0; omega
      · rw [List.mem_singleton.1 h]
        refine ⟨⟨hz6.from (hk6 (fun b => b < w6.heap.size ∧ b ≠ w.heap.size + 1 ∧ v.ownBlock ≠ some b) (fun b hb => hb)) (fun a ha h0 => ?_), hzn⟩, fun a ha h0 => ?_⟩
        · have j := (hq6 a ha).1
          exact ⟨hz6.lt a ha h0, by omega, fun e => by have := (hown5 _ e).2; omega⟩
        · have j := (hq6 a ha).1
          refine ⟨fun hp => by have := hPl5 _ hp; omega, by omega, fun e => ?_⟩
          rcases hg a.block e with h | h
          · have := (hown5 _ h).2; omega
          · have := hz6.lt a ha h0; omega
    · rw [List.map_append, List.map_append, hacc]; rfl
    · rcases hg b hb with h | h
      · exact hnv b h hp
      · have := hPl5 b hp; omega
  case done =>
    rintro D Pv Wd hD hPD hPl ⟨v, ls, hbx, hrow, hzs, hacc, hge, hnv, hKW⟩ hK
    obtain ⟨q4, c4, rfl, hc4, _, hs4, hq4⟩ := slIn_of_owns hrow
    have HQ4 := Lib.hid (show ∀ a, q4 = some a → w.heap.size ≤ a.block from fun a h => (hq4 a h).1)
    have HN4 := Lib.hid (show q4 = none → c4 = 0 from fun h => by subst h; exact (Cls.row_nil hrow).2)
    clear hq4
    have hBd : Below w.heap.size w Wd := hB0.trans (hKW.below (by omega))
    have cB := hbx.cell
    have HR := Lib.hid (show RefIn (Wd.putObj D (.deferred none)) q4 ls.length (zs.map Prod.snd) from ⟨ls, slC_put hs4 hK, fun z hz => ⟨⟨set_put (hzs z hz).1.1.set hK, (hzs z hz).1.1.few⟩, (hzs z hz).1.2⟩, hacc.symm⟩)
    clear hs4 hrow hbx hzs hacc hnv hge hKW
    gi_wp2
    refine ⟨by simp, .inl ⟨_, _, rfl, run_takeDeferred hK, ?_⟩⟩
    exact ⟨_, results_tmp rfl _ _ _, q4, ls.length, c4, rfl, HR.out, HQ4.out, HN4.out, ((Keep.of_below hBd).trans (Keep.putObj _ D (.deferred none) (by omega))).below (Nat.le_refl _)⟩
  case stop =>
    rintro D c pre rest Pv Wd _ _ _ _ h _
    exact h.elim

set_option maxRecDepth 100000 in
set_option maxHeartbeats 4000000 in
theorem Ref_new (v : Value) (f : List (List (List UInt8))) (w : World) (h : FrmIs w v f) (hN : f.length ≤ 1000) :
    Calls Tryz.prog 11 #[v] w fun e w' => ∃ q n c, e = .returned (.slice q n c) ∧ RefIn w' q n f ∧ (∀ a, q = some a → w.heap.size ≤ a.block) ∧ (q = none → c = 0) ∧ Below w.heap.size w w' := by
  obtain ⟨q, n, c, rfl⟩ := frm_form h
  obtain ⟨_, hnc, zs, s0, z0, rfl⟩ := h.row
  rw [List.length_map] at hN
  have A1 := below_alloc (w := w) (.cells #[.slice q n c] 26)
  have con := frmAll_any q n c (w.alloc (.cells #[.slice q n c] 26))
  have hl := s0.1
  obtain ⟨W1, hW1⟩ : ∃ W1, w.alloc (.cells #[.slice q n c] 26) = W1 := ⟨_, rfl⟩
  rw [hW1] at A1 con
  obtain ⟨W2, hW2⟩ : ∃ W2, (W1.alloc (.cells #[.slice q n c] 26)).alloc (.cells #[.slice q n c] 24) = W2 := ⟨_, rfl⟩
  rw [hW2] at con
  have bv : Boxed W2 (W1.heap.size + 1) 24 (.slice q n c) := by
    have := Boxed.new (W1.alloc (.cells #[.slice q n c] 26)) 24 (.slice q n c)
    rw [World.size_alloc] at this
    exact hW2 ▸ this
  have hB2 : Below W1.heap.size W1 W2 := hW2 ▸ ((Below.refl _ W1).alloc (Nat.le_refl _) _).alloc (by simp) _
  have A2 := A1.trans (hB2.mono A1.size)
  have s2 := s0.below A2 s0.lt
  have con2 := all08_new 75 #[.pointer (some ⟨W1.heap.size + 1, 0, none⟩)] zs W2 (enters_of Tryz.func75 (by kernel_rfl) rfl)
    (Values1_iter (W1.heap.size + 1) q n c zs _ W2 (by omega) s2 s2.lt bv bv.lt (fun _ h => h)) (fun z hz => (z0 z hz).below A2) hN
  have HW1 := Lib.hid hW1
  clear hW1 hW2 bv s0 s2 z0 h hl
  go_enter Tryz.func11, Tryz.ntmps11
  go_wp2_with fail
  rw [HW1.out]
  refine con.mono ?_
  rintro e w2 ⟨rfl, rfl⟩
  clear con
  go_wp2_with fail
  refine con2.mono ?_
  rintro e w3 ⟨q3, n3, c3, rfl, h3, hq3, hz3, hb3⟩
  have HQ3 := Lib.hid (show ∀ a, q3 = some a → w.heap.size ≤ a.block from fun a h => Nat.le_trans A2.size (hq3 a h))
  have HZ3 := Lib.hid hz3
  clear hq3 hz3
  clear con2
  go_wp2
  go_ret
  exact ⟨q3, n3, c3, rfl, h3, HQ3.out, HZ3.out, A2.trans (hb3.mono A2.size)⟩

end Go.Proofs.YtpabhppghljipaaGreatDoor.Frm

namespace Go.Proofs.YtpabhppghljipaaGreatDoor.Frm
open Go.RowKit Go.Shelf Go.Sort Url Org Cls
attribute [local go_sem] Oper.semAt_some
set_option linter.unusedVariables false

set_option maxRecDepth 100000 in
set_option maxHeartbeats 4000000 in
theorem In_any (q : Option Addr) (n c : Nat) (l : List (List UInt8)) (p : List UInt8) (w : World) (h : SlIn encStr w q n l) (hn : n ≤ 140737488355328) :
    Calls Tryz.prog 45 #[.slice q n c, .string ⟨p.toArray⟩] w fun e w' => e = .returned (.bool (decide (p ∈ l))) ∧ w = w' := by
  have hl := Lib.hid h.1
  go_enter Tryz.func45, Tryz.ntmps45
  go_wp2
  go_loop [9] (fun i => ∃ k : Nat, k ≤ n ∧ i = .int .i64 k ∧ Hid (∀ j x, j < k → l[j]? = some x → p ≠ x)) (fun i => n - (intOf i).toNat)
  case atStart => exact ⟨0, Nat.zero_le _, rfl, Lib.hid (fun j x h => by omega)⟩
  case round =>
    obtain ⟨k, hk, rfl, HJ⟩ := hrel
    by_cases hlt : k < n
    · obtain ⟨b, o, rfl, _, hc⟩ := h.at (by omega)
      obtain ⟨x, hx, _⟩ := drop_getElem l k (by rw [hl.out]; exact hlt)
      have hck : w.cell? ⟨b, o + k, none⟩ = some (.string ⟨x.toArray⟩) := hc k x hx
      by_cases hp : p = x
      · have e1 : (p == x) = true := by rw [beq_iff_eq]; exact hp
        have HR := Lib.hid (show decide (p ∈ l) = true from decide_eq_true (hp ▸ List.mem_of_getElem? hx))
        clear hx hc h HJ hp
        go_wp2
        go_ret
        exact ⟨(by rw [HR.out]; rfl), rfl⟩
      · have e1 : (p == x) = false := by rw [beq_eq_false_iff_ne]; exact hp
        have HJ2 := Lib.hid (show ∀ j y, j < k + 1 → l[j]? = some y → p ≠ y from fun j y hj hy => by
          by_cases e : j = k
          · subst e; rw [hx] at hy; cases hy; exact hp
          · exact HJ.out j y (by omega) hy)
        clear hx hc h HJ hp
        go_wp2
        go_round
        case rel => exact ⟨k + 1, by omega, by go_num, HJ2⟩
        case measure => simp [intOf]; omega
    · obtain rfl : k = n := by omega
      have HR := Lib.hid (show decide (p ∈ l) = false from decide_eq_false fun hm => by
        obtain ⟨j, hj, he⟩ := List.getElem_of_mem hm
        exact HJ.out j _ (by have := hl.out; omega) (List.getElem?_eq_getElem hj) he.symm)
      clear HJ h
      go_wp2
      go_ret
      exact ⟨(by rw [HR.out]; rfl), rfl⟩


/-- The least of some texts, up to a number. -/
def leastK (l : List (List UInt8)) (k : Nat) (m : List UInt8) : Prop := m ∈ l ∧ ∀ j x, j < k → l[j]? = some x → ¬ x < m
theorem RiseK.start (l : List (List UInt8)) : RiseK l [] l := ⟨Rises.nil, fun a ha => (by cases ha), fun a => by simp⟩
theorem RiseK.next {l0 out l : List (List UInt8)} {m : List UInt8} (h : RiseK l0 out l) (hm : m ∈ l) (hl : ∀ x ∈ l, ¬ x < m) : RiseK l0 (out ++ [m]) (l.filter fun x => decide (x ≠ m)) := by
  refine ⟨?_, fun a ha b hb => ?_, fun a => ?_⟩
  · refine List.pairwise_append.2 ⟨h.rise, by simp, fun a ha b hb => ?_⟩
    rw [List.mem_singleton.1 hb]
    exact h.less a ha m hm
  · obtain ⟨hb1, hb2⟩ := List.mem_filter.1 hb
    have hb2 := of_decide_eq_true hb2
    rcases List.mem_append.1 ha with ha | ha
    · exact h.less a ha b hb1
    · rw [List.mem_singleton.1 ha]
      rcases Lin.tri m b with k | k | k
      · exact k
      · exact absurd k.symm hb2
      · exact absurd k (hl b hb1)
  · rw [h.mem, List.mem_append, List.mem_singleton, List.mem_filter]
    constructor
    · rintro (h | h)
      · exact .inl (.inl h)
      · by_cases e : a = m
        · exact .inl (.inr e)
        · exact .inr ⟨h, decide_eq_true e⟩
    · rintro ((h | h) | h)
      · exact .inl h
      · exact .inr (h ▸ hm)
      · exact .inr h.1
/-- What is left, up to a number. -/
def restK (l : List (List UInt8)) (m : List UInt8) (k : Nat) : List (List UInt8) := (l.take k).filter fun x => decide (x ≠ m)
theorem restK_succ (l : List (List UInt8)) (m x : List UInt8) (k : Nat) (h : l[k]? = some x) : restK l m (k + 1) = if x = m then restK l m k else restK l m k ++ [x] := by
  unfold restK
  rw [(take_snoc l k x h).1, List.filter_append]
  by_cases e : x = m
  · rw [if_pos e]; simp [e]
  · rw [if_neg e]; simp [e]
theorem restK_len (l : List (List UInt8)) (m : List UInt8) (k : Nat) : (restK l m k).length ≤ l.length := by
  unfold restK
  exact Nat.le_trans (List.length_filter_le _ _) (by rw [List.length_take]; omega)
theorem restK_less (l : List (List UInt8)) (m : List UInt8) (hm : m ∈ l) : (l.filter fun x => decide (x ≠ m)).length < l.length := by
  have h1 : (l.filter fun x => decide (x ≠ m)).length + (l.filter fun x => decide (x = m)).length = l.length := by
    induction l with
    | nil => rfl
    | cons y r ih =>
      by_cases e : y = m
      · by_cases hr : m ∈ r
        · have := ih hr
          simp [e] at this ⊢; omega
        · have hn : r.filter (fun x => decide (x ≠ m)) = r := List.filter_eq_self.2 fun a ha => decide_eq_true fun e2 => hr (e2 ▸ ha)
          have hn2 : r.filter (fun x => decide (x = m)) = [] := List.filter_eq_nil_iff.2 fun a ha h => hr (of_decide_eq_true h ▸ ha)
          simp only [List.filter_cons, e]
          rw [hn, hn2]; simp
      · have hr : m ∈ r := (List.mem_cons.1 hm).elim (fun k => absurd k.symm e) id
        have := ih hr
        simp [e] at this ⊢; omega
  have h2 : 0 < (l.filter fun x => decide (x = m)).length := List.length_pos_of_mem (List.mem_filter.2 ⟨hm, decide_eq_true rfl⟩)
  omega

/-- A slice's length. -/
def sliceLen : Value → Nat
  | .slice _ n _ => n
  | _ => 0
theorem rises_nodup' (l : List (List UInt8)) (h : Rises l) : l.Nodup := rises_nodup l h

set_option maxRecDepth 100000 in
set_option maxHeartbeats 16000000 in
theorem Rising_any (q : Option Addr) (n c : Nat) (l : List (List UInt8)) (w : World) (h : SlIn encStr w q n l) (hn : n ≤ 1099511627776) :
    Calls Tryz.prog 44 #[.slice q n c] w fun e w' => ∃ q n c, e = .returned (.slice q n c) ∧ SlIn encStr w' q n (sortR l) ∧ Below w.heap.size w w' := by
  obtain ⟨i0, hi0, hz0, hz1, hz2⟩ := info_parts S.info_str
  obtain ⟨W1, hW1⟩ : ∃ W1, w.alloc (.cells #[] 9) = W1 := ⟨_, rfl⟩
  have A1 : Below w.heap.size w W1 := hW1 ▸ below_alloc _
  have hrow0 : W1.ownsRow w.heap.size 9 1 (.slice (some ⟨w.heap.size, 0, none⟩) 0 0) 0 [] := hW1 ▸ World.ownsRow_made w #[] 0 (Nat.le_refl _) (Nat.zero_le _) rfl
  have h1 := h.below A1 h.lt
  have hl := h.1
  have HL := Lib.hid hl
  have HW1 := Lib.hid hW1
  have HLT := Lib.hid h.lt
  clear hW1 h hl
  go_enter Tryz.func44, Tryz.ntmps44
  go_wp2
  rw [HW1.out]
  go_loopw [0, 3] (fun a o wr => ∃ (q' : Option Addr) (n' c' : Nat) (ll out : List (List UInt8)), a = .slice q' n' c' ∧ n' ≤ n ∧ SlIn encStr wr q' n' ll ∧ wr.ownsRow w.heap.size 9 1 o out.length (out.map encStr) ∧ Hid (RiseK l out ll) ∧ Below w.heap.size w wr ∧ (∀ a, q' = some a → 0 < n' → o.ownBlock ≠ some a.block)) (fun a _ _ => sliceLen a)
  case atStart => exact ⟨q, n, c, l, [], rfl, Nat.le_refl _, h1, hrow0, Lib.hid (RiseK.start l), A1, fun a ha h0 e => by
    have e : some w.heap.size = some a.block := e
    have h2 := HLT.out a ha h0
    have := Option.some.inj e
    omega⟩
  case round =>
    obtain ⟨q', n', c', ll, out, rfl, hnn, hsl, hrow, HK, hB, hne⟩ := hrel
    have hol : out.length ≤ n := by
      have h2 := HK.out
      have h3 : out.length ≤ l.length := (rises_nodup' out h2.rise).length_le_of_subset fun a ha => (h2.mem a).2 (.inl ha)
      have := HL.out
      omega
    have hll := hsl.1
    have HLL := Lib.hid hll
    have hBs := hB.size
    clear h1 hrow0 hll
    by_cases hpos : 0 < n'
    · obtain ⟨b, o, rfl, hbl, hc⟩ := hsl.at hpos
      have d1 : decide ((n' : Int) > 0) = true := by simp; omega
      have d1' : decide (0 < n') = true := by simp; omega
      obtain ⟨x0, hx0⟩ : ∃ x, ll[0]? = some x := ⟨_, List.getElem?_eq_getElem (by have := HLL.out; omega)⟩
      have hc0 : wr.cell? ⟨b, o, none⟩ = some (.string ⟨x0.toArray⟩) := hc 0 x0 hx0
      have HX0 := Lib.hid (show leastK ll 0 x0 from ⟨List.mem_of_getElem? hx0, fun j x hj => by omega⟩)
      have HC := Lib.hid hc
      clear hx0 hc
      go_wp2
      go_loop [4, 19] (fun m i => ∃ (k : Nat) (mm : List UInt8), k ≤ n' ∧ i = .int .i64 k ∧ m = .string ⟨mm.toArray⟩ ∧ Hid (leastK ll k mm)) (fun _ i => n' - (intOf i).toNat)
      case atStart => exact ⟨0, x0, Nat.zero_le _, rfl, rfl, HX0⟩
      case round =>
        obtain ⟨k, mm, hk, rfl, rfl, HM⟩ := hrel
        by_cases hlt : k < n'
        · obtain ⟨x, hx, _⟩ := drop_getElem ll k (by rw [HLL.out]; exact hlt)
          have hck : wr.cell? ⟨b, o + k, none⟩ = some (.string ⟨x.toArray⟩) := HC.out k x hx
          have HX := Lib.hid hx
          clear hx
          by_cases hxm : x < mm
          · have e1 : Op.bytesLess x mm = true := by rw [Go.Proofs.bytesLess_eq]; exact decide_eq_true hxm
            have HM2 := Lib.hid (show leastK ll (k + 1) x from ⟨List.mem_of_getElem? HX.out, fun j y hj hy hyx => by
              by_cases e : j = k
              · subst e; rw [HX.out] at hy; cases hy; exact Lin.irr _ hyx
              · exact HM.out.2 j y (by omega) hy (Lin.tr hyx hxm)⟩)
            clear hxm
            go_wp2
            go_round
            case rel => exact ⟨k + 1, x, by omega, by go_num, rfl, HM2⟩
            case measure => simp [intOf]; omega
          · have e1 : Op.bytesLess x mm = false := by rw [Go.Proofs.bytesLess_eq]; exact decide_eq_false hxm
            have HM2 := Lib.hid (show leastK ll (k + 1) mm from ⟨HM.out.1, fun j y hj hy hyx => by
              by_cases e : j = k
              · subst e; rw [HX.out] at hy; cases hy; exact hxm hyx
              · exact HM.out.2 j y (by omega) hy hyx⟩)
            clear hxm
            go_wp2
            go_round
            case rel => exact ⟨k + 1, mm, by omega, by go_num, rfl, HM2⟩
            case measure => simp [intOf]; omega
        · obtain rfl : k = n' := by omega
          have HM3 := Lib.hid (show mm ∈ ll ∧ ∀ x ∈ ll, ¬ x < mm from ⟨HM.out.1, fun x hx => by
            obtain ⟨j, hj, rfl⟩ := List.getElem_of_mem hx
            exact HM.out.2 j _ (by have := HLL.out; omega) (List.getElem?_eq_getElem hj)⟩)
          clear HM HX0
          go_wp2_with (at_builtin; refine wpList_append_own_at _ rfl _ _ 49 rfl w.heap.size 9 i0 (.string ByteArray.empty) 1 16 Tryz.underlying49 hi0 hz0 hz1 hz2 rfl (by decide) _ _ _ rfl (hrow.alloc _) ⟨wr.heap.size, 0, none⟩ 1 1 [.string ⟨mm.toArray⟩] rfl rfl (cell_one_new _ _ _) (by simp [Value.oneCell']) (by unfold maxLen; omega) (by omega) (by simp; omega) ?_; intro v' w1 hown' hgrow _ hat)
          have hk1 : ∀ S : Nat → Prop, (∀ b, S b → u3.ownBlock ≠ some b) → Keep S wr w1 := fun S hS => (Keep.alloc S wr _).trans (Keep.of_grownBy hgrow (fun r hr h => hS r h hr))
          have hb1 : Below w.heap.size wr w1 := (hk1 (· < w.heap.size) (fun b hb e => by have := (hrow.lt b e).1; omega)).below hBs
          have hsl1 : SlIn encStr w1 (some ⟨b, o, none⟩) k ll := hsl.keep (hk1 (fun x => x = b) (fun x hx => by subst hx; exact hne _ rfl hpos)) (fun a ha _ => by cases ha; rfl)
          have hs1 := hb1.size
          have hbl1 : b < w1.heap.size := by have := (hk1 (fun _ => False) (fun _ h => h.elim)).size; omega
          obtain ⟨W7, hW7⟩ : ∃ W7, w1.alloc (.cells #[] 9) = W7 := ⟨_, rfl⟩
          have hr7 : W7.ownsRow w1.heap.size 9 1 (.slice (some ⟨w1.heap.size, 0, none⟩) 0 0) 0 [] := hW7 ▸ World.ownsRow_made w1 #[] 0 (Nat.le_refl _) (Nat.zero_le _) rfl
          have hb7 : Below w1.heap.size w1 W7 := hW7 ▸ below_alloc _
          rw [hW7]
          clear hat hgrow HC hsl hc0 hW7 hrow
          go_loopw [7, 35] (fun r i wr2 => ∃ k' : Nat, k' ≤ k ∧ i = .int .i64 k' ∧ wr2.ownsRow w1.heap.size 9 1 r (restK ll mm k').length ((restK ll mm k').map encStr) ∧ Below w1.heap.size w1 wr2) (fun _ i _ => k - (intOf i).toNat)
          case atStart => exact ⟨0, Nat.zero_le _, rfl, by simpa [restK] using hr7, hb7⟩
          case round =>
            obtain ⟨k', hk', rfl, hrow2, hB2⟩ := hrel
            have hBs2 := hB2.size
            have hrl := restK_len ll mm k'
            have hll := HLL.out
            clear hr7 hb7
            by_cases hlt : k' < k
            · obtain ⟨x, hx, _⟩ := drop_getElem ll k' (by rw [HLL.out]; exact hlt)
              obtain ⟨_, _, he, _, hc⟩ := (hsl1.below hB2 hsl1.lt).at hpos
              cases he
              have hck : wr.cell? ⟨b, o + k', none⟩ = some (.string ⟨x.toArray⟩) := hc k' x hx
              have HRS := Lib.hid (restK_succ ll mm x k' hx)
              clear hx hc
              by_cases hxm : x = mm
              · have e1 : (x == mm) = true := by rw [beq_iff_eq]; exact hxm
                have HR2 := Lib.hid (show restK ll mm (k' + 1) = restK ll mm k' by rw [HRS.out, if_pos hxm])
                clear hxm hll
                go_wp2
                go_roundw
                case rel => exact ⟨k' + 1, by omega, by go_num, by rw [HR2.out]; exact hrow2, hB2⟩
                case measure => simp [intOf]; omega
              · have e1 : (x == mm) = false := beq_eq_false_iff_ne.2 hxm
                have HR2 := Lib.hid (show restK ll mm (k' + 1) = restK ll mm k' ++ [x] by rw [HRS.out, if_neg hxm])
                have hrb : (restK ll mm k').length ≤ 1099511627776 := by omega
                clear hxm hll hrl
                generalize restK ll mm k' = rs at *
                go_wp2_with (at_builtin; refine wpList_append_own_at _ rfl _ _ 49 rfl w1.heap.size 9 i0 (.string ByteArray.empty) 1 16 Tryz.underlying49 hi0 hz0 hz1 hz2 rfl (by decide) _ _ _ rfl (hrow2.alloc _) ⟨wr.heap.size, 0, none⟩ 1 1 [.string ⟨x.toArray⟩] rfl rfl (cell_one_new _ _ _) (by simp [Value.oneCell']) (by unfold maxLen; omega) (by omega) (by simp; omega) ?_; intro v8 w8 hown8 hgrow8 _ _)
                have hb8 : Below w1.heap.size wr w8 := ((Below.refl _ wr).alloc hBs2 _).grown hgrow8 (by simp; omega) (fun b hb => (hrow2.lt b hb).1)
                go_roundw
                case rel => exact ⟨k' + 1, by omega, by go_num, by rw [HR2.out]; simpa [encStr] using hown8, hB2.trans hb8⟩
                case measure => simp [intOf]; omega
            · obtain rfl : k' = k := by omega
              have hall : restK ll mm k' = ll.filter fun x => decide (x ≠ mm) := by
                unfold restK
                rw [List.take_of_length_le (by omega)]
              have hless := restK_less ll mm HM3.out.1
              rw [← hall] at hless
              have HK2 := Lib.hid (show RiseK l (out ++ [mm]) (restK ll mm k') by rw [hall]; exact HK.out.next HM3.out.1 HM3.out.2)
              obtain ⟨q2, c2, rfl, hc2, hm2, hs2, hq2⟩ := slIn_of_owns hrow2
              have hlen2 : (restK ll mm k').length < k' := by omega
              clear hall hless hll hrl
              generalize restK ll mm k' = rs at *
              go_wp2
              go_roundw
              case rel =>
                refine ⟨q2, rs.length, c2, rs, out ++ [mm], rfl, by omega, hs2, ?_, HK2, hB.trans (hb1.trans (hB2.mono (by omega))), fun a ha h0 e => ?_⟩
                · have := (Keep.of_below hB2).row hown' (fun b hb => (hown'.lt b hb).2)
                  simpa [encStr] using this
                · have h1 := (hq2 a ha).1
                  have h2 := (hown'.lt _ e).2
                  omega
              case measure => simp [sliceLen]; omega
    · obtain rfl : n' = 0 := by omega
      have hnil : ll = [] := List.eq_nil_of_length_eq_zero HLL.out
      subst hnil
      have HR := Lib.hid HK.out.done
      obtain ⟨q4, c4, rfl, hc4, _, hs4, _⟩ := slIn_of_owns hrow
      replace hs4 : SlIn encStr wr q4 out.length (sortR l) := by have := hs4; rw [← HR.out]; exact this
      clear hsl hrow HK
      go_wp2
      go_ret
      exact ⟨q4, _, c4, rfl, hs4, hB⟩

end Go.Proofs.YtpabhppghljipaaGreatDoor.Frm

namespace Go.Proofs.YtpabhppghljipaaGreatDoor.Lbl
open Go.RowKit Go.Shelf Go.Sort Url Org Cls Frm
attribute [local go_sem] Oper.semAt_some
set_option linter.unusedVariables false

theorem LB.two (w : World) (cs ds : Array Value) : LB (w.heap.size + 1) ds ((w.alloc (.cells cs 29)).alloc (.cells ds 29)) := by
  have := LB.new (w.alloc (.cells cs 29)) ds
  rw [World.size_alloc] at this
  exact this

/-! ### Open, Shut, Pure -/
end Go.Proofs.YtpabhppghljipaaGreatDoor.Lbl

namespace Go.Proofs.YtpabhppghljipaaGreatDoor.Frm
open Go.RowKit Go.Shelf Go.Sort Url Org Cls
attribute [local go_sem] Oper.semAt_some
set_option linter.unusedVariables false

theorem flatC_take (ls : List (List (List UInt8))) (k : Nat) (x : List (List UInt8)) (h : ls[k]? = some x) : (ls.take (k + 1)).flatten = (ls.take k).flatten ++ x := by
  rw [(take_snoc ls k x h).1, List.flatten_append]; simp
theorem flatC_le (ls : List (List (List UInt8))) (k : Nat) : (ls.take k).flatten.length ≤ ls.flatten.length := by
  have h : ls.flatten = (ls.take k).flatten ++ (ls.drop k).flatten := by rw [← List.flatten_append, List.take_append_drop]
  rw [h, List.length_append]; omega
theorem flatC_small (m : Nat) : ∀ ls : List (List (List UInt8)), (∀ x ∈ ls, x.length ≤ m) → ls.flatten.length ≤ ls.length * m
  | [], _ => by simp
  | x :: r, h => by
    have h1 := h x (by simp)
    have h2 := flatC_small m r fun y hy => h y (by simp [hy])
    rw [List.flatten_cons, List.length_append, List.length_cons, Nat.succ_mul]; omega
end Go.Proofs.YtpabhppghljipaaGreatDoor.Frm

namespace Go.Proofs.YtpabhppghljipaaGreatDoor.Lbl
open Go.RowKit Go.Shelf Go.Sort Url Org Cls Frm
attribute [local go_sem] Oper.semAt_some
set_option linter.unusedVariables false

theorem below_drewN {B : Nat} {w w' : World} (h : Below B w w') (q : Nat) : Below B w (w'.drewN q) := ⟨h.os, h.tape, h.output, h.size, h.block⟩

set_option maxRecDepth 100000 in
set_option maxHeartbeats 4000000 in
theorem refImp_any (q1 : Option Addr) (n1 c1 : Nat) (xs : List (List UInt8)) (q2 : Option Addr) (n2 c2 : Nat) (ys : List (List UInt8)) (w : World) (h1 : SlIn encStr w q1 n1 xs) (h2 : SlIn encStr w q2 n2 ys) (hn1 : n1 ≤ 1099511627776) (hn2 : n2 ≤ 1099511627776) :
    Calls Tryz.prog 57 #[.slice q1 n1 c1, .slice q2 n2 c2] w fun e w' => e = .returned (.bool (subB xs ys)) ∧ w = w' := by
  have hl := Lib.hid h1.1
  have HI := Lib.hid (fun p => Frm.In_any q2 n2 c2 ys p w h2 (by omega))
  clear h2
  go_enter Tryz.func57, Tryz.ntmps57
  go_wp2
  go_loop [9] (fun i => ∃ k : Nat, k ≤ n1 ∧ i = .int .i64 k ∧ Hid (∀ j x, j < k → xs[j]? = some x → x ∈ ys)) (fun i => n1 - (intOf i).toNat)
  case atStart => exact ⟨0, Nat.zero_le _, rfl, Lib.hid (fun j x h => by omega)⟩
  case round =>
    obtain ⟨k, hk, rfl, HJ⟩ := hrel
    by_cases hlt : k < n1
    · obtain ⟨b, o, rfl, _, hc⟩ := h1.at (by omega)
      obtain ⟨x, hx, _⟩ := drop_getElem xs k (by rw [hl.out]; exact hlt)
      have hck : w.cell? ⟨b, o + k, none⟩ = some (.string ⟨x.toArray⟩) := hc k x hx
      have con := HI.out x
      by_cases hm : x ∈ ys
      · rewrite [decide_eq_true hm] at con
        have HJ2 := Lib.hid (show ∀ j y, j < k + 1 → xs[j]? = some y → y ∈ ys from fun j y hj hy => by
          by_cases e : j = k
          · subst e; rw [hx] at hy; cases hy; exact hm
          · exact HJ.out j y (by omega) hy)
        clear hx hc h1 HJ hm
        go_wp2_with fail
        refine con.mono ?_
        rintro e w' ⟨rfl, rfl⟩
        clear con
        go_wp2
        go_round
        case rel => exact ⟨k + 1, by omega, by go_num, HJ2⟩
        case measure => simp [intOf]; omega
      · rewrite [decide_eq_false hm] at con
        have HR := Lib.hid (show subB xs ys = false by
          rw [Bool.eq_false_iff]
          exact fun e => hm ((subB_iff xs ys).1 e x (List.mem_of_getElem? hx)))
        clear hx hc h1 HJ hm
        go_wp2_with fail
        refine con.mono ?_
        rintro e w' ⟨rfl, rfl⟩
        clear con
        go_wp2
        go_ret
        exact ⟨(by rw [HR.out]; rfl), rfl⟩
    · obtain rfl : k = n1 := by omega
      have HR := Lib.hid (show subB xs ys = true from (subB_iff xs ys).2 fun x hx => by
        obtain ⟨j, hj, rfl⟩ := List.getElem_of_mem hx
        exact HJ.out j _ (by have := hl.out; omega) (List.getElem?_eq_getElem hj))
      clear HJ h1
      go_wp2
      go_ret
      exact ⟨(by rw [HR.out]; rfl), rfl⟩

theorem cmp_lt' (x y : List UInt8) (xs ys : List (List UInt8)) (h : x < y) : cmpL (x :: xs) (y :: ys) = -1 := by unfold cmpL; rw [if_pos h]
theorem cmp_gt' (x y : List UInt8) (xs ys : List (List UInt8)) (h : y < x) : cmpL (x :: xs) (y :: ys) = 1 := by unfold cmpL; rw [if_neg (lin_asym h), if_pos h]
theorem cmp_eq' (x : List UInt8) (xs ys : List (List UInt8)) : cmpL (x :: xs) (x :: ys) = cmpL xs ys := by conv => lhs; unfold cmpL; rw [if_neg (Lin.irr x), if_neg (Lin.irr x)]
theorem cmp_end (xs ys : List (List UInt8)) (k : Nat) (h : k = xs.length ∨ k = ys.length) (h1 : k ≤ xs.length) (h2 : k ≤ ys.length) : cmpL (xs.drop k) (ys.drop k) = if xs.length < ys.length then -1 else if ys.length < xs.length then 1 else 0 := by
  rcases h with rfl | rfl
  · rw [List.drop_length]
    by_cases e : xs.length < ys.length
    · rw [if_pos e]
      obtain ⟨y, r, hr⟩ : ∃ y r, ys.drop xs.length = y :: r := ⟨_, _, List.drop_eq_getElem_cons e⟩
      rw [hr]; rfl
    · rw [if_neg e, if_neg (by omega), List.drop_of_length_le (by omega)]; rfl
  · rw [List.drop_length]
    by_cases e : ys.length < xs.length
    · rw [if_neg (by omega), if_pos e]
      obtain ⟨y, r, hr⟩ : ∃ y r, xs.drop ys.length = y :: r := ⟨_, _, List.drop_eq_getElem_cons e⟩
      rw [hr]; rfl
    · rw [if_neg (by omega), if_neg e, List.drop_of_length_le (by omega)]; rfl

set_option maxRecDepth 100000 in
set_option maxHeartbeats 8000000 in
theorem refCmp_any (q1 : Option Addr) (n1 c1 : Nat) (xs : List (List UInt8)) (q2 : Option Addr) (n2 c2 : Nat) (ys : List (List UInt8)) (w : World) (h1 : SlIn encStr w q1 n1 xs) (h2 : SlIn encStr w q2 n2 ys) (hn1 : n1 ≤ 1099511627776) (hn2 : n2 ≤ 1099511627776) :
    Calls Tryz.prog 97 #[.slice q1 n1 c1, .slice q2 n2 c2] w fun e w' => e = .returned (.int .i64 (cmpL xs ys)) ∧ Below w.heap.size w w' := by
  have hl1 := Lib.hid h1.1
  have hl2 := Lib.hid h2.1
  go_enter Tryz.func97, Tryz.ntmps97
  go_wp2
  go_loopw [5] (fun i wr => ∃ k : Nat, k ≤ n1 ∧ k ≤ n2 ∧ i = .int .i64 k ∧ Below w.heap.size w wr ∧ Hid (cmpL xs ys = cmpL (xs.drop k) (ys.drop k))) (fun i _ => n1 - (intOf i).toNat)
  case atStart => exact ⟨0, Nat.zero_le _, Nat.zero_le _, rfl, Below.refl _ _, Lib.hid rfl⟩
  case round =>
    obtain ⟨k, hk1, hk2, rfl, hB, HR⟩ := hrel
    by_cases hlt : k < n1 ∧ k < n2
    · obtain ⟨hlt1, hlt2⟩ := hlt
      obtain ⟨ba, oa, rfl, _, hca⟩ := (h1.below hB h1.lt).at (by omega)
      obtain ⟨bb, ob, rfl, _, hcb⟩ := (h2.below hB h2.lt).at (by omega)
      obtain ⟨x, hx, dx⟩ := drop_getElem xs k (by rw [hl1.out]; exact hlt1)
      obtain ⟨y, hy, dy⟩ := drop_getElem ys k (by rw [hl2.out]; exact hlt2)
      have cka : wr.cell? ⟨ba, oa + k, none⟩ = some (.string ⟨x.toArray⟩) := hca k x hx
      have ckb : wr.cell? ⟨bb, ob + k, none⟩ = some (.string ⟨y.toArray⟩) := hcb k y hy
      have b1 : Op.bytesLess x y = decide (x < y) := Go.Proofs.bytesLess_eq x y
      have b2 : Op.bytesLess y x = decide (y < x) := Go.Proofs.bytesLess_eq y x
      rcases Lin.tri x y with h | h | h
      · have H := Lib.hid (show cmpL xs ys = -1 by rw [HR.out, dx, dy]; exact cmp_lt' x y _ _ h)
        rw [decide_eq_true h] at b1
        clear hx hy dx dy hca hcb h1 h2 HR b2 h
        go_wp2
        go_quiet (fail)
        go_wp2
        go_ret
        first | exact ⟨by rw [H.out]; rfl, below_drewN hB _⟩ | exact ⟨by rw [H.out]; rfl, below_drewN (below_drewN hB _) _⟩
      · subst h
        have HR2 := Lib.hid (show cmpL xs ys = cmpL (xs.drop (k + 1)) (ys.drop (k + 1)) by rw [HR.out, dx, dy]; exact cmp_eq' x _ _)
        have b3 : Op.bytesLess x x = false := by rw [b1]; exact decide_eq_false (Lin.irr x)
        clear hx hy dx dy hca hcb h1 h2 HR b1 b2
        go_wp2
        go_quiet (fail)
        go_wp2
        go_quiet (fail)
        go_wp2
        go_roundw
        case rel => exact ⟨k + 1, by omega, by omega, by go_num, below_drewN hB _, HR2⟩
        case measure => simp [intOf]; omega
      · have H := Lib.hid (show cmpL xs ys = 1 by rw [HR.out, dx, dy]; exact cmp_gt' x y _ _ h)
        have b3 : (x == y) = false := beq_eq_false_iff_ne.2 (fun e => Lin.irr y (e ▸ h))
        rw [decide_eq_false (lin_asym h)] at b1
        rw [decide_eq_true h] at b2
        clear hx hy dx dy hca hcb h1 h2 HR h
        go_wp2
        go_quiet (fail)
        go_wp2
        go_quiet (fail)
        go_wp2
        go_ret
        first | exact ⟨by rw [H.out]; rfl, below_drewN hB _⟩ | exact ⟨by rw [H.out]; rfl, below_drewN (below_drewN hB _) _⟩
    · have H := Lib.hid (show cmpL xs ys = if n1 < n2 then -1 else if n2 < n1 then 1 else 0 by
        rw [HR.out, cmp_end xs ys k (by have := hl1.out; have := hl2.out; omega) (by have := hl1.out; omega) (by have := hl2.out; omega), hl1.out, hl2.out])
      have hor : k = n1 ∨ k = n2 := by omega
      clear h1 h2 HR
      by_cases h : n1 < n2
      · have d1 : decide ((n1 : Int) < (n2 : Int)) = true := by simp; omega
        have d1' : decide (n1 < n2) = true := decide_eq_true h
        have H2 := Lib.hid (H.out.trans (if_pos h))
        obtain rfl : k = n1 := by omega
        clear H h hor hlt
        go_wp2
        go_ret
        exact ⟨by rw [H2.out]; rfl, hB⟩
      · have d1 : decide ((n1 : Int) < (n2 : Int)) = false := by simp; omega
        have d1' : decide (n1 < n2) = false := decide_eq_false h
        obtain rfl : k = n2 := by omega
        by_cases h' : k < n1
        · have d2 : decide ((k : Int) < (n1 : Int)) = true := by simp; omega
          have d2' : decide (k < n1) = true := decide_eq_true h'
          have H2 := Lib.hid (H.out.trans ((if_neg h).trans (if_pos h')))
          clear H h hor hlt h'
          go_wp2
          go_ret
          exact ⟨by rw [H2.out]; rfl, hB⟩
        · obtain rfl : k = n1 := by omega
          have H2 := Lib.hid (H.out.trans ((if_neg h).trans (if_neg h')))
          clear H h hor hlt h'
          go_wp2
          go_ret
          exact ⟨by rw [H2.out]; rfl, hB⟩

/-- 'append(dst, src...)' of rows of texts, dst the call's own, src whatever row. -/
theorem wpList_append_rowC {ops : Array Oper} {rest : List Oper} {o : Oper} {a : Act} {w : World} {Q : Exit → Act → World → Prop} (hgd : o.guard = none) (s x : Operand) (t ty : TypeId)
    (ho : o.op = .call { callee := .builtin .append, args := #[s, x], argTypes := #[t, t] }) (i0 : TypeInfo) (z : Value) (bytes : Nat) (ht : Tryz.prog.underlying t = some (.slice ty)) (hi0 : Tryz.prog.info? ty = some i0) (hz0 : i0.zero = some z) (hz1 : i0.size = 1) (hz2 : i0.bytes = bytes) (hz3 : z.cells.size = 1)
    (hby : bytes ≤ 24)
    (base : Nat) (v : Value) (n : Nat) (xs : List Value) (hs : a.eval s = v) (hown : w.ownsRow base ty 1 v n xs) (q : Option Addr) (m c : Nat) (zs : List Cl) (hx : a.eval x = .slice q m c) (hq : q = none → c = 0)
    (hb : SlIn encC w q m zs) (h47 : n + m ≤ 1099511627776) (hbase : base ≤ w.heap.size)
    (h : ∀ v' w', w'.ownsRow base ty 1 v' (n + m) (xs ++ zs.map encC) → w.grownBy w' v.ownBlock → wpList Tryz.prog ops Q rest (a.put o.dst v') w') : wpList Tryz.prog ops Q (o :: rest) a w := by
  cases q with
  | none =>
    obtain rfl := hq rfl
    have hm : m = 0 := by
      rcases Nat.eq_zero_or_pos m with h0 | h0
      · exact h0
      · obtain ⟨b, o, he, _⟩ := hb.at h0; cases he
    subst hm
    obtain rfl : zs = [] := List.eq_nil_of_length_eq_zero hb.1
    refine wpList_append_own_none hgd s x _ ho base ty i0 1 ht hi0 v n xs hs hown hx (h v w ?_ ⟨rfl, rfl, rfl, Nat.le_refl _, fun _ _ _ => rfl⟩)
    simpa using hown
  | some ad =>
    have hbb : (n + m) * bytes ≤ (n + m) * 24 := Nat.mul_le_mul_left _ hby
    refine wpList_append_own w hgd s x _ ho base ty i0 z 1 bytes ht hi0 hz0 hz1 hz2 hz3 (by decide) v n xs hs hown ad m c (zs.map encC) hx (by simp [hb.1]) (fun j u hj => ?_) (fun u hu => by obtain ⟨y, _, rfl⟩ := List.mem_map.1 hu; rfl) (by unfold maxLen; omega) (by omega) hbase (fun v' w' h1 h2 _ => h v' w' h1 h2)
    rw [List.getElem?_map] at hj
    cases hy : zs[j]? with
    | none => rw [hy] at hj; cases hj
    | some y =>
      rw [hy] at hj
      cases hj
      have hjl : j < zs.length := (List.getElem?_eq_some_iff.1 hy).1
      obtain ⟨b, o, he, _, hcc⟩ := hb.at (by have := hb.1; omega)
      cases he
      rw [Go.WideShapes.add_plain]
      exact hcc j y hy
theorem run_ref_head (q : Option Addr) (n c k : Nat) (W : World) (hk : k ≤ c) :
    (Instr.slice 32 (.slice q n c) none (some (.int .i64 (k : Int))) none).run Tryz.prog W = .ok (.slice (hdA q c) k c) W := by
  have hs : ∀ w, (Go.sizeOf 49).run Tryz.prog w = .ok 1 w := Tryz.sizeOf49
  have he : Tryz.prog.elem 32 = 49 := by kernel_rfl
  have h := run_slice_h (P := Tryz.prog) (w := W) 32 q n c (by rw [he]; exact Tryz.underlying32) .i64 k (by omega) (by omega)
  rw [h, he, hs]
  simp only [Result.andThen, sliced, hdA, Int.toNat_natCast, Nat.zero_mul, Nat.sub_zero]
theorem run_ref_rest (q : Option Addr) (n c k : Nat) (W : World) (hk : k ≤ n) :
    (Instr.slice 32 (.slice q n c) (some (.int .i64 (k : Int))) none none).run Tryz.prog W = .ok (.slice (subR q c k) (n - k) (c - k)) W := by
  have hs : ∀ w, (Go.sizeOf 49).run Tryz.prog w = .ok 1 w := Tryz.sizeOf49
  have he : Tryz.prog.elem 32 = 49 := by kernel_rfl
  have h := run_slice_l (P := Tryz.prog) (w := W) 32 q n c (by rw [he]; exact Tryz.underlying32) .i64 k (by omega) (by omega)
  rw [h, he, hs]
  simp only [Result.andThen, sliced, subR, Int.toNat_natCast, Nat.mul_one]
end Go.Proofs.YtpabhppghljipaaGreatDoor.Lbl

namespace Go.Proofs.YtpabhppghljipaaGreatDoor.Lbl
open Go.RowKit Go.Shelf Go.Sort Url Org Cls Frm
attribute [local go_sem] Oper.semAt_some
set_option linter.unusedVariables false

set_option maxRecDepth 100000 in
set_option maxHeartbeats 8000000 in
theorem Flows_any (v1 v2 : Value) (l o : Lab) (w : World) (h1 : LabIs w v1 l) (h2 : LabIs w v2 o) (fl : Few l) (fo : Few o) :
    Calls Tryz.prog 22 #[v1, v2] w fun e w' => e = .returned (.bool (flowsB l o)) ∧ Below w.heap.size w w' := by
  obtain ⟨q1, n1, c1, q2, n2, c2, rfl, s1, i1⟩ := h1
  obtain ⟨q3, n3, c3, q4, n4, c4, rfl, s2, i2⟩ := h2
  obtain ⟨W, hW⟩ : ∃ W, (w.alloc (.cells #[.slice q1 n1 c1, .slice q2 n2 c2] 29)).alloc (.cells #[.slice q3 n3 c3, .slice q4 n4 c4] 29) = W := ⟨_, rfl⟩
  have A1 : Below w.heap.size w W := hW ▸ ((Below.refl _ w).alloc (Nat.le_refl _) _).alloc (by simp) _
  have b0 : LB w.heap.size #[.slice q1 n1 c1, .slice q2 n2 c2] W := hW ▸ (LB.new w _).on (below_alloc _)
  have b1 : LB (w.heap.size + 1) #[.slice q3 n3 c3, .slice q4 n4 c4] W := hW ▸ LB.two w _ _
  have x0 := b0.box 0 _ rfl
  have y0 := b1.box 0 _ rfl
  have con := Frm.Implies_any _ _ o.s l.s W (s2.below A1) (s1.below A1) (by have := fo.1; omega) (by have := fl.1; omega)
  have HC := Lib.hid (fun X (hb : Below w.heap.size w X) => Frm.Implies_any _ _ l.i o.i X (i1.below hb) (i2.below hb) (by have := fl.2; omega) (by have := fo.2; omega))
  have HF := Lib.hid (show flowsB l o = (impB o.s l.s && impB l.i o.i) from rfl)
  have HW := Lib.hid hW
  obtain ⟨A, hA⟩ : ∃ A, impB o.s l.s = A := ⟨_, rfl⟩
  rw [hA] at con HF
  clear hW s1 i1 s2 i2 fl fo hA
  go_enter Tryz.func22, Tryz.ntmps22
  go_wp2_with fail
  rw [HW.out]
  refine con.mono ?_
  rintro e w2 ⟨rfl, hb⟩
  have A2 := A1.trans (hb.mono A1.size)
  have x1 := (b0.on hb).box 1 _ rfl
  have y1 := (b1.on hb).box 1 _ rfl
  clear x0 y0 b0 b1 hb con HW A1
  cases A with
  | false =>
    clear HC
    go_wp2
    go_ret
    exact ⟨by rw [HF.out]; rfl, A2⟩
  | true =>
    have con := HC.out w2 A2
    go_wp2_with fail
    refine con.mono ?_
    rintro e w3 ⟨rfl, hb⟩
    have A3 := A2.trans (hb.mono A2.size)
    clear con hb x1 y1
    go_wp2
    go_ret
    exact ⟨by rw [HF.out]; rfl, A3⟩

/-- The same formulas? -/
def sameB (l o : Lab) : Bool := decide (l.s = o.s) && decide (l.i = o.i)
theorem sameB_iff (l o : Lab) : sameB l o = true ↔ l = o := by
  cases l; cases o
  simp [sameB]
set_option maxRecDepth 100000 in
set_option maxHeartbeats 8000000 in
theorem Same_any (v1 v2 : Value) (l o : Lab) (w : World) (h1 : LabIs w v1 l) (h2 : LabIs w v2 o) (fl : Few l) (fo : Few o) :
    Calls Tryz.prog 28 #[v1, v2] w fun e w' => e = .returned (.bool (sameB l o)) ∧ Below w.heap.size w w' := by
  obtain ⟨q1, n1, c1, q2, n2, c2, rfl, s1, i1⟩ := h1
  obtain ⟨q3, n3, c3, q4, n4, c4, rfl, s2, i2⟩ := h2
  obtain ⟨W, hW⟩ : ∃ W, (w.alloc (.cells #[.slice q1 n1 c1, .slice q2 n2 c2] 29)).alloc (.cells #[.slice q3 n3 c3, .slice q4 n4 c4] 29) = W := ⟨_, rfl⟩
  have A1 : Below w.heap.size w W := hW ▸ ((Below.refl _ w).alloc (Nat.le_refl _) _).alloc (by simp) _
  have b0 : LB w.heap.size #[.slice q1 n1 c1, .slice q2 n2 c2] W := hW ▸ (LB.new w _).on (below_alloc _)
  have b1 : LB (w.heap.size + 1) #[.slice q3 n3 c3, .slice q4 n4 c4] W := hW ▸ LB.two w _ _
  have x0 := b0.box 0 _ rfl
  have y0 := b1.box 0 _ rfl
  have con := Frm.Same_any _ _ l.s o.s W (s1.below A1) (s2.below A1) (by have := fl.1; omega) (by have := fo.1; omega)
  have HC := Lib.hid (fun X (hb : Below w.heap.size w X) => Frm.Same_any _ _ l.i o.i X (i1.below hb) (i2.below hb) (by have := fl.2; omega) (by have := fo.2; omega))
  have HF := Lib.hid (show sameB l o = (decide (l.s = o.s) && decide (l.i = o.i)) from rfl)
  have HW := Lib.hid hW
  obtain ⟨A, hA⟩ : ∃ A, decide (l.s = o.s) = A := ⟨_, rfl⟩
  rw [hA] at con HF
  obtain ⟨B, hB⟩ : ∃ B, decide (l.i = o.i) = B := ⟨_, rfl⟩
  rw [hB] at HC HF
  clear hW s1 i1 s2 i2 fl fo hA hB
  go_enter Tryz.func28, Tryz.ntmps28
  go_wp2_with fail
  rw [HW.out]
  refine con.mono ?_
  rintro e w2 ⟨rfl, hb⟩
  have A2 := A1.trans (hb.mono A1.size)
  have x1 := (b0.on hb).box 1 _ rfl
  have y1 := (b1.on hb).box 1 _ rfl
  clear x0 y0 b0 b1 hb con HW A1
  cases A with
  | false =>
    clear HC
    go_wp2
    go_ret
    exact ⟨by rw [HF.out]; rfl, A2⟩
  | true =>
    have con := HC.out w2 A2
    go_wp2_with fail
    refine con.mono ?_
    rintro e w3 ⟨rfl, hb⟩
    have A3 := A2.trans (hb.mono A2.size)
    clear con hb x1 y1
    go_wp2
    go_ret
    exact ⟨by rw [HF.out]; rfl, A3⟩

end Go.Proofs.YtpabhppghljipaaGreatDoor.Lbl

namespace Go.Proofs.YtpabhppghljipaaGreatDoor.Frm
open Go.RowKit Go.Shelf Go.Sort Url Org Cls
attribute [local go_sem] Oper.semAt_some
set_option linter.unusedVariables false

def oneK (names c : List (List UInt8)) (s k : Nat) : Bool := (List.range k).any fun i => decide (s / 2 ^ i % 2 = 1) && (match names[i]? with | some p => decide (p ∈ c) | none => false)
theorem oneK_succ (names c : List (List UInt8)) (s k : Nat) (p : List UInt8) (h : names[k]? = some p) : oneK names c s (k + 1) = (oneK names c s k || (decide (s / 2 ^ k % 2 = 1) && decide (p ∈ c))) := by
  unfold oneK; rw [List.range_succ, List.any_append]; simp [h]
theorem oneK_all (names c : List (List UInt8)) (s : Nat) : oneK names c s names.length = c.any (setB names s) := by
  rw [Bool.eq_iff_iff]
  unfold oneK
  rw [List.any_eq_true, List.any_eq_true]
  constructor
  · rintro ⟨i, hi, h⟩
    rw [Bool.and_eq_true] at h
    have hi2 := List.mem_range.1 hi
    rw [List.getElem?_eq_getElem hi2] at h
    exact ⟨names[i], of_decide_eq_true h.2, (set_iff _ _ _).2 ⟨i, List.getElem?_eq_getElem hi2, of_decide_eq_true h.1⟩⟩
  · rintro ⟨p, hp, h⟩
    obtain ⟨i, hi, hs⟩ := (set_iff _ _ _).1 h
    obtain ⟨hl, _⟩ := List.getElem?_eq_some_iff.1 hi
    refine ⟨i, List.mem_range.2 hl, ?_⟩
    rw [hi, Bool.and_eq_true]
    exact ⟨decide_eq_true hs, decide_eq_true hp⟩
theorem holds_false (f : List (List (List UInt8))) (S : List UInt8 → Bool) (c : List (List UInt8)) (hc : c ∈ f) (h : c.any S = false) : holdsB f S = false := by
  unfold holdsB
  rw [List.all_eq_false]
  exact ⟨c, hc, by rw [h]; decide⟩
theorem holds_take (f : List (List (List UInt8))) (S : List UInt8 → Bool) (k : Nat) (c : List (List UInt8)) (hk : f[k]? = some c) (h : holdsB (f.take k) S = true) (hc : c.any S = true) : holdsB (f.take (k + 1)) S = true := by
  unfold holdsB at h ⊢
  rw [(take_snoc f k c hk).1, List.all_append, h]
  simp [hc]

set_option maxRecDepth 100000 in
set_option maxHeartbeats 16000000 in
theorem refHolds_any (q : Option Addr) (n c : Nat) (f : List (List (List UInt8))) (qn : Option Addr) (nn cn : Nat) (names : List (List UInt8)) (s : Nat) (w : World) (h : RefIn w q n f) (hn : SlIn encStr w qn nn names) (hs : s < 256) (hnn : nn ≤ 8) (hnb : n ≤ 1000) :
    Calls Tryz.prog 21 #[.slice q n c, .slice qn nn cn, .int .i64 (s : Int)] w fun e w' => e = .returned (.bool (holdsB f (setB names s))) ∧ w = w' := by
  have hl := Lib.hid h.len
  obtain ⟨zs, hz, hzs, rfl⟩ := h
  have HZ := Lib.hid hzs
  have HN := Lib.hid hn
  have hnl := Lib.hid hn.1
  have hzl := Lib.hid hz.1
  clear hzs
  go_enter Tryz.func21, Tryz.ntmps21
  go_wp2
  go_loop [14] (fun i => ∃ k : Nat, k ≤ n ∧ i = .int .i64 k ∧ Hid (holdsB ((zs.map Prod.snd).take k) (setB names s) = true)) (fun i => n - (intOf i).toNat)
  case atStart => exact ⟨0, Nat.zero_le _, rfl, Lib.hid rfl⟩
  case round =>
    obtain ⟨k, hk, rfl, HJ⟩ := hrel
    by_cases hlt : k < n
    · obtain ⟨b, o, rfl, _, hc⟩ := hz.at (by omega)
      obtain ⟨⟨⟨zq, zn, zc⟩, x⟩, hx⟩ : ∃ z, zs[k]? = some z := ⟨_, List.getElem?_eq_getElem (by have := hzl.out; omega)⟩
      have hck : w.cell? ⟨b, o + k, none⟩ = some (.slice zq zn zc) := hc k _ hx
      have hzm := HZ.out _ (List.mem_of_getElem? hx)
      obtain ⟨_, _, _, hee, _, _, hsx, _⟩ := hzm.1.set
      cases hee
      have hxn : x.length = zn := hsx.1
      have HX := Lib.hid (show (zs.map Prod.snd)[k]? = some x by rw [List.getElem?_map, hx]; rfl)
      have hzn : zn ≤ 16 := by have := hzm.1.few; have : x.length ≤ 16 := this; omega
      have HSX := Lib.hid hsx
      clear hx hzm hc hxn hsx
      go_wp2
      go_loop [9, 20] (fun one i => ∃ j : Nat, j ≤ nn ∧ i = .int .i64 j ∧ one = .bool (oneK names x s j)) (fun _ i => nn - (intOf i).toNat)
      case atStart => exact ⟨0, Nat.zero_le _, rfl, rfl⟩
      case round =>
        obtain ⟨j, hj, rfl, rfl⟩ := hrel
        by_cases hjl : j < nn
        · obtain ⟨p, hp, _⟩ := drop_getElem names j (by rw [hnl.out]; exact hjl)
          obtain ⟨b2, o2, rfl, _, hc2⟩ := HN.out.at (by omega)
          have hcj : w.cell? ⟨b2, o2 + j, none⟩ = some (.string ⟨p.toArray⟩) := hc2 j p hp
          have HS := Lib.hid (oneK_succ names x s j p hp)
          have con := In_any zq zn zc x p w HSX.out (by omega)
          have hT : ((s : Int) / 2 ^ j).tmod 2 = ((s / 2 ^ j % 2 : Nat) : Int) := by
            have h1 : (s : Int) / 2 ^ j = ((s / 2 ^ j : Nat) : Int) := by push_cast; rfl
            rw [h1, Int.tmod_eq_emod_of_nonneg (Int.natCast_nonneg _)]; omega
          clear hp hc2 hz
          by_cases hbit : s / 2 ^ j % 2 = 1
          · have HS2 := Lib.hid (show oneK names x s (j + 1) = (oneK names x s j || decide (p ∈ x)) by rw [HS.out, decide_eq_true hbit, Bool.true_and])
            rw [hbit] at hT
            have hT : ((s : Int) / 2 ^ j).tmod 2 = 1 := hT
            clear hbit
            go_wp2_with fail
            refine con.mono ?_
            rintro e w2 ⟨rfl, rfl⟩
            clear con
            by_cases hin : p ∈ x
            · have HS3 := Lib.hid (show oneK names x s (j + 1) = true by rw [HS2.out, decide_eq_true hin, Bool.or_true])
              rw [decide_eq_true hin]
              clear hin
              go_wp2
              go_round
              case rel => exact ⟨j + 1, by omega, by go_num, by rw [HS3.out]⟩
              case measure => simp [intOf]; omega
            · have HS3 := Lib.hid (show oneK names x s (j + 1) = oneK names x s j by rw [HS2.out, decide_eq_false hin, Bool.or_false])
              rw [decide_eq_false hin]
              clear hin
              go_wp2
              go_round
              case rel => exact ⟨j + 1, by omega, by go_num, by rw [HS3.out]⟩
              case measure => simp [intOf]; omega
          · have HS2 := Lib.hid (show oneK names x s (j + 1) = oneK names x s j by rw [HS.out, decide_eq_false hbit, Bool.false_and, Bool.or_false])
            have hT2 : ¬ ((s : Int) / 2 ^ j).tmod 2 = 1 := by rw [hT]; omega
            clear hbit hT con
            go_wp2
            go_round
            case rel => exact ⟨j + 1, by omega, by go_num, by rw [HS2.out]⟩
            case measure => simp [intOf]; omega
        · obtain rfl : j = nn := by omega
          have HE := Lib.hid (show oneK names x s j = x.any (setB names s) by rw [← hnl.out]; exact oneK_all names x s)
          cases hone : x.any (setB names s) with
          | true =>
            have HH := Lib.hid (holds_take _ (setB names s) k x HX.out HJ.out hone)
            rw [hone] at HE
            rw [HE.out]
            clear hone
            go_wp2
            go_round
            case rel => exact ⟨k + 1, by omega, by go_num, HH⟩
            case measure => simp [intOf]; omega
          | false =>
            have HH := Lib.hid (holds_false _ (setB names s) x (List.mem_of_getElem? HX.out) hone)
            rw [hone] at HE
            rw [HE.out]
            clear hone
            go_wp2
            go_ret
            exact ⟨by rw [HH.out]; rfl, rfl⟩
    · obtain rfl : k = n := by omega
      have HH := Lib.hid (show holdsB (zs.map Prod.snd) (setB names s) = true by
        have := HJ.out
        rwa [List.take_of_length_le (by rw [hl.out]; exact Nat.le_refl _)] at this)
      clear HJ
      go_wp2
      go_ret
      exact ⟨by rw [HH.out]; rfl, rfl⟩

end Go.Proofs.YtpabhppghljipaaGreatDoor.Frm

namespace Go.Proofs.YtpabhppghljipaaGreatDoor.Lbl
open Go.RowKit Go.Shelf Go.Sort Url Org Cls Frm
attribute [local go_sem] Oper.semAt_some
set_option linter.unusedVariables false

set_option maxRecDepth 100000 in
set_option maxHeartbeats 32000000 in
theorem Reduce_any (q : Option Addr) (n c : Nat) (zs : List Cl) (w : World) (h : SlIn encC w q n zs) (hz : ∀ z ∈ zs, ClAt w z ∧ (z.1.1 = none → z.1.2.2 = 0)) (hn : n ≤ 1000) :
    Calls Tryz.prog 80 #[.slice q n c] w fun e w' => ∃ q' n' c', e = .returned (.slice q' n' c') ∧ RefIn w' q' n' (redL (zs.map Prod.snd)) ∧ (∀ a, q' = some a → w.heap.size ≤ a.block) ∧ (q' = none → c' = 0) ∧ Below w.heap.size w w' := by
  obtain ⟨i0, hi0, hz0, hz1, hz2⟩ := info_parts info_strs
  have hR := Lib.hid (show ∀ c ∈ zs.map Prod.snd, Rises c from fun c hc => by
    obtain ⟨z, hm, rfl⟩ := List.mem_map.1 hc
    exact (hz z hm).1.rise)
  obtain ⟨W1, hW1⟩ : ∃ W1, w.alloc (.cells #[] 49) = W1 := ⟨_, rfl⟩
  have A1 : Below w.heap.size w W1 := hW1 ▸ below_alloc _
  have hrow0 : W1.ownsRow w.heap.size 49 1 (.slice (some ⟨w.heap.size, 0, none⟩) 0 0) 0 [] := hW1 ▸ World.ownsRow_made w #[] 0 (Nat.le_refl _) (Nat.zero_le _) rfl
  have HW1 := Lib.hid hW1
  have HZ := Lib.hid hz
  have HL := Lib.hid h.1
  have HXL := Lib.hid (show (zs.map Prod.snd).length = n by rw [List.length_map]; exact h.1)
  clear hW1 hz
  go_enter Tryz.func80, Tryz.ntmps80
  go_wp2
  rw [HW1.out]
  go_loopw [3, 14] (fun v i wr => ∃ (k : Nat) (ls : List Cl), k ≤ n ∧ i = .int .i64 k ∧ wr.ownsRow w.heap.size 49 1 v ls.length (ls.map encC) ∧ Hid ((∀ z ∈ ls, z ∈ zs) ∧ RedK (zs.map Prod.snd) k (ls.map Prod.snd)) ∧ Below w.heap.size w wr) (fun _ i _ => n - (intOf i).toNat)
  case atStart => exact ⟨0, [], Nat.zero_le _, rfl, hrow0, Lib.hid ⟨by simp, RedK.start _⟩, A1⟩
  case round =>
    obtain ⟨k, ls, hk, rfl, hrow, HLS, hB⟩ := hrel
    have hbs := hB.size
    have HLIM := Lib.hid (show ls.length ≤ 1000 by have := HLS.out.2.len; rw [List.length_map, HXL.out] at this; omega)
    obtain ⟨q4, c4, rfl, hc4, hm4, hs4, hq4⟩ := slIn_of_owns hrow
    have hn4 : q4 = none → c4 = 0 := fun h => by subst h; exact (Cls.row_nil hrow).2
    clear hrow0 A1 HW1
    by_cases hlt : k < n
    · obtain ⟨b, o, rfl, _, hc⟩ := (h.below hB h.lt).at (by omega)
      obtain ⟨⟨⟨xq, xn, xc⟩, x⟩, hzk⟩ : ∃ z, zs[k]? = some z := ⟨_, List.getElem?_eq_getElem (by have := HL.out; omega)⟩
      have hck : wr.cell? ⟨b, o + k, none⟩ = some (.slice xq xn xc) := hc k _ hzk
      have hxm := HZ.out _ (List.mem_of_getElem? hzk)
      obtain ⟨_, _, _, hee, _, _, hsx, _⟩ := (hxm.1.below hB).set
      cases hee
      have hxf : x.length ≤ 16 := hxm.1.few
      have hxl : x.length = xn := hsx.1
      have hxn : xn ≤ 16 := by omega
      have HXK := Lib.hid (show (zs.map Prod.snd)[k]? = some x by rw [List.getElem?_map, hzk]; rfl)
      have HZK := Lib.hid hzk
      have HXLN := Lib.hid hxl
      have HC := Lib.hid hc
      have HSX := Lib.hid hsx
      clear hzk hxm hc hxl hxf hsx
      go_wp2
      go_loop [6, 21] (fun kp i => ∃ j : Nat, j ≤ n ∧ i = .int .i64 j ∧ kp = .bool (keptK (zs.map Prod.snd) k x j)) (fun _ i => n - (intOf i).toNat)
      case atStart => exact ⟨0, Nat.zero_le _, rfl, by rw [keptK_zero]⟩
      case round =>
        obtain ⟨j, hj, rfl, rfl⟩ := hrel
        by_cases hjl : j < n
        · obtain ⟨⟨⟨yq, yn, yc⟩, y⟩, hzj⟩ : ∃ z, zs[j]? = some z := ⟨_, List.getElem?_eq_getElem (by have := HL.out; omega)⟩
          have hcj : wr.cell? ⟨b, o + j, none⟩ = some (.slice yq yn yc) := HC.out j _ hzj
          have hym := HZ.out _ (List.mem_of_getElem? hzj)
          obtain ⟨_, _, _, hee, _, _, hsy, _⟩ := (hym.1.below hB).set
          cases hee
          have hyf : y.length ≤ 16 := hym.1.few
          have hyl : y.length = yn := hsy.1
          have hyn : yn ≤ 16 := by omega
          have con := refImp_any yq yn yc y xq xn xc x wr hsy HSX.out (by omega) (by omega)
          have HYJ : (zs.map Prod.snd)[j]? = some y := by rw [List.getElem?_map, hzj]; rfl
          have HNO := Lib.hid (kept_no (zs.map Prod.snd) k x y j HYJ)
          have HGO := Lib.hid (kept_go (zs.map Prod.snd) k x y j HYJ)
          rw [hyl, HXLN.out] at HNO HGO
          generalize subB y x = A at con HNO HGO
          generalize keptK (zs.map Prod.snd) k x j = m at HGO ⊢
          clear hzj hym hyl hyf HYJ hsy hck
          cases A with
          | false =>
            have HK1 := Lib.hid (HGO.out rfl)
            clear HGO HNO
            go_wp2_with fail
            refine con.mono ?_
            rintro e w' ⟨rfl, rfl⟩
            clear con
            go_wp2
            go_round
            case rel => exact ⟨j + 1, by omega, by go_num, by rw [HK1.out]⟩
            case measure => simp [intOf]; omega
          | true =>
            by_cases h1 : yn < xn
            · have HK1 := Lib.hid (HNO.out (by rw [decide_eq_true h1]; rfl))
              have d1 : decide ((yn : Int) < (xn : Int)) = true := by simp; omega
              have d1' : decide (yn < xn) = true := decide_eq_true h1
              clear HGO HNO h1
              go_wp2_with fail
              refine con.mono ?_
              rintro e w' ⟨rfl, rfl⟩
              clear con
              go_wp2
              go_round
              case rel => exact ⟨j + 1, by omega, by go_num, by rw [HK1.out]⟩
              case measure => simp [intOf]; omega
            · have d1 : decide ((yn : Int) < (xn : Int)) = false := by simp; omega
              have d1' : decide (yn < xn) = false := decide_eq_false h1
              by_cases h2 : j < k
              · have HK1 := Lib.hid (HNO.out (by rw [decide_eq_true h2, decide_eq_false h1]; rfl))
                have d2 : decide ((j : Int) < (k : Int)) = true := by simp; omega
                have d2' : decide (j < k) = true := decide_eq_true h2
                clear HGO HNO h1 h2
                go_wp2_with fail
                refine con.mono ?_
                rintro e w' ⟨rfl, rfl⟩
                clear con
                go_wp2
                go_round
                case rel => exact ⟨j + 1, by omega, by go_num, by rw [HK1.out]⟩
                case measure => simp [intOf]; omega
              · have HK1 := Lib.hid (HGO.out (by rw [decide_eq_false h2, decide_eq_false h1]; rfl))
                have d2 : decide ((j : Int) < (k : Int)) = false := by simp; omega
                have d2' : decide (j < k) = false := decide_eq_false h2
                clear HGO HNO h1 h2
                go_wp2_with fail
                refine con.mono ?_
                rintro e w' ⟨rfl, rfl⟩
                clear con
                go_wp2
                go_round
                case rel => exact ⟨j + 1, by omega, by go_num, by rw [HK1.out]⟩
                case measure => simp [intOf]; omega
        · obtain rfl : j = n := by omega
          obtain ⟨kp, hkp⟩ : ∃ kp, keptK (zs.map Prod.snd) k x j = kp := ⟨_, rfl⟩
          rewrite [hkp]
          have HKP := Lib.hid (show keptK (zs.map Prod.snd) k x (zs.map Prod.snd).length = kp by rw [HXL.out]; exact hkp)
          clear hkp hck
          cases kp with
          | false =>
            have HLS2 := Lib.hid (show (∀ z ∈ ls, z ∈ zs) ∧ RedK (zs.map Prod.snd) (k + 1) (ls.map Prod.snd) from ⟨HLS.out.1, HLS.out.2.skip hR.out HXK.out HKP.out⟩)
            clear hs4 HLS HC
            go_wp2
            go_roundw
            case rel => exact ⟨k + 1, ls, by omega, by go_num, hrow, HLS2, hB⟩
            case measure => simp [intOf]; omega
          | true =>
            go_wp2
            obtain ⟨W4, rfl⟩ : ∃ W, W = wr := ⟨_, rfl⟩
            have hlim := HLIM.out
            go_loopw [9] (fun a wr2 => ∃ p : Nat, p ≤ ls.length ∧ a = .int .i64 p ∧ Below W4.heap.size W4 wr2 ∧ Hid (∀ i y, i < p → (ls.map Prod.snd)[i]? = some y → y < x)) (fun a _ => ls.length - (intOf a).toNat)
            case atStart => exact ⟨0, Nat.zero_le _, rfl, Below.refl _ _, Lib.hid (fun i y h => by omega)⟩
            case round =>
              obtain ⟨p, hp, rfl, hB2, HJ⟩ := hrel
              by_cases hpl : p < ls.length
              · obtain ⟨⟨⟨yq, yn, yc⟩, y⟩, hyp⟩ : ∃ z, ls[p]? = some z := ⟨_, List.getElem?_eq_getElem hpl⟩
                obtain ⟨b4, o4, he4, _, hcy⟩ := (hs4.below hB2 hs4.lt).at (by omega)
                have hcp : wr.cell? ⟨b4, o4 + p, none⟩ = some (.slice yq yn yc) := hcy p _ hyp
                have hym := HZ.out _ (HLS.out.1 _ (List.mem_of_getElem? hyp))
                obtain ⟨_, _, _, hee, _, _, hsy, _⟩ := (hym.1.below hB).set
                cases hee
                have hyf : y.length ≤ 16 := hym.1.few
                have hyl : y.length = yn := hsy.1
                have hyn : yn ≤ 16 := by omega
                have con := refCmp_any yq yn yc y xq xn xc x wr (hsy.below hB2 hsy.lt) (HSX.out.below hB2 HSX.out.lt) (by omega) (by omega)
                have HYP := Lib.hid (show (ls.map Prod.snd)[p]? = some y by rw [List.getElem?_map, hyp]; rfl)
                clear hyp hym hyl hyf hsy hcy
                by_cases hyx : y < x
                · have HJ2 := Lib.hid (show ∀ i z, i < p + 1 → (ls.map Prod.snd)[i]? = some z → z < x from fun i z hi hz => by
                    by_cases e : i = p
                    · subst e; rw [HYP.out] at hz; cases hz; exact hyx
                    · exact HJ.out i z (by omega) hz)
                  rewrite [(cmp_lt y x).2 hyx] at con
                  subst he4
                  clear hyx HJ HC hs4 hrow
                  go_wp2_with fail
                  refine con.mono ?_
                  rintro e w5 ⟨rfl, hb⟩
                  have hB5 := hB2.trans (hb.mono hB2.size)
                  clear con hb hB2
                  go_wp2
                  go_roundw
                  case rel => exact ⟨p + 1, by omega, by go_num, hB5, HJ2⟩
                  case measure => simp [intOf]; omega
                · have HEND := Lib.hid (show ∀ z, (ls.map Prod.snd)[p]? = some z → ¬ z < x from fun z hz => by rw [HYP.out] at hz; cases hz; exact hyx)
                  have hcn : ¬ cmpL y x < 0 := fun h => hyx ((Frm.cmpL_neg y x).1 h)
                  obtain ⟨cv, hcv⟩ : ∃ v, cmpL y x = v := ⟨_, rfl⟩
                  rw [hcv] at hcn
                  have d1 : decide (cv < 0) = false := decide_eq_false hcn
                  rewrite [hcv] at con
                  have hcp' := hcp
                  have HQ4 := Lib.hid he4
                  have hcp2 : wr.cell? ⟨b4, o4 + p, none⟩ = some (.slice yq yn yc) := hcp
                  clear hyx hcv hcn hcp' HYP
                  subst he4
                  go_wp2_with fail
                  refine con.mono ?_
                  rintro e w5 ⟨rfl, hb⟩
                  have hB5 := hB2.trans (hb.mono hB2.size)
                  clear con hb hB2 hcp hcp2 HQ4
                  generalize (some ⟨b4, o4, none⟩ : Option Addr) = q4 at *
                  replace hB2 := hB5
                  clear hB5
                  obtain ⟨wy, rfl⟩ : ∃ W, W = w5 := ⟨_, rfl⟩
                  have hw5 : Below wy.heap.size wy (wy.alloc (.cells #[] 49)) := below_alloc _
                  have hrow5 : (wy.alloc (.cells #[] 49)).ownsRow wy.heap.size 49 1 (.slice (some ⟨wy.heap.size, 0, none⟩) 0 0) 0 [] := World.ownsRow_made wy #[] 0 (Nat.le_refl _) (Nat.zero_le _) rfl
                  have hs5 : SlIn encC wy q4 ls.length ls := hs4.below hB2 hs4.lt
                  have hsl1 := Lib.hid (fun W => run_ref_head q4 ls.length c4 p W (by omega))
                  have hsl2 := Lib.hid (fun W => run_ref_rest q4 ls.length c4 p W hp)
                  have hn1 : hdA q4 c4 = none → c4 = 0 := fun h => by
                    cases q4 with
                    | none => exact hn4 rfl
                    | some a => obtain ⟨a', e, _⟩ := hdA_some a c4; rw [e] at h; cases h
                  have hn2 : subR q4 c4 p = none → c4 - p = 0 := fun h => by
                    cases q4 with
                    | none => rw [hn4 rfl]; omega
                    | some a => obtain ⟨a', e, _⟩ := subR_some a c4 p; rw [e] at h; cases h
                  have st : SlIn encC (wy.alloc (.cells #[] 49)) (hdA q4 c4) p (ls.take p) := (hs5.take p hp hc4).alloc _
                  have sd : SlIn encC wy (subR q4 c4 p) (ls.length - p) (ls.drop p) := hs5.drop p hp hc4
                  have hq5 : ∀ a, subR q4 c4 p = some a → 0 < ls.length - p → a.block < wy.heap.size := sd.lt
                  have HLS2 := Lib.hid (show (∀ z ∈ ls.take p ++ ((xq, xn, xc), x) :: ls.drop p, z ∈ zs) ∧ RedK (zs.map Prod.snd) (k + 1) ((ls.take p ++ ((xq, xn, xc), x) :: ls.drop p).map Prod.snd) from ⟨fun z hz => by
                    rcases List.mem_append.1 hz with h | h
                    · exact HLS.out.1 z (List.mem_of_mem_take h)
                    · rcases List.mem_cons.1 h with rfl | h
                      · exact List.mem_of_getElem? HZK.out
                      · exact HLS.out.1 z (List.mem_of_mem_drop h), by
                    have := HLS.out.2.take hR.out HXK.out HKP.out p HJ.out HEND.out
                    rw [List.map_append, List.map_cons, List.map_take, List.map_drop]
                    exact this⟩)
                  have HLEN := Lib.hid (show 0 + p + 1 + (ls.length - p) = (ls.take p ++ ((xq, xn, xc), x) :: ls.drop p).length by rw [List.length_append, List.length_cons, List.length_take, List.length_drop]; omega)
                  have HMAP := Lib.hid (show ([] ++ (ls.take p).map encC ++ [Value.slice xq xn xc] ++ (ls.drop p).map encC) = (ls.take p ++ ((xq, xn, xc), x) :: ls.drop p).map encC by rw [List.map_append, List.map_cons, List.nil_append, List.append_assoc]; rfl)
                  have hB2w := hB.trans (hB2.mono hbs)
                  have hb2s := hB2w.size
                  have hlen16 := HLIM.out
                  have HB2W := Lib.hid hB2w
                  generalize ls.take p = l1 at st HLS2 HLEN HMAP
                  generalize ls.drop p = l2 at sd HLS2 HLEN HMAP
                  have hz1p := Lib.hid hsl1
                  have k1 := hsl1.out
                  have k2 := hsl2.out
                  clear hs4 hs5 hsl1 hsl2 hB2 hrow HJ HEND HLS HKP hB hB2w HC hz1p
                  go_upto_region 17 with (at_builtin; refine wpList_append_rowC rfl _ _ 32 49 rfl i0 (.slice none 0 0) 24 Tryz.underlying32 hi0 hz0 hz1 hz2 rfl (by decide) wy.heap.size _ 0 [] rfl hrow5 (hdA q4 c4) p c4 l1 rfl hn1 st (by omega) (by simp) ?_; intro v6 w6 hown6 hgrow6)
                  have hb6 : Below wy.heap.size wy w6 := hw5.grown hgrow6 (by simp) (fun b hb => (hrow5.lt b hb).1)
                  have hs6 := hb6.size
                  have sd6 := sd.below hb6 sd.lt
                  clear hrow5 hgrow6 st k1 sd hw5
                  go_upto_region 18 with (at_builtin; refine wpList_append_own_at _ rfl _ _ 32 rfl wy.heap.size 49 i0 (.slice none 0 0) 1 24 Tryz.underlying32 hi0 hz0 hz1 hz2 rfl (by decide) _ _ _ rfl (hown6.alloc _) ⟨w6.heap.size, 0, none⟩ 1 1 [.slice xq xn xc] rfl rfl (cell_one_new _ _ _) (by simp [Value.oneCell']) (by unfold maxLen; omega) (by omega) (by simp; omega) ?_; intro v7 w7 hown7 hgrow7 _ _)
                  have hb7 : Below wy.heap.size w6 w7 := ((Below.refl _ w6).alloc hs6 _).grown hgrow7 (by simp; omega) (fun b hb => (hown6.lt b hb).1)
                  have hs7 := hb7.size
                  have sd7 := sd6.below hb7 hq5
                  clear hown6 hgrow7 sd6
                  go_wp2_with (at_builtin; refine wpList_append_rowC rfl _ _ 32 49 rfl i0 (.slice none 0 0) 24 Tryz.underlying32 hi0 hz0 hz1 hz2 rfl (by decide) wy.heap.size _ (0 + p + 1) _ rfl hown7 (subR q4 c4 p) (ls.length - p) (c4 - p) l2 rfl hn2 sd7 (by omega) (by omega) ?_; intro v8 w8 hown8 hgrow8)
                  have hb8 : Below wy.heap.size w7 w8 := (Below.refl _ w7).grown hgrow8 (Nat.le_trans hs6 hs7) (fun b hb => (hown7.lt b hb).1)
                  rw [HLEN.out, HMAP.out] at hown8
                  have hfin := row_base hown8 hb2s
                  have hall := HB2W.out.trans (((hb6.trans (hb7.mono (Nat.le_refl _))).trans (hb8.mono (Nat.le_refl _))).mono hb2s)
                  go_roundw
                  case rel => exact ⟨k + 1, _, by omega, by go_num, hfin, HLS2, hall⟩
                  case measure => simp [intOf]; omega
              · obtain rfl : p = ls.length := by omega
                have HEND := Lib.hid (show ∀ z, (ls.map Prod.snd)[ls.length]? = some z → ¬ z < x from fun z hz => by rw [List.getElem?_eq_none (by rw [List.length_map]; exact Nat.le_refl _)] at hz; cases hz)
                obtain ⟨p, hpe⟩ : ∃ p, ls.length = p := ⟨_, rfl⟩
                have hp : p ≤ ls.length := by omega
                have HPE := Lib.hid hpe
                rewrite [hpe] at HJ HEND
                clear hpe
                replace hpl : ¬ p < ls.length := by have := HPE.out; omega
                have hpp : (.int .i64 (ls.length : Int) : Value) = .int .i64 (p : Int) := by rw [HPE.out]
                rewrite [hpp]
                clear hpp
                obtain ⟨wy, rfl⟩ : ∃ W, W = wr := ⟨_, rfl⟩
                have hw5 : Below wy.heap.size wy (wy.alloc (.cells #[] 49)) := below_alloc _
                have hrow5 : (wy.alloc (.cells #[] 49)).ownsRow wy.heap.size 49 1 (.slice (some ⟨wy.heap.size, 0, none⟩) 0 0) 0 [] := World.ownsRow_made wy #[] 0 (Nat.le_refl _) (Nat.zero_le _) rfl
                have hs5 : SlIn encC wy q4 ls.length ls := hs4.below hB2 hs4.lt
                have hsl1 := Lib.hid (fun W => run_ref_head q4 ls.length c4 p W (by omega))
                have hsl2 := Lib.hid (fun W => run_ref_rest q4 ls.length c4 p W hp)
                have hn1 : hdA q4 c4 = none → c4 = 0 := fun h => by
                  cases q4 with
                  | none => exact hn4 rfl
                  | some a => obtain ⟨a', e, _⟩ := hdA_some a c4; rw [e] at h; cases h
                have hn2 : subR q4 c4 p = none → c4 - p = 0 := fun h => by
                  cases q4 with
                  | none => rw [hn4 rfl]; omega
                  | some a => obtain ⟨a', e, _⟩ := subR_some a c4 p; rw [e] at h; cases h
                have st : SlIn encC (wy.alloc (.cells #[] 49)) (hdA q4 c4) p (ls.take p) := (hs5.take p hp hc4).alloc _
                have sd : SlIn encC wy (subR q4 c4 p) (ls.length - p) (ls.drop p) := hs5.drop p hp hc4
                have hq5 : ∀ a, subR q4 c4 p = some a → 0 < ls.length - p → a.block < wy.heap.size := sd.lt
                have HLS2 := Lib.hid (show (∀ z ∈ ls.take p ++ ((xq, xn, xc), x) :: ls.drop p, z ∈ zs) ∧ RedK (zs.map Prod.snd) (k + 1) ((ls.take p ++ ((xq, xn, xc), x) :: ls.drop p).map Prod.snd) from ⟨fun z hz => by
                  rcases List.mem_append.1 hz with h | h
                  · exact HLS.out.1 z (List.mem_of_mem_take h)
                  · rcases List.mem_cons.1 h with rfl | h
                    · exact List.mem_of_getElem? HZK.out
                    · exact HLS.out.1 z (List.mem_of_mem_drop h), by
                  have := HLS.out.2.take hR.out HXK.out HKP.out p HJ.out HEND.out
                  rw [List.map_append, List.map_cons, List.map_take, List.map_drop]
                  exact this⟩)
                have HLEN := Lib.hid (show 0 + p + 1 + (ls.length - p) = (ls.take p ++ ((xq, xn, xc), x) :: ls.drop p).length by rw [List.length_append, List.length_cons, List.length_take, List.length_drop]; omega)
                have HMAP := Lib.hid (show ([] ++ (ls.take p).map encC ++ [Value.slice xq xn xc] ++ (ls.drop p).map encC) = (ls.take p ++ ((xq, xn, xc), x) :: ls.drop p).map encC by rw [List.map_append, List.map_cons, List.nil_append, List.append_assoc]; rfl)
                have hB2w := hB.trans (hB2.mono hbs)
                have hb2s := hB2w.size
                have hlen16 := HLIM.out
                have HB2W := Lib.hid hB2w
                generalize ls.take p = l1 at st HLS2 HLEN HMAP
                generalize ls.drop p = l2 at sd HLS2 HLEN HMAP
                have hz1p := Lib.hid hsl1
                have k1 := hsl1.out
                have k2 := hsl2.out
                clear hs4 hs5 hsl1 hsl2 hB2 hrow HJ HEND HLS HKP hB hB2w HC hz1p
                go_upto_region 17 with (at_builtin; refine wpList_append_rowC rfl _ _ 32 49 rfl i0 (.slice none 0 0) 24 Tryz.underlying32 hi0 hz0 hz1 hz2 rfl (by decide) wy.heap.size _ 0 [] rfl hrow5 (hdA q4 c4) p c4 l1 rfl hn1 st (by omega) (by simp) ?_; intro v6 w6 hown6 hgrow6)
                have hb6 : Below wy.heap.size wy w6 := hw5.grown hgrow6 (by simp) (fun b hb => (hrow5.lt b hb).1)
                have hs6 := hb6.size
                have sd6 := sd.below hb6 sd.lt
                clear hrow5 hgrow6 st k1 sd hw5
                go_upto_region 18 with (at_builtin; refine wpList_append_own_at _ rfl _ _ 32 rfl wy.heap.size 49 i0 (.slice none 0 0) 1 24 Tryz.underlying32 hi0 hz0 hz1 hz2 rfl (by decide) _ _ _ rfl (hown6.alloc _) ⟨w6.heap.size, 0, none⟩ 1 1 [.slice xq xn xc] rfl rfl (cell_one_new _ _ _) (by simp [Value.oneCell']) (by unfold maxLen; omega) (by omega) (by simp; omega) ?_; intro v7 w7 hown7 hgrow7 _ _)
                have hb7 : Below wy.heap.size w6 w7 := ((Below.refl _ w6).alloc hs6 _).grown hgrow7 (by simp; omega) (fun b hb => (hown6.lt b hb).1)
                have hs7 := hb7.size
                have sd7 := sd6.below hb7 hq5
                clear hown6 hgrow7 sd6
                go_wp2_with (at_builtin; refine wpList_append_rowC rfl _ _ 32 49 rfl i0 (.slice none 0 0) 24 Tryz.underlying32 hi0 hz0 hz1 hz2 rfl (by decide) wy.heap.size _ (0 + p + 1) _ rfl hown7 (subR q4 c4 p) (ls.length - p) (c4 - p) l2 rfl hn2 sd7 (by omega) (by omega) ?_; intro v8 w8 hown8 hgrow8)
                have hb8 : Below wy.heap.size w7 w8 := (Below.refl _ w7).grown hgrow8 (Nat.le_trans hs6 hs7) (fun b hb => (hown7.lt b hb).1)
                rw [HLEN.out, HMAP.out] at hown8
                have hfin := row_base hown8 hb2s
                have hall := HB2W.out.trans (((hb6.trans (hb7.mono (Nat.le_refl _))).trans (hb8.mono (Nat.le_refl _))).mono hb2s)
                go_roundw
                case rel => exact ⟨k + 1, _, by omega, by go_num, hfin, HLS2, hall⟩
                case measure => simp [intOf]; omega
    · obtain rfl : k = n := by omega
      have HD := Lib.hid (show redL (zs.map Prod.snd) = ls.map Prod.snd from (RedK.done (by have := HLS.out.2; rw [← HXL.out] at this; exact this)).symm)
      have HA := Lib.hid (show ∀ z ∈ ls, ClAt wr z ∧ (z.1.1 = none → z.1.2.2 = 0) from fun z hz => ⟨(HZ.out z (HLS.out.1 z hz)).1.below hB, (HZ.out z (HLS.out.1 z hz)).2⟩)
      clear hrow HLS
      go_wp2
      go_ret
      exact ⟨q4, ls.length, c4, rfl, ⟨ls, hs4, HA.out, HD.out⟩, (fun a ha => (hq4 a ha).1), hn4, hB⟩

end Go.Proofs.YtpabhppghljipaaGreatDoor.Lbl

namespace Go.Proofs.YtpabhppghljipaaGreatDoor.Frm
open Go.RowKit Go.Shelf Go.Sort Url Org Cls
attribute [local go_sem] Oper.semAt_some
set_option linter.unusedVariables false

/-- A formula's row as it lies in memory, and what it is. -/
abbrev Rw := (Option Addr × Nat × Nat) × List (List (List UInt8))
/-- What has come, by the number of formulas gone through. -/
def accN (rs : List Rw) (k : Nat) : List (List UInt8) := ((rs.take k).map Prod.snd).flatten.flatten
theorem accN_succ (rs : List Rw) (k : Nat) (r : Rw) (h : rs[k]? = some r) : accN rs (k + 1) = accN rs k ++ r.2.flatten := by
  unfold accN
  rw [(take_snoc rs k r h).1, List.map_append, List.flatten_append, List.flatten_append]
  simp
theorem accN_len (rs : List Rw) (h : ∀ r ∈ rs, r.2.flatten.length ≤ 256) : ∀ k, k ≤ rs.length → (accN rs k).length ≤ 256 * k
  | 0, _ => by simp [accN]
  | k + 1, hk => by
    have h1 := accN_len rs h k (by omega)
    have hr : rs[k]? = some rs[k] := List.getElem?_eq_getElem (by omega)
    rw [accN_succ rs k _ hr, List.length_append]
    have := h _ (List.mem_of_getElem? hr)
    omega

set_option maxRecDepth 100000 in
set_option maxHeartbeats 16000000 in
theorem refPrinN_any (b : Nat) (rs : List Rw) (w : World) (m : Nat) (hm : rs.length = m) (h0 : 0 < m) (hm8 : m ≤ 8) (hbl : b < w.heap.size)
    (hc : ∀ k r, rs[k]? = some r → w.cell? ⟨b, k, none⟩ = some (.slice r.1.1 r.1.2.1 r.1.2.2)) (hr : ∀ r ∈ rs, RefIn w r.1.1 r.1.2.1 r.2 ∧ r.1.2.1 ≤ 16) :
    Calls Tryz.prog 20 #[.slice (some ⟨b, 0, none⟩) m m] w fun e w' => ∃ q n c, e = .returned (.slice q n c) ∧ SlIn encStr w' q n (namesA (rs.map Prod.snd)) ∧ Below w.heap.size w w' := by
  obtain ⟨i0, hi0, hz0, hz1, hz2⟩ := info_parts S.info_str
  have hfl : ∀ r ∈ rs, r.2.flatten.length ≤ 256 := fun r h => by
    obtain ⟨h1, h2⟩ := hr r h
    have hl := h1.len
    exact Nat.le_trans (flatC_small 16 r.2 h1.few) (by rw [hl]; omega)
  have HK := Lib.hid (show ∀ k, k ≤ m → (accN rs k).length ≤ 2048 from fun k hk => by
    have := accN_len rs hfl k (by omega)
    have h2 : 256 * k ≤ 256 * 8 := Nat.mul_le_mul_left _ (by omega)
    omega)
  have key := Lib.hid (show ∀ k, k < m → ∃ (q : Option Addr) (n c : Nat) (zs : List Cl), w.cell? ⟨b, k, none⟩ = some (.slice q n c) ∧ SlIn encC w q n zs ∧ (∀ z ∈ zs, ClAt w z ∧ (z.1.1 = none → z.1.2.2 = 0)) ∧ n ≤ 16 ∧ accN rs (k + 1) = accN rs k ++ (zs.map Prod.snd).flatten from fun k hk => by
    have hrk : rs[k]? = some rs[k] := List.getElem?_eq_getElem (by omega)
    obtain ⟨⟨zs, s1, z1, h2⟩, h3⟩ := hr _ (List.mem_of_getElem? hrk)
    exact ⟨_, _, _, zs, hc k _ hrk, s1, z1, h3, by rw [accN_succ rs k _ hrk, h2]⟩)
  have HL := Lib.hid (show accN rs m = (rs.map Prod.snd).flatten.flatten by unfold accN; rw [List.take_of_length_le (by omega)])
  obtain ⟨W1, hW1⟩ : ∃ W1, w.alloc (.cells #[] 9) = W1 := ⟨_, rfl⟩
  have A1 : Below w.heap.size w W1 := hW1 ▸ below_alloc _
  have hrow0 : W1.ownsRow w.heap.size 9 1 (.slice (some ⟨w.heap.size, 0, none⟩) 0 0) 0 [] := hW1 ▸ World.ownsRow_made w #[] 0 (Nat.le_refl _) (Nat.zero_le _) rfl
  have HW1 := Lib.hid hW1
  clear hW1 hc hr hfl
  go_enter Tryz.func20, Tryz.ntmps20
  go_wp2
  rw [HW1.out]
  go_loopw [3, 11] (fun v i wr => ∃ k : Nat, k ≤ m ∧ i = .int .i64 k ∧ wr.ownsRow w.heap.size 9 1 v (accN rs k).length ((accN rs k).map encStr) ∧ Below w.heap.size w wr) (fun _ i _ => m - (intOf i).toNat)
  case atStart => exact ⟨0, Nat.zero_le _, rfl, by simpa [accN] using hrow0, A1⟩
  case round =>
    obtain ⟨k, hk, rfl, hrow, hB⟩ := hrel
    have hbs := hB.size
    clear hrow0
    by_cases hlt : k < m
    · obtain ⟨q, n, c, zs, hc, hsl, hzs, hn, hacc⟩ := key.out k hlt
      have hck : wr.cell? ⟨b, k, none⟩ = some (.slice q n c) := (World.cell?_of_block (hB.block b hbl)).trans hc
      have HZ := Lib.hid hzs
      have HSL := Lib.hid hsl
      have hzl := Lib.hid hsl.1
      have HA := Lib.hid hacc
      have HA0 := Lib.hid (HK.out (k + 1) (by omega))
      have hak := HK.out k hk
      generalize accN rs k = acc at hrow HA hak
      clear hc hsl hzs hacc
      go_wp2
      obtain ⟨G, hG⟩ : ∃ G : Nat → List (List UInt8), ∀ j, G j = acc ++ ((zs.map Prod.snd).take j).flatten := ⟨_, fun _ => rfl⟩
      have HG := Lib.hid hG
      clear hG
      go_loopw [3, 17] (fun v i wr2 => ∃ j : Nat, j ≤ n ∧ i = .int .i64 j ∧ wr2.ownsRow w.heap.size 9 1 v (G j).length ((G j).map encStr) ∧ Below w.heap.size w wr2) (fun _ i _ => n - (intOf i).toNat)
      case atStart => exact ⟨0, Nat.zero_le _, rfl, by rw [HG.out]; simpa using hrow, hB⟩
      case round =>
        obtain ⟨j, hj, rfl, hrow2, hB2⟩ := hrel
        have hbs2 := hB2.size
        clear hrow hB hck hbs
        by_cases hjl : j < n
        · obtain ⟨b2, o2, rfl, _, hc2⟩ := (HSL.out.below hB2 HSL.out.lt).at (by omega)
          obtain ⟨⟨⟨zq, zn, zc⟩, zx⟩, hz⟩ : ∃ z, zs[j]? = some z := ⟨_, List.getElem?_eq_getElem (by have := hzl.out; omega)⟩
          have hcj : wr.cell? ⟨b2, o2 + j, none⟩ = some (.slice zq zn zc) := hc2 j _ hz
          have hzm := HZ.out _ (List.mem_of_getElem? hz)
          obtain ⟨_, _, _, hee, _, _, hsx, _⟩ := (hzm.1.below hB2).set
          cases hee
          have hqz : zq = none → zc = 0 := hzm.2
          have HF := Lib.hid (flatC_take (zs.map Prod.snd) j zx (by rw [List.getElem?_map, hz]; rfl))
          have hle := flatC_le (zs.map Prod.snd) (j + 1)
          have hb1 := HA0.out
          rw [HA.out, List.length_append] at hb1
          rw [HF.out, List.length_append] at hle
          have hzx : zx.length = zn := hsx.1
          have hbnd : (G j).length + zx.length ≤ 2048 := by rw [HG.out, List.length_append]; omega
          have HL2 := Lib.hid (show G (j + 1) = G j ++ zx by rw [HG.out, HG.out, HF.out, List.append_assoc])
          clear hz hc2 hle hb1 hzm
          obtain ⟨rs, hrs⟩ : ∃ rs, G j = rs := ⟨_, rfl⟩
          rw [hrs] at hrow2 hbnd HL2
          rw [hzx] at hbnd
          have HZX := Lib.hid hzx
          clear hzx hak hrs
          go_wp2_with (at_builtin; refine wpList_append_row (enc := encStr) rfl _ _ 49 9 rfl i0 (.string ByteArray.empty) 16 Tryz.underlying49 hi0 hz0 hz1 hz2 rfl (fun _ => rfl) (by decide) w.heap.size _ _ _ rfl hrow2 zq zn zc zx rfl hqz hsx (by omega) hbs2 ?_; intro v4 w4 hown4 hgrow4)
          go_roundw
          case rel =>
            refine ⟨j + 1, by omega, by go_num, ?_, hB2.trans ((Below.refl _ _).grown hgrow4 hbs2 (fun b h => (hrow2.lt b h).1))⟩
            rw [HL2.out, List.length_append, HZX.out, List.map_append]; exact hown4
          case measure => simp [intOf]; omega
        · obtain rfl : j = n := by omega
          have HE := Lib.hid (show G j = accN rs (k + 1) by
            rw [HG.out, List.take_of_length_le (by rw [List.length_map, hzl.out]; exact Nat.le_refl _), HA.out])
          rw [HE.out] at hrow2
          go_wp2
          go_roundw
          case rel => exact ⟨k + 1, by omega, by go_num, hrow2, hB2⟩
          case measure => simp [intOf]; omega
    · obtain rfl : k = m := by omega
      have hak := HK.out k (Nat.le_refl _)
      obtain ⟨q4, c4, rfl, hc4, _, hs4, _⟩ := slIn_of_owns hrow
      have HN := Lib.hid (show namesA (rs.map Prod.snd) = sortR (accN rs k) by unfold namesA; rw [HL.out])
      have con := Rising_any q4 (accN rs k).length c4 (accN rs k) wr hs4 (by omega)
      rw [← HN.out] at con
      generalize (accN rs k).length = mm at *
      clear hs4 hrow
      go_wp2_with fail
      refine con.mono ?_
      rintro e w5 ⟨q5, n5, c5, rfl, h5, hb5⟩
      clear con
      go_wp2
      go_ret
      exact ⟨q5, n5, c5, rfl, h5, hB.trans (hb5.mono hbs)⟩

/-! ### the formula of one principal -/
end Go.Proofs.YtpabhppghljipaaGreatDoor.Frm

namespace Go.Proofs.YtpabhppghljipaaGreatDoor.Lbl
open Go.RowKit Go.Shelf Go.Sort Url Org Cls Frm
attribute [local go_sem] Oper.semAt_some
set_option linter.unusedVariables false

/-! ### lives -/
theorem open_few : Few ⟨[], []⟩ := ⟨by decide, by decide⟩
/-! ### Of -/
end Go.Proofs.YtpabhppghljipaaGreatDoor.Lbl

namespace Go.Proofs.YtpabhppghljipaaGreatDoor.Lbl
open Go.RowKit Go.Shelf Go.Sort Url Org Cls Frm
set_option linter.unusedVariables false

theorem few_of (l x : List (List (List UInt8))) (h : ofF l = .inr x) : x.length ≤ 16 := by
  unfold ofF at h
  split at h
  · rename_i hf; cases h; exact hf
  · cases h
end Go.Proofs.YtpabhppghljipaaGreatDoor.Lbl

namespace Go.Proofs.YtpabhppghljipaaGreatDoor.Lbl
open Go.RowKit Go.Shelf Go.Sort Url Org Cls Frm
attribute [local go_sem] Oper.semAt_some
set_option linter.unusedVariables false

theorem RB.box {B : Nat} {cs : Array Value} {X : World} (h : RB B cs X) : Box B cs X := fun i x hx => by
  simp only [World.cell?, show X.heap[B]? = _ from h]; exact hx
theorem RB.frozen {B : Nat} {cs : Array Value} {X : World} (h : RB B cs X) (i : Nat) : X.frozen? ⟨B, i, none⟩ = false := by
  simp [World.frozen?, show X.heap[B]? = _ from h]
theorem RB.on {B : Nat} {cs : Array Value} {X Y : World} (h : RB B cs X) (hk : Below X.heap.size X Y) : RB B cs Y := (hk.block B (Array.getElem?_eq_some_iff.1 h).1).trans h
theorem RB.lt {B : Nat} {cs : Array Value} {X : World} (h : RB B cs X) : B < X.heap.size := (Array.getElem?_eq_some_iff.1 h).1
theorem RB.new (w : World) (cs : Array Value) : RB w.heap.size cs (w.alloc (.cells cs 35)) := World.alloc_heap_new w _
theorem RB.set {B : Nat} {cs : Array Value} {X : World} (h : RB B cs X) (i : Nat) (v : Value) : RB B (cs.setIfInBounds i v) (X.setCell ⟨B, i, none⟩ v) := by
  obtain ⟨hlt, hk⟩ := Array.getElem?_eq_some_iff.1 h
  show (X.heap.modify B _)[B]? = _
  rw [Array.getElem?_eq_getElem (by rw [Array.size_modify]; exact hlt), Array.getElem_modify_self, hk]
  rfl
theorem RB.put {B : Nat} {X : World} {a0 a1 : Value} (h : RB B #[a0, a1] X) (v0 v1 : Value) :
    ∃ Y, (X.setCell ⟨B, 0, none⟩ v0).setCell ⟨B, 1, none⟩ v1 = Y ∧ RB B #[v0, v1] Y ∧ (∀ S : Nat → Prop, ¬ S B → Keep S X Y) ∧ ∀ M, M ≤ B → Below M X Y := by
  have h8 := (h.set 0 v0).set 1 v1
  simp only [List.setIfInBounds_toArray, List.set_cons_zero, List.set_cons_succ] at h8
  refine ⟨_, rfl, h8, fun S hS => ?_, fun M hM => ?_⟩
  · exact (Keep.setCell _ _ _ hS).trans (Keep.setCell _ _ _ hS)
  · exact ((Below.refl M X).setCell (p := ⟨B, 0, none⟩) hM v0).setCell (p := ⟨B, 1, none⟩) hM v1
theorem size_ref : (Tryz.prog.info? 35).map (·.size) = some 2 := by kernel_rfl
theorem ret_ref {fn : Func} {p : Tmp} (h : fn.results = #[.cell p 35]) (tmps : Array Value) (w : World) (B : Nat) (cs : Array Value) (hp : tmps.getD p undef = .pointer (some ⟨B, 0, none⟩)) (hU : RB B cs w) (hs : cs.size = 2) :
    (results fn tmps).run Tryz.prog w = .ok (.agg cs) w :=
  results_cell_row h tmps w B _ cs (0, 0) _ hp hU Tryz.underlying35 rfl (by rw [size_ref, hs])
theorem ret_ref2 {fn : Func} {p u : Tmp} (h : fn.results = #[.cell p 35, .tmp u]) (tmps : Array Value) (w : World) (B : Nat) (cs : Array Value) (hp : tmps.getD p undef = .pointer (some ⟨B, 0, none⟩)) (hU : RB B cs w) (hs : cs.size = 2) :
    (results fn tmps).run Tryz.prog w = .ok (.tuple #[.agg cs, tmps.getD u undef]) w := by
  rw [results_cell_tmp h, hp]
  simp [asAddr, Result.andThen, run_loadVar_row w B 35 _ cs (0, 0) _ hU Tryz.underlying35 rfl (by rw [size_ref, hs])]
theorem slIn_ne_rb {w : World} {q : Option Addr} {n : Nat} {xs : List (List UInt8)} {B : Nat} {s0 s1 : Value} (h : SlIn encStr w q n xs) (hB : RB B #[s0, s1] w) (h0 : ∀ x, encStr x ≠ s0) (h1 : ∀ x, encStr x ≠ s1) : ∀ a, q = some a → 0 < n → a.block ≠ B := by
  rintro a rfl hn rfl
  obtain ⟨b, o, he, _, hc⟩ := h.at hn
  cases he
  cases xs with
  | nil => have := h.1; simp at this; omega
  | cons x xs =>
    have k1 := hc 0 x rfl
    have k2 : w.heap[b]? = some (.cells #[s0, s1] 35 (0, 0)) := hB
    simp only [World.cell?, k2] at k1
    rcases (show o = 0 ∨ o = 1 ∨ 2 ≤ o by omega) with ho | ho | ho
    · subst ho; simp at k1; exact h0 x k1.symm
    · subst ho; simp at k1; exact h1 x k1.symm
    · simp at k1; rw [List.getElem?_eq_none (by simp; omega)] at k1; cases k1
theorem RefIn.lt {w : World} {q : Option Addr} {n : Nat} {f : List (List (List UInt8))} (h : RefIn w q n f) : ∀ a, q = some a → 0 < n → a.block < w.heap.size := by
  obtain ⟨zs, h1, _⟩ := h
  exact h1.lt
theorem RefIn.off {w Y : World} {q : Option Addr} {n : Nat} {f : List (List (List UInt8))} {B : Nat} {q1 q2 : Option Addr} {n1 c1 n2 c2 : Nat} (h : RefIn w q n f) (hB : RB B #[.slice q1 n1 c1, .slice q2 n2 c2] w)
    (hq : ∀ a, q = some a → 0 < n → a.block ≠ B) (hk : Keep (fun b => b ≠ B) w Y) : RefIn Y q n f := by
  obtain ⟨zs, s, z, rfl⟩ := h
  exact ⟨zs, s.keep hk hq, fun x hx => ⟨(z x hx).1.from hk fun a ha h0 => by
    obtain ⟨_, _, _, he, _, _, hs, _⟩ := (z x hx).1.set
    cases he
    exact slIn_ne_rb hs hB (fun x h => by cases h) (fun x h => by cases h) a ha h0, (z x hx).2⟩, rfl⟩
theorem refIn_nil (w : World) (q : Option Addr) : RefIn w q 0 [] := ⟨[], SlIn.nil _ _ _, fun z hz => (by cases hz), rfl⟩

/-- The value v is the document's label l, in w. -/
def LabRef (w : World) (v : Value) (l : Lab) : Prop := ∃ q1 n1 c1 q2 n2 c2, v = .agg #[.slice q1 n1 c1, .slice q2 n2 c2] ∧ RefIn w q1 n1 l.s ∧ RefIn w q2 n2 l.i ∧ (q1 = none → c1 = 0) ∧ (q2 = none → c2 = 0)
theorem LabRef.below {w w' : World} {v : Value} {l : Lab} (h : LabRef w v l) (hb : Below w.heap.size w w') : LabRef w' v l := by
  obtain ⟨q1, n1, c1, q2, n2, c2, rfl, h1, h2, h3⟩ := h
  exact ⟨q1, n1, c1, q2, n2, c2, rfl, h1.below hb, h2.below hb, h3⟩
/-- A box that holds a label of the document's. -/
def RX (b : Nat) (q1 : Option Addr) (n1 c1 : Nat) (q2 : Option Addr) (n2 c2 : Nat) (l : Lab) (X : World) : Prop := RB b #[.slice q1 n1 c1, .slice q2 n2 c2] X ∧ LabRef X (.agg #[.slice q1 n1 c1, .slice q2 n2 c2]) l
theorem RX.on {b : Nat} {q1 : Option Addr} {n1 c1 : Nat} {q2 : Option Addr} {n2 c2 : Nat} {l : Lab} {X Y : World} (h : RX b q1 n1 c1 q2 n2 c2 l X) (hb : Below X.heap.size X Y) : RX b q1 n1 c1 q2 n2 c2 l Y := ⟨h.1.on hb, h.2.below hb⟩
theorem RX.new {q1 : Option Addr} {n1 c1 : Nat} {q2 : Option Addr} {n2 c2 : Nat} {l : Lab} {X : World} (h : LabRef X (.agg #[.slice q1 n1 c1, .slice q2 n2 c2]) l) : RX X.heap.size q1 n1 c1 q2 n2 c2 l (X.alloc (.cells #[.slice q1 n1 c1, .slice q2 n2 c2] 35)) := ⟨RB.new X _, h.below (below_alloc _)⟩
theorem RX.c0 {b : Nat} {q1 : Option Addr} {n1 c1 : Nat} {q2 : Option Addr} {n2 c2 : Nat} {l : Lab} {X : World} (h : RX b q1 n1 c1 q2 n2 c2 l X) : X.cell? ⟨b, 0, none⟩ = some (.slice q1 n1 c1) := h.1.box 0 _ rfl
theorem RX.c1 {b : Nat} {q1 : Option Addr} {n1 c1 : Nat} {q2 : Option Addr} {n2 c2 : Nat} {l : Lab} {X : World} (h : RX b q1 n1 c1 q2 n2 c2 l X) : X.cell? ⟨b, 1, none⟩ = some (.slice q2 n2 c2) := h.1.box 1 _ rfl
theorem RX.parts {b : Nat} {q1 : Option Addr} {n1 c1 : Nat} {q2 : Option Addr} {n2 c2 : Nat} {l : Lab} {X : World} (h : RX b q1 n1 c1 q2 n2 c2 l X) : RefIn X q1 n1 l.s ∧ RefIn X q2 n2 l.i := by
  obtain ⟨_, _, _, _, _, _, he, h1, h2, _⟩ := h.2
  cases he
  exact ⟨h1, h2⟩

set_option maxRecDepth 100000 in
set_option maxHeartbeats 16000000 in
theorem lawRef_any (v : Value) (l : Lab) (w : World) (h : LabIs w v l) (fl : Few l) :
    Calls Tryz.prog 12 #[v] w fun e w' => ∃ q1 n1 c1 q2 n2 c2, e = .returned (.agg #[.slice q1 n1 c1, .slice q2 n2 c2]) ∧ LabRef w' (.agg #[.slice q1 n1 c1, .slice q2 n2 c2]) l ∧ (∀ a, q1 = some a → w.heap.size ≤ a.block) ∧ (∀ a, q2 = some a → w.heap.size ≤ a.block) ∧ Below w.heap.size w w' := by
  obtain ⟨q1, n1, c1, q2, n2, c2, rfl, s1, i1⟩ := h
  obtain ⟨W, hW⟩ : ∃ W, (w.alloc (.cells #[.slice q1 n1 c1, .slice q2 n2 c2] 29)).alloc (.cells #[.slice none 0 0, .slice none 0 0] 35) = W := ⟨_, rfl⟩
  have A1 : Below w.heap.size w W := hW ▸ ((Below.refl _ w).alloc (Nat.le_refl _) _).alloc (by simp) _
  have b0 : LB w.heap.size #[.slice q1 n1 c1, .slice q2 n2 c2] W := hW ▸ (LB.new w _).on (below_alloc _)
  have b1 : RB (w.heap.size + 1) #[.slice none 0 0, .slice none 0 0] W := by
    have := RB.new (w.alloc (.cells #[.slice q1 n1 c1, .slice q2 n2 c2] 29)) #[.slice none 0 0, .slice none 0 0]
    rw [World.size_alloc] at this
    exact hW ▸ this
  obtain ⟨W2, hW2⟩ : ∃ Z, W.drew = Z := ⟨_, rfl⟩
  have hd : Below W.heap.size W W2 := hW2 ▸ ⟨rfl, rfl, rfl, Nat.le_refl _, fun _ _ => rfl⟩
  have A2 := A1.trans (hd.mono A1.size)
  have b2 := b0.on hd
  have r2 := b1.on hd
  have HSZ := Lib.hid (show w.heap.size + 2 ≤ W2.heap.size from r2.lt)
  have con := Frm.Ref_new _ l.s W2 (s1.below A2) (by have := fl.1; omega)
  have HC := Lib.hid (fun X (hb : Below w.heap.size w X) => Frm.Ref_new _ l.i X (i1.below hb) (by have := fl.2; omega))
  have HW := Lib.hid hW
  have HW2 := Lib.hid hW2
  have x0 := b2.box 0 _ rfl
  have x1 := b2.box 1 _ rfl
  clear hW s1 i1 fl hW2 hd A1 b0 b1
  go_enter Tryz.func12, Tryz.ntmps12
  go_wp2_with fail
  rw [HW.out]
  refine pregion_any (fun X => X.cell? ⟨w.heap.size, 0, none⟩ = some (.slice q1 n1 c1) ∧ X.cell? ⟨w.heap.size, 1, none⟩ = some (.slice q2 n2 c2)) (by kernel_rfl) ?_
  rw [HW2.out]
  refine wpAnyH_take (i := 0) (v := (.pointer (some ⟨w.heap.size, 0, none⟩))) rfl (by kernel_rfl) (by kernel_rfl) (by kernel_rfl) (fun _ _ _ h => h) (.inl ⟨by kernel_rfl, ?_⟩) ⟨x0, x1⟩ ?_
  · rintro w ⟨h1, h2⟩; go_simp <;> omega
  refine plist #[true, false, false, false, false, false, false, false] (by kernel_rfl) ?_
  refine wpAnyH_take (i := 1) (v := (.agg #[.slice q1 n1 c1])) rfl (by kernel_rfl) (by kernel_rfl) (by kernel_rfl) (fun _ _ _ h => h) (.inl ⟨by kernel_rfl, ?_⟩) ⟨x0, x1⟩ ?_
  · rintro w ⟨h1, h2⟩; go_simp <;> omega
  refine plist #[true, true, false, false, false, false, false, false] (by kernel_rfl) ?_
  refine wpAnyH_take (i := 3) (v := (.pointer (some ⟨w.heap.size, 1, none⟩))) rfl (by kernel_rfl) (by kernel_rfl) (by kernel_rfl) (fun _ _ _ h => h) (.inl ⟨by kernel_rfl, ?_⟩) ⟨x0, x1⟩ ?_
  · rintro w ⟨h1, h2⟩; go_simp <;> omega
  refine plist #[true, true, false, true, false, false, false, false] (by kernel_rfl) ?_
  refine wpAnyH_take (i := 4) (v := (.agg #[.slice q2 n2 c2])) rfl (by kernel_rfl) (by kernel_rfl) (by kernel_rfl) (fun _ _ _ h => h) (.inl ⟨by kernel_rfl, ?_⟩) ⟨x0, x1⟩ ?_
  · rintro w ⟨h1, h2⟩; go_simp <;> omega
  refine plist #[true, true, false, true, true, false, false, false] (by kernel_rfl) ?_
  refine pone 2 (by kernel_rfl) rfl fun K hK => ?_
  go_simp
  refine con.mono ?_
  rintro e w3 ⟨q7, n7, c7, rfl, R7, k7, z7, hb⟩
  have A3 := A2.trans (hb.mono A2.size)
  have b3 := b2.on hb
  have r3 := r2.on hb
  replace x0 := b3.box 0 _ rfl
  replace x1 := b3.box 1 _ rfl
  have HSZ3 := Lib.hid hb.size
  clear con hb b2 r2
  refine hK _ _ ⟨x0, x1⟩ ?_
  clear hK K
  refine plist #[true, true, true, true, true, false, false, false] (by kernel_rfl) ?_
  have con := HC.out w3 A3
  refine pone 5 (by kernel_rfl) rfl fun K hK => ?_
  go_simp
  refine con.mono ?_
  rintro e w4 ⟨q8, n8, c8, rfl, R8, k8, z8, hb⟩
  have A4 := A3.trans (hb.mono A3.size)
  have b4 := b3.on hb
  have r4 := r3.on hb
  replace R7 := R7.below hb
  replace x0 := b4.box 0 _ rfl
  replace x1 := b4.box 1 _ rfl
  have K7 := Lib.hid (show ∀ a, q7 = some a → w.heap.size + 2 ≤ a.block from fun a h => by have := k7 a h; have := HSZ.out; omega)
  have K8 := Lib.hid (show ∀ a, q8 = some a → w.heap.size + 2 ≤ a.block from fun a h => by have := k8 a h; have := HSZ.out; have := HSZ3.out; omega)
  clear con hb b3 r3 k7 k8
  refine hK _ _ ⟨x0, x1⟩ ?_
  clear hK K
  refine plist #[true, true, true, true, true, true, false, false] (by kernel_rfl) ?_
  refine pone 6 (by kernel_rfl) rfl fun K hK => ?_
  go_simp
  refine hK _ _ ⟨x0, x1⟩ ?_
  clear hK K
  refine plist #[true, true, true, true, true, true, true, false] (by kernel_rfl) ?_
  have kf0 := r4.frozen 0
  have kf1 := r4.frozen 1
  have y0 := r4.box 0 _ rfl
  have y1 := r4.box 1 _ rfl
  obtain ⟨Y, hY, rY, hkY, hBY⟩ := r4.put (.slice q7 n7 c7) (.slice q8 n8 c8)
  have A5 := A4.trans (hBY _ (by omega))
  have g7 := RefIn.off R7 r4 (fun a h h0 => by have := K7.out a h; omega) (hkY _ (by simp))
  have g8 := RefIn.off R8 r4 (fun a h h0 => by have := K8.out a h; omega) (hkY _ (by simp))
  have b5 : LB w.heap.size #[.slice q1 n1 c1, .slice q2 n2 c2] Y := ((hBY (w.heap.size + 1) (Nat.le_refl _)).block _ (by omega)).trans b4
  have HY := Lib.hid hY
  clear hY R7 R8
  refine pone 7 (by kernel_rfl) rfl fun K hK => ?_
  go_simp
  rw [HY.out]
  refine hK _ _ ⟨b5.box 0 _ rfl, b5.box 1 _ rfl⟩ ?_
  clear hK K
  refine pdone (by kernel_rfl) ?_ _
  go_wp2
  refine bodyPost_ret (ret_ref rfl _ _ (w.heap.size + 1) _ rfl rY rfl) rfl ?_
  exact ⟨q7, n7, c7, q8, n8, c8, rfl, ⟨_, _, _, _, _, _, rfl, g7, g8, z7, z8⟩, (fun a h => by have := K7.out a h; omega), (fun a h => by have := K8.out a h; omega), A5⟩

end Go.Proofs.YtpabhppghljipaaGreatDoor.Lbl

namespace Go.Proofs.YtpabhppghljipaaGreatDoor.Lbl
open Go.RowKit Go.Shelf Go.Sort Url Org Cls Frm
set_option linter.unusedVariables false

/-- Two, or three, operations may come up. -/
theorem ptwoQ {P : Program} {ops : Array Oper} {Q : Exit → Act → World → Prop} {md : Region.Mode} {S : World → Prop} (i j : Nat) {fuel : Nat} {listed : Array Bool} {a : Act} {w : World} {o p : Oper} (hr : Region.ready md ops listed = [i, j]) (ho : ops[i]? = some o) (hp : ops[j]? = some p)
    (h1 : ∀ K : Act → World → Prop, (∀ a' w', S w' → wpAnyH P md ops Q S fuel (listed.setIfInBounds i true) a' w' → K a' w') → if Region.wanted o (yielded ops a.tmps) = true then Oper.wp P o a w K Q else K (a.put o.dst undef) w)
    (h2 : ∀ K : Act → World → Prop, (∀ a' w', S w' → wpAnyH P md ops Q S fuel (listed.setIfInBounds j true) a' w' → K a' w') → if Region.wanted p (yielded ops a.tmps) = true then Oper.wp P p a w K Q else K (a.put p.dst undef) w) :
    wpAnyH P md ops Q S (fuel + 1) listed a w :=
  wpAnyH_all hr (by simp) (AllReadyH.cons ho (fun K hK => h1 K fun a' w' hs ha => hK.out a' w' hs fun _ => ha) (AllReadyH.cons hp (fun K hK => h2 K fun a' w' hs ha => hK.out a' w' hs fun _ => ha) AllReadyH.nil))
theorem pthreeQ {P : Program} {ops : Array Oper} {Q : Exit → Act → World → Prop} {md : Region.Mode} {S : World → Prop} (i j k : Nat) {fuel : Nat} {listed : Array Bool} {a : Act} {w : World} {o p q : Oper} (hr : Region.ready md ops listed = [i, j, k]) (ho : ops[i]? = some o) (hp : ops[j]? = some p) (hq : ops[k]? = some q)
    (h1 : ∀ K : Act → World → Prop, (∀ a' w', S w' → wpAnyH P md ops Q S fuel (listed.setIfInBounds i true) a' w' → K a' w') → if Region.wanted o (yielded ops a.tmps) = true then Oper.wp P o a w K Q else K (a.put o.dst undef) w)
    (h2 : ∀ K : Act → World → Prop, (∀ a' w', S w' → wpAnyH P md ops Q S fuel (listed.setIfInBounds j true) a' w' → K a' w') → if Region.wanted p (yielded ops a.tmps) = true then Oper.wp P p a w K Q else K (a.put p.dst undef) w)
    (h3 : ∀ K : Act → World → Prop, (∀ a' w', S w' → wpAnyH P md ops Q S fuel (listed.setIfInBounds k true) a' w' → K a' w') → if Region.wanted q (yielded ops a.tmps) = true then Oper.wp P q a w K Q else K (a.put q.dst undef) w) :
    wpAnyH P md ops Q S (fuel + 1) listed a w :=
  wpAnyH_all hr (by simp) (AllReadyH.cons ho (fun K hK => h1 K fun a' w' hs ha => hK.out a' w' hs fun _ => ha) (AllReadyH.cons hp (fun K hK => h2 K fun a' w' hs ha => hK.out a' w' hs fun _ => ha) (AllReadyH.cons hq (fun K hK => h3 K fun a' w' hs ha => hK.out a' w' hs fun _ => ha) AllReadyH.nil)))

theorem LabRef.parts {w : World} {q1 : Option Addr} {n1 c1 : Nat} {q2 : Option Addr} {n2 c2 : Nat} {l : Lab} (h : LabRef w (.agg #[.slice q1 n1 c1, .slice q2 n2 c2]) l) : RefIn w q1 n1 l.s ∧ RefIn w q2 n2 l.i ∧ (q1 = none → c1 = 0) ∧ (q2 = none → c2 = 0) := by
  obtain ⟨_, _, _, _, _, _, he, h⟩ := h
  cases he
  exact h
theorem LabRef.off {w Y : World} {q1 : Option Addr} {n1 c1 : Nat} {q2 : Option Addr} {n2 c2 : Nat} {l : Lab} {B : Nat} {p1 p2 : Option Addr} {k1 d1 k2 d2 : Nat} (h : LabRef w (.agg #[.slice q1 n1 c1, .slice q2 n2 c2]) l) (hB : RB B #[.slice p1 k1 d1, .slice p2 k2 d2] w)
    (hn : (∀ a, q1 = some a → 0 < n1 → a.block ≠ B) ∧ ∀ a, q2 = some a → 0 < n2 → a.block ≠ B) (hk : Keep (fun b => b ≠ B) w Y) : LabRef Y (.agg #[.slice q1 n1 c1, .slice q2 n2 c2]) l := by
  obtain ⟨h1, h2, h3⟩ := h.parts
  exact ⟨_, _, _, _, _, _, rfl, RefIn.off h1 hB hn.1 hk, RefIn.off h2 hB hn.2 hk, h3⟩
theorem LabRef.ne {w : World} {q1 : Option Addr} {n1 c1 : Nat} {q2 : Option Addr} {n2 c2 : Nat} {l : Lab} (h : LabRef w (.agg #[.slice q1 n1 c1, .slice q2 n2 c2]) l) : (∀ a, q1 = some a → 0 < n1 → a.block ≠ w.heap.size) ∧ ∀ a, q2 = some a → 0 < n2 → a.block ≠ w.heap.size := by
  obtain ⟨h1, h2, _⟩ := h.parts
  exact ⟨fun a ha h0 => by have := RefIn.lt h1 a ha h0; omega, fun a ha h0 => by have := RefIn.lt h2 a ha h0; omega⟩
theorem RB.away {B B' : Nat} {cs : Array Value} {X Y : World} (h : RB B cs X) (hk : Keep (fun b => b ≠ B') X Y) (hne : B ≠ B') : RB B cs Y := (hk.block B h.lt hne).trans h
/-- A slot holds a pointer to a box with the document's label l. -/
def HeldR (s : Value) (l : Lab) (X : World) : Prop := ∃ b q1 n1 c1 q2 n2 c2, s = .pointer (some ⟨b, 0, none⟩) ∧ RX b q1 n1 c1 q2 n2 c2 l X
theorem pow8 (n : Nat) (h : n ≤ 8) : 2 ^ n ≤ 256 := Nat.pow_le_pow_right (by decide) h
theorem pow_wrap (n : Nat) (h : n ≤ 8) : wrap64 ((2 : Int) ^ n) = ((2 ^ n : Nat) : Int) := by
  have h1 : (2 : Int) ^ n = ((2 ^ n : Nat) : Int) := by push_cast; rfl
  have h2 := pow8 n h
  rw [h1]
  generalize 2 ^ n = m at h2
  unfold wrap64; omega
end Go.Proofs.YtpabhppghljipaaGreatDoor.Lbl

namespace Go.Proofs.YtpabhppghljipaaGreatDoor.Lbl
open Go.RowKit Go.Shelf Go.Sort Url Org Cls Frm
attribute [local go_sem] Oper.semAt_some
set_option linter.unusedVariables false

/-- A formula of the document's and no error, or none and one. -/
def RefOut (r : Sum Int (List (List (List UInt8)))) (w : World) (e : Ending) (w' : World) : Prop :=
  ∃ q n c, e = .returned (.tuple #[.slice q n c, .int .i64 (frmE r)]) ∧ RefIn w' q n (frmV r) ∧ (∀ a, q = some a → w.heap.size ≤ a.block) ∧ (q = none → c = 0) ∧ Below w.heap.size w w'
/-- What a row of rows of texts is asked to be. -/
structure RowOk (w : World) (q : Option Addr) (n c : Nat) (zs : List Cl) : Prop where
  row : SlIn encC w q n zs
  each : ∀ z ∈ zs, ClAt w z ∧ (z.1.1 = none → z.1.2.2 = 0)
  nil : q = none → c = 0
theorem RowOk.below {w w' : World} {q : Option Addr} {n c : Nat} {zs : List Cl} (h : RowOk w q n c zs) (hb : Below w.heap.size w w') : RowOk w' q n c zs :=
  ⟨h.row.below hb h.row.lt, fun z hz => ⟨(h.each z hz).1.below hb, (h.each z hz).2⟩, h.nil⟩

set_option maxRecDepth 100000 in
set_option maxHeartbeats 8000000 in
theorem refOf_any (q : Option Addr) (n c : Nat) (zs : List Cl) (w : World) (h : SlIn encC w q n zs) (hz : ∀ z ∈ zs, ClAt w z ∧ (z.1.1 = none → z.1.2.2 = 0)) (hn : n ≤ 1000) :
    Calls Tryz.prog 60 #[.slice q n c] w (RefOut (ofF (zs.map Prod.snd)) w) := by
  have con := Reduce_any q n c zs w h hz hn
  have HF := Lib.hid (show ofF (zs.map Prod.snd) = if (redL (zs.map Prod.snd)).length ≤ 16 then .inr (redL (zs.map Prod.snd)) else .inl 3 from rfl)
  obtain ⟨rr, hrr⟩ : ∃ r, ofF (zs.map Prod.snd) = r := ⟨_, rfl⟩
  rw [hrr] at HF ⊢
  generalize redL (zs.map Prod.snd) = r at con HF
  clear h hz hn hrr
  go_enter Tryz.func60, Tryz.ntmps60
  go_wp2_with fail
  refine con.mono ?_
  rintro e w2 ⟨q2, n2, c2, rfl, R, k2, z2, hb⟩
  have hl := R.len
  have HL := Lib.hid hl
  have HK := Lib.hid k2
  have HZ := Lib.hid z2
  clear con hl k2 z2
  by_cases hbig : 16 < n2
  · have d1 : decide ((16 : Int) < (n2 : Int)) = true := by simp; omega
    have d1' : decide (16 < n2) = true := decide_eq_true hbig
    have HR := HF.out.trans (if_neg (by rw [HL.out]; omega))
    subst HR
    clear hbig R HF
    go_wp2
    go_ret2
    exact ⟨none, 0, 0, rfl, refIn_nil _ _, (fun a h => by cases h), (fun _ => rfl), hb⟩
  · have d1 : decide ((16 : Int) < (n2 : Int)) = false := by simp; omega
    have d1' : decide (16 < n2) = false := decide_eq_false hbig
    have HR := HF.out.trans (if_pos (by rw [HL.out]; omega))
    subst HR
    clear hbig HF
    go_wp2
    go_ret2
    exact ⟨q2, n2, c2, rfl, R, HK.out, HZ.out, hb⟩

set_option maxRecDepth 100000 in
set_option maxHeartbeats 8000000 in
theorem refAnd_any (q1 : Option Addr) (n1 c1 : Nat) (zs1 : List Cl) (q2 : Option Addr) (n2 c2 : Nat) (zs2 : List Cl) (w : World) (h1 : RowOk w q1 n1 c1 zs1) (h2 : RowOk w q2 n2 c2 zs2) (l1 : n1 ≤ 16) (l2 : n2 ≤ 16) :
    Calls Tryz.prog 41 #[.slice q1 n1 c1, .slice q2 n2 c2] w (RefOut (andR (zs1.map Prod.snd) (zs2.map Prod.snd)) w) := by
  obtain ⟨i0, hi0, hz0, hz1, hz2⟩ := info_parts info_strs
  have hw5 : Below w.heap.size w (w.alloc (.cells #[] 49)) := below_alloc _
  have hrow5 : (w.alloc (.cells #[] 49)).ownsRow w.heap.size 49 1 (.slice (some ⟨w.heap.size, 0, none⟩) 0 0) 0 [] := World.ownsRow_made w #[] 0 (Nat.le_refl _) (Nat.zero_le _) rfl
  have s1 : SlIn encC (w.alloc (.cells #[] 49)) q1 n1 zs1 := h1.row.alloc _
  have s2 := h2.row
  have z1 := h1.nil
  have z2 := h2.nil
  have H1 := Lib.hid h1
  have H2 := Lib.hid h2
  have HR := Lib.hid (show andR (zs1.map Prod.snd) (zs2.map Prod.snd) = ofF ((zs1 ++ zs2).map Prod.snd) by rw [List.map_append]; rfl)
  rw [HR.out]
  obtain ⟨r, hr⟩ : ∃ r, ofF ((zs1 ++ zs2).map Prod.snd) = r := ⟨_, rfl⟩
  rw [hr]
  have HRR := Lib.hid hr
  clear h1 h2 HR hr
  go_enter Tryz.func41, Tryz.ntmps41
  go_wp2_with (at_builtin; first
    | (refine wpList_append_rowC rfl _ _ 32 49 rfl i0 (.slice none 0 0) 24 Tryz.underlying32 hi0 hz0 hz1 hz2 rfl (by decide) w.heap.size _ 0 [] rfl hrow5 q1 n1 c1 zs1 rfl z1 s1 (by omega) (by simp) ?_; intro v6 w6 hown6 hgrow6)
    | (refine wpList_append_rowC rfl _ _ 32 49 rfl i0 (.slice none 0 0) 24 Tryz.underlying32 hi0 hz0 hz1 hz2 rfl (by decide) w.heap.size _ (0 + n1) _ rfl hown6 q2 n2 c2 zs2 rfl z2 (s2.below (hw5.grown hgrow6 (by simp) (fun b hb => (hrow5.lt b hb).1)) s2.lt) (by omega) (hw5.grown hgrow6 (by simp) (fun b hb => (hrow5.lt b hb).1)).size ?_; intro v7 w7 hown7 hgrow7))
  have hb6 : Below w.heap.size w w6 := hw5.grown hgrow6 (by simp) (fun b hb => (hrow5.lt b hb).1)
  have hb7 : Below w.heap.size w w7 := hb6.grown hgrow7 hb6.size (fun b hb => (hown6.lt b hb).1)
  have hrow : w7.ownsRow w.heap.size 49 1 v7 (0 + n1 + n2) ((zs1 ++ zs2).map encC) := by
    rw [List.map_append]
    have := hown7
    rw [List.nil_append] at this
    exact this
  obtain ⟨q7, c7, rfl, hc7, _, hs7, hq7⟩ := slIn_of_owns hrow
  have con := refOf_any q7 (0 + n1 + n2) c7 (zs1 ++ zs2) w7 hs7 (fun z hz => by
    rcases List.mem_append.1 hz with h | h
    · exact (H1.out.below hb7).each z h
    · exact (H2.out.below hb7).each z h) (by omega)
  rw [HRR.out] at con
  clear hrow hown7 hown6 hgrow6 hgrow7 hrow5 hw5 s1 s2 z1 z2 hs7 hq7
  refine con.mono ?_
  rintro e w8 ⟨q8, n8, c8, rfl, R8, k8, z8, hb⟩
  have HK := Lib.hid (show ∀ a, q8 = some a → w.heap.size ≤ a.block from fun a h => Nat.le_trans hb7.size (k8 a h))
  have HZ := Lib.hid z8
  have hb8 := hb7.trans (hb.mono hb7.size)
  clear con hb k8 z8
  go_wp2
  go_ret2
  exact ⟨q8, n8, c8, rfl, R8, HK.out, HZ.out, hb8⟩

set_option maxRecDepth 100000 in
set_option maxHeartbeats 8000000 in
theorem refImpF_any (q1 : Option Addr) (n1 c1 : Nat) (zs1 : List Cl) (q2 : Option Addr) (n2 c2 : Nat) (zs2 : List Cl) (w : World) (h1 : RowOk w q1 n1 c1 zs1) (h2 : RowOk w q2 n2 c2 zs2) (l1 : n1 ≤ 1000) (l2 : n2 ≤ 1000) :
    Calls Tryz.prog 38 #[.slice q1 n1 c1, .slice q2 n2 c2] w fun e w' => e = .returned (.bool (impB (zs1.map Prod.snd) (zs2.map Prod.snd))) ∧ w = w' := by
  have HE1 := Lib.hid h1.each
  have HE2 := Lib.hid h2.each
  have HS1 := Lib.hid h1.row
  have hL1 := Lib.hid (show (zs1.map Prod.snd).length = n1 by rw [List.length_map]; exact h1.row.1)
  have hL2 := Lib.hid (show (zs2.map Prod.snd).length = n2 by rw [List.length_map]; exact h2.row.1)
  have HS2 := Lib.hid h2.row
  clear h1 h2
  go_enter Tryz.func38, Tryz.ntmps38
  go_wp2
  go_loop [12] (fun i => ∃ k : Nat, k ≤ n2 ∧ i = .int .i64 k ∧ Hid (∀ j c, j < k → (zs2.map Prod.snd)[j]? = some c → saidK (zs1.map Prod.snd) c n1 = true)) (fun i => n2 - (intOf i).toNat)
  case atStart => exact ⟨0, Nat.zero_le _, rfl, Lib.hid (fun j c h => by omega)⟩
  case round =>
    obtain ⟨k, hk, rfl, HJ⟩ := hrel
    by_cases hlt : k < n2
    · obtain ⟨b2, o2, he2, _, hc2⟩ := HS2.out.at (by omega)
      obtain ⟨⟨⟨xq, xn, xc⟩, x⟩, hzk⟩ : ∃ z, zs2[k]? = some z := ⟨_, List.getElem?_eq_getElem (by have := hL2.out; rw [List.length_map] at this; omega)⟩
      have hck : w.cell? ⟨b2, o2 + k, none⟩ = some (.slice xq xn xc) := hc2 k _ hzk
      have hxm := HE2.out _ (List.mem_of_getElem? hzk)
      obtain ⟨_, _, _, hee, _, _, hsx, _⟩ := hxm.1.set
      cases hee
      have hxf : x.length ≤ 16 := hxm.1.few
      have hxl : x.length = xn := hsx.1
      have hxn : xn ≤ 16 := by omega
      have HXK := Lib.hid (show (zs2.map Prod.snd)[k]? = some x by rw [List.getElem?_map, hzk]; rfl)
      have HSX := Lib.hid hsx
      clear hzk hxm hc2 hxf hxl hsx
      subst he2
      go_wp2
      go_loop [7, 18] (fun sd i => ∃ j : Nat, j ≤ n1 ∧ i = .int .i64 j ∧ sd = .bool (saidK (zs1.map Prod.snd) x j)) (fun _ i => n1 - (intOf i).toNat)
      case atStart => exact ⟨0, Nat.zero_le _, rfl, by rw [saidK_zero]⟩
      case round =>
        obtain ⟨j, hj, rfl, rfl⟩ := hrel
        by_cases hjl : j < n1
        · obtain ⟨b1, o1, he1, _, hc1⟩ := HS1.out.at (by omega)
          obtain ⟨⟨⟨yq, yn, yc⟩, y⟩, hzj⟩ : ∃ z, zs1[j]? = some z := ⟨_, List.getElem?_eq_getElem (by have := hL1.out; rw [List.length_map] at this; omega)⟩
          have hcj : w.cell? ⟨b1, o1 + j, none⟩ = some (.slice yq yn yc) := hc1 j _ hzj
          have hym := HE1.out _ (List.mem_of_getElem? hzj)
          obtain ⟨_, _, _, hee, _, _, hsy, _⟩ := hym.1.set
          cases hee
          have hyf : y.length ≤ 16 := hym.1.few
          have hyl : y.length = yn := hsy.1
          have hyn : yn ≤ 16 := by omega
          have con := refImp_any yq yn yc y xq xn xc x w hsy HSX.out (by omega) (by omega)
          have HK1 := Lib.hid (saidK_succ (zs1.map Prod.snd) x y j (by rw [List.getElem?_map, hzj]; rfl))
          generalize subB y x = A at con HK1
          generalize saidK (zs1.map Prod.snd) x j = m at HK1 ⊢
          clear hzj hym hyl hyf hsy hck hc1
          subst he1
          cases m with
          | true =>
            clear con
            go_wp2
            go_round
            case rel => exact ⟨j + 1, by omega, by go_num, by rw [HK1.out]; rfl⟩
            case measure => simp [intOf]; omega
          | false =>
            go_wp2_with fail
            refine con.mono ?_
            rintro e w' ⟨rfl, rfl⟩
            clear con
            cases A with
            | true =>
              go_wp2
              go_round
              case rel => exact ⟨j + 1, by omega, by go_num, by rw [HK1.out]; rfl⟩
              case measure => simp [intOf]; omega
            | false =>
              go_wp2
              go_round
              case rel => exact ⟨j + 1, by omega, by go_num, by rw [HK1.out]; rfl⟩
              case measure => simp [intOf]; omega
        · obtain rfl : j = n1 := by omega
          obtain ⟨m, hm⟩ : ∃ m, saidK (zs1.map Prod.snd) x j = m := ⟨_, rfl⟩
          rewrite [hm]
          have HM := Lib.hid hm
          clear hm hck
          cases m with
          | true =>
            have HJ2 := Lib.hid (show ∀ i c, i < k + 1 → (zs2.map Prod.snd)[i]? = some c → saidK (zs1.map Prod.snd) c j = true from fun i c hi hc => by
              by_cases e : i = k
              · subst e; rw [HXK.out] at hc; cases hc; exact HM.out
              · exact HJ.out i c (by omega) hc)
            clear HJ
            go_wp2
            go_round
            case rel => exact ⟨k + 1, by omega, by go_num, HJ2⟩
            case measure => simp [intOf]; omega
          | false =>
            have HR := Lib.hid (show impB (zs1.map Prod.snd) (zs2.map Prod.snd) = false by
              unfold impB
              rw [List.all_eq_false]
              refine ⟨x, List.mem_of_getElem? HXK.out, ?_⟩
              have h1 := saidK_all (zs1.map Prod.snd) x
              rw [hL1.out, HM.out] at h1
              rw [← h1]; simp)
            clear HJ
            go_wp2
            go_ret
            exact ⟨(by rw [HR.out]; rfl), rfl⟩
    · obtain rfl : k = n2 := by omega
      have HR := Lib.hid (show impB (zs1.map Prod.snd) (zs2.map Prod.snd) = true by
        unfold impB
        rw [List.all_eq_true]
        intro c hc
        obtain ⟨j, hj, rfl⟩ := List.getElem_of_mem hc
        have h1 := HJ.out j _ (by rw [hL2.out] at hj; exact hj) (List.getElem?_eq_getElem hj)
        rw [← hL1.out, saidK_all] at h1
        exact h1)
      clear HJ
      go_wp2
      go_ret
      exact ⟨(by rw [HR.out]; rfl), rfl⟩

end Go.Proofs.YtpabhppghljipaaGreatDoor.Lbl

namespace Go.Proofs.YtpabhppghljipaaGreatDoor.Lbl
open Go.RowKit Go.Shelf Go.Sort Url Org Cls Frm
attribute [local go_sem] Oper.semAt_some
set_option linter.unusedVariables false

theorem strs_of_slIn {w : World} {q : Option Addr} {n : Nat} {xs : List (List UInt8)} (h : SlIn encStr w q n xs) : StrsIn w q n xs := fun h0 => by
  obtain ⟨b, o, rfl, _, hc⟩ := h.at h0
  exact ⟨b, o, rfl, fun i hi => hc i (xs.getD i []) (by rw [List.getElem?_eq_getElem (by rw [h.1]; exact hi)]; simp [List.getD, List.getElem?_eq_getElem (show i < xs.length by rw [h.1]; exact hi)])⟩

set_option maxRecDepth 100000 in
set_option maxHeartbeats 16000000 in
theorem lawSameF_any (v : Value) (q : Option Addr) (n c : Nat) (f : List (List (List UInt8))) (w : World) (h1 : FrmIs w v f) (h2 : RefIn w q n f) (lf : f.length ≤ 16) :
    Calls Tryz.prog 43 #[v, .slice q n c] w fun e w' => e = .returned (.bool true) ∧ Below w.heap.size w w' := by
  obtain ⟨q1, n1, c1, rfl⟩ := frm_form h1
  obtain ⟨W, hW⟩ : ∃ W, w.alloc (.cells #[.slice q1 n1 c1] 26) = W := ⟨_, rfl⟩
  have A1 : Below w.heap.size w W := hW ▸ below_alloc _
  have b0 : Boxed W w.heap.size 26 (.slice q1 n1 c1) := hW ▸ Boxed.new w _ _
  have con := Frm.Ref_new _ f W (h1.below A1) (by omega)
  have H1 := Lib.hid (fun X (hb : Below w.heap.size w X) => Len_any _ f X (h1.below hb))
  have H2 := Lib.hid h2
  have HW := Lib.hid hW
  clear hW h1 h2
  go_enter Tryz.func43, Tryz.ntmps43
  go_wp2_with fail
  rw [HW.out]
  refine con.mono ?_
  rintro e w2 ⟨q3, n3, c3, rfl, r3, _, _, hb⟩
  have A2 := A1.trans (hb.mono A1.size)
  have b2 : Boxed w2 w.heap.size 26 (.slice q1 n1 c1) := (hb.block _ b0.lt).trans b0
  have x0 := b2.cell
  have g3 := H2.out.below A2
  obtain rfl : n3 = n := by rw [← r3.len, ← g3.len]
  have HN := Lib.hid r3.len
  have con := H1.out w2 A2
  have en : f.length = n3 := r3.len
  rw [en] at con lf
  have d1 : ((n3 : Int) != (n3 : Int)) = false := by simp
  have HR := Lib.hid r3
  have HG := Lib.hid g3
  clear en hb A1 b0 H1 H2 HW r3 g3
  go_wp2_with fail
  refine con.mono ?_
  rintro e w3 ⟨rfl, hb⟩
  have A3 := A2.trans (hb.mono A2.size)
  obtain ⟨zs, hz, hze, hfz⟩ := HR.out.below hb
  obtain ⟨ys, hy, hye, hfy⟩ := HG.out.below hb
  have HZ := Lib.hid hz
  have HZE := Lib.hid hze
  have HY := Lib.hid hy
  have HYE := Lib.hid hye
  have HFZ := Lib.hid hfz
  have HFY := Lib.hid hfy
  have hzl := Lib.hid hz.1
  have hyl := Lib.hid hy.1
  clear con hb hz hze hy hye hfz hfy A2 b2 x0 HR HG
  go_wp2
  go_loopw [23] (fun i X => ∃ k : Nat, k ≤ n3 ∧ i = .int .i64 k ∧ Below w3.heap.size w3 X) (fun i _ => n3 - (intOf i).toNat)
  case atStart => exact ⟨0, Nat.zero_le _, rfl, Below.refl _ _⟩
  case round =>
    obtain ⟨k, hk, rfl, hX⟩ := hrel
    by_cases hlt : k < n3
    · obtain ⟨bz, oz, hez, hbz, hcz⟩ := HZ.out.at (by omega)
      obtain ⟨by_, oy, hey, hby, hcy⟩ := HY.out.at (by omega)
      obtain ⟨⟨⟨zq, zn, zc⟩, z⟩, hzk⟩ : ∃ z, zs[k]? = some z := ⟨_, List.getElem?_eq_getElem (by have := hzl.out; omega)⟩
      obtain ⟨⟨⟨yq, yn, yc⟩, y⟩, hyk⟩ : ∃ z, ys[k]? = some z := ⟨_, List.getElem?_eq_getElem (by have := hyl.out; omega)⟩
      have hzm := HZE.out _ (List.mem_of_getElem? hzk)
      have hym := HYE.out _ (List.mem_of_getElem? hyk)
      have hyz : z = y := by
        have a : (zs.map Prod.snd)[k]? = some z := by rw [List.getElem?_map, hzk]; rfl
        have b : (ys.map Prod.snd)[k]? = some y := by rw [List.getElem?_map, hyk]; rfl
        rw [← HFZ.out, HFY.out, b] at a
        injection a with a; exact a.symm
      subst hyz
      obtain ⟨_, _, _, hee, _, _, hsz, _⟩ := hzm.1.set
      cases hee
      obtain ⟨_, _, _, hee, _, _, hsy, _⟩ := hym.1.set
      cases hee
      have hzf : z.length ≤ 16 := hzm.1.few
      have c1 : wr.cell? ⟨bz, oz + k, none⟩ = some (.slice zq zn zc) := (hX.cell hbz).trans (hcz k _ hzk)
      have c2 : wr.cell? ⟨by_, oy + k, none⟩ = some (.slice yq yn yc) := (hX.cell hby).trans (hcy k _ hyk)
      have HC := Lib.hid (fun m => Go.Proofs.YtpabhppghljipaaGreatDoor.Same_any zq yq zn zc yn yc z z (wr.drewN m) hsz.1 hsy.1 (by have := hsz.1; omega) (by have := hsy.1; omega)
        (strs_of_slIn (hsz.below (below_drewN hX m) hsz.lt)) (strs_of_slIn (hsy.below (below_drewN hX m) hsy.lt)))
      have HX := Lib.hid hX
      have HS : sameL z z = true := by unfold sameL; simp
      rw [HS] at HC
      subst hez hey
      clear hX hzm hym hsz hsy hzk hyk hcz hcy HS hzf hbz hby
      go_wp2
      go_quiet ((go_at_call 61; exact Calls.quiet_of (HC.out _)))
      go_wp2
      go_roundw
      case rel => exact ⟨k + 1, by omega, by go_num, below_drewN HX.out _⟩
      case measure => simp [intOf]; omega
    · go_wp2
      go_ret
      exact ⟨rfl, A3.trans (hX.mono A3.size)⟩

set_option maxRecDepth 100000 in
set_option maxHeartbeats 8000000 in
theorem lawSame_any (v1 v2 : Value) (l : Lab) (w : World) (h1 : LabIs w v1 l) (h2 : LabRef w v2 l) (fl : Few l) :
    Calls Tryz.prog 19 #[v1, v2] w fun e w' => e = .returned (.bool true) ∧ Below w.heap.size w w' := by
  obtain ⟨q1, n1, c1, q2, n2, c2, rfl, s1, i1⟩ := h1
  obtain ⟨q3, n3, c3, q4, n4, c4, rfl, s2, i2, _, _⟩ := h2
  obtain ⟨W, hW⟩ : ∃ W, (w.alloc (.cells #[.slice q1 n1 c1, .slice q2 n2 c2] 29)).alloc (.cells #[.slice q3 n3 c3, .slice q4 n4 c4] 35) = W := ⟨_, rfl⟩
  have A1 : Below w.heap.size w W := hW ▸ ((Below.refl _ w).alloc (Nat.le_refl _) _).alloc (by simp) _
  have b0 : LB w.heap.size #[.slice q1 n1 c1, .slice q2 n2 c2] W := hW ▸ (LB.new w _).on (below_alloc _)
  have b1 : RB (w.heap.size + 1) #[.slice q3 n3 c3, .slice q4 n4 c4] W := by
    have := RB.new (w.alloc (.cells #[.slice q1 n1 c1, .slice q2 n2 c2] 29)) #[.slice q3 n3 c3, .slice q4 n4 c4]
    rw [World.size_alloc] at this
    exact hW ▸ this
  have x0 := b0.box 0 _ rfl
  have y0 := b1.box 0 _ rfl
  have con := lawSameF_any _ q3 n3 c3 l.s W (s1.below A1) (s2.below A1) fl.1
  have HC := Lib.hid (fun X (hb : Below w.heap.size w X) => lawSameF_any _ q4 n4 c4 l.i X (i1.below hb) (i2.below hb) fl.2)
  have HW := Lib.hid hW
  clear hW s1 i1 s2 i2 fl
  go_enter Tryz.func19, Tryz.ntmps19
  go_wp2_with fail
  rw [HW.out]
  refine con.mono ?_
  rintro e w2 ⟨rfl, hb⟩
  have A2 := A1.trans (hb.mono A1.size)
  have x1 := (b0.on hb).box 1 _ rfl
  have y1 := (b1.on hb).box 1 _ rfl
  clear x0 y0 b0 b1 hb con HW A1
  have con := HC.out w2 A2
  go_wp2_with fail
  refine con.mono ?_
  rintro e w3 ⟨rfl, hb⟩
  have A3 := A2.trans (hb.mono A2.size)
  clear con hb x1 y1
  go_wp2
  go_ret
  exact ⟨rfl, A3⟩

end Go.Proofs.YtpabhppghljipaaGreatDoor.Lbl

namespace Go.Proofs.YtpabhppghljipaaGreatDoor.Lbl
open Go.RowKit Go.Shelf Go.Sort Url Org Cls Frm
attribute [local go_sem] Oper.semAt_some
set_option linter.unusedVariables false

theorem RB.two (w : World) (cs ds : Array Value) : RB (w.heap.size + 1) ds ((w.alloc (.cells cs 35)).alloc (.cells ds 35)) := by
  have := RB.new (w.alloc (.cells cs 35)) ds
  rw [World.size_alloc] at this
  exact this
/-- A row as it is asked, out of what a label's side is. -/
theorem rowOk_of {w : World} {q : Option Addr} {n c : Nat} {f : List (List (List UInt8))} (h : RefIn w q n f) (hn : q = none → c = 0) : ∃ zs, RowOk w q n c zs ∧ f = zs.map Prod.snd := by
  obtain ⟨zs, h1, h2, h3⟩ := h
  exact ⟨zs, ⟨h1, h2, hn⟩, h3⟩
theorem refAnd_of (q1 : Option Addr) (n1 c1 : Nat) (f : List (List (List UInt8))) (q2 : Option Addr) (n2 c2 : Nat) (g : List (List (List UInt8))) (w : World) (h1 : RefIn w q1 n1 f) (h2 : RefIn w q2 n2 g) (z1 : q1 = none → c1 = 0) (z2 : q2 = none → c2 = 0) (l1 : f.length ≤ 16) (l2 : g.length ≤ 16) :
    Calls Tryz.prog 41 #[.slice q1 n1 c1, .slice q2 n2 c2] w (RefOut (andR f g) w) := by
  rw [h1.len] at l1
  rw [h2.len] at l2
  obtain ⟨zs1, r1, rfl⟩ := rowOk_of h1 z1
  obtain ⟨zs2, r2, rfl⟩ := rowOk_of h2 z2
  exact refAnd_any q1 n1 c1 zs1 q2 n2 c2 zs2 w r1 r2 l1 l2
theorem refImpF_of (q1 : Option Addr) (n1 c1 : Nat) (f : List (List (List UInt8))) (q2 : Option Addr) (n2 c2 : Nat) (g : List (List (List UInt8))) (w : World) (h1 : RefIn w q1 n1 f) (h2 : RefIn w q2 n2 g) (z1 : q1 = none → c1 = 0) (z2 : q2 = none → c2 = 0) (l1 : f.length ≤ 1000) (l2 : g.length ≤ 1000) :
    Calls Tryz.prog 38 #[.slice q1 n1 c1, .slice q2 n2 c2] w fun e w' => e = .returned (.bool (impB f g)) ∧ w = w' := by
  rw [h1.len] at l1
  rw [h2.len] at l2
  obtain ⟨zs1, r1, rfl⟩ := rowOk_of h1 z1
  obtain ⟨zs2, r2, rfl⟩ := rowOk_of h2 z2
  exact refImpF_any q1 n1 c1 zs1 q2 n2 c2 zs2 w r1 r2 l1 l2

set_option maxRecDepth 100000 in
set_option maxHeartbeats 8000000 in
theorem refFlows_any (v1 v2 : Value) (l o : Lab) (w : World) (h1 : LabRef w v1 l) (h2 : LabRef w v2 o) (fl : Few l) (fo : Few o) :
    Calls Tryz.prog 16 #[v1, v2] w fun e w' => e = .returned (.bool (flowsB l o)) ∧ Below w.heap.size w w' := by
  obtain ⟨q1, n1, c1, q2, n2, c2, rfl, s1, i1, y1, y2⟩ := h1
  obtain ⟨q3, n3, c3, q4, n4, c4, rfl, s2, i2, y3, y4⟩ := h2
  obtain ⟨W, hW⟩ : ∃ W, (w.alloc (.cells #[.slice q1 n1 c1, .slice q2 n2 c2] 35)).alloc (.cells #[.slice q3 n3 c3, .slice q4 n4 c4] 35) = W := ⟨_, rfl⟩
  have A1 : Below w.heap.size w W := hW ▸ ((Below.refl _ w).alloc (Nat.le_refl _) _).alloc (by simp) _
  have b0 : RB w.heap.size #[.slice q1 n1 c1, .slice q2 n2 c2] W := hW ▸ (RB.new w _).on (below_alloc _)
  have b1 : RB (w.heap.size + 1) #[.slice q3 n3 c3, .slice q4 n4 c4] W := hW ▸ RB.two w _ _
  have x0 := b0.box 0 _ rfl
  have y0 := b1.box 0 _ rfl
  have x1 := b0.box 1 _ rfl
  have y1' := b1.box 1 _ rfl
  have con := refImpF_of q3 n3 c3 o.s q1 n1 c1 l.s W (s2.below A1) (s1.below A1) y3 y1 (by have := fo.1; omega) (by have := fl.1; omega)
  have HC := Lib.hid (refImpF_of q2 n2 c2 l.i q4 n4 c4 o.i W (i1.below A1) (i2.below A1) y2 y4 (by have := fl.2; omega) (by have := fo.2; omega))
  have HF := Lib.hid (show flowsB l o = (impB o.s l.s && impB l.i o.i) from rfl)
  have HW := Lib.hid hW
  obtain ⟨A, hA⟩ : ∃ A, impB o.s l.s = A := ⟨_, rfl⟩
  rw [hA] at con HF
  clear hW s1 i1 s2 i2 fl fo hA b0 b1 y1 y2 y3 y4
  go_enter Tryz.func16, Tryz.ntmps16
  go_wp2_with fail
  rw [HW.out]
  refine con.mono ?_
  rintro e w2 ⟨rfl, rfl⟩
  clear con HW
  cases A with
  | false =>
    clear HC
    go_wp2
    go_ret
    exact ⟨by rw [HF.out]; rfl, A1⟩
  | true =>
    have con := HC.out
    go_wp2_with fail
    refine con.mono ?_
    rintro e w3 ⟨rfl, rfl⟩
    clear con
    go_wp2
    go_ret
    exact ⟨by rw [HF.out]; rfl, A1⟩

/-- A label of the document's and no error, or none and one; what is told lies in new memory. -/
def RLabOut (r : Sum Int Lab) (w : World) (e : Ending) (w' : World) : Prop :=
  ∃ q1 n1 c1 q2 n2 c2, e = .returned (.tuple #[.agg #[.slice q1 n1 c1, .slice q2 n2 c2], .int .i64 (labE r)]) ∧ LabRef w' (.agg #[.slice q1 n1 c1, .slice q2 n2 c2]) (labV r) ∧ Below w.heap.size w w'
theorem rlabOut_open {w w' : World} (n : Int) (h : Below w.heap.size w w') : RLabOut (.inl n) w (.returned (.tuple #[.agg #[.slice none 0 0, .slice none 0 0], .int .i64 n])) w' :=
  ⟨none, 0, 0, none, 0, 0, rfl, ⟨_, _, _, _, _, _, rfl, refIn_nil _ _, refIn_nil _ _, fun _ => rfl, fun _ => rfl⟩, h⟩

end Go.Proofs.YtpabhppghljipaaGreatDoor.Lbl

namespace Go.Proofs.YtpabhppghljipaaGreatDoor.Prv
open Go.RowKit Go.Shelf Go.Sort Url Org Cls Frm Lbl
attribute [local go_sem] Oper.semAt_some
set_option linter.unusedVariables false

theorem slIn_one (w : World) (z : Cl) (t : TypeId) : SlIn encC (w.alloc (.cells #[encC z] t)) (some ⟨w.heap.size, 0, none⟩) 1 [z] :=
  ⟨rfl, fun _ => ⟨_, _, rfl, by simp, fun i x hx => by
    have h := World.alloc_heap_new w (.cells #[encC z] t)
    cases i with
    | zero => cases hx; unfold World.cell?; rw [h]; rfl
    | succ i => simp at hx⟩⟩
theorem imp_one (g : List (List (List UInt8))) (x : List (List UInt8)) : impB g [x] = oneB g x := by rw [imp_all]; simp

set_option maxRecDepth 100000 in
set_option maxHeartbeats 16000000 in
theorem refLess_any (q1 : Option Addr) (n1 c1 : Nat) (zs1 : List Cl) (q2 : Option Addr) (n2 c2 : Nat) (zs2 : List Cl) (w : World) (h1 : RowOk w q1 n1 c1 zs1) (h2 : RowOk w q2 n2 c2 zs2) (l1 : n1 ≤ 16) (l2 : n2 ≤ 16) :
    Calls Tryz.prog 42 #[.slice q1 n1 c1, .slice q2 n2 c2] w fun e w' => ∃ q n c, e = .returned (.slice q n c) ∧ RefIn w' q n (lessF (zs1.map Prod.snd) (zs2.map Prod.snd)) ∧ (∀ a, q = some a → w.heap.size ≤ a.block) ∧ (q = none → c = 0) ∧ Below w.heap.size w w' := by
  obtain ⟨i0, hi0, hz0, hz1, hz2⟩ := info_parts info_strs
  obtain ⟨W1, hW1⟩ : ∃ W1, w.alloc (.cells #[] 49) = W1 := ⟨_, rfl⟩
  have A1 : Below w.heap.size w W1 := hW1 ▸ below_alloc _
  have hrow0 : W1.ownsRow w.heap.size 49 1 (.slice (some ⟨w.heap.size, 0, none⟩) 0 0) 0 [] := hW1 ▸ World.ownsRow_made w #[] 0 (Nat.le_refl _) (Nat.zero_le _) rfl
  have HW1 := Lib.hid hW1
  have HL1 := Lib.hid h1.row.1
  have HR := Lib.hid (less_of (zs2.map Prod.snd) zs1)
  have H1 := Lib.hid h1
  have H2 := Lib.hid h2
  clear hW1 h1 h2
  go_enter Tryz.func42, Tryz.ntmps42
  go_wp2
  rw [HW1.out]
  go_loopw [5, 11] (fun v i wr => ∃ (k : Nat) (ls : List Cl), k ≤ n1 ∧ i = .int .i64 k ∧ wr.ownsRow w.heap.size 49 1 v ls.length (ls.map encC) ∧ Hid (ls = lessZ (zs2.map Prod.snd) (zs1.take k)) ∧ ls.length ≤ k ∧ Below w.heap.size w wr) (fun _ i _ => n1 - (intOf i).toNat)
  case atStart => exact ⟨0, [], Nat.zero_le _, rfl, hrow0, Lib.hid rfl, Nat.le_refl _, A1⟩
  case round =>
    obtain ⟨k, ls, hk, rfl, hrow, HLS, hlk, hB⟩ := hrel
    have hbs := hB.size
    obtain ⟨q4, c4, rfl, hc4, hm4, hs4', hq4⟩ := slIn_of_owns hrow
    clear hrow0 A1 HW1
    by_cases hlt : k < n1
    · obtain ⟨b, o, he, _, hc⟩ := ((H1.out.below hB).row).at (by omega)
      obtain ⟨⟨⟨xq, xn, xc⟩, x⟩, hzk⟩ : ∃ z, zs1[k]? = some z := ⟨_, List.getElem?_eq_getElem (by have := HL1.out; omega)⟩
      have hck : wr.cell? ⟨b, o + k, none⟩ = some (.slice xq xn xc) := hc k _ hzk
      have hxm := (H1.out.below hB).each _ (List.mem_of_getElem? hzk)
      obtain ⟨W4, hW4⟩ : ∃ W4, wr.alloc (.cells #[.slice xq xn xc] 49) = W4 := ⟨_, rfl⟩
      have hb4 : Below wr.heap.size wr W4 := hW4 ▸ below_alloc _
      have hs4 : W4.heap.size = wr.heap.size + 1 := by rw [← hW4]; simp
      have hone : RowOk W4 (some ⟨wr.heap.size, 0, none⟩) 1 1 [((xq, xn, xc), x)] := ⟨hW4 ▸ slIn_one wr ((xq, xn, xc), x) _, fun z hz => by rw [List.mem_singleton.1 hz]; exact ⟨hxm.1.below hb4, hxm.2⟩, fun h => by cases h⟩
      have con := refImpF_any q2 n2 c2 zs2 (some ⟨wr.heap.size, 0, none⟩) 1 1 [((xq, xn, xc), x)] W4 ((H2.out.below hB).below hb4) hone (by omega) (by omega)
      have hB4 := hB.trans (hb4.mono hbs)
      have hrow4 : W4.ownsRow w.heap.size 49 1 (.slice q4 ls.length c4) ls.length (ls.map encC) := hW4 ▸ hrow.alloc _
      have hck4 : W4.cell? ⟨b, o + k, none⟩ = some (.slice xq xn xc) := by rw [← hW4]; exact (Below.cell (below_alloc _) (by assumption)).trans hck
      rw [show [((xq, xn, xc), x)].map Prod.snd = [x] from rfl, imp_one] at con
      have HT := Lib.hid (show lessZ (zs2.map Prod.snd) (zs1.take (k + 1)) = ls ++ (if oneB (zs2.map Prod.snd) x = true then [] else [((xq, xn, xc), x)]) by
        rw [take_snoc zs1 k _ hzk, lessZ_snoc, HLS.out])
      have HW4 := Lib.hid hW4
      clear hc hzk hxm hone hW4 hrow HLS hs4' hq4 hs4
      obtain ⟨ob, hob⟩ : ∃ ob, oneB (zs2.map Prod.snd) x = ob := ⟨_, rfl⟩
      rw [hob] at con HT
      clear hob
      subst he
      go_wp2_with fail
      rw [HW4.out]
      refine con.mono ?_
      rintro e w5 ⟨rfl, rfl⟩
      clear con HW4
      cases ob with
      | true =>
        have HT2 := Lib.hid (show ls = lessZ (zs2.map Prod.snd) (zs1.take (k + 1)) by rw [HT.out, if_pos rfl, List.append_nil])
        go_wp2
        go_roundw
        case rel => exact ⟨k + 1, ls, by omega, by go_num, hrow4, HT2, by omega, hB4⟩
        case measure => simp [intOf]; omega
      | false =>
        have HT2 := Lib.hid (show ls ++ [((xq, xn, xc), x)] = lessZ (zs2.map Prod.snd) (zs1.take (k + 1)) by rw [HT.out, if_neg (by decide)])
        have hsz4 := hB4.size
        go_wp2_with (at_builtin; go_must (refine wpList_append_own_at _ rfl _ _ 32 rfl w.heap.size 49 i0 (.slice none 0 0) 1 24 Tryz.underlying32 hi0 hz0 hz1 hz2 rfl (by decide) _ _ _ rfl (hrow4.alloc _) ⟨W4.heap.size, 0, none⟩ 1 1 [.slice xq xn xc] rfl rfl (cell_one_new _ _ _) (by simp [Value.oneCell']) (by unfold maxLen; omega) (by omega) (by simp; omega) ?_); intro v7 w7 hown7 hgrow7 _ _)
        have hb7 : Below w.heap.size W4 w7 := ((Below.refl _ W4).alloc hsz4 _).grown hgrow7 (by simp; omega) (fun b hb => (hrow4.lt b hb).1)
        have hfin : w7.ownsRow w.heap.size 49 1 v7 (ls ++ [((xq, xn, xc), x)]).length ((ls ++ [((xq, xn, xc), x)]).map encC) := by
          rw [List.length_append, List.map_append]; exact hown7
        go_roundw
        case rel => exact ⟨k + 1, _, by omega, by go_num, hfin, HT2, by simp; omega, hB4.trans hb7⟩
        case measure => simp [intOf]; omega
    · obtain rfl : k = n1 := by omega
      have hn4 : q4 = none → c4 = 0 := fun h => by subst h; exact (Cls.row_nil hrow).2
      have HA := Lib.hid (show RefIn wr q4 ls.length (lessF (zs1.map Prod.snd) (zs2.map Prod.snd)) from ⟨ls, hs4', fun z hz => (H1.out.below hB).each z (by
        rw [HLS.out] at hz
        exact List.mem_of_mem_take (List.mem_filter.1 hz).1), by
        rw [HR.out, HLS.out, List.take_of_length_le (by have := HL1.out; omega)]⟩)
      clear hrow HLS hs4'
      go_wp2
      go_ret
      exact ⟨q4, ls.length, c4, rfl, HA.out, (fun a ha => (hq4 a ha).1), hn4, hB⟩

set_option maxRecDepth 100000 in
set_option maxHeartbeats 8000000 in
theorem refTog_any (q1 : Option Addr) (n1 c1 : Nat) (zs1 : List Cl) (q2 : Option Addr) (n2 c2 : Nat) (zs2 : List Cl) (q3 : Option Addr) (n3 c3 : Nat) (zs3 : List Cl) (w : World) (h1 : RowOk w q1 n1 c1 zs1) (h2 : RowOk w q2 n2 c2 zs2) (h3 : RowOk w q3 n3 c3 zs3) (l1 : n1 ≤ 16) (l2 : n2 ≤ 16) (l3 : n3 ≤ 16) :
    Calls Tryz.prog 36 #[.slice q1 n1 c1, .slice q2 n2 c2, .slice q3 n3 c3] w fun e w' => e = .returned (.bool (impB (zs1.map Prod.snd ++ zs2.map Prod.snd) (zs3.map Prod.snd))) ∧ Below w.heap.size w w' := by
  obtain ⟨i0, hi0, hz0, hz1, hz2⟩ := info_parts info_strs
  have hw5 : Below w.heap.size w (w.alloc (.cells #[] 49)) := below_alloc _
  have hrow5 : (w.alloc (.cells #[] 49)).ownsRow w.heap.size 49 1 (.slice (some ⟨w.heap.size, 0, none⟩) 0 0) 0 [] := World.ownsRow_made w #[] 0 (Nat.le_refl _) (Nat.zero_le _) rfl
  have s1 : SlIn encC (w.alloc (.cells #[] 49)) q1 n1 zs1 := h1.row.alloc _
  have s2 := h2.row
  have z1 := h1.nil
  have z2 := h2.nil
  have H1 := Lib.hid h1
  have H2 := Lib.hid h2
  have H3 := Lib.hid h3
  rw [← List.map_append]
  obtain ⟨r, hr⟩ : ∃ r, impB ((zs1 ++ zs2).map Prod.snd) (zs3.map Prod.snd) = r := ⟨_, rfl⟩
  rw [hr]
  have HRR := Lib.hid hr
  clear h1 h2 h3 hr
  go_enter Tryz.func36, Tryz.ntmps36
  go_wp2_with (at_builtin; first
    | (refine wpList_append_rowC rfl _ _ 32 49 rfl i0 (.slice none 0 0) 24 Tryz.underlying32 hi0 hz0 hz1 hz2 rfl (by decide) w.heap.size _ 0 [] rfl hrow5 q1 n1 c1 zs1 rfl z1 s1 (by omega) (by simp) ?_; intro v6 w6 hown6 hgrow6)
    | (refine wpList_append_rowC rfl _ _ 32 49 rfl i0 (.slice none 0 0) 24 Tryz.underlying32 hi0 hz0 hz1 hz2 rfl (by decide) w.heap.size _ (0 + n1) _ rfl hown6 q2 n2 c2 zs2 rfl z2 (s2.below (hw5.grown hgrow6 (by simp) (fun b hb => (hrow5.lt b hb).1)) s2.lt) (by omega) (hw5.grown hgrow6 (by simp) (fun b hb => (hrow5.lt b hb).1)).size ?_; intro v7 w7 hown7 hgrow7))
  have hb6 : Below w.heap.size w w6 := hw5.grown hgrow6 (by simp) (fun b hb => (hrow5.lt b hb).1)
  have hb7 : Below w.heap.size w w7 := hb6.grown hgrow7 hb6.size (fun b hb => (hown6.lt b hb).1)
  have hrow : w7.ownsRow w.heap.size 49 1 v7 (0 + n1 + n2) ((zs1 ++ zs2).map encC) := by
    rw [List.map_append]
    have := hown7
    rw [List.nil_append] at this
    exact this
  obtain ⟨q7, c7, rfl, hc7, _, hs7, hq7⟩ := slIn_of_owns hrow
  have con := refImpF_any q7 (0 + n1 + n2) c7 (zs1 ++ zs2) q3 n3 c3 zs3 w7 ⟨hs7, fun z hz => (by
    rcases List.mem_append.1 hz with h | h
    · exact (H1.out.below hb7).each z h
    · exact (H2.out.below hb7).each z h), fun h => by subst h; exact (Cls.row_nil hrow).2⟩ (H3.out.below hb7) (by omega) (by omega)
  rw [HRR.out] at con
  clear hrow hown7 hown6 hgrow6 hgrow7 hrow5 hw5 s1 s2 z1 z2 hs7 hq7
  refine con.mono ?_
  rintro e w8 ⟨rfl, rfl⟩
  clear con
  go_wp2
  go_ret
  exact ⟨rfl, hb7⟩
theorem refTog_of (q1 : Option Addr) (n1 c1 : Nat) (f : List (List (List UInt8))) (q2 : Option Addr) (n2 c2 : Nat) (g : List (List (List UInt8))) (q3 : Option Addr) (n3 c3 : Nat) (h : List (List (List UInt8))) (w : World) (h1 : RefIn w q1 n1 f) (h2 : RefIn w q2 n2 g) (h3 : RefIn w q3 n3 h) (z1 : q1 = none → c1 = 0) (z2 : q2 = none → c2 = 0) (z3 : q3 = none → c3 = 0) (l1 : f.length ≤ 16) (l2 : g.length ≤ 16) (l3 : h.length ≤ 16) :
    Calls Tryz.prog 36 #[.slice q1 n1 c1, .slice q2 n2 c2, .slice q3 n3 c3] w fun e w' => e = .returned (.bool (impB (f ++ g) h)) ∧ Below w.heap.size w w' := by
  rw [h1.len] at l1
  rw [h2.len] at l2
  rw [h3.len] at l3
  obtain ⟨zs1, r1, rfl⟩ := rowOk_of h1 z1
  obtain ⟨zs2, r2, rfl⟩ := rowOk_of h2 z2
  obtain ⟨zs3, r3, rfl⟩ := rowOk_of h3 z3
  exact refTog_any q1 n1 c1 zs1 q2 n2 c2 zs2 q3 n3 c3 zs3 w r1 r2 r3 l1 l2 l3
theorem refLess_of (q1 : Option Addr) (n1 c1 : Nat) (f : List (List (List UInt8))) (q2 : Option Addr) (n2 c2 : Nat) (g : List (List (List UInt8))) (w : World) (h1 : RefIn w q1 n1 f) (h2 : RefIn w q2 n2 g) (z1 : q1 = none → c1 = 0) (z2 : q2 = none → c2 = 0) (l1 : f.length ≤ 16) (l2 : g.length ≤ 16) :
    Calls Tryz.prog 42 #[.slice q1 n1 c1, .slice q2 n2 c2] w fun e w' => ∃ q n c, e = .returned (.slice q n c) ∧ RefIn w' q n (lessF f g) ∧ (∀ a, q = some a → w.heap.size ≤ a.block) ∧ (q = none → c = 0) ∧ Below w.heap.size w w' := by
  rw [h1.len] at l1
  rw [h2.len] at l2
  obtain ⟨zs1, r1, rfl⟩ := rowOk_of h1 z1
  obtain ⟨zs2, r2, rfl⟩ := rowOk_of h2 z2
  exact refLess_any q1 n1 c1 zs1 q2 n2 c2 zs2 w r1 r2 l1 l2

set_option maxRecDepth 100000 in
set_option maxHeartbeats 8000000 in
theorem ref10Flows_any (qp : Option Addr) (np cp : Nat) (p : List (List (List UInt8))) (v1 v2 : Value) (l o : Lab) (w : World) (hp : RefIn w qp np p) (zp : qp = none → cp = 0) (h1 : LabRef w v1 l) (h2 : LabRef w v2 o) (fp : p.length ≤ 16) (fl : Few l) (fo : Few o) :
    Calls Tryz.prog 13 #[.slice qp np cp, v1, v2] w fun e w' => e = .returned (.bool (flowsBy p l o)) ∧ Below w.heap.size w w' := by
  obtain ⟨q1, n1, c1, q2, n2, c2, rfl, s1, i1, y1, y2⟩ := h1
  obtain ⟨q3, n3, c3, q4, n4, c4, rfl, s2, i2, y3, y4⟩ := h2
  obtain ⟨W, hW⟩ : ∃ W, (w.alloc (.cells #[.slice q1 n1 c1, .slice q2 n2 c2] 35)).alloc (.cells #[.slice q3 n3 c3, .slice q4 n4 c4] 35) = W := ⟨_, rfl⟩
  have A1 : Below w.heap.size w W := hW ▸ ((Below.refl _ w).alloc (Nat.le_refl _) _).alloc (by simp) _
  have b0 : RB w.heap.size #[.slice q1 n1 c1, .slice q2 n2 c2] W := hW ▸ (RB.new w _).on (below_alloc _)
  have b1 : RB (w.heap.size + 1) #[.slice q3 n3 c3, .slice q4 n4 c4] W := hW ▸ RB.two w _ _
  have x0 := b0.box 0 _ rfl
  have y0 := b1.box 0 _ rfl
  have con := refTog_of q3 n3 c3 o.s qp np cp p q1 n1 c1 l.s W (s2.below A1) (hp.below A1) (s1.below A1) y3 zp y1 fo.1 fp fl.1
  have HC := Lib.hid (fun X (hb : Below w.heap.size w X) => refTog_of q2 n2 c2 l.i qp np cp p q4 n4 c4 o.i X (i1.below hb) (hp.below hb) (i2.below hb) y2 zp y4 fl.2 fp fo.2)
  have HF := Lib.hid (show flowsBy p l o = (impB (o.s ++ p) l.s && impB (l.i ++ p) o.i) from rfl)
  have HW := Lib.hid hW
  obtain ⟨A, hA⟩ : ∃ A, impB (o.s ++ p) l.s = A := ⟨_, rfl⟩
  obtain ⟨B, hB⟩ : ∃ B, impB (l.i ++ p) o.i = B := ⟨_, rfl⟩
  rw [hA] at con HF
  rw [hB] at HC HF
  clear hW s1 i1 s2 i2 fl fo hA hB y1 y2 y3 y4 hp zp fp
  go_enter Tryz.func13, Tryz.ntmps13
  go_wp2_with fail
  rw [HW.out]
  refine con.mono ?_
  rintro e w2 ⟨rfl, hb⟩
  have A2 := A1.trans (hb.mono A1.size)
  have x1 := (b0.on hb).box 1 _ rfl
  have y1' := (b1.on hb).box 1 _ rfl
  clear con HW hb x0 y0 b0 b1 A1
  cases A with
  | false =>
    clear HC
    go_wp2
    go_ret
    exact ⟨by rw [HF.out]; rfl, A2⟩
  | true =>
    have con := HC.out w2 A2
    go_wp2_with fail
    refine con.mono ?_
    rintro e w3 ⟨rfl, hb⟩
    have A3 := A2.trans (hb.mono A2.size)
    clear con hb x1 y1'
    go_wp2
    go_ret
    exact ⟨by rw [HF.out]; rfl, A3⟩

/-- The least label to which one flows, or And's error. -/
def leastR (p : List (List (List UInt8))) (l : Lab) : Sum Int Lab := match andR l.i p with
  | .inl e => .inl e
  | .inr i => .inr ⟨lessF l.s p, i⟩
theorem least_is (p : List (List (List UInt8))) (l j : Lab) (h : leastR p l = .inr j) : j = leastF p l := by
  unfold leastR at h
  cases e : andR l.i p with
  | inl n => rw [e] at h; cases h
  | inr i =>
    rw [e] at h
    cases h
    rw [andR_is l.i p i e]; rfl
set_option maxRecDepth 100000 in
set_option maxHeartbeats 16000000 in
theorem ref10Least_any (qp : Option Addr) (np cp : Nat) (p : List (List (List UInt8))) (v1 : Value) (l : Lab) (w : World) (hp : RefIn w qp np p) (zp : qp = none → cp = 0) (h1 : LabRef w v1 l) (fp : p.length ≤ 16) (fl : Few l) :
    Calls Tryz.prog 18 #[.slice qp np cp, v1] w (RLabOut (leastR p l) w) := by
  obtain ⟨q1, n1, c1, q2, n2, c2, rfl, s1, i1, y1, y2⟩ := h1
  obtain ⟨W, hW⟩ : ∃ W, (w.alloc (.cells #[.slice q1 n1 c1, .slice q2 n2 c2] 35)).alloc (.cells #[.slice none 0 0, .slice none 0 0] 35) = W := ⟨_, rfl⟩
  have A1 : Below w.heap.size w W := hW ▸ ((Below.refl _ w).alloc (Nat.le_refl _) _).alloc (by simp) _
  have b0 : RB w.heap.size #[.slice q1 n1 c1, .slice q2 n2 c2] W := hW ▸ (RB.new w _).on (below_alloc _)
  have b8 : RB (w.heap.size + 1) #[.slice none 0 0, .slice none 0 0] W := hW ▸ RB.two w _ _
  have HSZ := Lib.hid (show W.heap.size = w.heap.size + 2 by rw [← hW]; simp)
  have x1 := b0.box 1 _ rfl
  have con := refAnd_of q2 n2 c2 l.i qp np cp p W (i1.below A1) (hp.below A1) y2 zp fl.2 fp
  have HC := Lib.hid (fun X (hb : Below w.heap.size w X) => refLess_of q1 n1 c1 l.s qp np cp p X (s1.below hb) (hp.below hb) y1 zp fl.1 fp)
  have HE1 := Lib.hid (and_err3 l.i p)
  have HR := Lib.hid (show leastR p l = (match andR l.i p with | .inl e => .inl e | .inr i => .inr ⟨lessF l.s p, i⟩) from rfl)
  have HW := Lib.hid hW
  obtain ⟨r1, hr1⟩ : ∃ r, andR l.i p = r := ⟨_, rfl⟩
  rw [hr1] at con HE1 HR
  rw [HR.out]
  generalize lessF l.s p = ls at *
  clear hW s1 i1 fl hr1 HR hp zp fp
  go_enter Tryz.func18, Tryz.ntmps18
  go_wp2_with fail
  rw [HW.out]
  refine con.mono ?_
  rintro e w2 ⟨q5, n5, c5, rfl, f5, k5, z5, hb⟩
  have A2 := A1.trans (hb.mono A1.size)
  replace b0 := b0.on hb
  replace b8 := b8.on hb
  have K5 := Lib.hid (show ∀ a, q5 = some a → 0 < n5 → w.heap.size + 1 < a.block from fun a h _ => by have := k5 a h; have := HSZ.out; omega)
  have Z5 := Lib.hid z5
  have HS2 := Lib.hid hb.size
  clear con hb x1 A1 HW k5 z5
  cases r1 with
  | inl en =>
    obtain rfl : en = 3 := HE1.out en rfl
    have kf0 := b8.frozen 0
    have kf1 := b8.frozen 1
    have z0 := b8.box 0 _ rfl
    have z1 := b8.box 1 _ rfl
    obtain ⟨Y, hY, bY, _, hBY⟩ := b8.put (.slice none 0 0) (.slice none 0 0)
    have A4 := A2.trans (hBY _ (by omega))
    have HY := Lib.hid hY
    clear hY f5 b0 HC
    unfold frmE
    go_wp2
    rw [HY.out]
    refine bodyPost_ret (ret_ref2 rfl _ _ (w.heap.size + 1) _ rfl bY rfl) rfl ?_
    exact rlabOut_open 3 A4
  | inr i =>
    replace f5 : RefIn w2 q5 n5 i := f5
    have x0 := b0.box 0 _ rfl
    have con := HC.out _ A2
    clear HC HE1
    unfold frmE
    go_wp2_with fail
    refine con.mono ?_
    rintro e w4 ⟨q6, n6, c6, rfl, f6, k6, z6, hb⟩
    have A4 := A2.trans (hb.mono A2.size)
    have K6 := Lib.hid (show ∀ a, q6 = some a → 0 < n6 → w.heap.size + 1 < a.block from fun a h _ => by have h1 := k6 a h; have h2 := HS2.out; have h3 := HSZ.out; omega)
    have Z6 := Lib.hid z6
    replace b8 := b8.on hb
    replace f5 := f5.below hb
    have kf0 := b8.frozen 0
    have kf1 := b8.frozen 1
    have z0 := b8.box 0 _ rfl
    have z1 := b8.box 1 _ rfl
    obtain ⟨Y, hY, bY, hkY, hBY⟩ := b8.put (.slice q6 n6 c6) (.slice q5 n5 c5)
    have A6 := A4.trans (hBY _ (by omega))
    have g5 := RefIn.off f5 b8 (fun a h h0 => by have := K5.out a h h0; omega) (hkY _ (by simp))
    have g6 := RefIn.off f6 b8 (fun a h h0 => by have := K6.out a h h0; omega) (hkY _ (by simp))
    have HY := Lib.hid hY
    clear con hb hY f5 f6 b0 x0 k6 z6
    go_wp2
    rw [HY.out]
    refine bodyPost_ret (ret_ref2 rfl _ _ (w.heap.size + 1) _ rfl bY rfl) rfl ?_
    exact ⟨q6, n6, c6, q5, n5, c5, rfl, ⟨_, _, _, _, _, _, rfl, g6, g5, Z6.out, Z5.out⟩, A6⟩

end Go.Proofs.YtpabhppghljipaaGreatDoor.Prv

namespace Go.Proofs.YtpabhppghljipaaGreatDoor.Prv
open Go.RowKit Go.Shelf Go.Sort Url Org Cls Frm Lbl
attribute [local go_sem] Oper.semAt_some
set_option linter.unusedVariables false

set_option maxRecDepth 100000 in
set_option maxHeartbeats 4000000 in
theorem Covers_any (v1 v2 : Value) (f g : List (List (List UInt8))) (w : World) (h1 : FrmIs w v1 f) (h2 : FrmIs w v2 g) (lf : f.length ≤ 1000) (lg : g.length ≤ 1000) :
    Calls Tryz.prog 25 #[v1, v2] w fun e w' => e = .returned (.bool (impB f g)) ∧ Below w.heap.size w w' := by
  obtain ⟨q1, n1, c1, rfl⟩ := frm_form h1
  obtain ⟨q2, n2, c2, rfl⟩ := frm_form h2
  obtain ⟨W, hW⟩ : ∃ W, (w.alloc (.cells #[.slice q1 n1 c1] 26)).alloc (.cells #[.slice q2 n2 c2] 26) = W := ⟨_, rfl⟩
  have A1 : Below w.heap.size w W := hW ▸ ((Below.refl _ w).alloc (Nat.le_refl _) _).alloc (by simp) _
  have x0 : W.cell? ⟨w.heap.size, 0, none⟩ = some (.slice q1 n1 c1) := hW ▸ ((Boxed.new w _ _).alloc _).cell
  have y0 : W.cell? ⟨w.heap.size + 1, 0, none⟩ = some (.slice q2 n2 c2) := by
    have := (Boxed.new (w.alloc (.cells #[.slice q1 n1 c1] 26)) 26 (.slice q2 n2 c2)).cell
    rw [World.size_alloc] at this
    exact hW ▸ this
  have con := Frm.Implies_any _ _ f g W (h1.below A1) (h2.below A1) (by omega) (by omega)
  have HW := Lib.hid hW
  clear hW h1 h2
  go_enter Tryz.func25, Tryz.ntmps25
  go_wp2_with fail
  rw [HW.out]
  refine con.mono ?_
  rintro e w2 ⟨rfl, hb⟩
  have A2 := A1.trans (hb.mono A1.size)
  clear con hb x0 y0
  go_wp2
  go_ret
  exact ⟨rfl, A2⟩

set_option maxRecDepth 100000 in
set_option maxHeartbeats 4000000 in
theorem Both_any (v1 v2 : Value) (f g : List (List (List UInt8))) (w : World) (h1 : FrmIs w v1 f) (h2 : FrmIs w v2 g) (lf : f.length ≤ 1000) (lg : g.length ≤ 1000) :
    Calls Tryz.prog 26 #[v1, v2] w (FrmOut (andR f g) w) := by
  obtain ⟨q1, n1, c1, rfl⟩ := frm_form h1
  obtain ⟨q2, n2, c2, rfl⟩ := frm_form h2
  obtain ⟨W, hW⟩ : ∃ W, ((w.alloc (.cells #[.slice q1 n1 c1] 26)).alloc (.cells #[.slice q2 n2 c2] 26)).alloc (.cells #[.slice none 0 0] 26) = W := ⟨_, rfl⟩
  have A1 : Below w.heap.size w W := hW ▸ (((Below.refl _ w).alloc (Nat.le_refl _) _).alloc (by simp) _).alloc (by simp; omega) _
  have x0 : W.cell? ⟨w.heap.size, 0, none⟩ = some (.slice q1 n1 c1) := hW ▸ (((Boxed.new w _ _).alloc _).alloc _).cell
  have y0 : W.cell? ⟨w.heap.size + 1, 0, none⟩ = some (.slice q2 n2 c2) := by
    have := ((Boxed.new (w.alloc (.cells #[.slice q1 n1 c1] 26)) 26 (.slice q2 n2 c2)).alloc (.cells #[.slice none 0 0] 26)).cell
    rw [World.size_alloc] at this
    exact hW ▸ this
  have b1 : Boxed W (w.heap.size + 2) 26 (.slice none 0 0) := by
    have := Boxed.new ((w.alloc (.cells #[.slice q1 n1 c1] 26)).alloc (.cells #[.slice q2 n2 c2] 26)) 26 (.slice none 0 0)
    rw [World.size_alloc, World.size_alloc] at this
    exact hW ▸ this
  have con := And_any _ _ f g W (h1.below A1) (h2.below A1) (by omega)
  have HW := Lib.hid hW
  clear hW h1 h2
  go_enter Tryz.func26, Tryz.ntmps26
  go_wp2_with fail
  rw [HW.out]
  refine con.mono ?_
  rintro e w2 ⟨q, n, c, rfl, f', k, hb⟩
  have b2 := (Keep.of_below hb).boxed b1 b1.lt
  have A2 := A1.trans (hb.mono A1.size)
  have kf := b2.frozen
  have kc := b2.cell
  have hl1 := b1.lt
  have f3 := f'.set (u' := .slice q n c) b2 (fun x h => by cases h) (fun a ha => by have := k a ha; omega)
  have b3 := b2.set (.slice q n c)
  have A3 := A2.setCell (p := ⟨w.heap.size + 2, 0, none⟩) (by simp) (.slice q n c)
  have K := Lib.hid (show ∀ a, q = some a → w.heap.size ≤ a.block from fun a ha => Nat.le_trans A1.size (k a ha))
  clear con hb k f' x0 y0
  go_wp2
  refine bodyPost_ret (ret_frm2 rfl _ _ (w.heap.size + 2) _ rfl b3) rfl ?_
  exact ⟨q, n, c, rfl, f3, K.out, A3⟩

set_option maxRecDepth 100000 in
set_option maxHeartbeats 16000000 in
theorem Needs_any (vp v1 v2 : Value) (p : List (List (List UInt8))) (l o : Lab) (w : World) (hp : FrmIs w vp p) (h1 : LabIs w v1 l) (h2 : LabIs w v2 o) (fp : p.length ≤ 16) (fl : Few l) (fo : Few o) :
    Calls Tryz.prog 14 #[vp, v1, v2] w fun e w' => e = .returned (.tuple #[.bool (flowsBy p l o && !flowsB l o), .bool (flowsBy p l o)]) ∧ Below w.heap.size w w' := by
  obtain ⟨qp, np, cp, rfl⟩ := frm_form hp
  obtain ⟨q1, n1, c1, q2, n2, c2, rfl, s1, i1⟩ := h1
  obtain ⟨q3, n3, c3, q4, n4, c4, rfl, s2, i2⟩ := h2
  obtain ⟨W, hW⟩ : ∃ W, ((w.alloc (.cells #[.slice qp np cp] 26)).alloc (.cells #[.slice q1 n1 c1, .slice q2 n2 c2] 29)).alloc (.cells #[.slice q3 n3 c3, .slice q4 n4 c4] 29) = W := ⟨_, rfl⟩
  have A0 : Below w.heap.size w W := hW ▸ (((Below.refl _ w).alloc (Nat.le_refl _) _).alloc (by simp) _).alloc (by simp; omega) _
  have bP : Boxed W w.heap.size 26 (.slice qp np cp) := hW ▸ ((Boxed.new w _ _).alloc _).alloc _
  have b0 : LB (w.heap.size + 1) #[.slice q1 n1 c1, .slice q2 n2 c2] W := hW ▸ (LB.at2 w _ _).on (below_alloc _)
  have b1 : LB (w.heap.size + 2) #[.slice q3 n3 c3, .slice q4 n4 c4] W := hW ▸ LB.at3 w _ _ _
  have HW := Lib.hid hW
  clear hW
  have h1 : ∀ X, Below w.heap.size w X → LabIs X (.agg #[.slice q1 n1 c1, .slice q2 n2 c2]) l := fun X hb => ⟨_, _, _, _, _, _, rfl, s1.below hb, i1.below hb⟩
  have h2 : ∀ X, Below w.heap.size w X → LabIs X (.agg #[.slice q3 n3 c3, .slice q4 n4 c4]) o := fun X hb => ⟨_, _, _, _, _, _, rfl, s2.below hb, i2.below hb⟩
  have con := Flows_any _ _ _ p l o W (hp.below A0) (h1 W A0) (h2 W A0) fp fl fo
  have HC := Lib.hid (fun X (hb : Below w.heap.size w X) => Lbl.Flows_any _ _ l o X (h1 X hb) (h2 X hb) fl fo)
  obtain ⟨B, hB⟩ : ∃ b, flowsBy p l o = b := ⟨_, rfl⟩
  obtain ⟨C, hC⟩ : ∃ b, flowsB l o = b := ⟨_, rfl⟩
  rw [hB] at con
  rw [hC] at HC
  rw [hB, hC]
  have xP := bP.cell
  have x0 := b0.box 0 _ rfl
  have x1 := b0.box 1 _ rfl
  have y0 := b1.box 0 _ rfl
  have y1 := b1.box 1 _ rfl
  clear hB hC h1 h2 hp s1 i1 s2 i2 fl fo fp
  go_enter Tryz.func14, Tryz.ntmps14
  go_wp2_with fail
  rw [HW.out]
  refine con.mono ?_
  rintro e w2 ⟨rfl, hb⟩
  have A := A0.trans (hb.mono A0.size)
  replace b0 := b0.on hb
  replace b1 := b1.on hb
  replace x0 := b0.box 0 _ rfl
  replace x1 := b0.box 1 _ rfl
  replace y0 := b1.box 0 _ rfl
  replace y1 := b1.box 1 _ rfl
  clear con hb A0 HW xP bP
  cases B with
  | false =>
    clear HC
    go_wp2
    go_ret2
    exact ⟨rfl, A⟩
  | true =>
    have con := HC.out _ A
    go_wp2_with fail
    refine con.mono ?_
    rintro e w3 ⟨rfl, hb⟩
    have A3 := A.trans (hb.mono A.size)
    clear con hb x0 x1 y0 y1 b0 b1 A
    go_wp2
    go_ret2
    exact ⟨by simp, A3⟩

set_option maxRecDepth 100000 in
set_option maxHeartbeats 16000000 in
theorem Least_any (vp v1 : Value) (p : List (List (List UInt8))) (l : Lab) (w : World) (hp : FrmIs w vp p) (h1 : LabIs w v1 l) (fp : p.length ≤ 16) (fl : Few l) :
    Calls Tryz.prog 17 #[vp, v1] w (LabOut (leastR p l) w) := by
  obtain ⟨qp, np, cp, rfl⟩ := frm_form hp
  obtain ⟨q1, n1, c1, q2, n2, c2, rfl, s1, i1⟩ := h1
  obtain ⟨W, hW⟩ : ∃ W, ((w.alloc (.cells #[.slice qp np cp] 26)).alloc (.cells #[.slice q1 n1 c1, .slice q2 n2 c2] 29)).alloc (.cells #[.slice none 0 0, .slice none 0 0] 29) = W := ⟨_, rfl⟩
  have A0 : Below w.heap.size w W := hW ▸ (((Below.refl _ w).alloc (Nat.le_refl _) _).alloc (by simp) _).alloc (by simp; omega) _
  have bP : Boxed W w.heap.size 26 (.slice qp np cp) := hW ▸ ((Boxed.new w _ _).alloc _).alloc _
  have b0 : LB (w.heap.size + 1) #[.slice q1 n1 c1, .slice q2 n2 c2] W := hW ▸ (LB.at2 w _ _).on (below_alloc _)
  have b8 : LB (w.heap.size + 2) #[.slice none 0 0, .slice none 0 0] W := hW ▸ LB.at3 w _ _ _
  have HSZ := Lib.hid (show W.heap.size = w.heap.size + 3 by rw [← hW]; simp)
  have HW := Lib.hid hW
  clear hW
  have con := And_any _ _ l.i p W (i1.below A0) (hp.below A0) (by have := fl.2; omega)
  have HL1 := Lib.hid (fun X (hb : Below w.heap.size w X) => Less_any _ _ l.s p X (s1.below hb) (hp.below hb) (by have := fl.1; omega) (by omega))
  have HE1 := Lib.hid (and_err3 l.i p)
  have HR := Lib.hid (show leastR p l = (match andR l.i p with | .inl e => .inl e | .inr i => .inr ⟨lessF l.s p, i⟩) from rfl)
  obtain ⟨r1, hr1⟩ : ∃ r, andR l.i p = r := ⟨_, rfl⟩
  rw [hr1] at con HE1 HR
  rw [HR.out]
  generalize lessF l.s p = f1 at *
  have xP := bP.cell
  have x0 := b0.box 0 _ rfl
  have x1 := b0.box 1 _ rfl
  clear hr1 HR hp s1 i1 fl fp
  go_enter Tryz.func17, Tryz.ntmps17
  go_wp2_with fail
  rw [HW.out]
  refine con.mono ?_
  rintro e w2 ⟨q5, n5, c5, rfl, f5, k5, hb⟩
  have A2 := A0.trans (hb.mono A0.size)
  have hba : Below w2.heap.size w2 (w2.alloc (.cells #[.slice q5 n5 c5] 26)) := below_alloc _
  have A3 := A2.trans (hba.mono A2.size)
  replace bP := (Keep.of_below hba).boxed ((Keep.of_below hb).boxed bP bP.lt) (Nat.lt_of_lt_of_le bP.lt hb.size)
  replace b0 := (b0.on hb).on hba
  replace b8 := (b8.on hb).on hba
  have bx : Boxed (w2.alloc (.cells #[.slice q5 n5 c5] 26)) w2.heap.size 26 (.slice q5 n5 c5) := Boxed.new w2 _ _
  replace f5 := f5.below hba
  have K5 := Lib.hid (show ∀ a, q5 = some a → 0 < n5 → w.heap.size + 2 < a.block from fun a h _ => by have := k5 a h; have := HSZ.out; omega)
  have HS2 := Lib.hid (show w.heap.size + 2 < w2.heap.size by have := HSZ.out; have := hb.size; omega)
  replace xP := bP.cell
  replace x0 := b0.box 0 _ rfl
  replace x1 := b0.box 1 _ rfl
  clear con hb A0 HW k5 hba
  cases r1 with
  | inl en =>
    obtain rfl : en = 3 := HE1.out en rfl
    have kf0 := b8.frozen 0
    have kf1 := b8.frozen 1
    have z0 := b8.box 0 _ rfl
    have z1 := b8.box 1 _ rfl
    obtain ⟨Y, hY, bY, _, hBY⟩ := b8.put (.slice none 0 0) (.slice none 0 0)
    have A4 := A3.trans (hBY _ (by omega))
    have HY := Lib.hid hY
    clear hY f5 bx b0 bP HL1 xP x0 x1
    unfold frmE
    go_wp2
    rw [HY.out]
    refine bodyPost_ret (ret_lab2 rfl _ _ (w.heap.size + 2) _ rfl bY rfl) rfl ?_
    exact labOut_open 3 A4
  | inr i =>
    replace f5 : FrmIs _ (.agg #[.slice q5 n5 c5]) i := f5
    unfold frmE
    clear HE1
    obtain ⟨W3, hW3⟩ : ∃ Z, (w2.alloc (.cells #[.slice q5 n5 c5] 26)).drew = Z := ⟨_, rfl⟩
    have hd : Below (w2.alloc (.cells #[.slice q5 n5 c5] 26)).heap.size (w2.alloc (.cells #[.slice q5 n5 c5] 26)) W3 := hW3 ▸ ⟨rfl, rfl, rfl, Nat.le_refl _, fun _ _ => rfl⟩
    have A := A3.trans (hd.mono A3.size)
    have xI := bx.cell
    go_wp2_with fail
    refine pregion_any (fun X => X.cell? ⟨w.heap.size, 0, none⟩ = some (.slice qp np cp) ∧ X.cell? ⟨w.heap.size + 1, 0, none⟩ = some (.slice q1 n1 c1) ∧ X.cell? ⟨w.heap.size + 1, 1, none⟩ = some (.slice q2 n2 c2) ∧ X.cell? ⟨w2.heap.size, 0, none⟩ = some (.slice q5 n5 c5)) (by kernel_rfl) ?_
    rw [hW3]
    replace bP := (Keep.of_below hd).boxed bP bP.lt
    replace b0 := b0.on hd
    replace b8 := b8.on hd
    replace bx := (Keep.of_below hd).boxed bx bx.lt
    replace f5 := f5.below hd
    replace xP := bP.cell
    replace x0 := b0.box 0 _ rfl
    replace x1 := b0.box 1 _ rfl
    replace xI := bx.cell
    clear hd hW3 A3
    refine wpAnyH_take (i := 0) (v := (.pointer (some ⟨w.heap.size + 1, 0, none⟩))) rfl (by kernel_rfl) (by kernel_rfl) (by kernel_rfl) (fun _ _ _ h => h) (.inl ⟨by kernel_rfl, ?_⟩) ⟨xP, x0, x1, xI⟩ ?_
    · rintro w ⟨h1, h2, h3, h4⟩; go_simp <;> omega
    refine plist #[true, false, false, false, false, false, false, false] (by kernel_rfl) ?_
    refine wpAnyH_take (i := 1) (v := (.agg #[.slice q1 n1 c1])) rfl (by kernel_rfl) (by kernel_rfl) (by kernel_rfl) (fun _ _ _ h => h) (.inl ⟨by kernel_rfl, ?_⟩) ⟨xP, x0, x1, xI⟩ ?_
    · rintro w ⟨h1, h2, h3, h4⟩; go_simp <;> omega
    refine plist #[true, true, false, false, false, false, false, false] (by kernel_rfl) ?_
    refine wpAnyH_take (i := 2) (v := (.agg #[.slice qp np cp])) rfl (by kernel_rfl) (by kernel_rfl) (by kernel_rfl) (fun _ _ _ h => h) (.inl ⟨by kernel_rfl, ?_⟩) ⟨xP, x0, x1, xI⟩ ?_
    · rintro w ⟨h1, h2, h3, h4⟩; go_simp <;> omega
    refine plist #[true, true, true, false, false, false, false, false] (by kernel_rfl) ?_
    refine wpAnyH_take (i := 4) (v := (.agg #[.slice q5 n5 c5])) rfl (by kernel_rfl) (by kernel_rfl) (by kernel_rfl) (fun _ _ _ h => h) (.inl ⟨by kernel_rfl, ?_⟩) ⟨xP, x0, x1, xI⟩ ?_
    · rintro w ⟨h1, h2, h3, h4⟩; go_simp <;> omega
    refine plist #[true, true, true, false, true, false, false, false] (by kernel_rfl) ?_
    have con := HL1.out _ A
    refine pone 3 (by kernel_rfl) rfl fun K hK => ?_
    go_simp
    refine con.mono ?_
    rintro e w4 ⟨q6, n6, c6, rfl, f6, k6, hb⟩
    have A2 := A.trans (hb.mono A.size)
    have K6 := Lib.hid (show ∀ a, q6 = some a → 0 < n6 → w.heap.size + 2 < a.block from fun a h _ => by have h1 := k6 a h; have h2 := b8.lt; omega)
    replace bP := (Keep.of_below hb).boxed bP bP.lt
    replace b0 := b0.on hb
    replace b8 := b8.on hb
    replace bx := (Keep.of_below hb).boxed bx bx.lt
    replace f5 := f5.below hb
    replace xP := bP.cell
    replace x0 := b0.box 0 _ rfl
    replace x1 := b0.box 1 _ rfl
    replace xI := bx.cell
    clear con hb k6 A HL1
    refine hK _ _ ⟨xP, x0, x1, xI⟩ ?_
    clear hK K
    refine plist #[true, true, true, true, true, false, false, false] (by kernel_rfl) ?_
    refine pone 5 (by kernel_rfl) rfl fun K hK => ?_
    go_simp
    refine hK _ _ ⟨xP, x0, x1, xI⟩ ?_
    clear hK K
    have kf0 := b8.frozen 0
    have kf1 := b8.frozen 1
    have z0 := b8.box 0 _ rfl
    have z1 := b8.box 1 _ rfl
    obtain ⟨Y, hY, bY, hkY, hBY⟩ := b8.put (.slice q6 n6 c6) (.slice q5 n5 c5)
    have hlt := HS2.out
    have A6 := A2.trans (hBY _ (by omega))
    have g5 := FrmIs.off f5 b8 (fun a h h0 => by have := K5.out a h h0; omega) (hkY _ (by simp))
    have g6 := FrmIs.off f6 b8 (fun a h h0 => by have := K6.out a h h0; omega) (hkY _ (by simp))
    have yP := ((hkY (fun b => b = w.heap.size) (by omega)).boxed bP rfl).cell
    have c0 : LB (w.heap.size + 1) #[.slice q1 n1 c1, .slice q2 n2 c2] Y := ((hBY (w.heap.size + 2) (Nat.le_refl _)).block _ (by omega)).trans b0
    have yI := ((hkY (fun b => b = w2.heap.size) (by omega)).boxed bx rfl).cell
    have HY := Lib.hid hY
    clear hY f5 f6 hlt
    refine plist #[true, true, true, true, true, true, false, false] (by kernel_rfl) ?_
    refine pone 6 (by kernel_rfl) rfl fun K hK => ?_
    go_simp
    rw [HY.out]
    refine hK _ _ ⟨yP, c0.box 0 _ rfl, c0.box 1 _ rfl, yI⟩ ?_
    clear hK K
    refine plist #[true, true, true, true, true, true, true, false] (by kernel_rfl) ?_
    refine pone 7 (by kernel_rfl) rfl fun K hK => ?_
    go_simp
    refine hK _ _ ⟨yP, c0.box 0 _ rfl, c0.box 1 _ rfl, yI⟩ ?_
    clear hK K
    refine pdone (by kernel_rfl) ?_ _
    go_wp2
    refine bodyPost_ret (ret_lab2 rfl _ _ (w.heap.size + 2) _ rfl bY rfl) rfl ?_
    exact ⟨q6, n6, c6, q5, n5, c5, rfl, g6, g5, (fun a h h0 => by have := K6.out a h h0; omega), (fun a h h0 => by have := K5.out a h h0; omega), A6⟩

end Go.Proofs.YtpabhppghljipaaGreatDoor.Prv

namespace Go.Proofs.YtpabhppghljipaaGreatDoor.Prv
open Go.RowKit Go.Shelf Go.Sort Url Org Cls Frm Lbl
set_option linter.unusedVariables false

theorem always_obj (w : World) : Calls Tryz.prog 23 #[] w fun e w' => ∃ v, e = .returned v ∧ FrmIs w' v [] ∧ Below w.heap.size w w' :=
  (Always_any w).mono fun e w' h => ⟨_, h.1, frm_nil _, h.2⟩
theorem never_obj (w : World) : Calls Tryz.prog 24 #[] w fun e w' => ∃ v, e = .returned v ∧ FrmIs w' v [[]] ∧ Below w.heap.size w w' :=
  (Never_any w).mono fun e w' ⟨q, n, c, h1, h2, h3⟩ => ⟨_, h1, h2, h3⟩
theorem both_law (f g b : List (List (List UInt8))) (hf : FOk f) (hg : FOk g) (h : andR f g = .inr b) : impB b f = true ∧ impB b g = true := by
  have e := andR_is f g b h
  subst e
  have := and_imp f g (andF f g) hf.canon hg.canon
  rw [imp_refl, eq_comm, Bool.and_eq_true] at this
  exact this
theorem least_law (p : List (List (List UInt8))) (l j : Lab) (hp : FOk p) (hl : LOk l) (h : leastR p l = .inr j) : flowsBy p l j = true ∧ flowsB j l = true ∧ ∀ o, flowsB j o = flowsBy p l o := by
  have e := least_is p l j h
  subst e
  exact ⟨least_self p l hl.canon hp.canon, least_under_l p l hl.canon hp.canon, fun o => least_flows p l o hl.canon hp.canon⟩
theorem least_few (p : List (List (List UInt8))) (l j : Lab) (hl : Few l) (h : leastR p l = .inr j) : Few j := by
  unfold leastR at h
  cases e : andR l.i p with
  | inl n => rw [e] at h; cases h
  | inr i =>
    rw [e] at h
    cases h
    exact ⟨Nat.le_trans (less_few _ _) hl.1, few_of _ _ e⟩
theorem least_err (p : List (List (List UInt8))) (l : Lab) (h : labE (leastR p l) = 0) : ∃ j, leastR p l = .inr j := by
  cases e : leastR p l with
  | inr j => exact ⟨j, rfl⟩
  | inl n =>
    rw [e] at h
    unfold leastR at e
    cases e2 : andR l.i p with
    | inl k =>
      rw [e2] at e
      cases e
      have := and_err3 _ _ _ e2
      subst this
      exact absurd h (by unfold labE; decide)
    | inr i => rw [e2] at e; cases e
theorem and_few (f g b : List (List (List UInt8))) (h : andR f g = .inr b) : b.length ≤ 16 := few_of _ _ h
theorem and_err (f g : List (List (List UInt8))) (h : frmE (andR f g) = 0) : ∃ b, andR f g = .inr b := by
  cases e : andR f g with
  | inr b => exact ⟨b, rfl⟩
  | inl n =>
    rw [e] at h
    have := and_err3 _ _ _ e
    subst this
    exact absurd h (by unfold frmE; decide)
theorem refIn_ne {w : World} {q : Option Addr} {n : Nat} {f : List (List (List UInt8))} (h : RefIn w q n f) : ∀ a, q = some a → 0 < n → a.block ≠ w.heap.size := fun a ha h0 => by have := RefIn.lt h a ha h0; omega

theorem least_fewV (p : List (List (List UInt8))) (l : Lab) (hl : Few l) : Few (labV (leastR p l)) := by
  cases e : leastR p l with
  | inl n => exact open_few
  | inr j => exact least_few p l j hl e
theorem cell_five (w : World) (t : TypeId) (x0 x1 x2 x3 x4 : Value) : ∀ (k : Nat) (x : Value), (#[x0, x1, x2, x3, x4] : Array Value)[k]? = some x → (w.alloc (.cells #[x0, x1, x2, x3, x4] t)).cell? ⟨w.heap.size, k, none⟩ = some x := fun k x hx => by
  have h := World.alloc_heap_new w (.cells #[x0, x1, x2, x3, x4] t)
  show World.cell? _ ⟨w.heap.size, k, none⟩ = _
  unfold World.cell?
  rw [h]
  exact hx

/-! ### set by set -/
def byK (p : List (List (List UInt8))) (l o : Lab) (names : List (List UInt8)) : Nat → Bool
  | 0 => true
  | k + 1 => byK p l o names k && (!holdsB p (setB names k) || ((!holdsB o.s (setB names k) || holdsB l.s (setB names k)) && (!holdsB l.i (setB names k) || holdsB o.i (setB names k))))
theorem byK_succ (p : List (List (List UInt8))) (l o : Lab) (names : List (List UInt8)) (k : Nat) : byK p l o names (k + 1) = (byK p l o names k && (!holdsB p (setB names k) || ((!holdsB o.s (setB names k) || holdsB l.s (setB names k)) && (!holdsB l.i (setB names k) || holdsB o.i (setB names k))))) := rfl
theorem byK_imp (p : List (List (List UInt8))) (l o : Lab) (names : List (List UInt8)) : ∀ k, byK p l o names k = (impK (o.s ++ p) l.s names k && impK (l.i ++ p) o.i names k)
  | 0 => rfl
  | k + 1 => by
    rw [byK, byK_imp p l o names k, impK_succ, impK_succ, holds_app, holds_app]
    cases impK (o.s ++ p) l.s names k <;> cases impK (l.i ++ p) o.i names k <;> cases holdsB p (setB names k) <;> cases holdsB o.s (setB names k) <;> cases holdsB l.s (setB names k) <;> cases holdsB l.i (setB names k) <;> cases holdsB o.i (setB names k) <;> rfl
theorem byK_all (p : List (List (List UInt8))) (l o : Lab) : byK p l o (namesA [p, l.s, l.i, o.s, o.i]) (2 ^ (namesA [p, l.s, l.i, o.s, o.i]).length) = flowsBy p l o := by
  have hm := fun f hf => namesA_mem [p, l.s, l.i, o.s, o.i] f hf
  have hd := namesA_nodup [p, l.s, l.i, o.s, o.i]
  have two : ∀ f g : List (List (List UInt8)), f ∈ [p, l.s, l.i, o.s, o.i] → g ∈ [p, l.s, l.i, o.s, o.i] → ∀ c ∈ f ++ g, ∀ x ∈ c, x ∈ namesA [p, l.s, l.i, o.s, o.i] := fun f g hf hg c hc x hx => by
    rcases List.mem_append.1 hc with h | h
    · exact hm f hf c h x hx
    · exact hm g hg c h x hx
  rw [byK_imp, impK_names _ _ _ hd (two o.s p (by simp) (by simp)) (hm l.s (by simp)), impK_names _ _ _ hd (two l.i p (by simp) (by simp)) (hm o.i (by simp))]
  rfl
end Go.Proofs.YtpabhppghljipaaGreatDoor.Prv
