/- What these laws want besides. Conditions: as each says. -/
import Derived.Test.YtdlofjcblcpgpaaGreatDoorBaseE
import Derived.ChangeMaps5

namespace Go.Proofs.YtdlofjcblcpgpaaGreatDoor.Ref

theorem drop_consS (l : List (List UInt8)) (k : Nat) (h : k < l.length) : l.drop k = l.getD k [] :: l.drop (k + 1) := by
  rw [List.drop_eq_getElem_cons h]; simp [List.getD, List.getElem?_eq_getElem h]

theorem split_small (c : UInt8) : ∀ (l : List UInt8), ∀ p ∈ splitL c l, p.length ≤ l.length
  | [], p, hp => by simp [splitL] at hp; subst hp; exact Nat.le_refl _
  | b :: r, p, hp => by
    have ih := split_small c r
    by_cases h : b = c
    · subst h
      rw [split_is] at hp
      rcases List.mem_cons.1 hp with rfl | hp
      · simp
      · have := ih p hp; simp only [List.length_cons]; omega
    · rw [split_not c b r h] at hp
      cases hs : splitL c r with
      | nil => exact absurd hs (split_ne c r)
      | cons q t =>
        rw [hs] at hp ih
        rcases List.mem_cons.1 hp with rfl | hp
        · have := ih q (by simp); simp only [List.length_append, List.length_cons, List.length_nil]; omega
        · have := ih p (by simp [hp]); simp only [List.length_cons]; omega

end Go.Proofs.YtdlofjcblcpgpaaGreatDoor.Ref

namespace Go.Proofs.YtdlofjcblcpgpaaGreatDoor.labelBack
open Go.ChangeShapes Go.WideShapes Go.ChangeAt Go.RowKit
set_option linter.unusedVariables false

theorem own : ownKnob Tryz.prog.godebug = none := by kernel_rfl
theorem laidOut : laidOutB Tryz.prog = true := by kernel_rfl
theorem gTab : Tryz.prog.globalNamed "internal/strconv.uint64pow10" = some 3 := by kernel_rfl

def IsRow (k : IntKind) (w : World) (a : Option Addr) (len cap : Nat) (zs : List Int) : Prop :=
  (a = none ∧ len = 0 ∧ cap = 0 ∧ zs = []) ∨
  ∃ x, a = some x ∧ len ≤ cap ∧ cap ≤ maxLen ∧ zs.length = cap ∧ (∀ i, i < zs.length → w.cell? (x.add i) = some (.int k (zs.getD i 0))) ∧ ∀ n ∈ zs, (Lit.int k n).wf = true

/-- The law's walk. -/
def Walks : Prop := ∀ (a0 : Option Addr) (len0 cap0 : Nat) (z0 : List Int) (a1 : ByteArray) (w : World), IsRow .u8 w a0 len0 cap0 z0 → a1.size ≤ maxLen → Url.Gl w →
  Calls Tryz.prog 7 #[.slice a0 len0 cap0, .string a1] w fun e w' => e = .returned (.bool true) ∧ Below w.heap.size w w'

theorem gl {W : World} (hL : laidMetH Tryz.prog Rows.labelBackRow.laid W) (hsh : W.ShapedOpen Tryz.prog) : Url.Gl W := by
  refine ⟨?_, ?_⟩
  · exact cell_of_shapedOpen_int (t := 3) (zero := #[.int .i64 0]) hsh (by decide +kernel) (by kernel_rfl) rfl (by kernel_rfl) (by kernel_rfl) (by kernel_rfl)
  · have hL' : laidMet Tryz.prog Rows.labelBackRow.laid W := by
      rw [MakeChecks.laidMetH_plain _ _ _ (by kernel_rfl)] at hL; exact hL
    exact Lib.tabIs_of_head (rest := [("unicode/utf8.acceptRanges", Rows.laid_unicode_utf8_acceptRanges), ("unicode/utf8.first", Rows.laid_unicode_utf8_first)]) (t := 290) (e := 174) (n := 20) (k := .u64) (zs := Lib.pow10Tab) (g := 3) gTab (by kernel_rfl) (by kernel_rfl) (by kernel_rfl) (by kernel_rfl) (by kernel_rfl) (show laidMet Tryz.prog [("internal/strconv.uint64pow10", Lib.tabData .u64 Lib.pow10Tab), ("unicode/utf8.acceptRanges", Rows.laid_unicode_utf8_acceptRanges), ("unicode/utf8.first", Rows.laid_unicode_utf8_first)] W from hL'.tail.tail)

set_option maxRecDepth 100000 in
/-- What the walk gives, for every argument and every world that holds the listed tables. -/
theorem contract (hw : Walks) (H : Type) (enc : TypeId × Value → H) (W : World) (base : Nat) (args : Array Value) (ds gs : List (DataW H)) (before : List MemPlace)
    (hval0 : ∀ (j : Nat) t v, Tryz.f7.params[j]? = some t → args[j]? = some v → Value.okWide Tryz.prog W .any base t v)
    (hW : DataW.Whole enc Tryz.prog Tryz.f7.params.toList Rows.labelBackSpec.vars false W args.toList ds gs before) (hL : laidMetH Tryz.prog Rows.labelBackRow.laid W) (hsh : W.ShapedOpen Tryz.prog) :
    Calls Tryz.prog 7 args W fun e W' => ∃ v, e = .returned v ∧ Rows.labelBackSpec.post enc Tryz.prog Tryz.f7 false true false false W args v W' := by
  have hval : ∀ (j : Nat) t v, Tryz.f7.params[j]? = some t → args[j]? = some v → Value.okWide Tryz.prog W .any base t v := hval0
  have hW' := hW
  obtain ⟨p, q, hA0, hV, rfl, hfz, hnd⟩ := hW
  have hA : DataW.TrodAll enc Tryz.prog W 0 (fun _ => true) true Tryz.f7.params.toList args.toList ds p := hA0
  rw [Tryz.params7] at hA hval
  obtain ⟨v0, vs0, d0, ds0, p0, q0, hargs, rfl, rfl, h0, r0⟩ := trodAll_cons hA
  obtain ⟨v1, vs1, d1, ds1, p1, q1, rfl, rfl, rfl, h1, r1⟩ := trodAll_cons r0
  obtain ⟨rfl, rfl, rfl⟩ := trodAll_nil r1
  obtain rfl : args = #[v0, v1] := by cases args; simp_all
  obtain ⟨rfl, rfl⟩ := trodVars_none hV
  obtain ⟨a0, len0, cap0, rfl⟩ := okWide_slice Tryz.underlying22 (hval 0 22 v0 rfl rfl)
  have k0 := h0
  have lt0 : ∀ x ∈ p0, x.block < W.heap.size := by obtain ⟨m, hm⟩ := k0; exact DataW.trod_lt m _ _ _ hm
  obtain ⟨z0, w0⟩ : ∃ zs, IsRow .u8 W a0 len0 cap0 zs := by
    obtain ⟨fuel, hf⟩ := h0
    rcases open_ints Tryz.underlying22 Tryz.underlying5 (by kernel_rfl) hf with ⟨hcs, _⟩ | ⟨x, l, c, zs, hcs, _, hl, hm, hz, _, hcell, hwz⟩
    · simp [Value.cells] at hcs
      obtain ⟨rfl, rfl, rfl⟩ := hcs
      exact ⟨[], .inl ⟨rfl, rfl, rfl, rfl⟩⟩
    · simp [Value.cells] at hcs
      obtain ⟨rfl, rfl, rfl⟩ := hcs
      exact ⟨zs, .inr ⟨_, rfl, hl, hm, by simpa using hz, hcell, hwz⟩⟩
  obtain ⟨a1, rfl, rfl, rfl, w1⟩ := Go.ChangeMaps.open_string Tryz.underlying9 (hval 1 9 v1 rfl rfl) h1
  clear hA0 hval0
  refine (hw a0 len0 cap0 z0 a1 W w0 w1 (gl hL hsh)).mono fun e W' ⟨he, bel⟩ => ?_
  subst he
  exact ⟨_, rfl, _, _, _, [], _, [], hW', trodAll_mk1 (shut_bool Tryz.underlying4 _), (trodAll_cons_mk (Below.trod laidOut (by kernel_rfl) (of_decide_eq_true (by kernel_rfl)) k0 bel lt0) (trodAll_cons_mk (Go.ChangeMaps.shut_string Tryz.underlying9 w1) trodAll_mk0)), rfl, bel.frame _, fun h => by cases h⟩

/-- The door's own heap meets the condition. -/
theorem door_met (os : Os) : laidMet Tryz.prog Rows.labelBackRow.laid ((World.laidAll Tryz.prog os Rows.labelBackRow.laid).forCall (fun _ _ => 0) ⟨#[], #[.slice none 0 0, .string ByteArray.empty], []⟩).memory :=
  laidMet_laidAll _ (by kernel_rfl) (by kernel_rfl)
theorem reads (os : Os) {H : Type} (enc : TypeId × Value → H) : ∃ places, DataW.whole enc Tryz.prog ((World.laidAll Tryz.prog os Rows.labelBackRow.laid).forCall (fun _ _ => 0) ⟨#[], #[.slice none 0 0, .string ByteArray.empty], []⟩).memory Tryz.f7.params.toList Rows.labelBackSpec.vars false #[Value.slice none 0 0, Value.string ByteArray.empty].toList 8 = some ([.nil, .lit (.string [])], [], places) :=
  ⟨[], by kernel_rfl⟩

set_option maxRecDepth 100000 in
theorem lifted (hw : Walks) (os : Os) (started : os.Started) (H : Type) (enc : TypeId × Value → H) (F : Stop.Interp) :
    ReturnsInHanded {} Tryz.checked os 7 .any ((OpenSpec.ofChange Rows.labelBackSpec).preRow enc Tryz.prog Tryz.f7 Rows.labelBackRow.domain false Rows.labelBackRow.laid) (((OpenSpec.ofChange Rows.labelBackSpec).at F).post enc Tryz.prog Tryz.f7 false true false false) := by
  obtain ⟨places, hx⟩ := reads os enc
  refine returnsInHanded_of_row (C := Tryz.checked) (s := OpenSpec.ofChange Rows.labelBackSpec) own started (by kernel_rfl) Tryz.func7
    (witness_row_at (enc := enc) (C := Tryz.checked) false (World.laidAll Tryz.prog os Rows.labelBackRow.laid) #[.slice none 0 0, .string ByteArray.empty] (World.laidAll_os _ _ _) (by kernel_rfl) (by kernel_rfl) (by kernel_rfl)
      (OpenSpec.preRow_of_cond 8 hx (by kernel_rfl) (fun k hk => by cases hk) (by kernel_rfl) (door_met os))) ?_
  intro W base args ds gs before hval hW _ _ _ hL hsh _
  exact contract hw H enc W base args ds gs before hval hW hL hsh

theorem said (hw : Walks) : Rows.LabelBackSaid :=
  OpenClaim.holds_of_cond 7 Tryz.f7 rfl rfl rfl rfl rfl rfl rfl ⟨rfl, rfl, rfl, rfl, rfl⟩ rfl rfl rfl rfl rfl (by kernel_rfl) Tryz.func7 (by kernel_rfl)
    (of_decide_eq_true (by kernel_rfl)) (by unfold Func.isWrapper; first | (rw [if_pos (by decide +kernel)]; kernel_rfl) | (rw [if_neg (by decide +kernel)]; exact ⟨rfl, rfl⟩))
    (fun os started H enc _ F => by rw [OpenClaim.pre_eq_preRow]; exact lifted hw os started H enc F)

/-- No parameter wants a stand-in; the program's own looks are off. -/
theorem plain (f : FuncId) (fn : Func) (hf : Tryz.pinned.checked.prog.funcNamed "cordon/cordonlaw09.LabelBack" = some f) (hfn : Tryz.pinned.checked.prog.funcs[f]? = some fn) :
    false = Tryz.pinned.checked.prog.looks [] ∧ ∀ (j : Nat) t, fn.params[j]? = some t → Tryz.pinned.checked.prog.wantsStandIn t = false := by
  obtain rfl : f = 7 := Option.some.inj ((show Tryz.prog.funcNamed "cordon/cordonlaw09.LabelBack" = some 7 by kernel_rfl).symm.trans hf) |>.symm
  obtain rfl : fn = Tryz.f7 := (Option.some.inj (Tryz.func7.symm.trans hfn)).symm
  refine ⟨by kernel_rfl, fun j t ht => ?_⟩
  rw [Tryz.params7] at ht
  rcases (show t = 22 ∨ t = 9 by simpa [or_comm] using Array.mem_of_getElem? ht) with rfl | rfl
  · exact (show Tryz.prog.wantsStandIn 22 = false by kernel_rfl)
  · exact (show Tryz.prog.wantsStandIn 9 = false by kernel_rfl)

/-- The card, given the walk. -/
theorem card (hw : Walks) : Rows.LabelBackCardSaid :=
  Claim7.holds_tied_plain_at .later [] _ _ _ _ (said hw) (fun _ h => by cases h) (by kernel_rfl) (fun _ h => by cases h) labelBack_row_tie rfl ⟨rfl, rfl⟩ (by kernel_rfl) rfl plain (by kernel_rfl)

end Go.Proofs.YtdlofjcblcpgpaaGreatDoor.labelBack

namespace Go.Proofs.YtdlofjcblcpgpaaGreatDoor.Frm
set_option linter.unusedVariables false

/-- The set that a number's bits tell, of these names. -/
def setB {α : Type} [DecidableEq α] (names : List α) (s : Nat) : α → Bool := fun p => (List.range names.length).any fun i => decide (names[i]? = some p) && decide (s / 2 ^ i % 2 = 1)
theorem set_iff {α : Type} [DecidableEq α] (names : List α) (s : Nat) (p : α) : setB names s p = true ↔ ∃ i : Nat, names[i]? = some p ∧ s / 2 ^ i % 2 = 1 := by
  unfold setB
  rw [List.any_eq_true]
  constructor
  · rintro ⟨i, _, h⟩
    rw [Bool.and_eq_true] at h
    exact ⟨i, of_decide_eq_true h.1, of_decide_eq_true h.2⟩
  · rintro ⟨i, h1, h2⟩
    refine ⟨i, List.mem_range.2 (List.getElem?_eq_some_iff.1 h1).1, ?_⟩
    rw [decide_eq_true h1, decide_eq_true h2]; rfl
/-- The number of a set. -/
def numB {α : Type} (S : α → Bool) : List α → Nat
  | [] => 0
  | p :: r => (if S p = true then 1 else 0) + 2 * numB S r
theorem num_lt {α : Type} (S : α → Bool) : ∀ names : List α, numB S names < 2 ^ names.length
  | [] => by simp [numB]
  | p :: r => by
    have ih := num_lt S r
    rw [numB, List.length_cons, Nat.pow_succ]
    split <;> omega
theorem num_bit {α : Type} (S : α → Bool) : ∀ (names : List α) (i : Nat) (p : α), names[i]? = some p → (numB S names / 2 ^ i % 2 = 1 ↔ S p = true)
  | [], i, p, h => by simp at h
  | q :: r, 0, p, h => by
    obtain rfl : q = p := by simpa using h
    rw [numB, Nat.pow_zero, Nat.div_one]
    split
    · rename_i hs; exact ⟨fun _ => hs, fun _ => by omega⟩
    · rename_i hs; exact ⟨fun h => by omega, fun h => absurd h hs⟩
  | q :: r, i + 1, p, h => by
    have ih := num_bit S r i p (by simpa using h)
    rw [numB, Nat.pow_succ', ← Nat.div_div_eq_div_mul]
    have e : ((if S q = true then 1 else 0) + 2 * numB S r) / 2 = numB S r := by split <;> omega
    rw [e]; exact ih
theorem set_num {α : Type} [DecidableEq α] (S : α → Bool) (names : List α) (hd : names.Nodup) (p : α) (hp : p ∈ names) : setB names (numB S names) p = S p := by
  rw [Bool.eq_iff_iff, set_iff]
  constructor
  · rintro ⟨i, h1, h2⟩
    exact (num_bit S names i p h1).1 h2
  · intro h
    obtain ⟨i, hi, rfl⟩ := List.mem_iff_getElem.1 hp
    have h1 : names[i]? = some names[i] := List.getElem?_eq_getElem hi
    exact ⟨i, h1, (num_bit S names i _ h1).2 h⟩
theorem holds_same {α : Type} (f : List (List α)) (S T : α → Bool) (h : ∀ c ∈ f, ∀ p ∈ c, S p = T p) : holdsB f S = holdsB f T := by
  rw [Bool.eq_iff_iff, holds_iff, holds_iff]
  constructor
  · intro k c hc
    obtain ⟨p, hp, h1⟩ := k c hc
    exact ⟨p, hp, by rw [← h c hc p hp]; exact h1⟩
  · intro k c hc
    obtain ⟨p, hp, h1⟩ := k c hc
    exact ⟨p, hp, by rw [h c hc p hp]; exact h1⟩
/-- Implying, set by set of the names. -/
theorem imp_names {α : Type} [DecidableEq α] (names : List α) (hd : names.Nodup) (f g : List (List α)) (hf : ∀ c ∈ f, ∀ p ∈ c, p ∈ names) (hg : ∀ c ∈ g, ∀ p ∈ c, p ∈ names) :
    impB f g = true ↔ ∀ s : Nat, s < 2 ^ names.length → holdsB f (setB names s) = true → holdsB g (setB names s) = true := by
  rw [imp_means]
  constructor
  · intro h s _; exact h _
  · intro h S hS
    have e1 := holds_same f (setB names (numB S names)) S fun c hc p hp => set_num S names hd p (hf c hc p hp)
    have e2 := holds_same g (setB names (numB S names)) S fun c hc p hp => set_num S names hd p (hg c hc p hp)
    rw [← e2]
    exact h _ (num_lt S names) (by rw [e1]; exact hS)

end Go.Proofs.YtdlofjcblcpgpaaGreatDoor.Frm

namespace Go.Proofs.YtdlofjcblcpgpaaGreatDoor.labelMeans
open Go.ChangeShapes Go.WideShapes Go.ChangeAt Go.RowKit
set_option linter.unusedVariables false

theorem own : ownKnob Tryz.prog.godebug = none := by kernel_rfl
theorem laidOut : laidOutB Tryz.prog = true := by kernel_rfl
theorem gTab : Tryz.prog.globalNamed "internal/strconv.uint64pow10" = some 3 := by kernel_rfl

def IsRow (k : IntKind) (w : World) (a : Option Addr) (len cap : Nat) (zs : List Int) : Prop :=
  (a = none ∧ len = 0 ∧ cap = 0 ∧ zs = []) ∨
  ∃ x, a = some x ∧ len ≤ cap ∧ cap ≤ maxLen ∧ zs.length = cap ∧ (∀ i, i < zs.length → w.cell? (x.add i) = some (.int k (zs.getD i 0))) ∧ ∀ n ∈ zs, (Lit.int k n).wf = true

/-- The law's walk. -/
def Walks : Prop := ∀ (a0 : Option Addr) (len0 cap0 : Nat) (z0 : List Int) (a1 : Option Addr) (len1 cap1 : Nat) (z1 : List Int) (w : World), IsRow .u8 w a0 len0 cap0 z0 → IsRow .u8 w a1 len1 cap1 z1 → Url.Gl w →
  Calls Tryz.prog 6 #[.slice a0 len0 cap0, .slice a1 len1 cap1] w fun e w' => e = .returned (.bool true) ∧ Below w.heap.size w w'

theorem gl {W : World} (hL : laidMetH Tryz.prog Rows.labelMeansRow.laid W) (hsh : W.ShapedOpen Tryz.prog) : Url.Gl W := by
  refine ⟨?_, ?_⟩
  · exact cell_of_shapedOpen_int (t := 3) (zero := #[.int .i64 0]) hsh (by decide +kernel) (by kernel_rfl) rfl (by kernel_rfl) (by kernel_rfl) (by kernel_rfl)
  · have hL' : laidMet Tryz.prog Rows.labelMeansRow.laid W := by
      rw [MakeChecks.laidMetH_plain _ _ _ (by kernel_rfl)] at hL; exact hL
    exact Lib.tabIs_of_head (rest := [("unicode/utf8.acceptRanges", Rows.laid_unicode_utf8_acceptRanges), ("unicode/utf8.first", Rows.laid_unicode_utf8_first)]) (t := 290) (e := 174) (n := 20) (k := .u64) (zs := Lib.pow10Tab) (g := 3) gTab (by kernel_rfl) (by kernel_rfl) (by kernel_rfl) (by kernel_rfl) (by kernel_rfl) (show laidMet Tryz.prog [("internal/strconv.uint64pow10", Lib.tabData .u64 Lib.pow10Tab), ("unicode/utf8.acceptRanges", Rows.laid_unicode_utf8_acceptRanges), ("unicode/utf8.first", Rows.laid_unicode_utf8_first)] W from hL'.tail.tail)

set_option maxRecDepth 100000 in
/-- What the walk gives, for every argument and every world that holds the listed tables. -/
theorem contract (hw : Walks) (H : Type) (enc : TypeId × Value → H) (W : World) (base : Nat) (args : Array Value) (ds gs : List (DataW H)) (before : List MemPlace)
    (hval0 : ∀ (j : Nat) t v, Tryz.f6.params[j]? = some t → args[j]? = some v → Value.okWide Tryz.prog W .any base t v)
    (hW : DataW.Whole enc Tryz.prog Tryz.f6.params.toList Rows.labelMeansSpec.vars false W args.toList ds gs before) (hL : laidMetH Tryz.prog Rows.labelMeansRow.laid W) (hsh : W.ShapedOpen Tryz.prog) :
    Calls Tryz.prog 6 args W fun e W' => ∃ v, e = .returned v ∧ Rows.labelMeansSpec.post enc Tryz.prog Tryz.f6 false true false false W args v W' := by
  have hval : ∀ (j : Nat) t v, Tryz.f6.params[j]? = some t → args[j]? = some v → Value.okWide Tryz.prog W .any base t v := hval0
  have hW' := hW
  obtain ⟨p, q, hA0, hV, rfl, hfz, hnd⟩ := hW
  have hA : DataW.TrodAll enc Tryz.prog W 0 (fun _ => true) true Tryz.f6.params.toList args.toList ds p := hA0
  rw [Tryz.params6] at hA hval
  obtain ⟨v0, vs0, d0, ds0, p0, q0, hargs, rfl, rfl, h0, r0⟩ := trodAll_cons hA
  obtain ⟨v1, vs1, d1, ds1, p1, q1, rfl, rfl, rfl, h1, r1⟩ := trodAll_cons r0
  obtain ⟨rfl, rfl, rfl⟩ := trodAll_nil r1
  obtain rfl : args = #[v0, v1] := by cases args; simp_all
  obtain ⟨rfl, rfl⟩ := trodVars_none hV
  obtain ⟨a0, len0, cap0, rfl⟩ := okWide_slice Tryz.underlying22 (hval 0 22 v0 rfl rfl)
  have k0 := h0
  have lt0 : ∀ x ∈ p0, x.block < W.heap.size := by obtain ⟨m, hm⟩ := k0; exact DataW.trod_lt m _ _ _ hm
  obtain ⟨z0, w0⟩ : ∃ zs, IsRow .u8 W a0 len0 cap0 zs := by
    obtain ⟨fuel, hf⟩ := h0
    rcases open_ints Tryz.underlying22 Tryz.underlying5 (by kernel_rfl) hf with ⟨hcs, _⟩ | ⟨x, l, c, zs, hcs, _, hl, hm, hz, _, hcell, hwz⟩
    · simp [Value.cells] at hcs
      obtain ⟨rfl, rfl, rfl⟩ := hcs
      exact ⟨[], .inl ⟨rfl, rfl, rfl, rfl⟩⟩
    · simp [Value.cells] at hcs
      obtain ⟨rfl, rfl, rfl⟩ := hcs
      exact ⟨zs, .inr ⟨_, rfl, hl, hm, by simpa using hz, hcell, hwz⟩⟩
  obtain ⟨a1, len1, cap1, rfl⟩ := okWide_slice Tryz.underlying22 (hval 1 22 v1 rfl rfl)
  have k1 := h1
  have lt1 : ∀ x ∈ p1, x.block < W.heap.size := by obtain ⟨m, hm⟩ := k1; exact DataW.trod_lt m _ _ _ hm
  obtain ⟨z1, w1⟩ : ∃ zs, IsRow .u8 W a1 len1 cap1 zs := by
    obtain ⟨fuel, hf⟩ := h1
    rcases open_ints Tryz.underlying22 Tryz.underlying5 (by kernel_rfl) hf with ⟨hcs, _⟩ | ⟨x, l, c, zs, hcs, _, hl, hm, hz, _, hcell, hwz⟩
    · simp [Value.cells] at hcs
      obtain ⟨rfl, rfl, rfl⟩ := hcs
      exact ⟨[], .inl ⟨rfl, rfl, rfl, rfl⟩⟩
    · simp [Value.cells] at hcs
      obtain ⟨rfl, rfl, rfl⟩ := hcs
      exact ⟨zs, .inr ⟨_, rfl, hl, hm, by simpa using hz, hcell, hwz⟩⟩
  clear hA0 hval0
  refine (hw a0 len0 cap0 z0 a1 len1 cap1 z1 W w0 w1 (gl hL hsh)).mono fun e W' ⟨he, bel⟩ => ?_
  subst he
  exact ⟨_, rfl, _, _, _, [], _, [], hW', trodAll_mk1 (shut_bool Tryz.underlying4 _), (trodAll_cons_mk (Below.trod laidOut (by kernel_rfl) (of_decide_eq_true (by kernel_rfl)) k0 bel lt0) (trodAll_cons_mk (Below.trod laidOut (by kernel_rfl) (of_decide_eq_true (by kernel_rfl)) k1 bel lt1) trodAll_mk0)), rfl, bel.frame _, fun h => by cases h⟩

/-- The door's own heap meets the condition. -/
theorem door_met (os : Os) : laidMet Tryz.prog Rows.labelMeansRow.laid ((World.laidAll Tryz.prog os Rows.labelMeansRow.laid).forCall (fun _ _ => 0) ⟨#[], #[.slice none 0 0, .slice none 0 0], []⟩).memory :=
  laidMet_laidAll _ (by kernel_rfl) (by kernel_rfl)
theorem reads (os : Os) {H : Type} (enc : TypeId × Value → H) : ∃ places, DataW.whole enc Tryz.prog ((World.laidAll Tryz.prog os Rows.labelMeansRow.laid).forCall (fun _ _ => 0) ⟨#[], #[.slice none 0 0, .slice none 0 0], []⟩).memory Tryz.f6.params.toList Rows.labelMeansSpec.vars false #[Value.slice none 0 0, Value.slice none 0 0].toList 8 = some ([.nil, .nil], [], places) :=
  ⟨[], by kernel_rfl⟩

set_option maxRecDepth 100000 in
theorem lifted (hw : Walks) (os : Os) (started : os.Started) (H : Type) (enc : TypeId × Value → H) (F : Stop.Interp) :
    ReturnsInHanded {} Tryz.checked os 6 .any ((OpenSpec.ofChange Rows.labelMeansSpec).preRow enc Tryz.prog Tryz.f6 Rows.labelMeansRow.domain false Rows.labelMeansRow.laid) (((OpenSpec.ofChange Rows.labelMeansSpec).at F).post enc Tryz.prog Tryz.f6 false true false false) := by
  obtain ⟨places, hx⟩ := reads os enc
  refine returnsInHanded_of_row (C := Tryz.checked) (s := OpenSpec.ofChange Rows.labelMeansSpec) own started (by kernel_rfl) Tryz.func6
    (witness_row_at (enc := enc) (C := Tryz.checked) false (World.laidAll Tryz.prog os Rows.labelMeansRow.laid) #[.slice none 0 0, .slice none 0 0] (World.laidAll_os _ _ _) (by kernel_rfl) (by kernel_rfl) (by kernel_rfl)
      (OpenSpec.preRow_of_cond 8 hx (by kernel_rfl) (fun k hk => by cases hk) (by kernel_rfl) (door_met os))) ?_
  intro W base args ds gs before hval hW _ _ _ hL hsh _
  exact contract hw H enc W base args ds gs before hval hW hL hsh

theorem said (hw : Walks) : Rows.LabelMeansSaid :=
  OpenClaim.holds_of_cond 6 Tryz.f6 rfl rfl rfl rfl rfl rfl rfl ⟨rfl, rfl, rfl, rfl, rfl⟩ rfl rfl rfl rfl rfl (by kernel_rfl) Tryz.func6 (by kernel_rfl)
    (of_decide_eq_true (by kernel_rfl)) (by unfold Func.isWrapper; first | (rw [if_pos (by decide +kernel)]; kernel_rfl) | (rw [if_neg (by decide +kernel)]; exact ⟨rfl, rfl⟩))
    (fun os started H enc _ F => by rw [OpenClaim.pre_eq_preRow]; exact lifted hw os started H enc F)

/-- No parameter wants a stand-in; the program's own looks are off. -/
theorem plain (f : FuncId) (fn : Func) (hf : Tryz.pinned.checked.prog.funcNamed "cordon/cordonlaw09.LabelMeans" = some f) (hfn : Tryz.pinned.checked.prog.funcs[f]? = some fn) :
    false = Tryz.pinned.checked.prog.looks [] ∧ ∀ (j : Nat) t, fn.params[j]? = some t → Tryz.pinned.checked.prog.wantsStandIn t = false := by
  obtain rfl : f = 6 := Option.some.inj ((show Tryz.prog.funcNamed "cordon/cordonlaw09.LabelMeans" = some 6 by kernel_rfl).symm.trans hf) |>.symm
  obtain rfl : fn = Tryz.f6 := (Option.some.inj (Tryz.func6.symm.trans hfn)).symm
  refine ⟨by kernel_rfl, fun j t ht => ?_⟩
  rw [Tryz.params6] at ht
  obtain rfl : t = 22 := by simpa using Array.mem_of_getElem? ht
  exact (show Tryz.prog.wantsStandIn 22 = false by kernel_rfl)

/-- The card, given the walk. -/
theorem card (hw : Walks) : Rows.LabelMeansCardSaid :=
  Claim7.holds_tied_plain_at .later [] _ _ _ _ (said hw) (fun _ h => by cases h) (by kernel_rfl) (fun _ h => by cases h) labelMeans_row_tie rfl ⟨rfl, rfl⟩ (by kernel_rfl) rfl plain (by kernel_rfl)

end Go.Proofs.YtdlofjcblcpgpaaGreatDoor.labelMeans

namespace Go.Proofs.YtdlofjcblcpgpaaGreatDoor.Ref
open Go.RowKit Go.Shelf

/-- A text as a value. -/
def strV (x : List UInt8) : Value := .string ⟨x.toArray⟩
end Go.Proofs.YtdlofjcblcpgpaaGreatDoor.Ref

namespace Go.Proofs.YtdlofjcblcpgpaaGreatDoor.Frm
set_option linter.unusedVariables false

theorem sort_same {α : Type} [LT α] [DecidableEq α] [DecidableLT α] [LE α] [Std.IsLinearOrder α] [Std.LawfulOrderLT α] (l : List α) (h : Rises l) : sortR l = l := rises_ext (sort_rises l) h fun a => mem_sort a l
theorem red_same (f : List (List (List UInt8))) (h : Canon f) : redL f = f :=
  rises_ext (sort_rises _) h.rise fun a => (mem_red f a).trans ⟨fun k => k.1, fun k => ⟨k, fun y hy hs => h.red y hy a k hs⟩⟩
end Go.Proofs.YtdlofjcblcpgpaaGreatDoor.Frm

namespace Go.Proofs.YtdlofjcblcpgpaaGreatDoor.Url

theorem digit_nat (d : Nat) (h : d < 10) : (UInt8.ofNat (48 + d)).toNat = 48 + d ∧ Ref.decB (UInt8.ofNat (48 + d)) = true := by
  have h1 : (UInt8.ofNat (48 + d)).toNat = 48 + d := by rw [UInt8.toNat_ofNat']; omega
  exact ⟨h1, (Ref.decB_of _).2 (by omega)⟩
theorem dig_dec (n : Nat) : ∀ b ∈ digL n, Ref.decB b = true := by
  induction n using Nat.strongRecOn with
  | ind n ih =>
    intro b hb
    by_cases h : n < 10
    · rw [dig_small n h, List.mem_singleton] at hb; rw [hb]; exact (digit_nat n h).2
    · rw [dig_big n h, List.mem_append, List.mem_singleton] at hb
      rcases hb with hb | hb
      · exact ih (n / 10) (by omega) b hb
      · rw [hb]; exact (digit_nat _ (by omega)).2
end Go.Proofs.YtdlofjcblcpgpaaGreatDoor.Url

namespace Go.Proofs.YtdlofjcblcpgpaaGreatDoor.Url

theorem split_ahead (c : UInt8) (x : List UInt8) : c ∉ x → ∀ t, Ref.splitL c (x ++ c :: t) = x :: Ref.splitL c t := by
  induction x with
  | nil => intro _ t; exact Ref.split_is c t
  | cons b r ih =>
    intro h t
    have hb : b ≠ c := fun e => h (by simp [e])
    rw [List.cons_append, Ref.split_not c b _ hb, ih (fun e => h (by simp [e])) t]; rfl
theorem split_none (c : UInt8) (x : List UInt8) : c ∉ x → Ref.splitL c x = [x] := by
  induction x with
  | nil => intro _; rfl
  | cons b r ih =>
    intro h
    have hb : b ≠ c := fun e => h (by simp [e])
    rw [Ref.split_not c b _ hb, ih (fun e => h (by simp [e]))]; rfl
end Go.Proofs.YtdlofjcblcpgpaaGreatDoor.Url

namespace Go.Proofs.YtdlofjcblcpgpaaGreatDoor.Url

theorem host_no (h : List UInt8) (hp : Host.parseE h = 0) (d : UInt8) (h1 : Host.hostByte d = false) (h2 : d ≠ 46) : d ∉ h := fun hd => by
  rcases host_bytes h hp d hd with h | h
  · rw [h1] at h; cases h
  · exact h2 h
theorem port_no (u : U) (d : UInt8) (hd : Ref.decB d = false) (h : d ≠ 58) : d ∉ portT u := by
  unfold portT
  split
  · simp
  · intro hm
    rcases List.mem_cons.1 hm with hm | hm
    · exact h hm
    · rw [dig_dec _ d hm] at hd; cases hd

end Go.Proofs.YtdlofjcblcpgpaaGreatDoor.Url

namespace Go.Proofs.YtdlofjcblcpgpaaGreatDoor.Org
open Url
set_option linter.unusedVariables false

/-- What may not stand in a server's name and port. -/
theorem name_no (u : U) (h : Ok u) (d : UInt8) (h1 : Host.hostByte d = false) (h2 : d ≠ 46) (h3 : Ref.decB d = false) (h4 : d ≠ 58) : d ∉ u.host ++ portT u := by
  rw [List.mem_append, not_or]
  exact ⟨host_no u.host h.host d h1 h2, port_no u d h3 h4⟩

end Go.Proofs.YtdlofjcblcpgpaaGreatDoor.Org

namespace Go.Proofs.YtdlofjcblcpgpaaGreatDoor
open Go.RowKit Go.Shelf
attribute [local go_sem] Oper.semAt_some

/-- A text as a value. -/
def strV (x : List UInt8) : Value := .string ⟨x.toArray⟩
end Go.Proofs.YtdlofjcblcpgpaaGreatDoor

namespace Go.Proofs.YtdlofjcblcpgpaaGreatDoor
open Go.RowKit Go.Shelf

/-- How a list of texts lies. -/
def StrsIn (w : World) (p : Option Addr) (n : Nat) (xs : List (List UInt8)) : Prop :=
  0 < n → ∃ b o, p = some ⟨b, o, none⟩ ∧ ∀ i, i < n → w.cell? ⟨b, o + i, none⟩ = some (strV (xs.getD i []))
def sameL (xs ys : List (List UInt8)) : Bool := decide (xs = ys)
theorem drop_consS (l : List (List UInt8)) (k : Nat) (h : k < l.length) : l.drop k = l.getD k [] :: l.drop (k + 1) := by
  rw [List.drop_eq_getElem_cons h]
  simp [List.getD, List.getElem?_eq_getElem h]

set_option maxHeartbeats 1000000 in
theorem Same_any (p1 p2 : Option Addr) (n c m d : Nat) (xs ys : List (List UInt8)) (w : World) (hx : xs.length = n) (hy : ys.length = m) (hn : n ≤ 140737488355328) (hm : m ≤ 140737488355328) (h1 : StrsIn w p1 n xs) (h2 : StrsIn w p2 m ys) :
    Calls Tryz.prog 63 #[.slice p1 n c, .slice p2 m d] w fun e w' => e = .returned (.bool (sameL xs ys)) ∧ ∃ q, w' = w.drewN q := by
  by_cases hnm : n = m
  · subst hnm
    have e0 : ((n : Int) != (n : Int)) = false := by simp
    go_enter Tryz.func63, Tryz.ntmps63
    go_wp2
    go_loopw [13] (fun i wr => ∃ k q : Nat, k ≤ n ∧ i = .int .i64 k ∧ wr = w.drewN q ∧ Hid (sameL xs ys = sameL (xs.drop k) (ys.drop k))) (fun i _ => n - (intOf i).toNat)
    case atStart => exact ⟨0, 0, Nat.zero_le _, rfl, rfl, rfl⟩
    case round =>
      obtain ⟨k, q, hk, rfl, rfl, HR⟩ := hrel
      by_cases hlt : k < n
      · obtain ⟨b1, o1, rfl, hc1⟩ := h1 (by omega)
        obtain ⟨b2, o2, rfl, hc2⟩ := h2 (by omega)
        have c1 := hc1 k hlt
        have c2 := hc2 k hlt
        have d1 := drop_consS xs k (by omega)
        have d2 := drop_consS ys k (by omega)
        clear hc1 hc2 h1 h2 e0
        generalize xs.getD k [] = x at c1 d1
        generalize ys.getD k [] = y at c2 d2
        unfold strV at c1 c2
        by_cases hxy : x = y
        · subst hxy
          have HR2 := Lib.hid (show sameL xs ys = sameL (xs.drop (k + 1)) (ys.drop (k + 1)) by rw [HR.out, d1, d2]; unfold sameL; simp)
          clear d1 d2 HR
          go_wp2
          go_quiet (fail)
          go_wp2
          go_roundw
          case rel => exact ⟨k + 1, q + nq, by omega, by go_num, rfl, HR2⟩
          case measure => simp [intOf]; omega
        · have hne' : (x == y) = false := by rw [beq_eq_false_iff_ne]; exact hxy
          have H := Lib.hid (show sameL xs ys = false by rw [HR.out, d1, d2]; unfold sameL; simp [hxy])
          clear d1 d2 HR hxy
          go_wp2
          go_quiet (fail)
          go_wp2
          go_ret
          exact ⟨(by rw [H.out]; try rfl), q + nq, by simp [World.drewN, Nat.add_assoc]⟩
      · have H := Lib.hid (show sameL xs ys = true by rw [HR.out, List.drop_of_length_le (by omega), List.drop_of_length_le (by omega)]; rfl)
        go_wp2
        go_ret
        exact ⟨(by rw [H.out]; try rfl), q, rfl⟩
  · have e0 : ((n : Int) != (m : Int)) = true := by rw [bne_iff_ne]; omega
    have H := Lib.hid (show sameL xs ys = false by unfold sameL; rw [decide_eq_false_iff_not]; intro h; apply hnm; rw [← hx, ← hy, h])
    go_enter Tryz.func63, Tryz.ntmps63
    go_wp2
    go_ret
    exact ⟨(by rw [H.out]; try rfl), 0, rfl⟩

end Go.Proofs.YtdlofjcblcpgpaaGreatDoor

namespace Go.Proofs.YtdlofjcblcpgpaaGreatDoor.Cls
open Url Org
set_option linter.unusedVariables false

theorem prin_text (t : List UInt8) (h : prinB t = true) : (∃ n : Nat, 1 ≤ n ∧ n ≤ 9223372036854775807 ∧ t = closedS ++ digL n) ∨ ∃ u, Ok u ∧ t = placeU u := by
  unfold prinB at h
  split at h
  · rename_i x hx
    have ht := (of_decide_eq_true h).symm
    rcases Q_in _ t x hx with ⟨n, rfl, h1, h2⟩ | ⟨u, rfl, hu⟩
    · exact .inl ⟨n, h1, h2, ht⟩
    · exact .inr ⟨u, parse_ok t u hu, ht⟩
  · cases h
/-- What stands in no principal. -/
theorem prin_no (t : List UInt8) (h : prinB t = true) (d : UInt8) (h1 : Host.hostByte d = false) (h2 : d ≠ 46) (h3 : Ref.decB d = false) (h4 : d ≠ 58) (h5 : d ≠ 47) (h6 : d ∉ closedS) (h7 : d ∉ httpsS) : d ∉ t := by
  rcases prin_text t h with ⟨n, _, _, rfl⟩ | ⟨u, hu, rfl⟩
  · rw [List.mem_append, not_or]
    refine ⟨h6, fun hd => ?_⟩
    rw [dig_dec n d hd] at h3; cases h3
  · have h8 : d ∉ u.scheme := by
      rcases hu.scheme with hs | hs <;> rw [hs]
      · intro hd
        apply h7
        unfold httpS at hd; unfold httpsS
        simp only [List.mem_cons, List.not_mem_nil, or_false] at hd ⊢
        rcases hd with hd | hd | hd | hd <;> simp [hd]
      · exact h7
    have := name_no u hu d h1 h2 h3 h4
    rw [List.mem_append, not_or] at this
    unfold placeU
    simp only [List.mem_append, not_or]
    exact ⟨⟨⟨h8, by simp [h4, h5]⟩, this.1⟩, this.2⟩
theorem prin_colon (t : List UInt8) (h : prinB t = true) : (58 : UInt8) ∈ t := by
  rcases prin_text t h with ⟨n, _, _, rfl⟩ | ⟨u, hu, rfl⟩
  · simp [closedS]
  · unfold placeU; simp
/-- A text that may stand between bars: not empty, no bar, no blank. -/
structure Part (p : List UInt8) : Prop where
  ne : p ≠ []
  bar : (124 : UInt8) ∉ p
  blank : ∀ b ∈ p, blankB b = false
  colon : (58 : UInt8) ∈ p
theorem prin_part (t : List UInt8) (h : prinB t = true) : Part t := by
  have hc := prin_colon t h
  refine ⟨fun e => (by rw [e] at hc; cases hc), prin_no t h 124 (by decide) (by decide) (by decide) (by decide) (by decide) (by decide) (by decide), fun b hb => ?_, hc⟩
  have n1 := prin_no t h 32 (by decide) (by decide) (by decide) (by decide) (by decide) (by decide) (by decide)
  have n2 := prin_no t h 9 (by decide) (by decide) (by decide) (by decide) (by decide) (by decide) (by decide)
  have d1 : b ≠ 32 := fun e => n1 (e ▸ hb)
  have d2 : b ≠ 9 := fun e => n2 (e ▸ hb)
  unfold blankB; simp [d1, d2]
theorem drop_blank (a l : List UInt8) (ha : ∀ b ∈ a, blankB b = true) (hl : ∀ b, l.head? = some b → blankB b = false) : (a ++ l).dropWhile blankB = l := by
  induction a with
  | nil =>
    cases l with
    | nil => rfl
    | cons x r => rw [List.nil_append, List.dropWhile_cons, if_neg (by rw [hl x rfl]; simp)]
  | cons x r ih =>
    rw [List.cons_append, List.dropWhile_cons, if_pos (ha x (by simp))]
    exact ih fun b hb => ha b (by simp [hb])
theorem trim_pad (a p c : List UInt8) (hp : p ≠ []) (hb : ∀ b ∈ p, blankB b = false) (ha : ∀ b ∈ a, blankB b = true) (hc : ∀ b ∈ c, blankB b = true) : trimB (a ++ p ++ c) = p := by
  unfold trimB
  rw [List.append_assoc, drop_blank a (p ++ c) ha, List.reverse_append, drop_blank, List.reverse_reverse]
  · intro b h; exact hc b (List.mem_reverse.1 h)
  · intro b h; exact hb b (List.mem_reverse.1 (List.mem_of_mem_head? h))
  · intro b h
    cases p with
    | nil => exact absurd rfl hp
    | cons x r =>
      obtain rfl : x = b := by simpa using h
      exact hb x (by simp)
/-- What is no blank stays. -/
theorem trim_keeps (l : List UInt8) (b : UInt8) (hb : blankB b = false) (h : b ∈ l) : b ∈ trimB l := by
  have keep : ∀ m : List UInt8, b ∈ m → b ∈ m.dropWhile blankB := fun m => by
    induction m with
    | nil => intro h; cases h
    | cons x r ih =>
      intro h
      rw [List.dropWhile_cons]
      split
      · rename_i hx
        rcases List.mem_cons.1 h with rfl | h
        · rw [hb] at hx; cases hx
        · exact ih h
      · exact h
  unfold trimB
  exact List.mem_reverse.2 (keep _ (List.mem_reverse.2 (keep _ h)))

theorem cls_colon (ps : List (List UInt8)) (hn : ps ≠ []) (h : ∀ p ∈ ps, Part p) : (58 : UInt8) ∈ clsT ps := by
  cases ps with
  | nil => exact absurd rfl hn
  | cons p r => exact List.mem_append.2 (.inl (h p (by simp)).colon)
end Go.Proofs.YtdlofjcblcpgpaaGreatDoor.Cls

namespace Go.Proofs.YtdlofjcblcpgpaaGreatDoor.Cls
open Url Org Frm
set_option linter.unusedVariables false

theorem never_trim (a c : List UInt8) (ha : ∀ b ∈ a, blankB b = true) (hc : ∀ b ∈ c, blankB b = true) : trimB (a ++ neverS ++ c) = neverS :=
  trim_pad a neverS c (by decide) (by decide) ha hc
/-- The pieces of a clause's text with blanks about it. -/
def barsL (pre post : List UInt8) : List (List UInt8) → List (List UInt8)
  | [] => []
  | [p] => [pre ++ p ++ post]
  | p :: q :: r => (pre ++ p ++ [32]) :: barsL [32] post (q :: r)
theorem split_pad (post : List UInt8) (hpost : (124 : UInt8) ∉ post) : ∀ (ps : List (List UInt8)) (pre : List UInt8), ps ≠ [] → (∀ p ∈ ps, (124 : UInt8) ∉ p) → (124 : UInt8) ∉ pre → Ref.splitL 124 (pre ++ clsT ps ++ post) = barsL pre post ps
  | [], _, h, _, _ => absurd rfl h
  | [p], pre, _, h, hpre => by
    have hn : (124 : UInt8) ∉ pre ++ p ++ post := by simp only [List.mem_append, not_or]; exact ⟨⟨hpre, h p (by simp)⟩, hpost⟩
    show Ref.splitL 124 (pre ++ (p ++ []) ++ post) = _
    rw [List.append_nil, split_none 124 _ hn]; rfl
  | p :: q :: r, pre, _, h, hpre => by
    have ih := split_pad post hpost (q :: r) [32] (by simp) (fun x hx => h x (by simp [hx])) (by decide)
    have hn : (124 : UInt8) ∉ pre ++ p ++ [32] := by
      simp only [List.mem_append, not_or]
      exact ⟨⟨hpre, h p (by simp)⟩, by decide⟩
    have e : pre ++ clsT (p :: q :: r) ++ post = (pre ++ p ++ [32]) ++ 124 :: ([32] ++ clsT (q :: r) ++ post) := by
      simp [clsT]
    rw [e, split_ahead 124 _ hn, ih]; rfl
theorem trim_barsL (post : List UInt8) (hpost : ∀ b ∈ post, blankB b = true) : ∀ (ps : List (List UInt8)) (pre : List UInt8), (∀ p ∈ ps, Part p) → (∀ b ∈ pre, blankB b = true) → (barsL pre post ps).map trimB = ps
  | [], _, _, _ => rfl
  | [p], pre, h, hpre => by
    have hp := h p (by simp)
    show [trimB (pre ++ p ++ post)] = _
    rw [trim_pad pre p post hp.ne hp.blank hpre hpost]
  | p :: q :: r, pre, h, hpre => by
    have hp := h p (by simp)
    have ih := trim_barsL post hpost (q :: r) [32] (fun x hx => h x (by simp [hx])) (by decide)
    show trimB (pre ++ p ++ [32]) :: _ = _
    rw [trim_pad pre p [32] hp.ne hp.blank hpre (by decide), ih]

theorem of_self (c : List (List UInt8)) (h : COk c) : ofC c = .inr c := by
  unfold ofC
  rw [if_pos (List.all_eq_true.2 h.prin), sort_same c h.rise, if_pos h.few]
theorem no_bar (a : List UInt8) (ha : ∀ b ∈ a, blankB b = true) (d : UInt8) (hd : blankB d = false) : d ∉ a := fun h => by rw [ha d h] at hd; cases hd
/-- A clause's text, with blanks about it or without, is parsed to it. -/
theorem parseC_text (c : List (List UInt8)) (h : COk c) (a z : List UInt8) (ha : ∀ b ∈ a, blankB b = true) (hz : ∀ b ∈ z, blankB b = true) (hl : (a ++ clsT c ++ z).length ≤ 4096) : parseC (a ++ clsT c ++ z) = .inr c := by
  unfold parseC
  rw [if_neg (by omega)]
  by_cases hc : c = []
  · subst hc
    exact if_pos (show trimB (a ++ neverS ++ z) = neverS from never_trim a z ha hz)
  · have hp : ∀ p ∈ c, Part p := fun p hp => prin_part p (h.prin p hp)
    have hne : trimB (a ++ clsT c ++ z) ≠ neverS := fun e => by
      have h1 := trim_keeps (a ++ clsT c ++ z) 58 (by decide) (List.mem_append.2 (.inl (List.mem_append.2 (.inr (cls_colon c hc hp)))))
      rw [e] at h1
      exact absurd h1 (by decide)
    rw [if_neg hne, split_pad z (no_bar z hz 124 (by decide)) c a hc (fun p hp2 => (hp p hp2).bar) (no_bar a ha 124 (by decide)), trim_barsL z hz c a hp ha, of_self c h]
/-- What stands in no clause's text. -/
theorem cls_no (c : List (List UInt8)) (h : COk c) (d : UInt8) (h0 : d ∉ neverS) (hs : d ∉ [32, 124, 32]) (h1 : Host.hostByte d = false) (h2 : d ≠ 46) (h3 : Ref.decB d = false) (h4 : d ≠ 58) (h5 : d ≠ 47) (h6 : d ∉ closedS) (h7 : d ∉ httpsS) : d ∉ clsT c := by
  cases c with
  | nil => exact h0
  | cons p r =>
    have hp : ∀ q ∈ p :: r, d ∉ q := fun q hq => prin_no q (h.prin q hq) d h1 h2 h3 h4 h5 h6 h7
    show d ∉ p ++ _
    rw [List.mem_append, not_or]
    refine ⟨hp p (by simp), fun hd => ?_⟩
    obtain ⟨q, hq, hd⟩ := List.mem_flatMap.1 hd
    rcases List.mem_append.1 hd with hd | hd
    · exact hs hd
    · exact hp q (by simp [hq]) hd

/-- What stands between the signs. -/
def andsL (pre post : List UInt8) : List (List (List UInt8)) → List (List UInt8)
  | [] => []
  | [c] => [pre ++ clsT c ++ post]
  | c :: d :: r => (pre ++ clsT c ++ [32]) :: andsL [32] post (d :: r)
theorem split_ands (post : List UInt8) (hpost : (38 : UInt8) ∉ post) : ∀ (f : List (List (List UInt8))) (pre : List UInt8), f ≠ [] → (∀ c ∈ f, (38 : UInt8) ∉ clsT c) → (38 : UInt8) ∉ pre → Ref.splitL 38 (pre ++ frmT f ++ post) = andsL pre post f
  | [], _, h, _, _ => absurd rfl h
  | [c], pre, _, h, hpre => by
    have hn : (38 : UInt8) ∉ pre ++ clsT c ++ post := by simp only [List.mem_append, not_or]; exact ⟨⟨hpre, h c (by simp)⟩, hpost⟩
    show Ref.splitL 38 (pre ++ (clsT c ++ []) ++ post) = _
    rw [List.append_nil, split_none 38 _ hn]; rfl
  | c :: d :: r, pre, _, h, hpre => by
    have ih := split_ands post hpost (d :: r) [32] (by simp) (fun x hx => h x (by simp [hx])) (by decide)
    have hn : (38 : UInt8) ∉ pre ++ clsT c ++ [32] := by
      simp only [List.mem_append, not_or]
      exact ⟨⟨hpre, h c (by simp)⟩, by decide⟩
    have e : pre ++ frmT (c :: d :: r) ++ post = (pre ++ clsT c ++ [32]) ++ 38 :: ([32] ++ frmT (d :: r) ++ post) := by
      simp [frmT]
    rw [e, split_ahead 38 _ hn, ih]; rfl
theorem ofF_self (f : List (List (List UInt8))) (h : FOk f) : ofF f = .inr f := by
  unfold ofF
  rw [red_same f h.canon, if_pos h.few]
theorem clauses_ands (post : List UInt8) (hpost : ∀ b ∈ post, blankB b = true) : ∀ (f : List (List (List UInt8))) (pre : List UInt8), (∀ c ∈ f, COk c) → (∀ b ∈ pre, blankB b = true) → (∀ x ∈ andsL pre post f, x.length ≤ 4096) → clausesL (andsL pre post f) = .inr f
  | [], _, _, _, _ => rfl
  | [c], pre, h, hpre, hl => by
    have hc := parseC_text c (h c (by simp)) pre post hpre hpost (hl _ (by simp [andsL]))
    show clausesL [pre ++ clsT c ++ post] = _
    unfold clausesL
    rw [hc]; rfl
  | c :: d :: r, pre, h, hpre, hl => by
    have hc := parseC_text c (h c (by simp)) pre [32] hpre (by decide) (hl _ (by simp [andsL]))
    have ih := clauses_ands post hpost (d :: r) [32] (fun x hx => h x (by simp [hx])) (by decide) (fun x hx => hl x (by simp [andsL, hx]))
    show clausesL ((pre ++ clsT c ++ [32]) :: andsL [32] post (d :: r)) = _
    unfold clausesL
    rw [hc]
    simp only
    rw [ih]
theorem split_le (c : UInt8) (l : List UInt8) : ∀ x ∈ Ref.splitL c l, x.length ≤ l.length := fun x hx => Ref.split_small c l x hx
theorem cls_38 (c : List (List UInt8)) (h : COk c) : (38 : UInt8) ∉ clsT c := cls_no c h 38 (by decide) (by decide) (by decide) (by decide) (by decide) (by decide) (by decide) (by decide) (by decide)
theorem cls_59 (c : List (List UInt8)) (h : COk c) : (59 : UInt8) ∉ clsT c := cls_no c h 59 (by decide) (by decide) (by decide) (by decide) (by decide) (by decide) (by decide) (by decide) (by decide)
/-- A clause's text, trimmed, is no always. -/
theorem cls_first (c : List (List UInt8)) (h : COk c) (a z : List UInt8) (ha : ∀ b ∈ a, blankB b = true) : trimB (a ++ clsT c ++ z) ≠ alwaysS := by
  intro e
  cases c with
  | nil =>
    have h1 := trim_keeps (a ++ neverS ++ z) 110 (by decide) (List.mem_append.2 (.inl (List.mem_append.2 (.inr (by decide)))))
    rw [show clsT ([] : List (List UInt8)) = neverS from rfl] at e
    rw [e] at h1
    exact absurd h1 (by decide)
  | cons p r =>
    have h1 := trim_keeps (a ++ clsT (p :: r) ++ z) 58 (by decide) (List.mem_append.2 (.inl (List.mem_append.2 (.inr (cls_colon (p :: r) (by simp) fun q hq => prin_part q (h.prin q hq))))))
    rw [e] at h1
    exact absurd h1 (by decide)
/-- A formula's text, with blanks about it or without, is parsed to it. -/
theorem parseF_text (f : List (List (List UInt8))) (h : FOk f) (a z : List UInt8) (ha : ∀ b ∈ a, blankB b = true) (hz : ∀ b ∈ z, blankB b = true) (hl : (a ++ frmT f ++ z).length ≤ 4096) : parseF (a ++ frmT f ++ z) = .inr f := by
  unfold parseF
  rw [if_neg (by omega)]
  cases f with
  | nil => exact if_pos (show trimB (a ++ alwaysS ++ z) = alwaysS from trim_pad a alwaysS z (by decide) (by decide) ha hz)
  | cons c r =>
    have hne : trimB (a ++ frmT (c :: r) ++ z) ≠ alwaysS := by
      have e : a ++ frmT (c :: r) ++ z = a ++ clsT c ++ ((r.flatMap fun d => [32, 38, 32] ++ clsT d) ++ z) := by simp [frmT]
      rw [e]
      exact cls_first c (h.each c (by simp)) a _ ha
    have hs := split_ands z (no_bar z hz 38 (by decide)) (c :: r) a (by simp) (fun x hx => cls_38 x (h.each x hx)) (no_bar a ha 38 (by decide))
    have hc := clauses_ands z hz (c :: r) a h.each ha (fun x hx => by
      rw [← hs] at hx
      exact Nat.le_trans (split_le 38 _ x hx) hl)
    rw [if_neg hne, hs, hc]
    exact ofF_self _ h
theorem frm_59 (f : List (List (List UInt8))) (h : FOk f) : (59 : UInt8) ∉ frmT f := by
  cases f with
  | nil => decide
  | cons c r =>
    show (59 : UInt8) ∉ clsT c ++ _
    rw [List.mem_append, not_or]
    refine ⟨cls_59 c (h.each c (by simp)), fun hd => ?_⟩
    obtain ⟨q, hq, hd⟩ := List.mem_flatMap.1 hd
    rcases List.mem_append.1 hd with hd | hd
    · exact absurd hd (by decide)
    · exact cls_59 q (h.each q (by simp [hq])) hd
theorem parseL_text (l : Lab) (hs : FOk l.s) (hi : FOk l.i) (hl : (labT l).length ≤ 4096) : parseL (labT l) = .inr l := by
  have n1 : (59 : UInt8) ∉ frmT l.s ++ [32] := by
    rw [List.mem_append, not_or]; exact ⟨frm_59 l.s hs, by decide⟩
  have n2 : (59 : UInt8) ∉ [32] ++ frmT l.i := by
    rw [List.mem_append, not_or]; exact ⟨by decide, frm_59 l.i hi⟩
  have e : labT l = (frmT l.s ++ [32]) ++ 59 :: ([32] ++ frmT l.i) := by simp [labT]
  have e2 := congrArg List.length e
  simp only [List.length_append, List.length_cons, List.length_nil] at e2
  have p1 := parseF_text l.s hs [] [32] (fun b hb => by cases hb) (by decide) (by simp only [List.length_append, List.length_cons, List.length_nil]; omega)
  have p2 := parseF_text l.i hi [32] [] (by decide) (fun b hb => by cases hb) (by simp only [List.length_append, List.length_cons, List.length_nil]; omega)
  rw [List.nil_append] at p1
  rw [List.append_nil] at p2
  unfold parseL
  rw [if_neg (by omega), e, split_ahead 59 _ n1, split_none 59 _ n2]
  simp only
  rw [p1, p2]

end Go.Proofs.YtdlofjcblcpgpaaGreatDoor.Cls

namespace Go.Proofs.YtdlofjcblcpgpaaGreatDoor.Frm
open Cls
set_option linter.unusedVariables false

theorem sum_sub {α : Type} [DecidableEq α] (f : α → Nat) : ∀ c l : List α, c.Nodup → (∀ x ∈ c, x ∈ l) → sumL f c ≤ sumL f l
  | [], l, _, _ => Nat.zero_le _
  | x :: c, l, hd, h => by
    rw [sumL, sum_erase f x l (h x (by simp))]
    have hd' := List.nodup_cons.1 hd
    have := sum_sub f c (l.erase x) hd'.2 fun y hy => (List.mem_erase_of_ne (fun e => hd'.1 (by rw [← e]; exact hy))).2 (h y (by simp [hy]))
    omega
theorem sum_onto (x : List UInt8) (l : List (List UInt8)) (h : l ≠ []) : sumL (fun p : List UInt8 => p.length + 1) (Ref.onto x l) = x.length + sumL (fun p : List UInt8 => p.length + 1) l := by
  cases l with
  | nil => exact absurd rfl h
  | cons p r =>
    show sumL _ ((x ++ p) :: r) = _
    rw [sumL, sumL, List.length_append]; omega
theorem sum_split (c : UInt8) : ∀ l : List UInt8, sumL (fun p : List UInt8 => p.length + 1) (Ref.splitL c l) = l.length + 1
  | [] => rfl
  | b :: r => by
    have ih := sum_split c r
    by_cases e : b = c
    · rw [e, Ref.split_is, sumL, ih]; simp; omega
    · rw [Ref.split_not c b r e, sum_onto _ _ (Ref.split_ne c r), ih]; simp; omega
theorem sum_three (l : List (List UInt8)) : sumL (fun p : List UInt8 => p.length + 3) l ≤ 3 * sumL (fun p : List UInt8 => p.length + 1) l := by
  induction l with
  | nil => simp [sumL]
  | cons p r ih => rw [sumL, sumL]; omega
theorem sum_trim (l : List (List UInt8)) (h : ∀ p : List UInt8, (trimB p).length ≤ p.length) : sumL (fun p : List UInt8 => p.length + 3) (l.map trimB) ≤ sumL (fun p : List UInt8 => p.length + 3) l := by
  induction l with
  | nil => exact Nat.le_refl _
  | cons p r ih => rw [List.map_cons, sumL, sumL]; have := h p; omega
theorem trim_small (p : List UInt8) : (trimB p).length ≤ p.length := by
  unfold trimB
  rw [List.length_reverse]
  have h1 := (List.dropWhile_sublist (l := p) Cls.blankB).length_le
  have h2 := (List.dropWhile_sublist (l := (p.dropWhile Cls.blankB).reverse) Cls.blankB).length_le
  rw [List.length_reverse] at h2
  omega
theorem flat_sum (s : List UInt8) (hs : s.length = 3) : ∀ r : List (List UInt8), (r.flatMap fun q => s ++ q).length = sumL (fun p : List UInt8 => p.length + 3) r
  | [] => rfl
  | q :: r => by rw [List.flatMap_cons, List.length_append, List.length_append, flat_sum s hs r, sumL, hs]; omega
theorem clsT_sum (c : List (List UInt8)) (hc : c ≠ []) : (clsT c).length + 3 = sumL (fun p : List UInt8 => p.length + 3) c := by
  cases c with
  | nil => exact absurd rfl hc
  | cons p r =>
    show (p ++ r.flatMap fun q => [32, 124, 32] ++ q).length + 3 = _
    rw [List.length_append, flat_sum _ rfl, sumL]; omega
theorem cls_short_text (t : List UInt8) (c : List (List UInt8)) (h : parseC t = .inr c) : (clsT c).length ≤ 3 * t.length := by
  unfold parseC at h
  split at h
  · cases h
  · split at h
    · rename_i hn
      cases h
      have h1 := trim_small t
      rw [hn] at h1
      have h2 : neverS.length = 5 := rfl
      show neverS.length ≤ _
      omega
    · obtain ⟨hok, hm⟩ := of_ok _ c h
      by_cases hc : c = []
      · subst hc
        have : ∃ p, p ∈ (Ref.splitL 124 t).map trimB := by
          cases hs : Ref.splitL 124 t with
          | nil => exact absurd hs (Ref.split_ne 124 t)
          | cons p r => exact ⟨trimB p, by simp⟩
        obtain ⟨p, hp⟩ := this
        exact absurd ((hm p).2 hp) (by simp)
      · have h1 := clsT_sum c hc
        have h2 := sum_sub (fun p : List UInt8 => p.length + 3) c _ (rises_nodup c hok.rise) fun x hx => (hm x).1 hx
        have h3 := sum_trim (Ref.splitL 124 t) trim_small
        have h4 := sum_three (Ref.splitL 124 t)
        have h5 := sum_split 124 t
        omega
theorem clauses_sum : ∀ (l : List (List UInt8)) (r : List (List (List UInt8))), clausesL l = .inr r → sumL (fun c => (clsT c).length + 3) r ≤ 3 * sumL (fun p : List UInt8 => p.length + 1) l
  | [], r, h => by cases h; exact Nat.zero_le _
  | p :: l, r, h => by
    unfold clausesL at h
    split at h
    · cases h
    · rename_i x hx
      split at h
      · cases h
      · rename_i y hy
        cases h
        have h1 := cls_short_text p x hx
        have h2 := clauses_sum l y hy
        rw [sumL, sumL]; omega
/-- The text of a formula that a text was parsed to. -/
theorem frm_short (t : List UInt8) (f : List (List (List UInt8))) (h : parseF t = .inr f) : (frmT f).length ≤ 3 * t.length + 6 := by
  unfold parseF at h
  split at h
  · cases h
  · split at h
    · cases h
      show alwaysS.length ≤ _
      rw [show alwaysS.length = 6 from rfl]; omega
    · split at h
      · cases h
      · rename_i l hl
        obtain ⟨hok, e⟩ := ofF_ok l f (clauses_ok _ l hl) h
        by_cases hf : f = []
        · subst hf
          show alwaysS.length ≤ _
          rw [show alwaysS.length = 6 from rfl]; omega
        · have h1 := frmT_sum f hf
          have h2 := sum_sub (fun c => (clsT c).length + 3) f l (rises_nodup f hok.canon.rise) fun x hx => by rw [e] at hx; exact ((mem_red l x).1 hx).1
          have h3 := clauses_sum _ l hl
          have h4 := sum_split 38 t
          omega
end Go.Proofs.YtdlofjcblcpgpaaGreatDoor.Frm

namespace Go.Proofs.YtdlofjcblcpgpaaGreatDoor.Frm
open Cls
set_option linter.unusedVariables false

def impK (f g : List (List (List UInt8))) (names : List (List UInt8)) (k : Nat) : Bool := (List.range k).all fun s => !holdsB f (setB names s) || holdsB g (setB names s)
theorem impK_succ (f g : List (List (List UInt8))) (names : List (List UInt8)) (k : Nat) : impK f g names (k + 1) = (impK f g names k && (!holdsB f (setB names k) || holdsB g (setB names k))) := by
  unfold impK; rw [List.range_succ, List.all_append]; simp
end Go.Proofs.YtdlofjcblcpgpaaGreatDoor.Frm

namespace Go.Proofs.YtdlofjcblcpgpaaGreatDoor.Frm
open Cls
set_option linter.unusedVariables false

theorem parse_lab_short (t : List UInt8) (h : t.length ≤ 400) : (frmT (labV (parseL t)).s).length ≤ 1206 ∧ (frmT (labV (parseL t)).i).length ≤ 1206 := by
  have hal : (frmT []).length ≤ 1206 := by show alwaysS.length ≤ _; rw [show alwaysS.length = 6 from rfl]; omega
  cases hp : parseL t with
  | inl n => exact ⟨hal, hal⟩
  | inr l =>
    rcases (parseL_cases t l hp).2 with ⟨s, hs, h1, h2⟩ | ⟨s, i, hs, h1, h2⟩
    · have k1 := Ref.split_small 59 t s (by rw [hs]; simp)
      have k2 := frm_short s _ h1
      refine ⟨?_, ?_⟩
      · show (frmT l.s).length ≤ _; omega
      · show (frmT l.i).length ≤ _; rw [h2]; exact hal
    · have k1 := Ref.split_small 59 t s (by rw [hs]; simp)
      have k2 := frm_short s _ h1
      have k3 := Ref.split_small 59 t i (by rw [hs]; simp)
      have k4 := frm_short i _ h2
      refine ⟨?_, ?_⟩
      · show (frmT l.s).length ≤ _; omega
      · show (frmT l.i).length ≤ _; omega
theorem lab_text (l : Lab) (h : LOk l) (hl : (labT l).length ≤ 4096) : parseL (labT l) = .inr l := parseL_text l h.s h.i hl
theorem lab_len (l : Lab) : (labT l).length = (frmT l.s).length + 3 + (frmT l.i).length := by unfold labT; simp only [List.length_append, List.length_cons, List.length_nil]

/-! ### joins and meets, with their errors -/
/-! ### flowing, set by set -/
theorem impK_names (f g : List (List (List UInt8))) (names : List (List UInt8)) (hd : names.Nodup) (hf : ∀ c ∈ f, ∀ p ∈ c, p ∈ names) (hg : ∀ c ∈ g, ∀ p ∈ c, p ∈ names) : impK f g names (2 ^ names.length) = impB f g := by
  rw [Bool.eq_iff_iff, imp_names names hd f g hf hg]
  unfold impK
  rw [List.all_eq_true]
  constructor
  · intro h s hs k
    have := h s (List.mem_range.2 hs)
    rw [k] at this; simpa using this
  · intro h s hs
    cases k : holdsB f (setB names s) with
    | false => rfl
    | true => rw [h s (List.mem_range.1 hs) k]; rfl
def flowK (l o : Lab) (names : List (List UInt8)) (k : Nat) : Bool := impK o.s l.s names k && impK l.i o.i names k
theorem flowK_zero (l o : Lab) (names : List (List UInt8)) : flowK l o names 0 = true := rfl
theorem flowK_succ (l o : Lab) (names : List (List UInt8)) (k : Nat) : flowK l o names (k + 1) = (flowK l o names k && (!holdsB o.s (setB names k) || holdsB l.s (setB names k)) && (!holdsB l.i (setB names k) || holdsB o.i (setB names k))) := by
  unfold flowK
  rw [impK_succ, impK_succ]
  generalize impK o.s l.s names k = a
  generalize impK l.i o.i names k = b
  generalize (!holdsB o.s (setB names k) || holdsB l.s (setB names k)) = c
  generalize (!holdsB l.i (setB names k) || holdsB o.i (setB names k)) = d
  cases a <;> cases b <;> cases c <;> cases d <;> rfl
/-- All principals of some formulas, rising. -/
def namesA (fs : List (List (List (List UInt8)))) : List (List UInt8) := sortR fs.flatten.flatten
theorem namesA_nodup (fs : List (List (List (List UInt8)))) : (namesA fs).Nodup := rises_nodup _ (sort_rises _)
theorem namesA_mem (fs : List (List (List (List UInt8)))) (f : List (List (List UInt8))) (hf : f ∈ fs) : ∀ c ∈ f, ∀ p ∈ c, p ∈ namesA fs := fun c hc p hp => (mem_sort p _).2 (List.mem_flatten.2 ⟨c, List.mem_flatten.2 ⟨f, hf, hc⟩, hp⟩)
theorem flowK_all (l o : Lab) : flowK l o (namesA [l.s, l.i, o.s, o.i]) (2 ^ (namesA [l.s, l.i, o.s, o.i]).length) = flowsB l o := by
  unfold flowK flowsB
  have hm := namesA_mem [l.s, l.i, o.s, o.i]
  have hd := namesA_nodup [l.s, l.i, o.s, o.i]
  rw [impK_names o.s l.s _ hd (hm _ (by simp)) (hm _ (by simp)), impK_names l.i o.i _ hd (hm _ (by simp)) (hm _ (by simp))]

/-! ### one principal -/
theorem one_canon (c : List (List UInt8)) (h : COk c) : Canon [c] :=
  ⟨Rises.cons (fun y hy => (by cases hy)) Rises.nil, fun d hd => (by rw [List.mem_singleton.1 hd]; exact h.rise), fun x hx y hy _ => (by rw [List.mem_singleton.1 hx, List.mem_singleton.1 hy])⟩
theorem one_ok (c : List (List UInt8)) (h : COk c) : FOk [c] := ⟨one_canon c h, fun d hd => (by rw [List.mem_singleton.1 hd]; exact h), by simp⟩
theorem one_frmT (p : List UInt8) : frmT [[p]] = p := by simp [frmT, clsT]
end Go.Proofs.YtdlofjcblcpgpaaGreatDoor.Frm

namespace Go.Proofs.YtdlofjcblcpgpaaGreatDoor.Frm
open Cls Url
set_option linter.unusedVariables false

theorem at_mid (c : UInt8) (x y : List UInt8) (hx : c ∉ x) : atFst c (x ++ c :: y) = x ∧ atSnd c (x ++ c :: y) = y := by
  have hi : Lib.indexByte (x ++ c :: y) c = (x.length : Int) := index_at _ _ _ (by simp) (by simp [List.getD]) fun j hj => by
    intro e
    apply hx
    rw [← e, List.getD, List.getElem?_append_left hj, List.getElem?_eq_getElem hj]
    exact List.getElem_mem hj
  obtain ⟨h1, h2, h3⟩ := at_found c _ _ hi
  rw [h1, h2]
  simp
/-- A label's text, cut at its sign. -/
theorem text_cut (l : Lab) (h : LOk l) : atFst 59 (labT l) = frmT l.s ++ [32] ∧ atSnd 59 (labT l) = [32] ++ frmT l.i := by
  have n1 : (59 : UInt8) ∉ frmT l.s ++ [32] := by
    rw [List.mem_append, not_or]; exact ⟨frm_59 l.s h.s, by decide⟩
  have e : labT l = (frmT l.s ++ [32]) ++ 59 :: ([32] ++ frmT l.i) := by simp [labT]
  rw [e]
  exact at_mid 59 _ _ n1
end Go.Proofs.YtdlofjcblcpgpaaGreatDoor.Frm

namespace Go.Proofs.YtdlofjcblcpgpaaGreatDoor.Frm
open Go.RowKit Go.Shelf Go.Sort Url Org Cls
attribute [local go_sem] Oper.semAt_some
set_option linter.unusedVariables false

/-- The formula of one principal. -/
def singleR (p : List UInt8) : Sum Int (List (List (List UInt8))) := match ofC [p] with
  | .inl e => .inl e
  | .inr c => ofF [c]
theorem ofC_no (l : List (List UInt8)) (n : Int) (h : ofC l = .inl n) : n = 2 ∨ n = 3 := by
  unfold ofC at h
  split at h
  · split at h
    · cases h
    · cases h; exact .inr rfl
  · cases h; exact .inl rfl


set_option maxRecDepth 100000 in
set_option maxHeartbeats 8000000 in
theorem Single_any (p : List UInt8) (w : World) (hl : p.length ≤ 1300) (hG : Gl w) :
    Calls Tryz.prog 50 #[.string ⟨p.toArray⟩] w (FrmOut (singleR p) w) := by
  obtain ⟨W1, hW1⟩ : ∃ W1, (w.alloc (.cells #[.slice none 0 0] 26)).alloc (.cells #[.string ⟨p.toArray⟩] 9) = W1 := ⟨_, rfl⟩
  have A1 : Below w.heap.size w W1 := hW1 ▸ ((Below.refl _ w).alloc (Nat.le_refl _) _).alloc (by simp) _
  have b1 : Boxed W1 w.heap.size 26 (.slice none 0 0) := hW1 ▸ (Boxed.new w _ _).alloc _
  have bp : Boxed W1 (w.heap.size + 1) 9 (.string ⟨p.toArray⟩) := by
    have := Boxed.new (w.alloc (.cells #[.slice none 0 0] 26)) 9 (.string ⟨p.toArray⟩)
    rw [World.size_alloc] at this
    exact hW1 ▸ this
  have hsl : SlIn encStr W1 (some ⟨w.heap.size + 1, 0, none⟩) 1 [p] := ⟨rfl, fun _ => ⟨_, _, rfl, bp.lt, fun i x hx => by
    cases i with
    | zero => cases hx; exact bp.cell
    | succ i => simp at hx⟩⟩
  have con := Cls.Of_new (some ⟨w.heap.size + 1, 0, none⟩) 1 1 [p] W1 hsl (fun h => by cases h) (by decide) (fun t ht => by rw [List.mem_singleton.1 ht]; exact hl) (hG.on A1)
  have HW1 := Lib.hid hW1
  clear hW1 hsl bp hG hl
  go_enter Tryz.func50, Tryz.ntmps50
  go_wp2_with fail
  rw [HW1.out]
  refine con.mono ?_
  rintro e w2 ⟨q2, n2, c2, rfl, hs2, hq2, hb2⟩
  have kb := Keep.of_below hb2
  have A2 := A1.trans (hb2.mono A1.size)
  have b2 := (kb.boxed b1 b1.lt).alloc (.cells #[.slice q2 n2 c2] 82)
  have kf := b2.frozen
  have kc := b2.cell
  have hsA := A1.size
  have hlt1 := b1.lt
  have hs12 := hb2.size
  clear con
  cases hc : ofC [p] with
  | inl en =>
    have hne : en ≠ 0 := by rcases ofC_no _ en hc with h | h <;> omega
    have d2 : ((en : Int) != 0) = true := by unfold bne; rw [beq_eq_false_iff_ne.2 hne]; rfl
    have HR := Lib.hid (show singleR p = .inl en by unfold singleR; rw [hc])
    have A3 := (A2.alloc A2.size (.cells #[.slice q2 n2 c2] 82)).setCell (p := ⟨w.heap.size, 0, none⟩) (by simp) (.slice none 0 0)
    clear hne hc hs2
    unfold errC
    go_wp2
    refine bodyPost_ret (ret_frm2 rfl _ _ w.heap.size _ rfl (b2.set _)) rfl ?_
    rw [HR.out]
    exact ⟨none, 0, 0, rfl, frm_nil _, (fun a h => by cases h), A3⟩
  | inr cv =>
    rw [hc] at hs2
    replace hs2 : SetIs encStr w2 (.agg #[.slice q2 n2 c2]) cv := hs2
    have hfew := (of_ok _ cv hc).1.few
    have HR := Lib.hid (show singleR p = ofF [cv] by unfold singleR; rw [hc])
    obtain ⟨W3, hW3⟩ : ∃ W3, (w2.alloc (.cells #[.slice q2 n2 c2] 82)).alloc (.cells #[.slice q2 n2 c2] 82) = W3 := ⟨_, rfl⟩
    have hk3 : Below w2.heap.size w2 W3 := hW3 ▸ ((Below.refl _ w2).alloc (Nat.le_refl _) _).alloc (by simp) _
    have b3 : Boxed W3 w.heap.size 26 (.slice none 0 0) := hW3 ▸ b2.alloc _
    have bc : Boxed W3 (w2.heap.size + 1) 82 (.slice q2 n2 c2) := by
      have := Boxed.new (w2.alloc (.cells #[.slice q2 n2 c2] 82)) 82 (.slice q2 n2 c2)
      rw [World.size_alloc] at this
      exact hW3 ▸ this
    have A3 := A2.trans (hk3.mono A2.size)
    have hcl : ClsIn W3 (some ⟨w2.heap.size + 1, 0, none⟩) 1 [cv] := ⟨[((q2, n2, c2), cv)], ⟨rfl, fun _ => ⟨_, _, rfl, bc.lt, fun i x hx => by
      cases i with
      | zero => cases hx; exact bc.cell
      | succ i => simp at hx⟩⟩, fun z hz => by rw [List.mem_singleton.1 hz]; exact (⟨hs2, hfew⟩ : ClAt w2 ((q2, n2, c2), cv)).below hk3, rfl⟩
    have con2 := Of_any (some ⟨w2.heap.size + 1, 0, none⟩) 1 1 [cv] W3 hcl (fun h => by cases h) (by decide)
    have HW3 := Lib.hid hW3
    rw [← HR.out] at con2
    clear hc hs2 hW3 hcl bc kf kc b2
    unfold errC
    go_wp2_with fail
    rw [HW3.out]
    refine con2.mono ?_
    rintro e w4 ⟨q4, n4, c4, rfl, hs4, hq4, hb4⟩
    have b4 := (Keep.of_below hb4).boxed b3 b3.lt
    have A4 := A3.trans (hb4.mono A3.size)
    have kf := b4.frozen
    have kc := b4.cell
    have hb3l := b3.lt
    clear con2
    go_wp2
    refine bodyPost_ret (ret_frm2 rfl _ _ w.heap.size _ rfl (b4.set _)) rfl ?_
    exact ⟨q4, n4, c4, rfl, hs4.set b4 (fun x h => by cases h) (fun a ha => by have := hq4 a ha; omega), (fun a ha => Nat.le_trans A3.size (hq4 a ha)), A4.setCell (by simp) _⟩

end Go.Proofs.YtdlofjcblcpgpaaGreatDoor.Frm

namespace Go.Proofs.YtdlofjcblcpgpaaGreatDoor.Frm
open Go.RowKit Go.Shelf Go.Sort Url Org Cls
attribute [local go_sem] Oper.semAt_some
set_option linter.unusedVariables false

/-! ### lives -/
/-! ### Of -/
/-! ### what is told, collected -/
set_option maxRecDepth 100000 in
set_option maxHeartbeats 4000000 in
theorem all07_any (gf : Nat) (lb : Array Value) (x : List (List UInt8)) (RB : Nat → Prop) (w : World) (eg : ∀ args w, (callFunc gf args).run Tryz.prog w = .ok (.enter gf args) w)
    (hi : IterC Tryz.prog gf lb StrArg x RB w) (hRs : ∀ b, RB b → b < w.heap.size) (hN : x.length ≤ 1099511627776) :
    Calls Tryz.prog 90 #[.func (.func gf) #[] lb] w fun e w' => ∃ v, e = .returned v ∧ w'.ownsRow w.heap.size 9 1 v x.length (x.map encStr) ∧ Below w.heap.size w w' := by
  obtain ⟨i0, hi0, hz0, hz1, hz2⟩ := info_parts S.info_str
  have hnf : ∀ w' : World, (binOp .eql 109 (.func (.func gf) #[] lb) .nilFunc).run Tryz.prog w' = .ok (.bool false) w' := fun _ => by kernel_rfl
  refine (callsIn_wide (n := 1)).1 ?_
  refine callsIn_of_wp_marks Tryz.func90 rfl trivial ?_ rfl
  simp only [Tryz.ntmps90, List.size_toArray, List.length_cons, List.length_nil, Nat.reduceAdd, Nat.reduceSub, Array.replicate_succ, Array.replicate_zero, List.push_toArray, List.append_toArray, List.nil_append, List.cons_append]
  gi_wp2
  obtain ⟨W0, hW0⟩ : ∃ W0, w.alloc (.cells #[.slice none 0 0] 50) = W0 := ⟨_, rfl⟩
  have b0 : Boxed W0 w.heap.size 50 (.slice none 0 0) := by rw [← hW0]; exact Boxed.new w _ _
  have hB0 : Below w.heap.size w W0 := by rw [← hW0]; exact below_alloc _
  have hs0 : W0.heap.size = w.heap.size + 1 := by rw [← hW0]; simp
  rw [hW0]
  clear hW0 hnf
  have hRl : ∀ b, RB b → b < W0.heap.size := fun b hb => by have := hRs b hb; omega
  refine rf_law (gf := gf) (lb := lb) rfl eg hi ((Keep.of_below hB0).mono fun b _ hb => hRs b hb) hRl (fun x args G W h => by rw [h.1]; rfl)
    (ColI 50 9 w.heap.size (fun b => b < w.heap.size) W0) (fun _ _ _ _ => False) (ColI_abide _ _ _ _ _ (by omega) (fun b hb => by omega)) (fun _ _ _ _ _ _ h _ _ => h)
    ⟨_, b0, World.ownsRow_nil _ _ _ _, (fun _ h => h.elim), (fun _ h => by cases h), Keep.refl _ _⟩ ?round ?done ?stop
  case round =>
    rintro ll pre t rest Pv G args Wr hll hxs ⟨v, hbx, hrow, hge, hnv, hKW⟩ hPl hGl hPb hGP ⟨rfl, rfl⟩
    have hlen : pre.length + rest.length + 1 = x.length := by rw [hxs]; simp; omega
    have hpl : pre.length + 1 ≤ 1099511627776 := by omega
    clear hlen
    gi_wp2
    refine ⟨Keep.refl _ _, fun W2 hk2 hs2 r hr => ?_⟩
    have hnP : ∀ b, b < W0.heap.size → ¬ Pv b := fun b hb h => by have := hge b h; omega
    have hk2' : Keep (fun b => ¬ Pv b) Wr W2 := hk2.mono fun b _ hb h => hb (h ▸ hPl)
    replace hbx := hk2'.boxed hbx (hnP _ (by omega))
    replace hrow := hk2'.row hrow hnv
    have hK2 : Keep (fun b => b < w.heap.size) W0 W2 := hKW.trans (hk2'.mono fun b _ hb => hnP b (by omega))
    have hPl2 : ∀ b, Pv b → b < W2.heap.size := fun b hb => by rw [hs2]; exact hPb b hb
    have cB := hbx.cell
    have hszW := hK2.size
    clear hxs hr hk2 hk2' hs2 hKW
    gi_wp2_with (gi_at_builtin; go_must (refine wpListIn_append_own_at _ rfl _ _ 50 rfl W0.heap.size 9 i0 (.string ByteArray.empty) 1 16 Tryz.underlying50 hi0 hz0 hz1 hz2 rfl (by decide) _ _ _ rfl (hrow.alloc _) ⟨W2.heap.size, 0, none⟩ 1 1 [encStr t] rfl rfl (cell_one_new _ _ _) (by simp [encStr, Value.oneCell']) (by unfold maxLen; omega) (by omega) (by simp; omega) ?_); intro v' w1 hown' hgrow _ hat; obtain ⟨g', cap', rfl⟩ := ownsRow_succ hown'; obtain ⟨hv1, hv2, hr2, hkk⟩ := appended_keep (S := fun b => RB b ∨ Pv b ∨ b < w.heap.size) hbx (by decide) hrow (fun h => by rcases h with h | h | h; (have := hRs _ h; omega); exact hnP w.heap.size (by omega) h; omega) (fun b hb h => by have h0 := (hrow.lt b hb).1; rcases h with h | h | h; (have := hRs _ h; omega); exact hnv b hb h; omega) hown' hgrow; have hc1 := hv1.cell; have hf1 := hv1.frozen)
    refine ⟨hkk.mono fun b _ h => h.elim .inl fun h => .inr (.inl h), _, hv2, ?_, fun b hb => hge b hb, fun b hb hp => ?_, hK2.trans (hkk.mono fun b _ h => .inr (.inr h))⟩
    · simpa using hr2
    · rcases hat with h | h
      · exact hnv b (h ▸ hb) hp
      · rw [h] at hb; cases hb; have h5 := hPl2 _ hp; simp at h5; omega
  case done =>
    rintro D Pv Wd hD hPD hPl ⟨v, hbx, hrow, hge, hnv, hKW⟩ hK
    have cB := hbx.cell
    gi_wp2
    have hB : Keep (fun b => b < w.heap.size) w Wd := (Keep.of_below hB0).trans hKW
    refine ⟨by simp, .inl ⟨_, _, rfl, run_takeDeferred hK, ?_⟩⟩
    refine ⟨_, results_tmp rfl _ _ _, v, rfl, row_base ((Keep.putObj (S := fun b => ¬ Pv b) Wd D _ (fun h => h hPD)).row hrow hnv) (by omega), (hB.trans (Keep.putObj _ _ _ (by omega))).below (Nat.le_refl _)⟩
  case stop =>
    rintro D c pre rest Pv Wd _ _ _ _ h _
    exact h.elim

end Go.Proofs.YtdlofjcblcpgpaaGreatDoor.Frm

namespace Go.Proofs.YtdlofjcblcpgpaaGreatDoor.Frm
open Go.RowKit Go.Shelf Go.Sort Url Org Cls
attribute [local go_sem] Oper.semAt_some
set_option linter.unusedVariables false

theorem info_strs : (Tryz.prog.info? 50).map (fun i => (i.zero, i.size, i.bytes)) = some (some (.slice none 0 0), 1, 24) := by kernel_rfl
/-- A row of rows of texts: the document's formula. -/
def RefIn (w : World) (q : Option Addr) (n : Nat) (xs : List (List (List UInt8))) : Prop := ∃ zs : List Cl, SlIn encC w q n zs ∧ (∀ z ∈ zs, ClAt w z ∧ (z.1.1 = none → z.1.2.2 = 0)) ∧ xs = zs.map Prod.snd
theorem RefIn.len {w : World} {q : Option Addr} {n : Nat} {xs : List (List (List UInt8))} (h : RefIn w q n xs) : xs.length = n := by
  obtain ⟨zs, h1, _, rfl⟩ := h
  rw [List.length_map]; exact h1.1
theorem RefIn.below {w w' : World} {q : Option Addr} {n : Nat} {xs : List (List (List UInt8))} (h : RefIn w q n xs) (hb : Below w.heap.size w w') : RefIn w' q n xs := by
  obtain ⟨zs, h1, h2, rfl⟩ := h
  exact ⟨zs, h1.below hb h1.lt, fun z hz => ⟨(h2 z hz).1.below hb, (h2 z hz).2⟩, rfl⟩

/-- The rows that have come lie in the box's row; Pv: what others hold. -/
def RefL (Bo base : Nat) (W0 : World) (Pv : Nat → Prop) (W : World) (acc : List (List (List UInt8))) : Prop :=
  ∃ v, ∃ ls : List Cl, Boxed W Bo 33 v ∧ W.ownsRow base 50 1 v ls.length (ls.map encC) ∧ (∀ z ∈ ls, (ClAt W z ∧ (z.1.1 = none → z.1.2.2 = 0)) ∧ ∀ a, z.1.1 = some a → 0 < z.1.2.1 → ¬ Pv a.block ∧ W0.heap.size ≤ a.block ∧ v.ownBlock ≠ some a.block) ∧ ls.map Prod.snd = acc ∧
    (∀ b, Pv b → W0.heap.size ≤ b) ∧ (∀ b, v.ownBlock = some b → ¬ Pv b) ∧ Keep (fun b => b < base) W0 W
theorem RefL.step {Bo base : Nat} {Pv Pv' : Nat → Prop} {W0 A B : World} {acc : List (List (List UInt8))} (h : RefL Bo base W0 Pv A acc) (hBo : Bo < W0.heap.size) (hbs : base ≤ W0.heap.size) (hk : Keep (fun b => ¬ Pv b) A B) (hp : ∀ b, Pv' b → (Pv b ∨ A.heap.size ≤ b)) : RefL Bo base W0 Pv' B acc := by
  obtain ⟨v, ls, h1, h2, hz, hc, h3, h5, h6⟩ := h
  have hs := h6.size
  refine ⟨v, ls, hk.boxed h1 (fun h => by have := h3 _ h; omega), hk.row h2 h5, fun z hz' => ⟨⟨(hz z hz').1.1.from hk (fun a ha h0 => ((hz z hz').2 a ha h0).1), (hz z hz').1.2⟩, fun a ha h0 => ⟨fun hp' => ?_, ((hz z hz').2 a ha h0).2⟩⟩, hc, fun b hb => ?_, fun b hb hp' => ?_, h6.trans (hk.mono fun b _ hb hpb => by have := h3 b hpb; omega)⟩
  · rcases hp _ hp' with h | h
    · exact ((hz z hz').2 a ha h0).1 h
    · have := (hz z hz').1.1.lt a ha h0; omega
  · rcases hp b hb with h | h
    · exact h3 b h
    · omega
  · rcases hp _ hp' with h | h
    · exact h5 b hb h
    · have := (h2.lt b hb).2; omega

set_option maxRecDepth 100000 in
set_option maxHeartbeats 16000000 in
theorem all08_new (gf : Nat) (lb : Array Value) (zs : List Cl) (w : World) (eg : ∀ args w, (callFunc gf args).run Tryz.prog w = .ok (.enter gf args) w)
    (hi : IterC Tryz.prog gf lb ClArg zs (fun b => b < w.heap.size) w) (hz : ∀ z ∈ zs, ClAt w z) (hN : zs.length ≤ 1000) :
    Calls Tryz.prog 65 #[.func (.func gf) #[] lb] w fun e w' => ∃ q n c, e = .returned (.slice q n c) ∧ RefIn w' q n (zs.map Prod.snd) ∧ (∀ a, q = some a → w.heap.size ≤ a.block) ∧ (q = none → c = 0) ∧ Below w.heap.size w w' := by
  obtain ⟨i0, hi0, hz0, hz1, hz2⟩ := info_parts info_strs
  have hnf : ∀ w' : World, (binOp .eql 77 (.func (.func gf) #[] lb) .nilFunc).run Tryz.prog w' = .ok (.bool false) w' := fun _ => by kernel_rfl
  refine (callsIn_wide (n := 1)).1 ?_
  refine callsIn_of_wp_marks Tryz.func65 rfl trivial ?_ rfl
  simp only [Tryz.ntmps65, List.size_toArray, List.length_cons, List.length_nil, Nat.reduceAdd, Nat.reduceSub, Array.replicate_succ, Array.replicate_zero, List.push_toArray, List.append_toArray, List.nil_append, List.cons_append]
  gi_wp2
  obtain ⟨W0, hW0⟩ : ∃ W0, (w.alloc (.cells #[] 50)).alloc (.cells #[.slice (some ⟨w.heap.size, 0, none⟩) 0 0] 33) = W0 := ⟨_, rfl⟩
  have b0 : Boxed W0 (w.heap.size + 1) 33 (.slice (some ⟨w.heap.size, 0, none⟩) 0 0) := by
    have := Boxed.new (w.alloc (.cells #[] 50)) 33 (.slice (some ⟨w.heap.size, 0, none⟩) 0 0)
    rw [World.size_alloc] at this
    exact hW0 ▸ this
  have hrow0 : W0.ownsRow w.heap.size 50 1 (.slice (some ⟨w.heap.size, 0, none⟩) 0 0) 0 [] := hW0 ▸ (World.ownsRow_made w #[] 0 (Nat.le_refl _) (Nat.zero_le _) rfl).alloc _
  have hB0 : Below w.heap.size w W0 := hW0 ▸ ((Below.refl _ w).alloc (Nat.le_refl _) _).alloc (by simp) _
  have hs0 : W0.heap.size = w.heap.size + 2 := by rw [← hW0]; simp
  rw [hW0]
  clear hW0 hnf
  refine rf_law (gf := gf) (lb := lb) rfl eg hi (Keep.of_below hB0) (fun b hb => by omega) (fun x args G W h => by rw [h.1]; rfl)
    (fun pre Pv W => RefL (w.heap.size + 1) w.heap.size W0 Pv W (pre.map Prod.snd)) (fun _ _ _ _ => False)
    (fun s Pv Pv' A B h hk hp => h.step (by omega) (by omega) hk (fun b hb => (hp b hb).1)) (fun _ _ _ _ _ _ h _ _ => h)
    ⟨_, [], b0, hrow0, (fun z hz => by cases hz), rfl, (fun _ h => h.elim), (fun _ _ h => h), Keep.refl _ _⟩ ?round ?done ?stop
  case round =>
    rintro ll pre ⟨⟨xq, xn, xc⟩, x⟩ rest Pv G args Wr hll hxs ⟨v, ls, hbx, hrow, hzs, hacc, hge, hnv, hKW⟩ hPl hGl hPb hGP ⟨harg, rfl⟩
    obtain rfl : args = #[.agg #[.slice xq xn xc]] := harg
    have hxm : ((xq, xn, xc), x) ∈ zs := by rw [hxs]; simp
    have hpl : ls.length + 1 ≤ 1000 := by
      have h1 := congrArg List.length hacc
      rw [List.length_map, List.length_map] at h1
      rw [hxs, List.length_append, List.length_cons] at hN
      omega
    clear hxs
    have hll2 := hPb ll hPl
    have hszr := hKW.size
    gi_wp2
    refine ⟨Keep.alloc _ _ _, fun W5 hk5 hs5 r hr => ?_⟩
    have hka := Keep.alloc (fun _ => True) Wr (.cells #[.slice xq xn xc] 82)
    have bx := hk5.boxed (Boxed.new Wr 82 (.slice xq xn xc)) (by omega)
    have hk5' : Keep (fun b => ¬ Pv b) Wr W5 := (hka.mono fun _ _ _ => trivial).trans (hk5.mono fun b _ hb h => hb (h ▸ hPl))
    replace hbx := hk5'.boxed hbx (fun h => by have := hge _ h; omega)
    replace hrow := hk5'.row hrow hnv
    replace hzs : ∀ z ∈ ls, (ClAt W5 z ∧ (z.1.1 = none → z.1.2.2 = 0)) ∧ ∀ a, z.1.1 = some a → 0 < z.1.2.1 → ¬ Pv a.block ∧ W0.heap.size ≤ a.block ∧ v.ownBlock ≠ some a.block := fun z hz => ⟨⟨(hzs z hz).1.1.from hk5' (fun a ha h0 => ((hzs z hz).2 a ha h0).1), (hzs z hz).1.2⟩, (hzs z hz).2⟩
    have hK5 : Keep (fun b => b < w.heap.size) W0 W5 := hKW.trans (hk5'.mono fun b _ hb h => by have := hge b h; omega)
    have hPl5 : ∀ b, Pv b → b < W5.heap.size := fun b hb => Nat.lt_of_lt_of_le (hPb b hb) hk5'.size
    have hszW : W0.heap.size ≤ W5.heap.size := hK5.size
    have A5 : Below w.heap.size w W5 := hB0.trans (hK5.below (by omega))
    have hz5 := (hz _ hxm).below A5
    clear hr hk5 hk5' hs5 hKW hka
    obtain ⟨Wd, hWd⟩ : ∃ Wd, W5.drew = Wd := ⟨_, rfl⟩
    have hkd : ∀ S, Keep S W5 Wd := fun S => by rw [← hWd]; exact Keep.drew S W5
    have HSZD := Lib.hid (show Wd.heap.size = W5.heap.size by rw [← hWd]; rfl)
    replace hbx := (hkd (fun _ => True)).boxed hbx trivial
    replace hrow := (hkd (fun _ => True)).row hrow (fun _ _ => trivial)
    replace bx := (hkd (fun _ => True)).boxed bx trivial
    replace hzs : ∀ z ∈ ls, (ClAt Wd z ∧ (z.1.1 = none → z.1.2.2 = 0)) ∧ ∀ a, z.1.1 = some a → 0 < z.1.2.1 → ¬ Pv a.block ∧ W0.heap.size ≤ a.block ∧ v.ownBlock ≠ some a.block := fun z hz => ⟨⟨(hzs z hz).1.1.keep (hkd _), (hzs z hz).1.2⟩, (hzs z hz).2⟩
    replace hz5 := hz5.keep (hkd _)
    have con := Cls.All_any xq xn xc Wd
    obtain ⟨W6, hW6⟩ : ∃ W6, Wd.alloc (.cells #[.slice xq xn xc] 82) = W6 := ⟨_, rfl⟩
    have bc : Boxed W6 Wd.heap.size 82 (.slice xq xn xc) := hW6 ▸ Boxed.new Wd _ _
    have hb6 : Below Wd.heap.size Wd W6 := hW6 ▸ below_alloc _
    have hz6 := hz5.below hb6
    obtain ⟨_, _, _, hee, hxc, hxn, hsx, hrx⟩ := hz6.set
    cases hee
    have hxl := hsx.1
    have con2 := all07_any 103 #[.pointer (some ⟨Wd.heap.size, 0, none⟩)] x (fun b => b < W6.heap.size) W6 (enters_of Tryz.func103 (by kernel_rfl) rfl)
      (Cls.All1_iter Wd.heap.size xq xn xc x _ W6 hxn hsx hsx.lt bc bc.lt (fun _ h => h)) (fun _ h => h) (Nat.le_trans hz6.few (by decide))
    have hfew : x.length ≤ 16 := hz6.few
    have HFEW := Lib.hid hfew
    generalize x.length = m at con2 hfew
    have c0 := hbx.cell
    have cx := bx.cell
    have HWd := Lib.hid hWd
    have HX := Lib.hid hxl
    clear hWd hsx hz6 hz5 hxl
    gi_wp2_with fail
    refine region_anyO (fun j => decide (j ≠ 6)) (fun X => X.cell? ⟨w.heap.size + 1, 0, none⟩ = some v) (by kernel_rfl) ?_
    rw [HWd.out]
    refine anyO_take 0 (v := v) rfl (by kernel_rfl) (by kernel_rfl) (by kernel_rfl) (by kernel_rfl) (by kernel_rfl) (fun _ _ _ h => h) ⟨.inl ⟨by rfl, ?_⟩, fun _ => rfl⟩ c0 ?_
    · rintro w h1; go_simp
    refine anyO_one 1 (by kernel_rfl) rfl fun K hK => ?_
    go_simp
    refine hK _ _ (fun _ => c0) ?_
    clear hK K
    refine anyO_one 2 (by kernel_rfl) rfl fun K hK => ?_
    go_simp
    refine ⟨trivial, rfl, (CallsIn.inRound ll (callsIn_wide.2 con)).mono ?_⟩
    rintro e w4 ⟨rfl, hw4⟩
    rw [hW6] at hw4
    subst hw4
    have c4' := ((Keep.of_below hb6).boxed hbx hbx.lt).cell
    refine hK _ _ (fun _ => c4') ?_
    clear hK K con
    refine anyO_one 3 (by kernel_rfl) rfl fun K hK => ?_
    go_simp
    refine ⟨trivial, rfl, (CallsIn.inRound ll (callsIn_wide.2 con2)).mono ?_⟩
    rintro e w6 ⟨v6, rfl, hrow6, hbel⟩
    obtain ⟨q6, c6, rfl, hc6, hcm6, hs6, hq6⟩ := slIn_of_owns hrow6
    have hz6 : ClAt w6 ((q6, m, c6), x) := ⟨⟨_, _, _, rfl, hc6, show m ≤ 140737488355328 by omega, hs6, hrx⟩, HFEW.out⟩
    have hzn : q6 = none → c6 = 0 := fun h => by subst h; exact (Cls.row_nil hrow6).2
    have hbw : Below Wd.heap.size Wd w6 := hb6.trans (hbel.mono hb6.size)
    have kb := Keep.of_below hbw
    have hbx4 := kb.boxed hbx hbx.lt
    have hrow4 := kb.row hrow (fun b hb => (hrow.lt b hb).2)
    have hsz6 := hbw.size
    have hszn := hb6.size
    have c5' := hbx4.cell
    refine hK _ _ (fun _ => c5') ?_
    clear hK K con2
    refine anyO_one 4 (by kernel_rfl) rfl fun K hK => ?_
    go_simp
    have c6' := (hbx4.alloc (.cells #[.slice q6 m c6] 50)).cell
    refine hK _ _ (fun _ => c6') ?_
    clear hK K
    refine anyO_one 5 (by kernel_rfl) rfl fun K hK => ?_
    rw [if_pos (by rfl)]
    refine S.wpIn_append_own _ _ 33 rfl w.heap.size 50 i0 (.slice none 0 0) 1 24 Tryz.underlying33 hi0 hz0 hz1 hz2 rfl (by decide) v ls.length _ rfl (hrow4.alloc _) ⟨w6.heap.size, 0, none⟩ 1 1 [.slice q6 m c6] rfl rfl (cell_one_new _ _ _) (by simp [Value.oneCell']) (by unfold maxLen; omega) (by omega) (by have := HSZD.out; simp; omega) ?_
    intro v2 w7 hown' hgrow hat
    obtain ⟨g', cap', rfl⟩ := ownsRow_succ hown'
    obtain ⟨hv1, hv2, hr2, hkk⟩ := appended_keep (S := fun b => b ≠ w.heap.size + 1 ∧ v.ownBlock ≠ some b) hbx4 (by decide) hrow4 (fun h => h.1 rfl) (fun b hb h => h.2 hb) hown' hgrow
    have c7 := hv1.cell
    have f7 := hv1.frozen
    refine hK _ _ (fun _ => c7) ?_
    clear hK K
    refine anyO_one 6 (by kernel_rfl) rfl fun K hK => ?_
    go_simp
    refine hK _ _ (fun h => absurd h (by decide)) ?_
    clear hK K
    refine anyO_done (by kernel_rfl) ?_ _
    clear c7 f7 c6' c5' c4' c0 cx
    gi_wp2
    have hszd := HSZD.out
    have hat' : some g' = v.ownBlock ∨ some g' = some (w6.alloc (.cells #[.slice q6 m c6] 50)).heap.size := hat
    have hg : ∀ b, some g' = some b → v.ownBlock = some b ∨ w6.heap.size + 1 ≤ b := fun b hb => by
      rcases hat' with h | h
      · exact .inl (h ▸ hb)
      · rw [h] at hb
        have := Option.some.inj hb
        simp at this
        exact .inr (by omega)
    have hk6 : ∀ S : Nat → Prop, (∀ b, S b → b < w6.heap.size ∧ b ≠ w.heap.size + 1 ∧ v.ownBlock ≠ some b) → Keep S w6 (w7.setCell ⟨w.heap.size + 1, 0, none⟩ (.slice (some ⟨g', 0, none⟩) (ls.length + 1) cap')) := fun S hS => hkk.mono fun b _ h => (hS b h).2
    have hk5 : ∀ S : Nat → Prop, (∀ b, S b → b < Wd.heap.size ∧ b ≠ w.heap.size + 1 ∧ v.ownBlock ≠ some b) → Keep S Wd (w7.setCell ⟨w.heap.size + 1, 0, none⟩ (.slice (some ⟨g', 0, none⟩) (ls.length + 1) cap')) := fun S hS => (kb.mono fun b _ h => (hS b h).1).trans (hk6 S fun b h => ⟨by have := (hS b h).1; omega, (hS b h).2⟩)
    have hown5 : ∀ b, v.ownBlock = some b → w.heap.size ≤ b ∧ b < Wd.heap.size := fun b hb => hrow.lt b hb
    have hkr : ∀ b, b < w.heap.size → b < Wd.heap.size ∧ b ≠ w.heap.size + 1 ∧ v.ownBlock ≠ some b := fun b hb => ⟨by omega, by omega, fun e => by have := (hown5 b e).1; omega⟩
    refine ⟨(hkd _).trans (hk5 _ (fun b hb => ?_)), _, ls ++ [((q6, m, c6), x)], hv2, by simpa [encC] using hr2, fun z hz => ?_, ?_, fun b hb => hge b hb, fun b hb hp => ?_, hK5.trans ((hkd _).trans (hk5 _ hkr))⟩
    · rcases hb with h | h
      · exact hkr b h
      · exact ⟨by have := hPl5 b h; omega, fun e => by have := hge b h; omega, fun e => hnv b e h⟩
    · rcases List.mem_append.1 hz with h | h
      · obtain ⟨⟨k1, k3⟩, k2⟩ := hzs z h
        refine ⟨⟨k1.from (hk5 (fun b => b < Wd.heap.size ∧ b ≠ w.heap.size + 1 ∧ v.ownBlock ≠ some b) (fun b hb => hb)) (fun a ha h0 => ?_), k3⟩, fun a ha h0 => ?_⟩
        · obtain ⟨j1, j2, j3⟩ := k2 a ha h0
          exact ⟨k1.lt a ha h0, by omega, j3⟩
        · obtain ⟨j1, j2, j3⟩ := k2 a ha h0
          refine ⟨j1, j2, fun e => ?_⟩
          rcases hg a.block e with h | h
          · exact j3 h
          · have := k1.lt a ha h0; omega
      · rw [List.mem_singleton.1 h]
        refine ⟨⟨hz6.from (hk6 (fun b => b < w6.heap.size ∧ b ≠ w.heap.size + 1 ∧ v.ownBlock ≠ some b) (fun b hb => hb)) (fun a ha h0 => ?_), hzn⟩, fun a ha h0 => ?_⟩
        · have j := (hq6 a ha).1
          exact ⟨hz6.lt a ha h0, by omega, fun e => by have := (hown5 _ e).2; omega⟩
        · have j := (hq6 a ha).1
          refine ⟨fun hp => by have := hPl5 _ hp; omega, by omega, fun e => ?_⟩
          rcases hg a.block e with h | h
          · have := (hown5 _ h).2; omega
          · have := hz6.lt a ha h0; omega
    · rw [List.map_append, List.map_append, hacc]; rfl
    · rcases hg b hb with h | h
      · exact hnv b h hp
      · have := hPl5 b hp; omega
  case done =>
    rintro D Pv Wd hD hPD hPl ⟨v, ls, hbx, hrow, hzs, hacc, hge, hnv, hKW⟩ hK
    obtain ⟨q4, c4, rfl, hc4, _, hs4, hq4⟩ := slIn_of_owns hrow
    have HQ4 := Lib.hid (show ∀ a, q4 = some a → w.heap.size ≤ a.block from fun a h => (hq4 a h).1)
    have HN4 := Lib.hid (show q4 = none → c4 = 0 from fun h => by subst h; exact (Cls.row_nil hrow).2)
    clear hq4
    have hBd : Below w.heap.size w Wd := hB0.trans (hKW.below (by omega))
    have cB := hbx.cell
    have HR := Lib.hid (show RefIn (Wd.putObj D (.deferred none)) q4 ls.length (zs.map Prod.snd) from ⟨ls, slC_put hs4 hK, fun z hz => ⟨⟨set_put (hzs z hz).1.1.set hK, (hzs z hz).1.1.few⟩, (hzs z hz).1.2⟩, hacc.symm⟩)
    clear hs4 hrow hbx hzs hacc hnv hge hKW
    gi_wp2
    refine ⟨by simp, .inl ⟨_, _, rfl, run_takeDeferred hK, ?_⟩⟩
    exact ⟨_, results_tmp rfl _ _ _, q4, ls.length, c4, rfl, HR.out, HQ4.out, HN4.out, ((Keep.of_below hBd).trans (Keep.putObj _ D (.deferred none) (by omega))).below (Nat.le_refl _)⟩
  case stop =>
    rintro D c pre rest Pv Wd _ _ _ _ h _
    exact h.elim

set_option maxRecDepth 100000 in
set_option maxHeartbeats 4000000 in
theorem Ref_new (v : Value) (f : List (List (List UInt8))) (w : World) (h : FrmIs w v f) (hN : f.length ≤ 1000) :
    Calls Tryz.prog 37 #[v] w fun e w' => ∃ q n c, e = .returned (.slice q n c) ∧ RefIn w' q n f ∧ (∀ a, q = some a → w.heap.size ≤ a.block) ∧ (q = none → c = 0) ∧ Below w.heap.size w w' := by
  obtain ⟨q, n, c, rfl⟩ := frm_form h
  obtain ⟨_, hnc, zs, s0, z0, rfl⟩ := h.row
  rw [List.length_map] at hN
  have A1 := below_alloc (w := w) (.cells #[.slice q n c] 26)
  have con := frmAll_any q n c (w.alloc (.cells #[.slice q n c] 26))
  have hl := s0.1
  obtain ⟨W1, hW1⟩ : ∃ W1, w.alloc (.cells #[.slice q n c] 26) = W1 := ⟨_, rfl⟩
  rw [hW1] at A1 con
  obtain ⟨W2, hW2⟩ : ∃ W2, (W1.alloc (.cells #[.slice q n c] 26)).alloc (.cells #[.slice q n c] 24) = W2 := ⟨_, rfl⟩
  rw [hW2] at con
  have bv : Boxed W2 (W1.heap.size + 1) 24 (.slice q n c) := by
    have := Boxed.new (W1.alloc (.cells #[.slice q n c] 26)) 24 (.slice q n c)
    rw [World.size_alloc] at this
    exact hW2 ▸ this
  have hB2 : Below W1.heap.size W1 W2 := hW2 ▸ ((Below.refl _ W1).alloc (Nat.le_refl _) _).alloc (by simp) _
  have A2 := A1.trans (hB2.mono A1.size)
  have s2 := s0.below A2 s0.lt
  have con2 := all08_new 100 #[.pointer (some ⟨W1.heap.size + 1, 0, none⟩)] zs W2 (enters_of Tryz.func100 (by kernel_rfl) rfl)
    (Values1_iter (W1.heap.size + 1) q n c zs _ W2 (by omega) s2 s2.lt bv bv.lt (fun _ h => h)) (fun z hz => (z0 z hz).below A2) hN
  have HW1 := Lib.hid hW1
  clear hW1 hW2 bv s0 s2 z0 h hl
  go_enter Tryz.func37, Tryz.ntmps37
  go_wp2_with fail
  rw [HW1.out]
  refine con.mono ?_
  rintro e w2 ⟨rfl, rfl⟩
  clear con
  go_wp2_with fail
  refine con2.mono ?_
  rintro e w3 ⟨q3, n3, c3, rfl, h3, hq3, hz3, hb3⟩
  have HQ3 := Lib.hid (show ∀ a, q3 = some a → w.heap.size ≤ a.block from fun a h => Nat.le_trans A2.size (hq3 a h))
  have HZ3 := Lib.hid hz3
  clear hq3 hz3
  clear con2
  go_wp2
  go_ret
  exact ⟨q3, n3, c3, rfl, h3, HQ3.out, HZ3.out, A2.trans (hb3.mono A2.size)⟩

end Go.Proofs.YtdlofjcblcpgpaaGreatDoor.Frm

namespace Go.Proofs.YtdlofjcblcpgpaaGreatDoor.Frm
open Go.RowKit Go.Shelf Go.Sort Url Org Cls
attribute [local go_sem] Oper.semAt_some
set_option linter.unusedVariables false

set_option maxRecDepth 100000 in
set_option maxHeartbeats 4000000 in
theorem In_any (q : Option Addr) (n c : Nat) (l : List (List UInt8)) (p : List UInt8) (w : World) (h : SlIn encStr w q n l) (hn : n ≤ 140737488355328) :
    Calls Tryz.prog 49 #[.slice q n c, .string ⟨p.toArray⟩] w fun e w' => e = .returned (.bool (decide (p ∈ l))) ∧ w = w' := by
  have hl := Lib.hid h.1
  go_enter Tryz.func49, Tryz.ntmps49
  go_wp2
  go_loop [9] (fun i => ∃ k : Nat, k ≤ n ∧ i = .int .i64 k ∧ Hid (∀ j x, j < k → l[j]? = some x → p ≠ x)) (fun i => n - (intOf i).toNat)
  case atStart => exact ⟨0, Nat.zero_le _, rfl, Lib.hid (fun j x h => by omega)⟩
  case round =>
    obtain ⟨k, hk, rfl, HJ⟩ := hrel
    by_cases hlt : k < n
    · obtain ⟨b, o, rfl, _, hc⟩ := h.at (by omega)
      obtain ⟨x, hx, _⟩ := drop_getElem l k (by rw [hl.out]; exact hlt)
      have hck : w.cell? ⟨b, o + k, none⟩ = some (.string ⟨x.toArray⟩) := hc k x hx
      by_cases hp : p = x
      · have e1 : (p == x) = true := by rw [beq_iff_eq]; exact hp
        have HR := Lib.hid (show decide (p ∈ l) = true from decide_eq_true (hp ▸ List.mem_of_getElem? hx))
        clear hx hc h HJ hp
        go_wp2
        go_ret
        exact ⟨(by rw [HR.out]; rfl), rfl⟩
      · have e1 : (p == x) = false := by rw [beq_eq_false_iff_ne]; exact hp
        have HJ2 := Lib.hid (show ∀ j y, j < k + 1 → l[j]? = some y → p ≠ y from fun j y hj hy => by
          by_cases e : j = k
          · subst e; rw [hx] at hy; cases hy; exact hp
          · exact HJ.out j y (by omega) hy)
        clear hx hc h HJ hp
        go_wp2
        go_round
        case rel => exact ⟨k + 1, by omega, by go_num, HJ2⟩
        case measure => simp [intOf]; omega
    · obtain rfl : k = n := by omega
      have HR := Lib.hid (show decide (p ∈ l) = false from decide_eq_false fun hm => by
        obtain ⟨j, hj, he⟩ := List.getElem_of_mem hm
        exact HJ.out j _ (by have := hl.out; omega) (List.getElem?_eq_getElem hj) he.symm)
      clear HJ h
      go_wp2
      go_ret
      exact ⟨(by rw [HR.out]; rfl), rfl⟩


/-- The least of some texts, up to a number. -/
def leastK (l : List (List UInt8)) (k : Nat) (m : List UInt8) : Prop := m ∈ l ∧ ∀ j x, j < k → l[j]? = some x → ¬ x < m
/-- What has come, and what is left, together make the list. -/
structure RiseK (l0 out l : List (List UInt8)) : Prop where
  rise : Rises out
  less : ∀ a ∈ out, ∀ b ∈ l, a < b
  mem : ∀ a, a ∈ l0 ↔ a ∈ out ∨ a ∈ l
theorem RiseK.start (l : List (List UInt8)) : RiseK l [] l := ⟨Rises.nil, fun a ha => (by cases ha), fun a => by simp⟩
theorem RiseK.next {l0 out l : List (List UInt8)} {m : List UInt8} (h : RiseK l0 out l) (hm : m ∈ l) (hl : ∀ x ∈ l, ¬ x < m) : RiseK l0 (out ++ [m]) (l.filter fun x => decide (x ≠ m)) := by
  refine ⟨?_, fun a ha b hb => ?_, fun a => ?_⟩
  · refine List.pairwise_append.2 ⟨h.rise, by simp, fun a ha b hb => ?_⟩
    rw [List.mem_singleton.1 hb]
    exact h.less a ha m hm
  · obtain ⟨hb1, hb2⟩ := List.mem_filter.1 hb
    have hb2 := of_decide_eq_true hb2
    rcases List.mem_append.1 ha with ha | ha
    · exact h.less a ha b hb1
    · rw [List.mem_singleton.1 ha]
      rcases Lin.tri m b with k | k | k
      · exact k
      · exact absurd k.symm hb2
      · exact absurd k (hl b hb1)
  · rw [h.mem, List.mem_append, List.mem_singleton, List.mem_filter]
    constructor
    · rintro (h | h)
      · exact .inl (.inl h)
      · by_cases e : a = m
        · exact .inl (.inr e)
        · exact .inr ⟨h, decide_eq_true e⟩
    · rintro ((h | h) | h)
      · exact .inl h
      · exact .inr (h ▸ hm)
      · exact .inr h.1
theorem RiseK.done {l0 out : List (List UInt8)} (h : RiseK l0 out []) : out = sortR l0 :=
  rises_ext h.rise (sort_rises l0) fun a => by rw [mem_sort, h.mem]; simp
/-- What is left, up to a number. -/
def restK (l : List (List UInt8)) (m : List UInt8) (k : Nat) : List (List UInt8) := (l.take k).filter fun x => decide (x ≠ m)
theorem restK_succ (l : List (List UInt8)) (m x : List UInt8) (k : Nat) (h : l[k]? = some x) : restK l m (k + 1) = if x = m then restK l m k else restK l m k ++ [x] := by
  unfold restK
  rw [(take_snoc l k x h).1, List.filter_append]
  by_cases e : x = m
  · rw [if_pos e]; simp [e]
  · rw [if_neg e]; simp [e]
theorem restK_len (l : List (List UInt8)) (m : List UInt8) (k : Nat) : (restK l m k).length ≤ l.length := by
  unfold restK
  exact Nat.le_trans (List.length_filter_le _ _) (by rw [List.length_take]; omega)
theorem restK_less (l : List (List UInt8)) (m : List UInt8) (hm : m ∈ l) : (l.filter fun x => decide (x ≠ m)).length < l.length := by
  have h1 : (l.filter fun x => decide (x ≠ m)).length + (l.filter fun x => decide (x = m)).length = l.length := by
    induction l with
    | nil => rfl
    | cons y r ih =>
      by_cases e : y = m
      · by_cases hr : m ∈ r
        · have := ih hr
          simp [e] at this ⊢; omega
        · have hn : r.filter (fun x => decide (x ≠ m)) = r := List.filter_eq_self.2 fun a ha => decide_eq_true fun e2 => hr (e2 ▸ ha)
          have hn2 : r.filter (fun x => decide (x = m)) = [] := List.filter_eq_nil_iff.2 fun a ha h => hr (of_decide_eq_true h ▸ ha)
          simp only [List.filter_cons, e]
          rw [hn, hn2]; simp
      · have hr : m ∈ r := (List.mem_cons.1 hm).elim (fun k => absurd k.symm e) id
        have := ih hr
        simp [e] at this ⊢; omega
  have h2 : 0 < (l.filter fun x => decide (x = m)).length := List.length_pos_of_mem (List.mem_filter.2 ⟨hm, decide_eq_true rfl⟩)
  omega

/-- A slice's length. -/
def sliceLen : Value → Nat
  | .slice _ n _ => n
  | _ => 0
theorem rises_nodup' (l : List (List UInt8)) (h : Rises l) : l.Nodup := rises_nodup l h

set_option maxRecDepth 100000 in
set_option maxHeartbeats 16000000 in
theorem Rising_any (q : Option Addr) (n c : Nat) (l : List (List UInt8)) (w : World) (h : SlIn encStr w q n l) (hn : n ≤ 1099511627776) :
    Calls Tryz.prog 48 #[.slice q n c] w fun e w' => ∃ q n c, e = .returned (.slice q n c) ∧ SlIn encStr w' q n (sortR l) ∧ Below w.heap.size w w' := by
  obtain ⟨i0, hi0, hz0, hz1, hz2⟩ := info_parts S.info_str
  obtain ⟨W1, hW1⟩ : ∃ W1, w.alloc (.cells #[] 9) = W1 := ⟨_, rfl⟩
  have A1 : Below w.heap.size w W1 := hW1 ▸ below_alloc _
  have hrow0 : W1.ownsRow w.heap.size 9 1 (.slice (some ⟨w.heap.size, 0, none⟩) 0 0) 0 [] := hW1 ▸ World.ownsRow_made w #[] 0 (Nat.le_refl _) (Nat.zero_le _) rfl
  have h1 := h.below A1 h.lt
  have hl := h.1
  have HL := Lib.hid hl
  have HW1 := Lib.hid hW1
  have HLT := Lib.hid h.lt
  clear hW1 h hl
  go_enter Tryz.func48, Tryz.ntmps48
  go_wp2
  rw [HW1.out]
  go_loopw [0, 3] (fun a o wr => ∃ (q' : Option Addr) (n' c' : Nat) (ll out : List (List UInt8)), a = .slice q' n' c' ∧ n' ≤ n ∧ SlIn encStr wr q' n' ll ∧ wr.ownsRow w.heap.size 9 1 o out.length (out.map encStr) ∧ Hid (RiseK l out ll) ∧ Below w.heap.size w wr ∧ (∀ a, q' = some a → 0 < n' → o.ownBlock ≠ some a.block)) (fun a _ _ => sliceLen a)
  case atStart => exact ⟨q, n, c, l, [], rfl, Nat.le_refl _, h1, hrow0, Lib.hid (RiseK.start l), A1, fun a ha h0 e => by
    have e : some w.heap.size = some a.block := e
    have h2 := HLT.out a ha h0
    have := Option.some.inj e
    omega⟩
  case round =>
    obtain ⟨q', n', c', ll, out, rfl, hnn, hsl, hrow, HK, hB, hne⟩ := hrel
    have hol : out.length ≤ n := by
      have h2 := HK.out
      have h3 : out.length ≤ l.length := (rises_nodup' out h2.rise).length_le_of_subset fun a ha => (h2.mem a).2 (.inl ha)
      have := HL.out
      omega
    have hll := hsl.1
    have HLL := Lib.hid hll
    have hBs := hB.size
    clear h1 hrow0 hll
    by_cases hpos : 0 < n'
    · obtain ⟨b, o, rfl, hbl, hc⟩ := hsl.at hpos
      have d1 : decide ((n' : Int) > 0) = true := by simp; omega
      have d1' : decide (0 < n') = true := by simp; omega
      obtain ⟨x0, hx0⟩ : ∃ x, ll[0]? = some x := ⟨_, List.getElem?_eq_getElem (by have := HLL.out; omega)⟩
      have hc0 : wr.cell? ⟨b, o, none⟩ = some (.string ⟨x0.toArray⟩) := hc 0 x0 hx0
      have HX0 := Lib.hid (show leastK ll 0 x0 from ⟨List.mem_of_getElem? hx0, fun j x hj => by omega⟩)
      have HC := Lib.hid hc
      clear hx0 hc
      go_wp2
      go_loop [4, 19] (fun m i => ∃ (k : Nat) (mm : List UInt8), k ≤ n' ∧ i = .int .i64 k ∧ m = .string ⟨mm.toArray⟩ ∧ Hid (leastK ll k mm)) (fun _ i => n' - (intOf i).toNat)
      case atStart => exact ⟨0, x0, Nat.zero_le _, rfl, rfl, HX0⟩
      case round =>
        obtain ⟨k, mm, hk, rfl, rfl, HM⟩ := hrel
        by_cases hlt : k < n'
        · obtain ⟨x, hx, _⟩ := drop_getElem ll k (by rw [HLL.out]; exact hlt)
          have hck : wr.cell? ⟨b, o + k, none⟩ = some (.string ⟨x.toArray⟩) := HC.out k x hx
          have HX := Lib.hid hx
          clear hx
          by_cases hxm : x < mm
          · have e1 : Op.bytesLess x mm = true := by rw [Go.Proofs.bytesLess_eq]; exact decide_eq_true hxm
            have HM2 := Lib.hid (show leastK ll (k + 1) x from ⟨List.mem_of_getElem? HX.out, fun j y hj hy hyx => by
              by_cases e : j = k
              · subst e; rw [HX.out] at hy; cases hy; exact Lin.irr _ hyx
              · exact HM.out.2 j y (by omega) hy (Lin.tr hyx hxm)⟩)
            clear hxm
            go_wp2
            go_round
            case rel => exact ⟨k + 1, x, by omega, by go_num, rfl, HM2⟩
            case measure => simp [intOf]; omega
          · have e1 : Op.bytesLess x mm = false := by rw [Go.Proofs.bytesLess_eq]; exact decide_eq_false hxm
            have HM2 := Lib.hid (show leastK ll (k + 1) mm from ⟨HM.out.1, fun j y hj hy hyx => by
              by_cases e : j = k
              · subst e; rw [HX.out] at hy; cases hy; exact hxm hyx
              · exact HM.out.2 j y (by omega) hy hyx⟩)
            clear hxm
            go_wp2
            go_round
            case rel => exact ⟨k + 1, mm, by omega, by go_num, rfl, HM2⟩
            case measure => simp [intOf]; omega
        · obtain rfl : k = n' := by omega
          have HM3 := Lib.hid (show mm ∈ ll ∧ ∀ x ∈ ll, ¬ x < mm from ⟨HM.out.1, fun x hx => by
            obtain ⟨j, hj, rfl⟩ := List.getElem_of_mem hx
            exact HM.out.2 j _ (by have := HLL.out; omega) (List.getElem?_eq_getElem hj)⟩)
          clear HM HX0
          go_wp2_with (at_builtin; refine wpList_append_own_at _ rfl _ _ 50 rfl w.heap.size 9 i0 (.string ByteArray.empty) 1 16 Tryz.underlying50 hi0 hz0 hz1 hz2 rfl (by decide) _ _ _ rfl (hrow.alloc _) ⟨wr.heap.size, 0, none⟩ 1 1 [.string ⟨mm.toArray⟩] rfl rfl (cell_one_new _ _ _) (by simp [Value.oneCell']) (by unfold maxLen; omega) (by omega) (by simp; omega) ?_; intro v' w1 hown' hgrow _ hat)
          have hk1 : ∀ S : Nat → Prop, (∀ b, S b → u3.ownBlock ≠ some b) → Keep S wr w1 := fun S hS => (Keep.alloc S wr _).trans (Keep.of_grownBy hgrow (fun r hr h => hS r h hr))
          have hb1 : Below w.heap.size wr w1 := (hk1 (· < w.heap.size) (fun b hb e => by have := (hrow.lt b e).1; omega)).below hBs
          have hsl1 : SlIn encStr w1 (some ⟨b, o, none⟩) k ll := hsl.keep (hk1 (fun x => x = b) (fun x hx => by subst hx; exact hne _ rfl hpos)) (fun a ha _ => by cases ha; rfl)
          have hs1 := hb1.size
          have hbl1 : b < w1.heap.size := by have := (hk1 (fun _ => False) (fun _ h => h.elim)).size; omega
          obtain ⟨W7, hW7⟩ : ∃ W7, w1.alloc (.cells #[] 9) = W7 := ⟨_, rfl⟩
          have hr7 : W7.ownsRow w1.heap.size 9 1 (.slice (some ⟨w1.heap.size, 0, none⟩) 0 0) 0 [] := hW7 ▸ World.ownsRow_made w1 #[] 0 (Nat.le_refl _) (Nat.zero_le _) rfl
          have hb7 : Below w1.heap.size w1 W7 := hW7 ▸ below_alloc _
          rw [hW7]
          clear hat hgrow HC hsl hc0 hW7 hrow
          go_loopw [7, 35] (fun r i wr2 => ∃ k' : Nat, k' ≤ k ∧ i = .int .i64 k' ∧ wr2.ownsRow w1.heap.size 9 1 r (restK ll mm k').length ((restK ll mm k').map encStr) ∧ Below w1.heap.size w1 wr2) (fun _ i _ => k - (intOf i).toNat)
          case atStart => exact ⟨0, Nat.zero_le _, rfl, by simpa [restK] using hr7, hb7⟩
          case round =>
            obtain ⟨k', hk', rfl, hrow2, hB2⟩ := hrel
            have hBs2 := hB2.size
            have hrl := restK_len ll mm k'
            have hll := HLL.out
            clear hr7 hb7
            by_cases hlt : k' < k
            · obtain ⟨x, hx, _⟩ := drop_getElem ll k' (by rw [HLL.out]; exact hlt)
              obtain ⟨_, _, he, _, hc⟩ := (hsl1.below hB2 hsl1.lt).at hpos
              cases he
              have hck : wr.cell? ⟨b, o + k', none⟩ = some (.string ⟨x.toArray⟩) := hc k' x hx
              have HRS := Lib.hid (restK_succ ll mm x k' hx)
              clear hx hc
              by_cases hxm : x = mm
              · have e1 : (x == mm) = true := by rw [beq_iff_eq]; exact hxm
                have HR2 := Lib.hid (show restK ll mm (k' + 1) = restK ll mm k' by rw [HRS.out, if_pos hxm])
                clear hxm hll
                go_wp2
                go_roundw
                case rel => exact ⟨k' + 1, by omega, by go_num, by rw [HR2.out]; exact hrow2, hB2⟩
                case measure => simp [intOf]; omega
              · have e1 : (x == mm) = false := beq_eq_false_iff_ne.2 hxm
                have HR2 := Lib.hid (show restK ll mm (k' + 1) = restK ll mm k' ++ [x] by rw [HRS.out, if_neg hxm])
                have hrb : (restK ll mm k').length ≤ 1099511627776 := by omega
                clear hxm hll hrl
                generalize restK ll mm k' = rs at *
                go_wp2_with (at_builtin; refine wpList_append_own_at _ rfl _ _ 50 rfl w1.heap.size 9 i0 (.string ByteArray.empty) 1 16 Tryz.underlying50 hi0 hz0 hz1 hz2 rfl (by decide) _ _ _ rfl (hrow2.alloc _) ⟨wr.heap.size, 0, none⟩ 1 1 [.string ⟨x.toArray⟩] rfl rfl (cell_one_new _ _ _) (by simp [Value.oneCell']) (by unfold maxLen; omega) (by omega) (by simp; omega) ?_; intro v8 w8 hown8 hgrow8 _ _)
                have hb8 : Below w1.heap.size wr w8 := ((Below.refl _ wr).alloc hBs2 _).grown hgrow8 (by simp; omega) (fun b hb => (hrow2.lt b hb).1)
                go_roundw
                case rel => exact ⟨k' + 1, by omega, by go_num, by rw [HR2.out]; simpa [encStr] using hown8, hB2.trans hb8⟩
                case measure => simp [intOf]; omega
            · obtain rfl : k' = k := by omega
              have hall : restK ll mm k' = ll.filter fun x => decide (x ≠ mm) := by
                unfold restK
                rw [List.take_of_length_le (by omega)]
              have hless := restK_less ll mm HM3.out.1
              rw [← hall] at hless
              have HK2 := Lib.hid (show RiseK l (out ++ [mm]) (restK ll mm k') by rw [hall]; exact HK.out.next HM3.out.1 HM3.out.2)
              obtain ⟨q2, c2, rfl, hc2, hm2, hs2, hq2⟩ := slIn_of_owns hrow2
              have hlen2 : (restK ll mm k').length < k' := by omega
              clear hall hless hll hrl
              generalize restK ll mm k' = rs at *
              go_wp2
              go_roundw
              case rel =>
                refine ⟨q2, rs.length, c2, rs, out ++ [mm], rfl, by omega, hs2, ?_, HK2, hB.trans (hb1.trans (hB2.mono (by omega))), fun a ha h0 e => ?_⟩
                · have := (Keep.of_below hB2).row hown' (fun b hb => (hown'.lt b hb).2)
                  simpa [encStr] using this
                · have h1 := (hq2 a ha).1
                  have h2 := (hown'.lt _ e).2
                  omega
              case measure => simp [sliceLen]; omega
    · obtain rfl : n' = 0 := by omega
      have hnil : ll = [] := List.eq_nil_of_length_eq_zero HLL.out
      subst hnil
      have HR := Lib.hid HK.out.done
      obtain ⟨q4, c4, rfl, hc4, _, hs4, _⟩ := slIn_of_owns hrow
      replace hs4 : SlIn encStr wr q4 out.length (sortR l) := by have := hs4; rw [← HR.out]; exact this
      clear hsl hrow HK
      go_wp2
      go_ret
      exact ⟨q4, _, c4, rfl, hs4, hB⟩

end Go.Proofs.YtdlofjcblcpgpaaGreatDoor.Frm

namespace Go.Proofs.YtdlofjcblcpgpaaGreatDoor.Frm
open Go.RowKit Go.Shelf Go.Sort Url Org Cls
attribute [local go_sem] Oper.semAt_some
set_option linter.unusedVariables false

theorem flatC_take (ls : List (List (List UInt8))) (k : Nat) (x : List (List UInt8)) (h : ls[k]? = some x) : (ls.take (k + 1)).flatten = (ls.take k).flatten ++ x := by
  rw [(take_snoc ls k x h).1, List.flatten_append]; simp
theorem flatC_le (ls : List (List (List UInt8))) (k : Nat) : (ls.take k).flatten.length ≤ ls.flatten.length := by
  have h : ls.flatten = (ls.take k).flatten ++ (ls.drop k).flatten := by rw [← List.flatten_append, List.take_append_drop]
  rw [h, List.length_append]; omega
theorem flatC_small (m : Nat) : ∀ ls : List (List (List UInt8)), (∀ x ∈ ls, x.length ≤ m) → ls.flatten.length ≤ ls.length * m
  | [], _ => by simp
  | x :: r, h => by
    have h1 := h x (by simp)
    have h2 := flatC_small m r fun y hy => h y (by simp [hy])
    rw [List.flatten_cons, List.length_append, List.length_cons, Nat.succ_mul]; omega
theorem RefIn.few {w : World} {q : Option Addr} {n : Nat} {xs : List (List (List UInt8))} (h : RefIn w q n xs) : ∀ x ∈ xs, x.length ≤ 16 := by
  obtain ⟨zs, _, h2, rfl⟩ := h
  intro x hx
  obtain ⟨z, hz, rfl⟩ := List.mem_map.1 hx
  exact (h2 z hz).1.few
end Go.Proofs.YtdlofjcblcpgpaaGreatDoor.Frm

namespace Go.Proofs.YtdlofjcblcpgpaaGreatDoor.Lbl
open Go.RowKit Go.Shelf Go.Sort Url Org Cls Frm
attribute [local go_sem] Oper.semAt_some
set_option linter.unusedVariables false

theorem sameB_iff (l o : Lab) : sameB l o = true ↔ l = o := by
  cases l; cases o
  simp [sameB]
end Go.Proofs.YtdlofjcblcpgpaaGreatDoor.Lbl

namespace Go.Proofs.YtdlofjcblcpgpaaGreatDoor.Frm
open Go.RowKit Go.Shelf Go.Sort Url Org Cls
attribute [local go_sem] Oper.semAt_some
set_option linter.unusedVariables false

def oneK (names c : List (List UInt8)) (s k : Nat) : Bool := (List.range k).any fun i => decide (s / 2 ^ i % 2 = 1) && (match names[i]? with | some p => decide (p ∈ c) | none => false)
theorem oneK_succ (names c : List (List UInt8)) (s k : Nat) (p : List UInt8) (h : names[k]? = some p) : oneK names c s (k + 1) = (oneK names c s k || (decide (s / 2 ^ k % 2 = 1) && decide (p ∈ c))) := by
  unfold oneK; rw [List.range_succ, List.any_append]; simp [h]
theorem oneK_all (names c : List (List UInt8)) (s : Nat) : oneK names c s names.length = c.any (setB names s) := by
  rw [Bool.eq_iff_iff]
  unfold oneK
  rw [List.any_eq_true, List.any_eq_true]
  constructor
  · rintro ⟨i, hi, h⟩
    rw [Bool.and_eq_true] at h
    have hi2 := List.mem_range.1 hi
    rw [List.getElem?_eq_getElem hi2] at h
    exact ⟨names[i], of_decide_eq_true h.2, (set_iff _ _ _).2 ⟨i, List.getElem?_eq_getElem hi2, of_decide_eq_true h.1⟩⟩
  · rintro ⟨p, hp, h⟩
    obtain ⟨i, hi, hs⟩ := (set_iff _ _ _).1 h
    obtain ⟨hl, _⟩ := List.getElem?_eq_some_iff.1 hi
    refine ⟨i, List.mem_range.2 hl, ?_⟩
    rw [hi, Bool.and_eq_true]
    exact ⟨decide_eq_true hs, decide_eq_true hp⟩
theorem holds_false (f : List (List (List UInt8))) (S : List UInt8 → Bool) (c : List (List UInt8)) (hc : c ∈ f) (h : c.any S = false) : holdsB f S = false := by
  unfold holdsB
  rw [List.all_eq_false]
  exact ⟨c, hc, by rw [h]; decide⟩
theorem holds_take (f : List (List (List UInt8))) (S : List UInt8 → Bool) (k : Nat) (c : List (List UInt8)) (hk : f[k]? = some c) (h : holdsB (f.take k) S = true) (hc : c.any S = true) : holdsB (f.take (k + 1)) S = true := by
  unfold holdsB at h ⊢
  rw [(take_snoc f k c hk).1, List.all_append, h]
  simp [hc]

set_option maxRecDepth 100000 in
set_option maxHeartbeats 16000000 in
theorem refHolds_any (q : Option Addr) (n c : Nat) (f : List (List (List UInt8))) (qn : Option Addr) (nn cn : Nat) (names : List (List UInt8)) (s : Nat) (w : World) (h : RefIn w q n f) (hn : SlIn encStr w qn nn names) (hs : s < 256) (hnn : nn ≤ 8) (hnb : n ≤ 1000) :
    Calls Tryz.prog 26 #[.slice q n c, .slice qn nn cn, .int .i64 (s : Int)] w fun e w' => e = .returned (.bool (holdsB f (setB names s))) ∧ w = w' := by
  have hl := Lib.hid h.len
  obtain ⟨zs, hz, hzs, rfl⟩ := h
  have HZ := Lib.hid hzs
  have HN := Lib.hid hn
  have hnl := Lib.hid hn.1
  have hzl := Lib.hid hz.1
  clear hzs
  go_enter Tryz.func26, Tryz.ntmps26
  go_wp2
  go_loop [14] (fun i => ∃ k : Nat, k ≤ n ∧ i = .int .i64 k ∧ Hid (holdsB ((zs.map Prod.snd).take k) (setB names s) = true)) (fun i => n - (intOf i).toNat)
  case atStart => exact ⟨0, Nat.zero_le _, rfl, Lib.hid rfl⟩
  case round =>
    obtain ⟨k, hk, rfl, HJ⟩ := hrel
    by_cases hlt : k < n
    · obtain ⟨b, o, rfl, _, hc⟩ := hz.at (by omega)
      obtain ⟨⟨⟨zq, zn, zc⟩, x⟩, hx⟩ : ∃ z, zs[k]? = some z := ⟨_, List.getElem?_eq_getElem (by have := hzl.out; omega)⟩
      have hck : w.cell? ⟨b, o + k, none⟩ = some (.slice zq zn zc) := hc k _ hx
      have hzm := HZ.out _ (List.mem_of_getElem? hx)
      obtain ⟨_, _, _, hee, _, _, hsx, _⟩ := hzm.1.set
      cases hee
      have hxn : x.length = zn := hsx.1
      have HX := Lib.hid (show (zs.map Prod.snd)[k]? = some x by rw [List.getElem?_map, hx]; rfl)
      have hzn : zn ≤ 16 := by have := hzm.1.few; have : x.length ≤ 16 := this; omega
      have HSX := Lib.hid hsx
      clear hx hzm hc hxn hsx
      go_wp2
      go_loop [9, 20] (fun one i => ∃ j : Nat, j ≤ nn ∧ i = .int .i64 j ∧ one = .bool (oneK names x s j)) (fun _ i => nn - (intOf i).toNat)
      case atStart => exact ⟨0, Nat.zero_le _, rfl, rfl⟩
      case round =>
        obtain ⟨j, hj, rfl, rfl⟩ := hrel
        by_cases hjl : j < nn
        · obtain ⟨p, hp, _⟩ := drop_getElem names j (by rw [hnl.out]; exact hjl)
          obtain ⟨b2, o2, rfl, _, hc2⟩ := HN.out.at (by omega)
          have hcj : w.cell? ⟨b2, o2 + j, none⟩ = some (.string ⟨p.toArray⟩) := hc2 j p hp
          have HS := Lib.hid (oneK_succ names x s j p hp)
          have con := In_any zq zn zc x p w HSX.out (by omega)
          have hT : ((s : Int) / 2 ^ j).tmod 2 = ((s / 2 ^ j % 2 : Nat) : Int) := by
            have h1 : (s : Int) / 2 ^ j = ((s / 2 ^ j : Nat) : Int) := by push_cast; rfl
            rw [h1, Int.tmod_eq_emod_of_nonneg (Int.natCast_nonneg _)]; omega
          clear hp hc2 hz
          by_cases hbit : s / 2 ^ j % 2 = 1
          · have HS2 := Lib.hid (show oneK names x s (j + 1) = (oneK names x s j || decide (p ∈ x)) by rw [HS.out, decide_eq_true hbit, Bool.true_and])
            rw [hbit] at hT
            have hT : ((s : Int) / 2 ^ j).tmod 2 = 1 := hT
            clear hbit
            go_wp2_with fail
            refine con.mono ?_
            rintro e w2 ⟨rfl, rfl⟩
            clear con
            by_cases hin : p ∈ x
            · have HS3 := Lib.hid (show oneK names x s (j + 1) = true by rw [HS2.out, decide_eq_true hin, Bool.or_true])
              rw [decide_eq_true hin]
              clear hin
              go_wp2
              go_round
              case rel => exact ⟨j + 1, by omega, by go_num, by rw [HS3.out]⟩
              case measure => simp [intOf]; omega
            · have HS3 := Lib.hid (show oneK names x s (j + 1) = oneK names x s j by rw [HS2.out, decide_eq_false hin, Bool.or_false])
              rw [decide_eq_false hin]
              clear hin
              go_wp2
              go_round
              case rel => exact ⟨j + 1, by omega, by go_num, by rw [HS3.out]⟩
              case measure => simp [intOf]; omega
          · have HS2 := Lib.hid (show oneK names x s (j + 1) = oneK names x s j by rw [HS.out, decide_eq_false hbit, Bool.false_and, Bool.or_false])
            have hT2 : ¬ ((s : Int) / 2 ^ j).tmod 2 = 1 := by rw [hT]; omega
            clear hbit hT con
            go_wp2
            go_round
            case rel => exact ⟨j + 1, by omega, by go_num, by rw [HS2.out]⟩
            case measure => simp [intOf]; omega
        · obtain rfl : j = nn := by omega
          have HE := Lib.hid (show oneK names x s j = x.any (setB names s) by rw [← hnl.out]; exact oneK_all names x s)
          cases hone : x.any (setB names s) with
          | true =>
            have HH := Lib.hid (holds_take _ (setB names s) k x HX.out HJ.out hone)
            rw [hone] at HE
            rw [HE.out]
            clear hone
            go_wp2
            go_round
            case rel => exact ⟨k + 1, by omega, by go_num, HH⟩
            case measure => simp [intOf]; omega
          | false =>
            have HH := Lib.hid (holds_false _ (setB names s) x (List.mem_of_getElem? HX.out) hone)
            rw [hone] at HE
            rw [HE.out]
            clear hone
            go_wp2
            go_ret
            exact ⟨by rw [HH.out]; rfl, rfl⟩
    · obtain rfl : k = n := by omega
      have HH := Lib.hid (show holdsB (zs.map Prod.snd) (setB names s) = true by
        have := HJ.out
        rwa [List.take_of_length_le (by rw [hl.out]; exact Nat.le_refl _)] at this)
      clear HJ
      go_wp2
      go_ret
      exact ⟨by rw [HH.out]; rfl, rfl⟩

end Go.Proofs.YtdlofjcblcpgpaaGreatDoor.Frm

namespace Go.Proofs.YtdlofjcblcpgpaaGreatDoor.Frm
open Go.RowKit Go.Shelf Go.Sort Url Org Cls
attribute [local go_sem] Oper.semAt_some
set_option linter.unusedVariables false

/-- A formula's row as it lies in memory, and what it is. -/
abbrev Rw := (Option Addr × Nat × Nat) × List (List (List UInt8))
/-- What has come, by the number of formulas gone through. -/
def accN (rs : List Rw) (k : Nat) : List (List UInt8) := ((rs.take k).map Prod.snd).flatten.flatten
theorem accN_succ (rs : List Rw) (k : Nat) (r : Rw) (h : rs[k]? = some r) : accN rs (k + 1) = accN rs k ++ r.2.flatten := by
  unfold accN
  rw [(take_snoc rs k r h).1, List.map_append, List.flatten_append, List.flatten_append]
  simp
theorem accN_len (rs : List Rw) (h : ∀ r ∈ rs, r.2.flatten.length ≤ 256) : ∀ k, k ≤ rs.length → (accN rs k).length ≤ 256 * k
  | 0, _ => by simp [accN]
  | k + 1, hk => by
    have h1 := accN_len rs h k (by omega)
    have hr : rs[k]? = some rs[k] := List.getElem?_eq_getElem (by omega)
    rw [accN_succ rs k _ hr, List.length_append]
    have := h _ (List.mem_of_getElem? hr)
    omega

set_option maxRecDepth 100000 in
set_option maxHeartbeats 16000000 in
theorem refPrinN_any (b : Nat) (rs : List Rw) (w : World) (m : Nat) (hm : rs.length = m) (h0 : 0 < m) (hm8 : m ≤ 8) (hbl : b < w.heap.size)
    (hc : ∀ k r, rs[k]? = some r → w.cell? ⟨b, k, none⟩ = some (.slice r.1.1 r.1.2.1 r.1.2.2)) (hr : ∀ r ∈ rs, RefIn w r.1.1 r.1.2.1 r.2 ∧ r.1.2.1 ≤ 16) :
    Calls Tryz.prog 25 #[.slice (some ⟨b, 0, none⟩) m m] w fun e w' => ∃ q n c, e = .returned (.slice q n c) ∧ SlIn encStr w' q n (namesA (rs.map Prod.snd)) ∧ Below w.heap.size w w' := by
  obtain ⟨i0, hi0, hz0, hz1, hz2⟩ := info_parts S.info_str
  have hfl : ∀ r ∈ rs, r.2.flatten.length ≤ 256 := fun r h => by
    obtain ⟨h1, h2⟩ := hr r h
    have hl := h1.len
    exact Nat.le_trans (flatC_small 16 r.2 h1.few) (by rw [hl]; omega)
  have HK := Lib.hid (show ∀ k, k ≤ m → (accN rs k).length ≤ 2048 from fun k hk => by
    have := accN_len rs hfl k (by omega)
    have h2 : 256 * k ≤ 256 * 8 := Nat.mul_le_mul_left _ (by omega)
    omega)
  have key := Lib.hid (show ∀ k, k < m → ∃ (q : Option Addr) (n c : Nat) (zs : List Cl), w.cell? ⟨b, k, none⟩ = some (.slice q n c) ∧ SlIn encC w q n zs ∧ (∀ z ∈ zs, ClAt w z ∧ (z.1.1 = none → z.1.2.2 = 0)) ∧ n ≤ 16 ∧ accN rs (k + 1) = accN rs k ++ (zs.map Prod.snd).flatten from fun k hk => by
    have hrk : rs[k]? = some rs[k] := List.getElem?_eq_getElem (by omega)
    obtain ⟨⟨zs, s1, z1, h2⟩, h3⟩ := hr _ (List.mem_of_getElem? hrk)
    exact ⟨_, _, _, zs, hc k _ hrk, s1, z1, h3, by rw [accN_succ rs k _ hrk, h2]⟩)
  have HL := Lib.hid (show accN rs m = (rs.map Prod.snd).flatten.flatten by unfold accN; rw [List.take_of_length_le (by omega)])
  obtain ⟨W1, hW1⟩ : ∃ W1, w.alloc (.cells #[] 9) = W1 := ⟨_, rfl⟩
  have A1 : Below w.heap.size w W1 := hW1 ▸ below_alloc _
  have hrow0 : W1.ownsRow w.heap.size 9 1 (.slice (some ⟨w.heap.size, 0, none⟩) 0 0) 0 [] := hW1 ▸ World.ownsRow_made w #[] 0 (Nat.le_refl _) (Nat.zero_le _) rfl
  have HW1 := Lib.hid hW1
  clear hW1 hc hr hfl
  go_enter Tryz.func25, Tryz.ntmps25
  go_wp2
  rw [HW1.out]
  go_loopw [3, 11] (fun v i wr => ∃ k : Nat, k ≤ m ∧ i = .int .i64 k ∧ wr.ownsRow w.heap.size 9 1 v (accN rs k).length ((accN rs k).map encStr) ∧ Below w.heap.size w wr) (fun _ i _ => m - (intOf i).toNat)
  case atStart => exact ⟨0, Nat.zero_le _, rfl, by simpa [accN] using hrow0, A1⟩
  case round =>
    obtain ⟨k, hk, rfl, hrow, hB⟩ := hrel
    have hbs := hB.size
    clear hrow0
    by_cases hlt : k < m
    · obtain ⟨q, n, c, zs, hc, hsl, hzs, hn, hacc⟩ := key.out k hlt
      have hck : wr.cell? ⟨b, k, none⟩ = some (.slice q n c) := (World.cell?_of_block (hB.block b hbl)).trans hc
      have HZ := Lib.hid hzs
      have HSL := Lib.hid hsl
      have hzl := Lib.hid hsl.1
      have HA := Lib.hid hacc
      have HA0 := Lib.hid (HK.out (k + 1) (by omega))
      have hak := HK.out k hk
      generalize accN rs k = acc at hrow HA hak
      clear hc hsl hzs hacc
      go_wp2
      obtain ⟨G, hG⟩ : ∃ G : Nat → List (List UInt8), ∀ j, G j = acc ++ ((zs.map Prod.snd).take j).flatten := ⟨_, fun _ => rfl⟩
      have HG := Lib.hid hG
      clear hG
      go_loopw [3, 17] (fun v i wr2 => ∃ j : Nat, j ≤ n ∧ i = .int .i64 j ∧ wr2.ownsRow w.heap.size 9 1 v (G j).length ((G j).map encStr) ∧ Below w.heap.size w wr2) (fun _ i _ => n - (intOf i).toNat)
      case atStart => exact ⟨0, Nat.zero_le _, rfl, by rw [HG.out]; simpa using hrow, hB⟩
      case round =>
        obtain ⟨j, hj, rfl, hrow2, hB2⟩ := hrel
        have hbs2 := hB2.size
        clear hrow hB hck hbs
        by_cases hjl : j < n
        · obtain ⟨b2, o2, rfl, _, hc2⟩ := (HSL.out.below hB2 HSL.out.lt).at (by omega)
          obtain ⟨⟨⟨zq, zn, zc⟩, zx⟩, hz⟩ : ∃ z, zs[j]? = some z := ⟨_, List.getElem?_eq_getElem (by have := hzl.out; omega)⟩
          have hcj : wr.cell? ⟨b2, o2 + j, none⟩ = some (.slice zq zn zc) := hc2 j _ hz
          have hzm := HZ.out _ (List.mem_of_getElem? hz)
          obtain ⟨_, _, _, hee, _, _, hsx, _⟩ := (hzm.1.below hB2).set
          cases hee
          have hqz : zq = none → zc = 0 := hzm.2
          have HF := Lib.hid (flatC_take (zs.map Prod.snd) j zx (by rw [List.getElem?_map, hz]; rfl))
          have hle := flatC_le (zs.map Prod.snd) (j + 1)
          have hb1 := HA0.out
          rw [HA.out, List.length_append] at hb1
          rw [HF.out, List.length_append] at hle
          have hzx : zx.length = zn := hsx.1
          have hbnd : (G j).length + zx.length ≤ 2048 := by rw [HG.out, List.length_append]; omega
          have HL2 := Lib.hid (show G (j + 1) = G j ++ zx by rw [HG.out, HG.out, HF.out, List.append_assoc])
          clear hz hc2 hle hb1 hzm
          obtain ⟨rs, hrs⟩ : ∃ rs, G j = rs := ⟨_, rfl⟩
          rw [hrs] at hrow2 hbnd HL2
          rw [hzx] at hbnd
          have HZX := Lib.hid hzx
          clear hzx hak hrs
          go_wp2_with (at_builtin; refine wpList_append_row (enc := encStr) rfl _ _ 50 9 rfl i0 (.string ByteArray.empty) 16 Tryz.underlying50 hi0 hz0 hz1 hz2 rfl (fun _ => rfl) (by decide) w.heap.size _ _ _ rfl hrow2 zq zn zc zx rfl hqz hsx (by omega) hbs2 ?_; intro v4 w4 hown4 hgrow4)
          go_roundw
          case rel =>
            refine ⟨j + 1, by omega, by go_num, ?_, hB2.trans ((Below.refl _ _).grown hgrow4 hbs2 (fun b h => (hrow2.lt b h).1))⟩
            rw [HL2.out, List.length_append, HZX.out, List.map_append]; exact hown4
          case measure => simp [intOf]; omega
        · obtain rfl : j = n := by omega
          have HE := Lib.hid (show G j = accN rs (k + 1) by
            rw [HG.out, List.take_of_length_le (by rw [List.length_map, hzl.out]; exact Nat.le_refl _), HA.out])
          rw [HE.out] at hrow2
          go_wp2
          go_roundw
          case rel => exact ⟨k + 1, by omega, by go_num, hrow2, hB2⟩
          case measure => simp [intOf]; omega
    · obtain rfl : k = m := by omega
      have hak := HK.out k (Nat.le_refl _)
      obtain ⟨q4, c4, rfl, hc4, _, hs4, _⟩ := slIn_of_owns hrow
      have HN := Lib.hid (show namesA (rs.map Prod.snd) = sortR (accN rs k) by unfold namesA; rw [HL.out])
      have con := Rising_any q4 (accN rs k).length c4 (accN rs k) wr hs4 (by omega)
      rw [← HN.out] at con
      generalize (accN rs k).length = mm at *
      clear hs4 hrow
      go_wp2_with fail
      refine con.mono ?_
      rintro e w5 ⟨q5, n5, c5, rfl, h5, hb5⟩
      clear con
      go_wp2
      go_ret
      exact ⟨q5, n5, c5, rfl, h5, hB.trans (hb5.mono hbs)⟩

/-! ### the formula of one principal -/
theorem single_cases1 (p : List UInt8) : (∃ n : Int, ofC [p] = .inl n ∧ singleR p = .inl n ∧ n ≠ 0) ∨ (ofC [p] = .inr [p] ∧ singleR p = .inr [[p]] ∧ COk [p]) := by
  cases h : ofC [p] with
  | inl n => exact .inl ⟨n, rfl, by unfold singleR; rw [h], by rcases ofC_no _ _ h with h | h <;> omega⟩
  | inr c =>
    have hk := (of_ok _ c h).1
    have e : c = [p] := by
      unfold ofC at h
      split at h
      · split at h
        · cases h; rfl
        · cases h
      · cases h
    subst e
    exact .inr ⟨rfl, by unfold singleR; rw [h]; exact ofF_self _ (one_ok _ hk), hk⟩

end Go.Proofs.YtdlofjcblcpgpaaGreatDoor.Frm

namespace Go.Proofs.YtdlofjcblcpgpaaGreatDoor.Lbl
open Go.RowKit Go.Shelf Go.Sort Url Org Cls Frm
attribute [local go_sem] Oper.semAt_some
set_option linter.unusedVariables false

/-- The label of one principal. -/
def oneL (p : List UInt8) : Sum Int Lab := match singleR p with
  | .inl e => .inl e
  | .inr f => .inr ⟨f, []⟩
theorem oneL_val (p : List UInt8) : labV (oneL p) = ⟨frmV (singleR p), []⟩ ∧ labE (oneL p) = frmE (singleR p) := by
  unfold oneL
  cases singleR p <;> exact ⟨rfl, rfl⟩

set_option maxRecDepth 100000 in
set_option maxHeartbeats 8000000 in
theorem Of_any (p : List UInt8) (w : World) (hl : p.length ≤ 1300) (hG : Gl w) :
    Calls Tryz.prog 27 #[.string ⟨p.toArray⟩] w (LabOut (oneL p) w) := by
  obtain ⟨W, hW⟩ : ∃ W, w.alloc (.cells #[.slice none 0 0, .slice none 0 0] 28) = W := ⟨_, rfl⟩
  have A1 : Below w.heap.size w W := hW ▸ below_alloc _
  have b8 : LB w.heap.size #[.slice none 0 0, .slice none 0 0] W := hW ▸ LB.new w _
  have HSZ := Lib.hid (show W.heap.size = w.heap.size + 1 by rw [← hW]; simp)
  have con := Single_any p W hl (hG.on A1)
  have HV := Lib.hid (oneL_val p)
  have HW := Lib.hid hW
  unfold LabOut
  rw [HV.out.1, HV.out.2]
  obtain ⟨r, hr⟩ : ∃ r, singleR p = r := ⟨_, rfl⟩
  rw [hr] at con ⊢
  unfold FrmOut at con
  obtain ⟨en, hen⟩ : ∃ n, frmE r = n := ⟨_, rfl⟩
  obtain ⟨rv, hrv⟩ : ∃ v, frmV r = v := ⟨_, rfl⟩
  rw [hen, hrv] at con ⊢
  clear hW hr hen hrv hG HV
  go_enter Tryz.func27, Tryz.ntmps27
  go_wp2_with fail
  rw [HW.out]
  refine con.mono ?_
  rintro e w2 ⟨q5, n5, c5, rfl, f5, k5, hb⟩
  have A2 := A1.trans (hb.mono A1.size)
  have hba : Below w2.heap.size w2 (w2.alloc (.cells #[.slice q5 n5 c5] 26)) := below_alloc _
  have A3 := A2.trans (hba.mono A2.size)
  replace b8 := (b8.on hb).on hba
  have bx : Boxed (w2.alloc (.cells #[.slice q5 n5 c5] 26)) w2.heap.size 26 (.slice q5 n5 c5) := Boxed.new w2 _ _
  replace f5 := f5.below hba
  have K5 := Lib.hid (show ∀ a, q5 = some a → 0 < n5 → w.heap.size < a.block from fun a h _ => by have := k5 a h; have := HSZ.out; omega)
  have kf0 := b8.frozen 0
  have kf1 := b8.frozen 1
  have z0 := b8.box 0 _ rfl
  have z1 := b8.box 1 _ rfl
  have cx := bx.cell
  obtain ⟨Y, hY, bY, hkY, hBY⟩ := b8.put (.slice q5 n5 c5) (.slice none 0 0)
  have A6 := A3.trans (hBY _ (Nat.le_refl _))
  have g5 := FrmIs.off f5 b8 (fun a h h0 => by have := K5.out a h h0; omega) (hkY _ (by simp))
  have HY := Lib.hid hY
  clear con hb A1 HW k5 hba hY f5 bx
  go_wp2
  rw [HY.out]
  refine bodyPost_ret (ret_lab2 rfl _ _ w.heap.size _ rfl bY rfl) rfl ?_
  exact ⟨q5, n5, c5, none, 0, 0, rfl, g5, frm_nil _, (fun a h h0 => by have := K5.out a h h0; omega), (fun a h => by cases h), A6⟩

end Go.Proofs.YtdlofjcblcpgpaaGreatDoor.Lbl

namespace Go.Proofs.YtdlofjcblcpgpaaGreatDoor.Lbl
open Go.RowKit Go.Shelf Go.Sort Url Org Cls Frm
attribute [local go_sem] Oper.semAt_some
set_option linter.unusedVariables false

/-- Block B holds the cells of a label of the document's. -/
def RB (B : Nat) (cs : Array Value) (X : World) : Prop := X.heap[B]? = some (.cells cs 35 (0, 0))
theorem RB.box {B : Nat} {cs : Array Value} {X : World} (h : RB B cs X) : Box B cs X := fun i x hx => by
  simp only [World.cell?, show X.heap[B]? = _ from h]; exact hx
theorem RB.frozen {B : Nat} {cs : Array Value} {X : World} (h : RB B cs X) (i : Nat) : X.frozen? ⟨B, i, none⟩ = false := by
  simp [World.frozen?, show X.heap[B]? = _ from h]
theorem RB.on {B : Nat} {cs : Array Value} {X Y : World} (h : RB B cs X) (hk : Below X.heap.size X Y) : RB B cs Y := (hk.block B (Array.getElem?_eq_some_iff.1 h).1).trans h
theorem RB.lt {B : Nat} {cs : Array Value} {X : World} (h : RB B cs X) : B < X.heap.size := (Array.getElem?_eq_some_iff.1 h).1
theorem RB.new (w : World) (cs : Array Value) : RB w.heap.size cs (w.alloc (.cells cs 35)) := World.alloc_heap_new w _
theorem RB.set {B : Nat} {cs : Array Value} {X : World} (h : RB B cs X) (i : Nat) (v : Value) : RB B (cs.setIfInBounds i v) (X.setCell ⟨B, i, none⟩ v) := by
  obtain ⟨hlt, hk⟩ := Array.getElem?_eq_some_iff.1 h
  show (X.heap.modify B _)[B]? = _
  rw [Array.getElem?_eq_getElem (by rw [Array.size_modify]; exact hlt), Array.getElem_modify_self, hk]
  rfl
theorem RB.put {B : Nat} {X : World} {a0 a1 : Value} (h : RB B #[a0, a1] X) (v0 v1 : Value) :
    ∃ Y, (X.setCell ⟨B, 0, none⟩ v0).setCell ⟨B, 1, none⟩ v1 = Y ∧ RB B #[v0, v1] Y ∧ (∀ S : Nat → Prop, ¬ S B → Keep S X Y) ∧ ∀ M, M ≤ B → Below M X Y := by
  have h8 := (h.set 0 v0).set 1 v1
  simp only [List.setIfInBounds_toArray, List.set_cons_zero, List.set_cons_succ] at h8
  refine ⟨_, rfl, h8, fun S hS => ?_, fun M hM => ?_⟩
  · exact (Keep.setCell _ _ _ hS).trans (Keep.setCell _ _ _ hS)
  · exact ((Below.refl M X).setCell (p := ⟨B, 0, none⟩) hM v0).setCell (p := ⟨B, 1, none⟩) hM v1
theorem size_ref : (Tryz.prog.info? 35).map (·.size) = some 2 := by kernel_rfl
theorem ret_ref {fn : Func} {p : Tmp} (h : fn.results = #[.cell p 35]) (tmps : Array Value) (w : World) (B : Nat) (cs : Array Value) (hp : tmps.getD p undef = .pointer (some ⟨B, 0, none⟩)) (hU : RB B cs w) (hs : cs.size = 2) :
    (results fn tmps).run Tryz.prog w = .ok (.agg cs) w :=
  results_cell_row h tmps w B _ cs (0, 0) _ hp hU Tryz.underlying35 rfl (by rw [size_ref, hs])
theorem slIn_ne_rb {w : World} {q : Option Addr} {n : Nat} {xs : List (List UInt8)} {B : Nat} {s0 s1 : Value} (h : SlIn encStr w q n xs) (hB : RB B #[s0, s1] w) (h0 : ∀ x, encStr x ≠ s0) (h1 : ∀ x, encStr x ≠ s1) : ∀ a, q = some a → 0 < n → a.block ≠ B := by
  rintro a rfl hn rfl
  obtain ⟨b, o, he, _, hc⟩ := h.at hn
  cases he
  cases xs with
  | nil => have := h.1; simp at this; omega
  | cons x xs =>
    have k1 := hc 0 x rfl
    have k2 : w.heap[b]? = some (.cells #[s0, s1] 35 (0, 0)) := hB
    simp only [World.cell?, k2] at k1
    rcases (show o = 0 ∨ o = 1 ∨ 2 ≤ o by omega) with ho | ho | ho
    · subst ho; simp at k1; exact h0 x k1.symm
    · subst ho; simp at k1; exact h1 x k1.symm
    · simp at k1; rw [List.getElem?_eq_none (by simp; omega)] at k1; cases k1
theorem RefIn.lt {w : World} {q : Option Addr} {n : Nat} {f : List (List (List UInt8))} (h : RefIn w q n f) : ∀ a, q = some a → 0 < n → a.block < w.heap.size := by
  obtain ⟨zs, h1, _⟩ := h
  exact h1.lt
theorem RefIn.off {w Y : World} {q : Option Addr} {n : Nat} {f : List (List (List UInt8))} {B : Nat} {q1 q2 : Option Addr} {n1 c1 n2 c2 : Nat} (h : RefIn w q n f) (hB : RB B #[.slice q1 n1 c1, .slice q2 n2 c2] w)
    (hq : ∀ a, q = some a → 0 < n → a.block ≠ B) (hk : Keep (fun b => b ≠ B) w Y) : RefIn Y q n f := by
  obtain ⟨zs, s, z, rfl⟩ := h
  exact ⟨zs, s.keep hk hq, fun x hx => ⟨(z x hx).1.from hk fun a ha h0 => by
    obtain ⟨_, _, _, he, _, _, hs, _⟩ := (z x hx).1.set
    cases he
    exact slIn_ne_rb hs hB (fun x h => by cases h) (fun x h => by cases h) a ha h0, (z x hx).2⟩, rfl⟩
/-- The value v is the document's label l, in w. -/
def LabRef (w : World) (v : Value) (l : Lab) : Prop := ∃ q1 n1 c1 q2 n2 c2, v = .agg #[.slice q1 n1 c1, .slice q2 n2 c2] ∧ RefIn w q1 n1 l.s ∧ RefIn w q2 n2 l.i ∧ (q1 = none → c1 = 0) ∧ (q2 = none → c2 = 0)
theorem LabRef.below {w w' : World} {v : Value} {l : Lab} (h : LabRef w v l) (hb : Below w.heap.size w w') : LabRef w' v l := by
  obtain ⟨q1, n1, c1, q2, n2, c2, rfl, h1, h2, h3⟩ := h
  exact ⟨q1, n1, c1, q2, n2, c2, rfl, h1.below hb, h2.below hb, h3⟩
/-- A box that holds a label of the document's. -/
def RX (b : Nat) (q1 : Option Addr) (n1 c1 : Nat) (q2 : Option Addr) (n2 c2 : Nat) (l : Lab) (X : World) : Prop := RB b #[.slice q1 n1 c1, .slice q2 n2 c2] X ∧ LabRef X (.agg #[.slice q1 n1 c1, .slice q2 n2 c2]) l
theorem RX.on {b : Nat} {q1 : Option Addr} {n1 c1 : Nat} {q2 : Option Addr} {n2 c2 : Nat} {l : Lab} {X Y : World} (h : RX b q1 n1 c1 q2 n2 c2 l X) (hb : Below X.heap.size X Y) : RX b q1 n1 c1 q2 n2 c2 l Y := ⟨h.1.on hb, h.2.below hb⟩
theorem RX.c0 {b : Nat} {q1 : Option Addr} {n1 c1 : Nat} {q2 : Option Addr} {n2 c2 : Nat} {l : Lab} {X : World} (h : RX b q1 n1 c1 q2 n2 c2 l X) : X.cell? ⟨b, 0, none⟩ = some (.slice q1 n1 c1) := h.1.box 0 _ rfl
theorem RX.c1 {b : Nat} {q1 : Option Addr} {n1 c1 : Nat} {q2 : Option Addr} {n2 c2 : Nat} {l : Lab} {X : World} (h : RX b q1 n1 c1 q2 n2 c2 l X) : X.cell? ⟨b, 1, none⟩ = some (.slice q2 n2 c2) := h.1.box 1 _ rfl
theorem RX.parts {b : Nat} {q1 : Option Addr} {n1 c1 : Nat} {q2 : Option Addr} {n2 c2 : Nat} {l : Lab} {X : World} (h : RX b q1 n1 c1 q2 n2 c2 l X) : RefIn X q1 n1 l.s ∧ RefIn X q2 n2 l.i := by
  obtain ⟨_, _, _, _, _, _, he, h1, h2, _⟩ := h.2
  cases he
  exact ⟨h1, h2⟩

set_option maxRecDepth 100000 in
set_option maxHeartbeats 16000000 in
theorem lawRef_any (v : Value) (l : Lab) (w : World) (h : LabIs w v l) (fl : Few l) :
    Calls Tryz.prog 15 #[v] w fun e w' => ∃ q1 n1 c1 q2 n2 c2, e = .returned (.agg #[.slice q1 n1 c1, .slice q2 n2 c2]) ∧ LabRef w' (.agg #[.slice q1 n1 c1, .slice q2 n2 c2]) l ∧ (∀ a, q1 = some a → w.heap.size ≤ a.block) ∧ (∀ a, q2 = some a → w.heap.size ≤ a.block) ∧ Below w.heap.size w w' := by
  obtain ⟨q1, n1, c1, q2, n2, c2, rfl, s1, i1⟩ := h
  obtain ⟨W, hW⟩ : ∃ W, (w.alloc (.cells #[.slice q1 n1 c1, .slice q2 n2 c2] 28)).alloc (.cells #[.slice none 0 0, .slice none 0 0] 35) = W := ⟨_, rfl⟩
  have A1 : Below w.heap.size w W := hW ▸ ((Below.refl _ w).alloc (Nat.le_refl _) _).alloc (by simp) _
  have b0 : LB w.heap.size #[.slice q1 n1 c1, .slice q2 n2 c2] W := hW ▸ (LB.new w _).on (below_alloc _)
  have b1 : RB (w.heap.size + 1) #[.slice none 0 0, .slice none 0 0] W := by
    have := RB.new (w.alloc (.cells #[.slice q1 n1 c1, .slice q2 n2 c2] 28)) #[.slice none 0 0, .slice none 0 0]
    rw [World.size_alloc] at this
    exact hW ▸ this
  obtain ⟨W2, hW2⟩ : ∃ Z, W.drew = Z := ⟨_, rfl⟩
  have hd : Below W.heap.size W W2 := hW2 ▸ ⟨rfl, rfl, rfl, Nat.le_refl _, fun _ _ => rfl⟩
  have A2 := A1.trans (hd.mono A1.size)
  have b2 := b0.on hd
  have r2 := b1.on hd
  have HSZ := Lib.hid (show w.heap.size + 2 ≤ W2.heap.size from r2.lt)
  have con := Frm.Ref_new _ l.s W2 (s1.below A2) (by have := fl.1; omega)
  have HC := Lib.hid (fun X (hb : Below w.heap.size w X) => Frm.Ref_new _ l.i X (i1.below hb) (by have := fl.2; omega))
  have HW := Lib.hid hW
  have HW2 := Lib.hid hW2
  have x0 := b2.box 0 _ rfl
  have x1 := b2.box 1 _ rfl
  clear hW s1 i1 fl hW2 hd A1 b0 b1
  go_enter Tryz.func15, Tryz.ntmps15
  go_wp2_with fail
  rw [HW.out]
  refine pregion_any (fun X => X.cell? ⟨w.heap.size, 0, none⟩ = some (.slice q1 n1 c1) ∧ X.cell? ⟨w.heap.size, 1, none⟩ = some (.slice q2 n2 c2)) (by kernel_rfl) ?_
  rw [HW2.out]
  refine wpAnyH_take (i := 0) (v := (.pointer (some ⟨w.heap.size, 0, none⟩))) rfl (by kernel_rfl) (by kernel_rfl) (by kernel_rfl) (fun _ _ _ h => h) (.inl ⟨by kernel_rfl, ?_⟩) ⟨x0, x1⟩ ?_
  · rintro w ⟨h1, h2⟩; go_simp <;> omega
  refine plist #[true, false, false, false, false, false, false, false] (by kernel_rfl) ?_
  refine wpAnyH_take (i := 1) (v := (.agg #[.slice q1 n1 c1])) rfl (by kernel_rfl) (by kernel_rfl) (by kernel_rfl) (fun _ _ _ h => h) (.inl ⟨by kernel_rfl, ?_⟩) ⟨x0, x1⟩ ?_
  · rintro w ⟨h1, h2⟩; go_simp <;> omega
  refine plist #[true, true, false, false, false, false, false, false] (by kernel_rfl) ?_
  refine wpAnyH_take (i := 3) (v := (.pointer (some ⟨w.heap.size, 1, none⟩))) rfl (by kernel_rfl) (by kernel_rfl) (by kernel_rfl) (fun _ _ _ h => h) (.inl ⟨by kernel_rfl, ?_⟩) ⟨x0, x1⟩ ?_
  · rintro w ⟨h1, h2⟩; go_simp <;> omega
  refine plist #[true, true, false, true, false, false, false, false] (by kernel_rfl) ?_
  refine wpAnyH_take (i := 4) (v := (.agg #[.slice q2 n2 c2])) rfl (by kernel_rfl) (by kernel_rfl) (by kernel_rfl) (fun _ _ _ h => h) (.inl ⟨by kernel_rfl, ?_⟩) ⟨x0, x1⟩ ?_
  · rintro w ⟨h1, h2⟩; go_simp <;> omega
  refine plist #[true, true, false, true, true, false, false, false] (by kernel_rfl) ?_
  refine pone 2 (by kernel_rfl) rfl fun K hK => ?_
  go_simp
  refine con.mono ?_
  rintro e w3 ⟨q7, n7, c7, rfl, R7, k7, z7, hb⟩
  have A3 := A2.trans (hb.mono A2.size)
  have b3 := b2.on hb
  have r3 := r2.on hb
  replace x0 := b3.box 0 _ rfl
  replace x1 := b3.box 1 _ rfl
  have HSZ3 := Lib.hid hb.size
  clear con hb b2 r2
  refine hK _ _ ⟨x0, x1⟩ ?_
  clear hK K
  refine plist #[true, true, true, true, true, false, false, false] (by kernel_rfl) ?_
  have con := HC.out w3 A3
  refine pone 5 (by kernel_rfl) rfl fun K hK => ?_
  go_simp
  refine con.mono ?_
  rintro e w4 ⟨q8, n8, c8, rfl, R8, k8, z8, hb⟩
  have A4 := A3.trans (hb.mono A3.size)
  have b4 := b3.on hb
  have r4 := r3.on hb
  replace R7 := R7.below hb
  replace x0 := b4.box 0 _ rfl
  replace x1 := b4.box 1 _ rfl
  have K7 := Lib.hid (show ∀ a, q7 = some a → w.heap.size + 2 ≤ a.block from fun a h => by have := k7 a h; have := HSZ.out; omega)
  have K8 := Lib.hid (show ∀ a, q8 = some a → w.heap.size + 2 ≤ a.block from fun a h => by have := k8 a h; have := HSZ.out; have := HSZ3.out; omega)
  clear con hb b3 r3 k7 k8
  refine hK _ _ ⟨x0, x1⟩ ?_
  clear hK K
  refine plist #[true, true, true, true, true, true, false, false] (by kernel_rfl) ?_
  refine pone 6 (by kernel_rfl) rfl fun K hK => ?_
  go_simp
  refine hK _ _ ⟨x0, x1⟩ ?_
  clear hK K
  refine plist #[true, true, true, true, true, true, true, false] (by kernel_rfl) ?_
  have kf0 := r4.frozen 0
  have kf1 := r4.frozen 1
  have y0 := r4.box 0 _ rfl
  have y1 := r4.box 1 _ rfl
  obtain ⟨Y, hY, rY, hkY, hBY⟩ := r4.put (.slice q7 n7 c7) (.slice q8 n8 c8)
  have A5 := A4.trans (hBY _ (by omega))
  have g7 := RefIn.off R7 r4 (fun a h h0 => by have := K7.out a h; omega) (hkY _ (by simp))
  have g8 := RefIn.off R8 r4 (fun a h h0 => by have := K8.out a h; omega) (hkY _ (by simp))
  have b5 : LB w.heap.size #[.slice q1 n1 c1, .slice q2 n2 c2] Y := ((hBY (w.heap.size + 1) (Nat.le_refl _)).block _ (by omega)).trans b4
  have HY := Lib.hid hY
  clear hY R7 R8
  refine pone 7 (by kernel_rfl) rfl fun K hK => ?_
  go_simp
  rw [HY.out]
  refine hK _ _ ⟨b5.box 0 _ rfl, b5.box 1 _ rfl⟩ ?_
  clear hK K
  refine pdone (by kernel_rfl) ?_ _
  go_wp2
  refine bodyPost_ret (ret_ref rfl _ _ (w.heap.size + 1) _ rfl rY rfl) rfl ?_
  exact ⟨q7, n7, c7, q8, n8, c8, rfl, ⟨_, _, _, _, _, _, rfl, g7, g8, z7, z8⟩, (fun a h => by have := K7.out a h; omega), (fun a h => by have := K8.out a h; omega), A5⟩

end Go.Proofs.YtdlofjcblcpgpaaGreatDoor.Lbl

namespace Go.Proofs.YtdlofjcblcpgpaaGreatDoor.Lbl
open Go.RowKit Go.Shelf Go.Sort Url Org Cls Frm
set_option linter.unusedVariables false

/-- Two, or three, operations may come up. -/
theorem ptwoQ {P : Program} {ops : Array Oper} {Q : Exit → Act → World → Prop} {md : Region.Mode} {S : World → Prop} (i j : Nat) {fuel : Nat} {listed : Array Bool} {a : Act} {w : World} {o p : Oper} (hr : Region.ready md ops listed = [i, j]) (ho : ops[i]? = some o) (hp : ops[j]? = some p)
    (h1 : ∀ K : Act → World → Prop, (∀ a' w', S w' → wpAnyH P md ops Q S fuel (listed.setIfInBounds i true) a' w' → K a' w') → if Region.wanted o (yielded ops a.tmps) = true then Oper.wp P o a w K Q else K (a.put o.dst undef) w)
    (h2 : ∀ K : Act → World → Prop, (∀ a' w', S w' → wpAnyH P md ops Q S fuel (listed.setIfInBounds j true) a' w' → K a' w') → if Region.wanted p (yielded ops a.tmps) = true then Oper.wp P p a w K Q else K (a.put p.dst undef) w) :
    wpAnyH P md ops Q S (fuel + 1) listed a w :=
  wpAnyH_all hr (by simp) (AllReadyH.cons ho (fun K hK => h1 K fun a' w' hs ha => hK.out a' w' hs fun _ => ha) (AllReadyH.cons hp (fun K hK => h2 K fun a' w' hs ha => hK.out a' w' hs fun _ => ha) AllReadyH.nil))
theorem pthreeQ {P : Program} {ops : Array Oper} {Q : Exit → Act → World → Prop} {md : Region.Mode} {S : World → Prop} (i j k : Nat) {fuel : Nat} {listed : Array Bool} {a : Act} {w : World} {o p q : Oper} (hr : Region.ready md ops listed = [i, j, k]) (ho : ops[i]? = some o) (hp : ops[j]? = some p) (hq : ops[k]? = some q)
    (h1 : ∀ K : Act → World → Prop, (∀ a' w', S w' → wpAnyH P md ops Q S fuel (listed.setIfInBounds i true) a' w' → K a' w') → if Region.wanted o (yielded ops a.tmps) = true then Oper.wp P o a w K Q else K (a.put o.dst undef) w)
    (h2 : ∀ K : Act → World → Prop, (∀ a' w', S w' → wpAnyH P md ops Q S fuel (listed.setIfInBounds j true) a' w' → K a' w') → if Region.wanted p (yielded ops a.tmps) = true then Oper.wp P p a w K Q else K (a.put p.dst undef) w)
    (h3 : ∀ K : Act → World → Prop, (∀ a' w', S w' → wpAnyH P md ops Q S fuel (listed.setIfInBounds k true) a' w' → K a' w') → if Region.wanted q (yielded ops a.tmps) = true then Oper.wp P q a w K Q else K (a.put q.dst undef) w) :
    wpAnyH P md ops Q S (fuel + 1) listed a w :=
  wpAnyH_all hr (by simp) (AllReadyH.cons ho (fun K hK => h1 K fun a' w' hs ha => hK.out a' w' hs fun _ => ha) (AllReadyH.cons hp (fun K hK => h2 K fun a' w' hs ha => hK.out a' w' hs fun _ => ha) (AllReadyH.cons hq (fun K hK => h3 K fun a' w' hs ha => hK.out a' w' hs fun _ => ha) AllReadyH.nil)))

theorem LabRef.parts {w : World} {q1 : Option Addr} {n1 c1 : Nat} {q2 : Option Addr} {n2 c2 : Nat} {l : Lab} (h : LabRef w (.agg #[.slice q1 n1 c1, .slice q2 n2 c2]) l) : RefIn w q1 n1 l.s ∧ RefIn w q2 n2 l.i ∧ (q1 = none → c1 = 0) ∧ (q2 = none → c2 = 0) := by
  obtain ⟨_, _, _, _, _, _, he, h⟩ := h
  cases he
  exact h
theorem LabRef.off {w Y : World} {q1 : Option Addr} {n1 c1 : Nat} {q2 : Option Addr} {n2 c2 : Nat} {l : Lab} {B : Nat} {p1 p2 : Option Addr} {k1 d1 k2 d2 : Nat} (h : LabRef w (.agg #[.slice q1 n1 c1, .slice q2 n2 c2]) l) (hB : RB B #[.slice p1 k1 d1, .slice p2 k2 d2] w)
    (hn : (∀ a, q1 = some a → 0 < n1 → a.block ≠ B) ∧ ∀ a, q2 = some a → 0 < n2 → a.block ≠ B) (hk : Keep (fun b => b ≠ B) w Y) : LabRef Y (.agg #[.slice q1 n1 c1, .slice q2 n2 c2]) l := by
  obtain ⟨h1, h2, h3⟩ := h.parts
  exact ⟨_, _, _, _, _, _, rfl, RefIn.off h1 hB hn.1 hk, RefIn.off h2 hB hn.2 hk, h3⟩
theorem LabRef.ne {w : World} {q1 : Option Addr} {n1 c1 : Nat} {q2 : Option Addr} {n2 c2 : Nat} {l : Lab} (h : LabRef w (.agg #[.slice q1 n1 c1, .slice q2 n2 c2]) l) : (∀ a, q1 = some a → 0 < n1 → a.block ≠ w.heap.size) ∧ ∀ a, q2 = some a → 0 < n2 → a.block ≠ w.heap.size := by
  obtain ⟨h1, h2, _⟩ := h.parts
  exact ⟨fun a ha h0 => by have := RefIn.lt h1 a ha h0; omega, fun a ha h0 => by have := RefIn.lt h2 a ha h0; omega⟩
theorem RB.away {B B' : Nat} {cs : Array Value} {X Y : World} (h : RB B cs X) (hk : Keep (fun b => b ≠ B') X Y) (hne : B ≠ B') : RB B cs Y := (hk.block B h.lt hne).trans h
/-- A slot holds a pointer to a box with the document's label l. -/
def HeldR (s : Value) (l : Lab) (X : World) : Prop := ∃ b q1 n1 c1 q2 n2 c2, s = .pointer (some ⟨b, 0, none⟩) ∧ RX b q1 n1 c1 q2 n2 c2 l X
theorem cell_four (w : World) (t : TypeId) (x0 x1 x2 x3 : Value) : ∀ (k : Nat) (x : Value), (#[x0, x1, x2, x3] : Array Value)[k]? = some x → (w.alloc (.cells #[x0, x1, x2, x3] t)).cell? ⟨w.heap.size, k, none⟩ = some x := fun k x hx => by
  have h := World.alloc_heap_new w (.cells #[x0, x1, x2, x3] t)
  show World.cell? _ ⟨w.heap.size, k, none⟩ = _
  unfold World.cell?
  rw [h]
  exact hx
theorem pow8 (n : Nat) (h : n ≤ 8) : 2 ^ n ≤ 256 := Nat.pow_le_pow_right (by decide) h
theorem pow_wrap (n : Nat) (h : n ≤ 8) : wrap64 ((2 : Int) ^ n) = ((2 ^ n : Nat) : Int) := by
  have h1 : (2 : Int) ^ n = ((2 ^ n : Nat) : Int) := by push_cast; rfl
  have h2 := pow8 n h
  rw [h1]
  generalize 2 ^ n = m at h2
  unfold wrap64; omega
end Go.Proofs.YtdlofjcblcpgpaaGreatDoor.Lbl
