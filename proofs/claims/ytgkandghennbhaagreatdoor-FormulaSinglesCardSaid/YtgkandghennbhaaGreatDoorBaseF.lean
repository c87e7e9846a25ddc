/- What these laws want besides. Conditions: as each says. -/
import Derived.Test.YtgkandghennbhaaGreatDoorBaseE
import Derived.ChangeMaps5

namespace Go.Proofs.YtgkandghennbhaaGreatDoor.Ref

theorem split_small (c : UInt8) : ∀ (l : List UInt8), ∀ p ∈ splitL c l, p.length ≤ l.length
  | [], p, hp => by simp [splitL] at hp; subst hp; exact Nat.le_refl _
  | b :: r, p, hp => by
    have ih := split_small c r
    by_cases h : b = c
    · subst h
      rw [split_is] at hp
      rcases List.mem_cons.1 hp with rfl | hp
      · simp
      · have := ih p hp; simp only [List.length_cons]; omega
    · rw [split_not c b r h] at hp
      cases hs : splitL c r with
      | nil => exact absurd hs (split_ne c r)
      | cons q t =>
        rw [hs] at hp ih
        rcases List.mem_cons.1 hp with rfl | hp
        · have := ih q (by simp); simp only [List.length_append, List.length_cons, List.length_nil]; omega
        · have := ih p (by simp [hp]); simp only [List.length_cons]; omega

end Go.Proofs.YtgkandghennbhaaGreatDoor.Ref

namespace Go.Proofs.YtgkandghennbhaaGreatDoor.formulaBack
open Go.ChangeShapes Go.WideShapes Go.ChangeAt Go.RowKit
set_option linter.unusedVariables false

theorem own : ownKnob Tryz.prog.godebug = none := by kernel_rfl
theorem laidOut : laidOutB Tryz.prog = true := by kernel_rfl
theorem gTab : Tryz.prog.globalNamed "internal/strconv.uint64pow10" = some 3 := by kernel_rfl

def IsRow (k : IntKind) (w : World) (a : Option Addr) (len cap : Nat) (zs : List Int) : Prop :=
  (a = none ∧ len = 0 ∧ cap = 0 ∧ zs = []) ∨
  ∃ x, a = some x ∧ len ≤ cap ∧ cap ≤ maxLen ∧ zs.length = cap ∧ (∀ i, i < zs.length → w.cell? (x.add i) = some (.int k (zs.getD i 0))) ∧ ∀ n ∈ zs, (Lit.int k n).wf = true

/-- The law's walk. -/
def Walks : Prop := ∀ (a0 : Option Addr) (len0 cap0 : Nat) (z0 : List Int) (w : World), IsRow .u8 w a0 len0 cap0 z0 → Url.Gl w →
  Calls Tryz.prog 4 #[.slice a0 len0 cap0] w fun e w' => e = .returned (.bool true) ∧ Below w.heap.size w w'

theorem gl {W : World} (hL : laidMetH Tryz.prog Rows.formulaBackRow.laid W) (hsh : W.ShapedOpen Tryz.prog) : Url.Gl W := by
  refine ⟨?_, ?_⟩
  · exact cell_of_shapedOpen_int (t := 3) (zero := #[.int .i64 0]) hsh (by decide +kernel) (by kernel_rfl) rfl (by kernel_rfl) (by kernel_rfl) (by kernel_rfl)
  · have hL' : laidMet Tryz.prog Rows.formulaBackRow.laid W := by
      rw [MakeChecks.laidMetH_plain _ _ _ (by kernel_rfl)] at hL; exact hL
    exact Lib.tabIs_of_head (rest := [("unicode/utf8.acceptRanges", Rows.laid_unicode_utf8_acceptRanges), ("unicode/utf8.first", Rows.laid_unicode_utf8_first)]) (t := 234) (e := 155) (n := 20) (k := .u64) (zs := Lib.pow10Tab) (g := 3) gTab (by kernel_rfl) (by kernel_rfl) (by kernel_rfl) (by kernel_rfl) (by kernel_rfl) (show laidMet Tryz.prog [("internal/strconv.uint64pow10", Lib.tabData .u64 Lib.pow10Tab), ("unicode/utf8.acceptRanges", Rows.laid_unicode_utf8_acceptRanges), ("unicode/utf8.first", Rows.laid_unicode_utf8_first)] W from hL'.tail.tail)

set_option maxRecDepth 100000 in
/-- What the walk gives, for every argument and every world that holds the listed tables. -/
theorem contract (hw : Walks) (H : Type) (enc : TypeId × Value → H) (W : World) (base : Nat) (args : Array Value) (ds gs : List (DataW H)) (before : List MemPlace)
    (hval0 : ∀ (j : Nat) t v, Tryz.f4.params[j]? = some t → args[j]? = some v → Value.okWide Tryz.prog W .any base t v)
    (hW : DataW.Whole enc Tryz.prog Tryz.f4.params.toList Rows.formulaBackSpec.vars false W args.toList ds gs before) (hL : laidMetH Tryz.prog Rows.formulaBackRow.laid W) (hsh : W.ShapedOpen Tryz.prog) :
    Calls Tryz.prog 4 args W fun e W' => ∃ v, e = .returned v ∧ Rows.formulaBackSpec.post enc Tryz.prog Tryz.f4 false true false false W args v W' := by
  have hval : ∀ (j : Nat) t v, Tryz.f4.params[j]? = some t → args[j]? = some v → Value.okWide Tryz.prog W .any base t v := hval0
  have hW' := hW
  obtain ⟨p, q, hA0, hV, rfl, hfz, hnd⟩ := hW
  have hA : DataW.TrodAll enc Tryz.prog W 0 (fun _ => true) true Tryz.f4.params.toList args.toList ds p := hA0
  rw [Tryz.params4] at hA hval
  obtain ⟨v0, vs0, d0, ds0, p0, q0, hargs, rfl, rfl, h0, r0⟩ := trodAll_cons hA
  obtain ⟨rfl, rfl, rfl⟩ := trodAll_nil r0
  obtain rfl : args = #[v0] := by cases args; simp_all
  obtain ⟨rfl, rfl⟩ := trodVars_none hV
  obtain ⟨a0, len0, cap0, rfl⟩ := okWide_slice Tryz.underlying22 (hval 0 22 v0 rfl rfl)
  have k0 := h0
  have lt0 : ∀ x ∈ p0, x.block < W.heap.size := by obtain ⟨m, hm⟩ := k0; exact DataW.trod_lt m _ _ _ hm
  obtain ⟨z0, w0⟩ : ∃ zs, IsRow .u8 W a0 len0 cap0 zs := by
    obtain ⟨fuel, hf⟩ := h0
    rcases open_ints Tryz.underlying22 Tryz.underlying5 (by kernel_rfl) hf with ⟨hcs, _⟩ | ⟨x, l, c, zs, hcs, _, hl, hm, hz, _, hcell, hwz⟩
    · simp [Value.cells] at hcs
      obtain ⟨rfl, rfl, rfl⟩ := hcs
      exact ⟨[], .inl ⟨rfl, rfl, rfl, rfl⟩⟩
    · simp [Value.cells] at hcs
      obtain ⟨rfl, rfl, rfl⟩ := hcs
      exact ⟨zs, .inr ⟨_, rfl, hl, hm, by simpa using hz, hcell, hwz⟩⟩
  clear hA0 hval0
  refine (hw a0 len0 cap0 z0 W w0 (gl hL hsh)).mono fun e W' ⟨he, bel⟩ => ?_
  subst he
  exact ⟨_, rfl, _, _, _, [], _, [], hW', trodAll_mk1 (shut_bool Tryz.underlying4 _), (trodAll_cons_mk (Below.trod laidOut (by kernel_rfl) (of_decide_eq_true (by kernel_rfl)) k0 bel lt0) trodAll_mk0), rfl, bel.frame _, fun h => by cases h⟩

/-- The door's own heap meets the condition. -/
theorem door_met (os : Os) : laidMet Tryz.prog Rows.formulaBackRow.laid ((World.laidAll Tryz.prog os Rows.formulaBackRow.laid).forCall (fun _ _ => 0) ⟨#[], #[.slice none 0 0], []⟩).memory :=
  laidMet_laidAll _ (by kernel_rfl) (by kernel_rfl)
theorem reads (os : Os) {H : Type} (enc : TypeId × Value → H) : ∃ places, DataW.whole enc Tryz.prog ((World.laidAll Tryz.prog os Rows.formulaBackRow.laid).forCall (fun _ _ => 0) ⟨#[], #[.slice none 0 0], []⟩).memory Tryz.f4.params.toList Rows.formulaBackSpec.vars false #[Value.slice none 0 0].toList 8 = some ([.nil], [], places) :=
  ⟨[], by kernel_rfl⟩

set_option maxRecDepth 100000 in
theorem lifted (hw : Walks) (os : Os) (started : os.Started) (H : Type) (enc : TypeId × Value → H) (F : Stop.Interp) :
    ReturnsInHanded {} Tryz.checked os 4 .any ((OpenSpec.ofChange Rows.formulaBackSpec).preRow enc Tryz.prog Tryz.f4 Rows.formulaBackRow.domain false Rows.formulaBackRow.laid) (((OpenSpec.ofChange Rows.formulaBackSpec).at F).post enc Tryz.prog Tryz.f4 false true false false) := by
  obtain ⟨places, hx⟩ := reads os enc
  refine returnsInHanded_of_row (C := Tryz.checked) (s := OpenSpec.ofChange Rows.formulaBackSpec) own started (by kernel_rfl) Tryz.func4
    (witness_row_at (enc := enc) (C := Tryz.checked) false (World.laidAll Tryz.prog os Rows.formulaBackRow.laid) #[.slice none 0 0] (World.laidAll_os _ _ _) (by kernel_rfl) (by kernel_rfl) (by kernel_rfl)
      (OpenSpec.preRow_of_cond 8 hx (by kernel_rfl) (fun k hk => by cases hk) (by kernel_rfl) (door_met os))) ?_
  intro W base args ds gs before hval hW _ _ _ hL hsh _
  exact contract hw H enc W base args ds gs before hval hW hL hsh

theorem said (hw : Walks) : Rows.FormulaBackSaid :=
  OpenClaim.holds_of_cond 4 Tryz.f4 rfl rfl rfl rfl rfl rfl rfl ⟨rfl, rfl, rfl, rfl, rfl⟩ rfl rfl rfl rfl rfl (by kernel_rfl) Tryz.func4 (by kernel_rfl)
    (of_decide_eq_true (by kernel_rfl)) (by unfold Func.isWrapper; first | (rw [if_pos (by decide +kernel)]; kernel_rfl) | (rw [if_neg (by decide +kernel)]; exact ⟨rfl, rfl⟩))
    (fun os started H enc _ F => by rw [OpenClaim.pre_eq_preRow]; exact lifted hw os started H enc F)

/-- No parameter wants a stand-in; the program's own looks are off. -/
theorem plain (f : FuncId) (fn : Func) (hf : Tryz.pinned.checked.prog.funcNamed "cordon/cordonlaw08.FormulaBack" = some f) (hfn : Tryz.pinned.checked.prog.funcs[f]? = some fn) :
    false = Tryz.pinned.checked.prog.looks [] ∧ ∀ (j : Nat) t, fn.params[j]? = some t → Tryz.pinned.checked.prog.wantsStandIn t = false := by
  obtain rfl : f = 4 := Option.some.inj ((show Tryz.prog.funcNamed "cordon/cordonlaw08.FormulaBack" = some 4 by kernel_rfl).symm.trans hf) |>.symm
  obtain rfl : fn = Tryz.f4 := (Option.some.inj (Tryz.func4.symm.trans hfn)).symm
  refine ⟨by kernel_rfl, fun j t ht => ?_⟩
  rw [Tryz.params4] at ht
  obtain rfl : t = 22 := by simpa using Array.mem_of_getElem? ht
  exact (show Tryz.prog.wantsStandIn 22 = false by kernel_rfl)

/-- The card, given the walk. -/
theorem card (hw : Walks) : Rows.FormulaBackCardSaid :=
  Claim7.holds_tied_plain_at .later [] _ _ _ _ (said hw) (fun _ h => by cases h) (by kernel_rfl) (fun _ h => by cases h) formulaBack_row_tie rfl ⟨rfl, rfl⟩ (by kernel_rfl) rfl plain (by kernel_rfl)

end Go.Proofs.YtgkandghennbhaaGreatDoor.formulaBack

namespace Go.Proofs.YtgkandghennbhaaGreatDoor.formulaSingles
open Go.ChangeShapes Go.WideShapes Go.ChangeAt Go.RowKit
set_option linter.unusedVariables false

theorem own : ownKnob Tryz.prog.godebug = none := by kernel_rfl
theorem gTab : Tryz.prog.globalNamed "internal/strconv.uint64pow10" = some 3 := by kernel_rfl

def IsRow (k : IntKind) (w : World) (a : Option Addr) (len cap : Nat) (zs : List Int) : Prop :=
  (a = none ∧ len = 0 ∧ cap = 0 ∧ zs = []) ∨
  ∃ x, a = some x ∧ len ≤ cap ∧ cap ≤ maxLen ∧ zs.length = cap ∧ (∀ i, i < zs.length → w.cell? (x.add i) = some (.int k (zs.getD i 0))) ∧ ∀ n ∈ zs, (Lit.int k n).wf = true

/-- The law's walk. -/
def Walks : Prop := ∀ (a0 : ByteArray) (w : World), a0.size ≤ maxLen → Url.Gl w →
  Calls Tryz.prog 5 #[.string a0] w fun e w' => e = .returned (.bool true) ∧ Below w.heap.size w w'

theorem gl {W : World} (hL : laidMetH Tryz.prog Rows.formulaSinglesRow.laid W) (hsh : W.ShapedOpen Tryz.prog) : Url.Gl W := by
  refine ⟨?_, ?_⟩
  · exact cell_of_shapedOpen_int (t := 3) (zero := #[.int .i64 0]) hsh (by decide +kernel) (by kernel_rfl) rfl (by kernel_rfl) (by kernel_rfl) (by kernel_rfl)
  · have hL' : laidMet Tryz.prog Rows.formulaSinglesRow.laid W := by
      rw [MakeChecks.laidMetH_plain _ _ _ (by kernel_rfl)] at hL; exact hL
    exact Lib.tabIs_of_head (rest := [("unicode/utf8.acceptRanges", Rows.laid_unicode_utf8_acceptRanges), ("unicode/utf8.first", Rows.laid_unicode_utf8_first)]) (t := 234) (e := 155) (n := 20) (k := .u64) (zs := Lib.pow10Tab) (g := 3) gTab (by kernel_rfl) (by kernel_rfl) (by kernel_rfl) (by kernel_rfl) (by kernel_rfl) (show laidMet Tryz.prog [("internal/strconv.uint64pow10", Lib.tabData .u64 Lib.pow10Tab), ("unicode/utf8.acceptRanges", Rows.laid_unicode_utf8_acceptRanges), ("unicode/utf8.first", Rows.laid_unicode_utf8_first)] W from hL'.tail.tail)

set_option maxRecDepth 100000 in
/-- What the walk gives, for every argument and every world that holds the listed tables. -/
theorem contract (hw : Walks) (H : Type) (enc : TypeId × Value → H) (W : World) (base : Nat) (args : Array Value) (ds gs : List (DataW H)) (before : List MemPlace)
    (hval0 : ∀ (j : Nat) t v, Tryz.f5.params[j]? = some t → args[j]? = some v → Value.okWide Tryz.prog W .any base t v)
    (hW : DataW.Whole enc Tryz.prog Tryz.f5.params.toList Rows.formulaSinglesSpec.vars false W args.toList ds gs before) (hL : laidMetH Tryz.prog Rows.formulaSinglesRow.laid W) (hsh : W.ShapedOpen Tryz.prog) :
    Calls Tryz.prog 5 args W fun e W' => ∃ v, e = .returned v ∧ Rows.formulaSinglesSpec.post enc Tryz.prog Tryz.f5 false true false false W args v W' := by
  have hval : ∀ (j : Nat) t v, Tryz.f5.params[j]? = some t → args[j]? = some v → Value.okWide Tryz.prog W .any base t v := hval0
  have hW' := hW
  obtain ⟨p, q, hA0, hV, rfl, hfz, hnd⟩ := hW
  have hA : DataW.TrodAll enc Tryz.prog W 0 (fun _ => true) true Tryz.f5.params.toList args.toList ds p := hA0
  rw [Tryz.params5] at hA hval
  obtain ⟨v0, vs0, d0, ds0, p0, q0, hargs, rfl, rfl, h0, r0⟩ := trodAll_cons hA
  obtain ⟨rfl, rfl, rfl⟩ := trodAll_nil r0
  obtain rfl : args = #[v0] := by cases args; simp_all
  obtain ⟨rfl, rfl⟩ := trodVars_none hV
  obtain ⟨a0, rfl, rfl, rfl, w0⟩ := Go.ChangeMaps.open_string Tryz.underlying9 (hval 0 9 v0 rfl rfl) h0
  clear hA0 hval0
  refine (hw a0 W w0 (gl hL hsh)).mono fun e W' ⟨he, bel⟩ => ?_
  subst he
  exact ⟨_, rfl, _, _, _, [], _, [], hW', trodAll_mk1 (shut_bool Tryz.underlying4 _), (trodAll_cons_mk (Go.ChangeMaps.shut_string Tryz.underlying9 w0) trodAll_mk0), rfl, bel.frame _, fun h => by cases h⟩

/-- The door's own heap meets the condition. -/
theorem door_met (os : Os) : laidMet Tryz.prog Rows.formulaSinglesRow.laid ((World.laidAll Tryz.prog os Rows.formulaSinglesRow.laid).forCall (fun _ _ => 0) ⟨#[], #[.string ByteArray.empty], []⟩).memory :=
  laidMet_laidAll _ (by kernel_rfl) (by kernel_rfl)
theorem reads (os : Os) {H : Type} (enc : TypeId × Value → H) : ∃ places, DataW.whole enc Tryz.prog ((World.laidAll Tryz.prog os Rows.formulaSinglesRow.laid).forCall (fun _ _ => 0) ⟨#[], #[.string ByteArray.empty], []⟩).memory Tryz.f5.params.toList Rows.formulaSinglesSpec.vars false #[Value.string ByteArray.empty].toList 8 = some ([.lit (.string [])], [], places) :=
  ⟨[], by kernel_rfl⟩

set_option maxRecDepth 100000 in
theorem lifted (hw : Walks) (os : Os) (started : os.Started) (H : Type) (enc : TypeId × Value → H) (F : Stop.Interp) :
    ReturnsInHanded {} Tryz.checked os 5 .any ((OpenSpec.ofChange Rows.formulaSinglesSpec).preRow enc Tryz.prog Tryz.f5 Rows.formulaSinglesRow.domain false Rows.formulaSinglesRow.laid) (((OpenSpec.ofChange Rows.formulaSinglesSpec).at F).post enc Tryz.prog Tryz.f5 false true false false) := by
  obtain ⟨places, hx⟩ := reads os enc
  refine returnsInHanded_of_row (C := Tryz.checked) (s := OpenSpec.ofChange Rows.formulaSinglesSpec) own started (by kernel_rfl) Tryz.func5
    (witness_row_at (enc := enc) (C := Tryz.checked) false (World.laidAll Tryz.prog os Rows.formulaSinglesRow.laid) #[.string ByteArray.empty] (World.laidAll_os _ _ _) (by kernel_rfl) (by kernel_rfl) (by kernel_rfl)
      (OpenSpec.preRow_of_cond 8 hx (by kernel_rfl) (fun k hk => by cases hk) (by kernel_rfl) (door_met os))) ?_
  intro W base args ds gs before hval hW _ _ _ hL hsh _
  exact contract hw H enc W base args ds gs before hval hW hL hsh

theorem said (hw : Walks) : Rows.FormulaSinglesSaid :=
  OpenClaim.holds_of_cond 5 Tryz.f5 rfl rfl rfl rfl rfl rfl rfl ⟨rfl, rfl, rfl, rfl, rfl⟩ rfl rfl rfl rfl rfl (by kernel_rfl) Tryz.func5 (by kernel_rfl)
    (of_decide_eq_true (by kernel_rfl)) (by unfold Func.isWrapper; first | (rw [if_pos (by decide +kernel)]; kernel_rfl) | (rw [if_neg (by decide +kernel)]; exact ⟨rfl, rfl⟩))
    (fun os started H enc _ F => by rw [OpenClaim.pre_eq_preRow]; exact lifted hw os started H enc F)

/-- No parameter wants a stand-in; the program's own looks are off. -/
theorem plain (f : FuncId) (fn : Func) (hf : Tryz.pinned.checked.prog.funcNamed "cordon/cordonlaw08.FormulaSingles" = some f) (hfn : Tryz.pinned.checked.prog.funcs[f]? = some fn) :
    false = Tryz.pinned.checked.prog.looks [] ∧ ∀ (j : Nat) t, fn.params[j]? = some t → Tryz.pinned.checked.prog.wantsStandIn t = false := by
  obtain rfl : f = 5 := Option.some.inj ((show Tryz.prog.funcNamed "cordon/cordonlaw08.FormulaSingles" = some 5 by kernel_rfl).symm.trans hf) |>.symm
  obtain rfl : fn = Tryz.f5 := (Option.some.inj (Tryz.func5.symm.trans hfn)).symm
  refine ⟨by kernel_rfl, fun j t ht => ?_⟩
  rw [Tryz.params5] at ht
  obtain rfl : t = 9 := by simpa using Array.mem_of_getElem? ht
  exact (show Tryz.prog.wantsStandIn 9 = false by kernel_rfl)

/-- The card, given the walk. -/
theorem card (hw : Walks) : Rows.FormulaSinglesCardSaid :=
  Claim7.holds_tied_plain_at .later [] _ _ _ _ (said hw) (fun _ h => by cases h) (by kernel_rfl) (fun _ h => by cases h) formulaSingles_row_tie rfl ⟨rfl, rfl⟩ (by kernel_rfl) rfl plain (by kernel_rfl)

end Go.Proofs.YtgkandghennbhaaGreatDoor.formulaSingles

namespace Go.Proofs.YtgkandghennbhaaGreatDoor.Frm
set_option linter.unusedVariables false

theorem sort_same {α : Type} [LT α] [DecidableEq α] [DecidableLT α] [LE α] [Std.IsLinearOrder α] [Std.LawfulOrderLT α] (l : List α) (h : Rises l) : sortR l = l := rises_ext (sort_rises l) h fun a => mem_sort a l
theorem red_same (f : List (List (List UInt8))) (h : Canon f) : redL f = f :=
  rises_ext (sort_rises _) h.rise fun a => (mem_red f a).trans ⟨fun k => k.1, fun k => ⟨k, fun y hy hs => h.red y hy a k hs⟩⟩
theorem never_imp (f : List (List (List UInt8))) : impB [[]] f = true := (imp_iff _ _).2 fun c _ => ⟨[], by simp, fun p hp => by cases hp⟩

end Go.Proofs.YtgkandghennbhaaGreatDoor.Frm

namespace Go.Proofs.YtgkandghennbhaaGreatDoor.Url

theorem digit_nat (d : Nat) (h : d < 10) : (UInt8.ofNat (48 + d)).toNat = 48 + d ∧ Ref.decB (UInt8.ofNat (48 + d)) = true := by
  have h1 : (UInt8.ofNat (48 + d)).toNat = 48 + d := by rw [UInt8.toNat_ofNat']; omega
  exact ⟨h1, (Ref.decB_of _).2 (by omega)⟩
theorem dig_dec (n : Nat) : ∀ b ∈ digL n, Ref.decB b = true := by
  induction n using Nat.strongRecOn with
  | ind n ih =>
    intro b hb
    by_cases h : n < 10
    · rw [dig_small n h, List.mem_singleton] at hb; rw [hb]; exact (digit_nat n h).2
    · rw [dig_big n h, List.mem_append, List.mem_singleton] at hb
      rcases hb with hb | hb
      · exact ih (n / 10) (by omega) b hb
      · rw [hb]; exact (digit_nat _ (by omega)).2
end Go.Proofs.YtgkandghennbhaaGreatDoor.Url

namespace Go.Proofs.YtgkandghennbhaaGreatDoor.Url

theorem split_ahead (c : UInt8) (x : List UInt8) : c ∉ x → ∀ t, Ref.splitL c (x ++ c :: t) = x :: Ref.splitL c t := by
  induction x with
  | nil => intro _ t; exact Ref.split_is c t
  | cons b r ih =>
    intro h t
    have hb : b ≠ c := fun e => h (by simp [e])
    rw [List.cons_append, Ref.split_not c b _ hb, ih (fun e => h (by simp [e])) t]; rfl
theorem split_none (c : UInt8) (x : List UInt8) : c ∉ x → Ref.splitL c x = [x] := by
  induction x with
  | nil => intro _; rfl
  | cons b r ih =>
    intro h
    have hb : b ≠ c := fun e => h (by simp [e])
    rw [Ref.split_not c b _ hb, ih (fun e => h (by simp [e]))]; rfl
end Go.Proofs.YtgkandghennbhaaGreatDoor.Url

namespace Go.Proofs.YtgkandghennbhaaGreatDoor.Url

theorem host_no (h : List UInt8) (hp : Host.parseE h = 0) (d : UInt8) (h1 : Host.hostByte d = false) (h2 : d ≠ 46) : d ∉ h := fun hd => by
  rcases host_bytes h hp d hd with h | h
  · rw [h1] at h; cases h
  · exact h2 h
theorem port_no (u : U) (d : UInt8) (hd : Ref.decB d = false) (h : d ≠ 58) : d ∉ portT u := by
  unfold portT
  split
  · simp
  · intro hm
    rcases List.mem_cons.1 hm with hm | hm
    · exact h hm
    · rw [dig_dec _ d hm] at hd; cases hd

end Go.Proofs.YtgkandghennbhaaGreatDoor.Url

namespace Go.Proofs.YtgkandghennbhaaGreatDoor.Org
open Url
set_option linter.unusedVariables false

/-- What may not stand in a server's name and port. -/
theorem name_no (u : U) (h : Ok u) (d : UInt8) (h1 : Host.hostByte d = false) (h2 : d ≠ 46) (h3 : Ref.decB d = false) (h4 : d ≠ 58) : d ∉ u.host ++ portT u := by
  rw [List.mem_append, not_or]
  exact ⟨host_no u.host h.host d h1 h2, port_no u d h3 h4⟩

end Go.Proofs.YtgkandghennbhaaGreatDoor.Org

namespace Go.Proofs.YtgkandghennbhaaGreatDoor.Cls
open Url Org
set_option linter.unusedVariables false

theorem prin_text (t : List UInt8) (h : prinB t = true) : (∃ n : Nat, 1 ≤ n ∧ n ≤ 9223372036854775807 ∧ t = closedS ++ digL n) ∨ ∃ u, Ok u ∧ t = placeU u := by
  unfold prinB at h
  split at h
  · rename_i x hx
    have ht := (of_decide_eq_true h).symm
    rcases Q_in _ t x hx with ⟨n, rfl, h1, h2⟩ | ⟨u, rfl, hu⟩
    · exact .inl ⟨n, h1, h2, ht⟩
    · exact .inr ⟨u, parse_ok t u hu, ht⟩
  · cases h
/-- What stands in no principal. -/
theorem prin_no (t : List UInt8) (h : prinB t = true) (d : UInt8) (h1 : Host.hostByte d = false) (h2 : d ≠ 46) (h3 : Ref.decB d = false) (h4 : d ≠ 58) (h5 : d ≠ 47) (h6 : d ∉ closedS) (h7 : d ∉ httpsS) : d ∉ t := by
  rcases prin_text t h with ⟨n, _, _, rfl⟩ | ⟨u, hu, rfl⟩
  · rw [List.mem_append, not_or]
    refine ⟨h6, fun hd => ?_⟩
    rw [dig_dec n d hd] at h3; cases h3
  · have h8 : d ∉ u.scheme := by
      rcases hu.scheme with hs | hs <;> rw [hs]
      · intro hd
        apply h7
        unfold httpS at hd; unfold httpsS
        simp only [List.mem_cons, List.not_mem_nil, or_false] at hd ⊢
        rcases hd with hd | hd | hd | hd <;> simp [hd]
      · exact h7
    have := name_no u hu d h1 h2 h3 h4
    rw [List.mem_append, not_or] at this
    unfold placeU
    simp only [List.mem_append, not_or]
    exact ⟨⟨⟨h8, by simp [h4, h5]⟩, this.1⟩, this.2⟩
theorem prin_colon (t : List UInt8) (h : prinB t = true) : (58 : UInt8) ∈ t := by
  rcases prin_text t h with ⟨n, _, _, rfl⟩ | ⟨u, hu, rfl⟩
  · simp [closedS]
  · unfold placeU; simp
/-- A text that may stand between bars: not empty, no bar, no blank. -/
structure Part (p : List UInt8) : Prop where
  ne : p ≠ []
  bar : (124 : UInt8) ∉ p
  blank : ∀ b ∈ p, blankB b = false
  colon : (58 : UInt8) ∈ p
theorem prin_part (t : List UInt8) (h : prinB t = true) : Part t := by
  have hc := prin_colon t h
  refine ⟨fun e => (by rw [e] at hc; cases hc), prin_no t h 124 (by decide) (by decide) (by decide) (by decide) (by decide) (by decide) (by decide), fun b hb => ?_, hc⟩
  have n1 := prin_no t h 32 (by decide) (by decide) (by decide) (by decide) (by decide) (by decide) (by decide)
  have n2 := prin_no t h 9 (by decide) (by decide) (by decide) (by decide) (by decide) (by decide) (by decide)
  have d1 : b ≠ 32 := fun e => n1 (e ▸ hb)
  have d2 : b ≠ 9 := fun e => n2 (e ▸ hb)
  unfold blankB; simp [d1, d2]
theorem drop_blank (a l : List UInt8) (ha : ∀ b ∈ a, blankB b = true) (hl : ∀ b, l.head? = some b → blankB b = false) : (a ++ l).dropWhile blankB = l := by
  induction a with
  | nil =>
    cases l with
    | nil => rfl
    | cons x r => rw [List.nil_append, List.dropWhile_cons, if_neg (by rw [hl x rfl]; simp)]
  | cons x r ih =>
    rw [List.cons_append, List.dropWhile_cons, if_pos (ha x (by simp))]
    exact ih fun b hb => ha b (by simp [hb])
theorem trim_pad (a p c : List UInt8) (hp : p ≠ []) (hb : ∀ b ∈ p, blankB b = false) (ha : ∀ b ∈ a, blankB b = true) (hc : ∀ b ∈ c, blankB b = true) : trimB (a ++ p ++ c) = p := by
  unfold trimB
  rw [List.append_assoc, drop_blank a (p ++ c) ha, List.reverse_append, drop_blank, List.reverse_reverse]
  · intro b h; exact hc b (List.mem_reverse.1 h)
  · intro b h; exact hb b (List.mem_reverse.1 (List.mem_of_mem_head? h))
  · intro b h
    cases p with
    | nil => exact absurd rfl hp
    | cons x r =>
      obtain rfl : x = b := by simpa using h
      exact hb x (by simp)
/-- What is no blank stays. -/
theorem trim_keeps (l : List UInt8) (b : UInt8) (hb : blankB b = false) (h : b ∈ l) : b ∈ trimB l := by
  have keep : ∀ m : List UInt8, b ∈ m → b ∈ m.dropWhile blankB := fun m => by
    induction m with
    | nil => intro h; cases h
    | cons x r ih =>
      intro h
      rw [List.dropWhile_cons]
      split
      · rename_i hx
        rcases List.mem_cons.1 h with rfl | h
        · rw [hb] at hx; cases hx
        · exact ih h
      · exact h
  unfold trimB
  exact List.mem_reverse.2 (keep _ (List.mem_reverse.2 (keep _ h)))

theorem cls_colon (ps : List (List UInt8)) (hn : ps ≠ []) (h : ∀ p ∈ ps, Part p) : (58 : UInt8) ∈ clsT ps := by
  cases ps with
  | nil => exact absurd rfl hn
  | cons p r => exact List.mem_append.2 (.inl (h p (by simp)).colon)
end Go.Proofs.YtgkandghennbhaaGreatDoor.Cls

namespace Go.Proofs.YtgkandghennbhaaGreatDoor.Cls
open Url Org Frm
set_option linter.unusedVariables false

theorem never_trim (a c : List UInt8) (ha : ∀ b ∈ a, blankB b = true) (hc : ∀ b ∈ c, blankB b = true) : trimB (a ++ neverS ++ c) = neverS :=
  trim_pad a neverS c (by decide) (by decide) ha hc
/-- The pieces of a clause's text with blanks about it. -/
def barsL (pre post : List UInt8) : List (List UInt8) → List (List UInt8)
  | [] => []
  | [p] => [pre ++ p ++ post]
  | p :: q :: r => (pre ++ p ++ [32]) :: barsL [32] post (q :: r)
theorem split_pad (post : List UInt8) (hpost : (124 : UInt8) ∉ post) : ∀ (ps : List (List UInt8)) (pre : List UInt8), ps ≠ [] → (∀ p ∈ ps, (124 : UInt8) ∉ p) → (124 : UInt8) ∉ pre → Ref.splitL 124 (pre ++ clsT ps ++ post) = barsL pre post ps
  | [], _, h, _, _ => absurd rfl h
  | [p], pre, _, h, hpre => by
    have hn : (124 : UInt8) ∉ pre ++ p ++ post := by simp only [List.mem_append, not_or]; exact ⟨⟨hpre, h p (by simp)⟩, hpost⟩
    show Ref.splitL 124 (pre ++ (p ++ []) ++ post) = _
    rw [List.append_nil, split_none 124 _ hn]; rfl
  | p :: q :: r, pre, _, h, hpre => by
    have ih := split_pad post hpost (q :: r) [32] (by simp) (fun x hx => h x (by simp [hx])) (by decide)
    have hn : (124 : UInt8) ∉ pre ++ p ++ [32] := by
      simp only [List.mem_append, not_or]
      exact ⟨⟨hpre, h p (by simp)⟩, by decide⟩
    have e : pre ++ clsT (p :: q :: r) ++ post = (pre ++ p ++ [32]) ++ 124 :: ([32] ++ clsT (q :: r) ++ post) := by
      simp [clsT]
    rw [e, split_ahead 124 _ hn, ih]; rfl
theorem trim_barsL (post : List UInt8) (hpost : ∀ b ∈ post, blankB b = true) : ∀ (ps : List (List UInt8)) (pre : List UInt8), (∀ p ∈ ps, Part p) → (∀ b ∈ pre, blankB b = true) → (barsL pre post ps).map trimB = ps
  | [], _, _, _ => rfl
  | [p], pre, h, hpre => by
    have hp := h p (by simp)
    show [trimB (pre ++ p ++ post)] = _
    rw [trim_pad pre p post hp.ne hp.blank hpre hpost]
  | p :: q :: r, pre, h, hpre => by
    have hp := h p (by simp)
    have ih := trim_barsL post hpost (q :: r) [32] (fun x hx => h x (by simp [hx])) (by decide)
    show trimB (pre ++ p ++ [32]) :: _ = _
    rw [trim_pad pre p [32] hp.ne hp.blank hpre (by decide), ih]

theorem of_self (c : List (List UInt8)) (h : COk c) : ofC c = .inr c := by
  unfold ofC
  rw [if_pos (List.all_eq_true.2 h.prin), sort_same c h.rise, if_pos h.few]
theorem no_bar (a : List UInt8) (ha : ∀ b ∈ a, blankB b = true) (d : UInt8) (hd : blankB d = false) : d ∉ a := fun h => by rw [ha d h] at hd; cases hd
/-- A clause's text, with blanks about it or without, is parsed to it. -/
theorem parseC_text (c : List (List UInt8)) (h : COk c) (a z : List UInt8) (ha : ∀ b ∈ a, blankB b = true) (hz : ∀ b ∈ z, blankB b = true) (hl : (a ++ clsT c ++ z).length ≤ 4096) : parseC (a ++ clsT c ++ z) = .inr c := by
  unfold parseC
  rw [if_neg (by omega)]
  by_cases hc : c = []
  · subst hc
    exact if_pos (show trimB (a ++ neverS ++ z) = neverS from never_trim a z ha hz)
  · have hp : ∀ p ∈ c, Part p := fun p hp => prin_part p (h.prin p hp)
    have hne : trimB (a ++ clsT c ++ z) ≠ neverS := fun e => by
      have h1 := trim_keeps (a ++ clsT c ++ z) 58 (by decide) (List.mem_append.2 (.inl (List.mem_append.2 (.inr (cls_colon c hc hp)))))
      rw [e] at h1
      exact absurd h1 (by decide)
    rw [if_neg hne, split_pad z (no_bar z hz 124 (by decide)) c a hc (fun p hp2 => (hp p hp2).bar) (no_bar a ha 124 (by decide)), trim_barsL z hz c a hp ha, of_self c h]
/-- What stands in no clause's text. -/
theorem cls_no (c : List (List UInt8)) (h : COk c) (d : UInt8) (h0 : d ∉ neverS) (hs : d ∉ [32, 124, 32]) (h1 : Host.hostByte d = false) (h2 : d ≠ 46) (h3 : Ref.decB d = false) (h4 : d ≠ 58) (h5 : d ≠ 47) (h6 : d ∉ closedS) (h7 : d ∉ httpsS) : d ∉ clsT c := by
  cases c with
  | nil => exact h0
  | cons p r =>
    have hp : ∀ q ∈ p :: r, d ∉ q := fun q hq => prin_no q (h.prin q hq) d h1 h2 h3 h4 h5 h6 h7
    show d ∉ p ++ _
    rw [List.mem_append, not_or]
    refine ⟨hp p (by simp), fun hd => ?_⟩
    obtain ⟨q, hq, hd⟩ := List.mem_flatMap.1 hd
    rcases List.mem_append.1 hd with hd | hd
    · exact hs hd
    · exact hp q (by simp [hq]) hd

/-- What stands between the signs. -/
def andsL (pre post : List UInt8) : List (List (List UInt8)) → List (List UInt8)
  | [] => []
  | [c] => [pre ++ clsT c ++ post]
  | c :: d :: r => (pre ++ clsT c ++ [32]) :: andsL [32] post (d :: r)
theorem split_ands (post : List UInt8) (hpost : (38 : UInt8) ∉ post) : ∀ (f : List (List (List UInt8))) (pre : List UInt8), f ≠ [] → (∀ c ∈ f, (38 : UInt8) ∉ clsT c) → (38 : UInt8) ∉ pre → Ref.splitL 38 (pre ++ frmT f ++ post) = andsL pre post f
  | [], _, h, _, _ => absurd rfl h
  | [c], pre, _, h, hpre => by
    have hn : (38 : UInt8) ∉ pre ++ clsT c ++ post := by simp only [List.mem_append, not_or]; exact ⟨⟨hpre, h c (by simp)⟩, hpost⟩
    show Ref.splitL 38 (pre ++ (clsT c ++ []) ++ post) = _
    rw [List.append_nil, split_none 38 _ hn]; rfl
  | c :: d :: r, pre, _, h, hpre => by
    have ih := split_ands post hpost (d :: r) [32] (by simp) (fun x hx => h x (by simp [hx])) (by decide)
    have hn : (38 : UInt8) ∉ pre ++ clsT c ++ [32] := by
      simp only [List.mem_append, not_or]
      exact ⟨⟨hpre, h c (by simp)⟩, by decide⟩
    have e : pre ++ frmT (c :: d :: r) ++ post = (pre ++ clsT c ++ [32]) ++ 38 :: ([32] ++ frmT (d :: r) ++ post) := by
      simp [frmT]
    rw [e, split_ahead 38 _ hn, ih]; rfl
theorem ofF_self (f : List (List (List UInt8))) (h : FOk f) : ofF f = .inr f := by
  unfold ofF
  rw [red_same f h.canon, if_pos h.few]
theorem clauses_ands (post : List UInt8) (hpost : ∀ b ∈ post, blankB b = true) : ∀ (f : List (List (List UInt8))) (pre : List UInt8), (∀ c ∈ f, COk c) → (∀ b ∈ pre, blankB b = true) → (∀ x ∈ andsL pre post f, x.length ≤ 4096) → clausesL (andsL pre post f) = .inr f
  | [], _, _, _, _ => rfl
  | [c], pre, h, hpre, hl => by
    have hc := parseC_text c (h c (by simp)) pre post hpre hpost (hl _ (by simp [andsL]))
    show clausesL [pre ++ clsT c ++ post] = _
    unfold clausesL
    rw [hc]; rfl
  | c :: d :: r, pre, h, hpre, hl => by
    have hc := parseC_text c (h c (by simp)) pre [32] hpre (by decide) (hl _ (by simp [andsL]))
    have ih := clauses_ands post hpost (d :: r) [32] (fun x hx => h x (by simp [hx])) (by decide) (fun x hx => hl x (by simp [andsL, hx]))
    show clausesL ((pre ++ clsT c ++ [32]) :: andsL [32] post (d :: r)) = _
    unfold clausesL
    rw [hc]
    simp only
    rw [ih]
theorem split_le (c : UInt8) (l : List UInt8) : ∀ x ∈ Ref.splitL c l, x.length ≤ l.length := fun x hx => Ref.split_small c l x hx
theorem cls_38 (c : List (List UInt8)) (h : COk c) : (38 : UInt8) ∉ clsT c := cls_no c h 38 (by decide) (by decide) (by decide) (by decide) (by decide) (by decide) (by decide) (by decide) (by decide)
/-- A clause's text, trimmed, is no always. -/
theorem cls_first (c : List (List UInt8)) (h : COk c) (a z : List UInt8) (ha : ∀ b ∈ a, blankB b = true) : trimB (a ++ clsT c ++ z) ≠ alwaysS := by
  intro e
  cases c with
  | nil =>
    have h1 := trim_keeps (a ++ neverS ++ z) 110 (by decide) (List.mem_append.2 (.inl (List.mem_append.2 (.inr (by decide)))))
    rw [show clsT ([] : List (List UInt8)) = neverS from rfl] at e
    rw [e] at h1
    exact absurd h1 (by decide)
  | cons p r =>
    have h1 := trim_keeps (a ++ clsT (p :: r) ++ z) 58 (by decide) (List.mem_append.2 (.inl (List.mem_append.2 (.inr (cls_colon (p :: r) (by simp) fun q hq => prin_part q (h.prin q hq))))))
    rw [e] at h1
    exact absurd h1 (by decide)
/-- A formula's text, with blanks about it or without, is parsed to it. -/
theorem parseF_text (f : List (List (List UInt8))) (h : FOk f) (a z : List UInt8) (ha : ∀ b ∈ a, blankB b = true) (hz : ∀ b ∈ z, blankB b = true) (hl : (a ++ frmT f ++ z).length ≤ 4096) : parseF (a ++ frmT f ++ z) = .inr f := by
  unfold parseF
  rw [if_neg (by omega)]
  cases f with
  | nil => exact if_pos (show trimB (a ++ alwaysS ++ z) = alwaysS from trim_pad a alwaysS z (by decide) (by decide) ha hz)
  | cons c r =>
    have hne : trimB (a ++ frmT (c :: r) ++ z) ≠ alwaysS := by
      have e : a ++ frmT (c :: r) ++ z = a ++ clsT c ++ ((r.flatMap fun d => [32, 38, 32] ++ clsT d) ++ z) := by simp [frmT]
      rw [e]
      exact cls_first c (h.each c (by simp)) a _ ha
    have hs := split_ands z (no_bar z hz 38 (by decide)) (c :: r) a (by simp) (fun x hx => cls_38 x (h.each x hx)) (no_bar a ha 38 (by decide))
    have hc := clauses_ands z hz (c :: r) a h.each ha (fun x hx => by
      rw [← hs] at hx
      exact Nat.le_trans (split_le 38 _ x hx) hl)
    rw [if_neg hne, hs, hc]
    exact ofF_self _ h
end Go.Proofs.YtgkandghennbhaaGreatDoor.Cls

namespace Go.Proofs.YtgkandghennbhaaGreatDoor.S
open Go.RowKit Go.Shelf

theorem search_any (b off n c : Nat) (Sx : Nat → ByteArray) (x : ByteArray) (w : World) (hbig : n < 4611686018427387904) (hc : ∀ j, j < n → w.cell? ⟨b, off + j, none⟩ = some (.string (Sx j))) :
    Calls Tryz.prog 49 #[.slice (some ⟨b, off, none⟩) n c, .string x] w fun e w' =>
      e = .returned (.tuple #[.int .i64 (Lib.bsGo (fun t => Op.bytesLess (Sx t).toList x.toList) n 0 n : Nat), .bool (decide (Lib.bsGo (fun t => Op.bytesLess (Sx t).toList x.toList) n 0 n < n ∧ Sx (Lib.bsGo (fun t => Op.bytesLess (Sx t).toList x.toList) n 0 n) = x))]) ∧ ∃ q, w' = w.drewN q :=
  Any2.slices_BinarySearch_string laysBS b off n c Sx x w hbig hc
theorem search_none (a : Option Addr) (c : Nat) (x : ByteArray) (w : World) :
    Calls Tryz.prog 49 #[.slice a 0 c, .string x] w fun e w' => e = .returned (.tuple #[.int .i64 0, .bool false]) ∧ w' = w := Any2.slices_BinarySearch_string_empty laysBS a c x w

end Go.Proofs.YtgkandghennbhaaGreatDoor.S

namespace Go.Proofs.YtgkandghennbhaaGreatDoor.S
open Go.RowKit Go.Shelf Go.Sort
attribute [local go_sem] Oper.semAt_some

set_option maxRecDepth 100000 in
set_option maxHeartbeats 1000000 in
theorem Of_any (q : Option Addr) (n c : Nat) (zs : List (List UInt8)) (w : World) (h : SlIn encStr w q n zs) (hq : q = none → c = 0) (hm : n ≤ 1099511627776) :
    Calls Tryz.prog 42 #[.slice q n c] w fun e w' => ∃ v, e = .returned v ∧ SetIs encStr w' v (setS zs) ∧ Below w.heap.size w w' := by
  obtain ⟨i0, hi0, hz0, hz1, hz2⟩ := info_parts info_str
  have b0 := Boxed.new w 42 (.slice none 0 0)
  have h0 := h.alloc (.cells #[.slice none 0 0] 42)
  have hb0 := below_alloc (w := w) (.cells #[.slice none 0 0] 42)
  have hsz : (w.alloc (.cells #[.slice none 0 0] 42)).heap.size = w.heap.size + 1 := by simp
  obtain ⟨W, hW⟩ : ∃ W, w.alloc (.cells #[.slice none 0 0] 42) = W := ⟨_, rfl⟩
  rw [hW] at b0 h0 hb0 hsz
  have hsz' := Lib.hid hsz
  have hl := Lib.hid h.1
  have HW := Lib.hid hW
  clear hsz h hW
  go_enter Tryz.func42, Tryz.ntmps42
  go_wp2_with (at_builtin; refine wpList_append_row (enc := encStr) rfl _ _ 31 9 rfl i0 (.string ByteArray.empty) 16 Tryz.underlying31 hi0 hz0 hz1 hz2 rfl (fun _ => rfl) (by decide) (w.heap.size + 1) (.slice none 0 0) 0 [] rfl (World.ownsRow_nil _ _ _ _) q n c zs rfl hq (by rw [HW.out]; exact h0) (by omega) (by simp) ?_; intro v1 w1 hown hgrow)
  rw [HW.out] at hgrow
  simp only [Nat.zero_add, List.nil_append] at hown
  have hgs := hgrow.size
  rw [hsz'.out] at hgs
  have con := ordered_own (w.heap.size + 1) v1 n zs w1 hown hgs hm
  have hk1 : Keep (fun _ => True) W w1 := Keep.of_grownBy hgrow (fun r hr => by cases hr)
  have b1 := hk1.boxed b0 trivial
  have hb1 : Below w.heap.size w w1 := hb0.trans ((hk1.mono (T := (· < w.heap.size)) fun _ _ _ => trivial).below hb0.size)
  clear hown hgrow hk1
  go_wp2_with fail
  refine con.mono ?_
  rintro e w2 ⟨q2, c2, rfl, hset, hqb, hbel⟩
  have b2 := (Keep.of_below hbel).boxed b1 (by omega)
  have cR := b2.cell
  have fR := b2.frozen
  have hb2 := hb1.trans (hbel.mono (by omega))
  clear con
  obtain ⟨_, _, _, he, hc2, hm2, hsl, hr⟩ := hset
  cases he
  go_wp2
  have hbr2 := (b2.set (.slice q2 (setS zs).length c2)).cell
  refine bodyPost_ret (v := .agg #[.slice q2 (setS zs).length c2]) (by simp [results, Tryz.f42, go_sem, hbr2]) rfl ⟨_, rfl, ⟨q2, (setS zs).length, c2, rfl, hc2, hm2, ?_, hr⟩, hb2.setCell (Nat.le_refl _) _⟩
  exact hsl.keep (Keep.setCell (S := fun b => w.heap.size + 1 ≤ b) w2 ⟨w.heap.size, 0, none⟩ _ (by simp)) fun a h _ => (hqb a h).1

end Go.Proofs.YtgkandghennbhaaGreatDoor.S

namespace Go.Proofs.YtgkandghennbhaaGreatDoor.S
open Go.RowKit Go.Shelf
attribute [local go_sem] Oper.semAt_some

def hasS (xs : List (List UInt8)) (x : List UInt8) : Bool := xs.contains x

end Go.Proofs.YtgkandghennbhaaGreatDoor.S

namespace Go.Proofs.YtgkandghennbhaaGreatDoor
open Go.RowKit Go.Shelf

end Go.Proofs.YtgkandghennbhaaGreatDoor
namespace Go.Proofs.YtgkandghennbhaaGreatDoor.S
open Go.RowKit Go.Shelf
attribute [local go_sem] Oper.semAt_some

/-- The first place of a rising list whose value is not less. -/
theorem bs_found (xs : List (List UInt8)) (x : List UInt8) (hr : Rises xs) (Sx : Nat → ByteArray) (h1 : ∀ t y, xs[t]? = some y → Sx t = ⟨y.toArray⟩) (h2 : ∀ t, xs.length ≤ t → Sx t = ⟨x.toArray⟩) :
    decide (Lib.bsGo (fun t => Op.bytesLess (Sx t).toList (⟨x.toArray⟩ : ByteArray).toList) xs.length 0 xs.length < xs.length ∧ Sx (Lib.bsGo (fun t => Op.bytesLess (Sx t).toList (⟨x.toArray⟩ : ByteArray).toList) xs.length 0 xs.length) = ⟨x.toArray⟩) = hasS xs x := by
  have key : ∀ t y, xs[t]? = some y → Op.bytesLess (Sx t).toList (⟨x.toArray⟩ : ByteArray).toList = decide (y < x) := fun t y h => by
    rw [h1 t y h, Go.Proofs.bytesLess_eq, mk_toList, mk_toList]
  have keyE : ∀ t, xs.length ≤ t → Op.bytesLess (Sx t).toList (⟨x.toArray⟩ : ByteArray).toList = false := fun t h => by
    rw [h2 t h, Go.Proofs.bytesLess_eq, mk_toList]; exact decide_eq_false (Lin.irr x)
  obtain ⟨k, hk, hlo, hhi⟩ : ∃ k, k ≤ xs.length ∧ (∀ t y, t < k → xs[t]? = some y → y < x) ∧ (∀ y, xs[k]? = some y → ¬ y < x) := by
    have : ∀ m, m ≤ xs.length → (∀ t y, t < m → xs[t]? = some y → y < x) ∨ ∃ k, k < m ∧ (∀ t y, t < k → xs[t]? = some y → y < x) ∧ (∀ y, xs[k]? = some y → ¬ y < x) := by
      intro m
      induction m with
      | zero => intro _; exact .inl fun t y h => by omega
      | succ m ih =>
        intro hm
        rcases ih (by omega) with h | ⟨k, hk, h⟩
        · have hx : xs[m]? = some xs[m] := List.getElem?_eq_getElem (by omega)
          by_cases hc : xs[m] < x
          · refine .inl fun t y ht hy => ?_
            by_cases e : t = m
            · subst e; rw [hx] at hy; cases hy; exact hc
            · exact h t y (by omega) hy
          · exact .inr ⟨m, by omega, h, fun y hy => by rw [hx] at hy; cases hy; exact hc⟩
        · exact .inr ⟨k, by omega, h⟩
    rcases this xs.length (Nat.le_refl _) with h | ⟨k, hk, h⟩
    · exact ⟨xs.length, Nat.le_refl _, h, fun y hy => by rw [List.getElem?_eq_none (Nat.le_refl _)] at hy; cases hy⟩
    · exact ⟨k, by omega, h⟩
  have hge : ∀ t y, k ≤ t → xs[t]? = some y → ¬ y < x := by
    intro t y ht hy
    by_cases e : t = k
    · subst e; exact hhi y hy
    · have htl := (List.getElem?_eq_some_iff.1 hy).1
      have hx : xs[k]? = some xs[k] := List.getElem?_eq_getElem (by omega)
      have hlt : xs[k] < y := by
        obtain ⟨_, rfl⟩ := List.getElem?_eq_some_iff.1 hy
        exact List.pairwise_iff_getElem.1 hr k t (by omega) htl (by omega)
      exact fun hyx => hhi _ hx (Lin.tr hlt hyx)
  rw [Lib.bsGo_spec _ k (fun t ht => by
      rw [key t xs[t] (List.getElem?_eq_getElem (by omega))]; exact decide_eq_true (hlo t _ ht (List.getElem?_eq_getElem (by omega))))
    (fun t ht => by
      by_cases hl : t < xs.length
      · rw [key t xs[t] (List.getElem?_eq_getElem hl)]; exact decide_eq_false (hge t _ ht (List.getElem?_eq_getElem hl))
      · exact keyE t (by omega)) xs.length 0 xs.length (by omega) (by omega) hk]
  unfold hasS
  rw [Bool.eq_iff_iff, decide_eq_true_iff, List.contains_iff_mem]
  constructor
  · rintro ⟨h, he⟩
    have hx : xs[k]? = some xs[k] := List.getElem?_eq_getElem h
    rw [h1 k _ hx] at he
    have : xs[k] = x := by have := congrArg (fun s : ByteArray => s.data.toList) he; simpa using this
    exact List.mem_of_getElem? (this ▸ hx)
  · intro hm
    obtain ⟨i, hi, hxi⟩ := List.getElem_of_mem hm
    have hx : xs[i]? = some x := by rw [List.getElem?_eq_getElem hi, hxi]
    have hki : k = i := by
      rcases Nat.lt_trichotomy k i with h | h | h
      · have hk' : xs[k]? = some xs[k] := List.getElem?_eq_getElem (by omega)
        have : xs[k] < xs[i] := List.pairwise_iff_getElem.1 hr k i (by omega) hi h
        rw [hxi] at this
        exact absurd this (hhi _ hk')
      · exact h
      · exact absurd (hlo i x h hx) (Lin.irr x)
    subst hki
    exact ⟨hi, h1 k x hx⟩

theorem Has_any (v : Value) (xs : List (List UInt8)) (x : List UInt8) (w : World) (h : SetIs encStr w v xs) :
    Calls Tryz.prog 26 #[v, .string ⟨x.toArray⟩] w fun e w' => e = .returned (.bool (hasS xs x)) ∧ Below w.heap.size w w' := by
  obtain ⟨q, n, c, rfl, _, hn, hs, hr⟩ := h
  have hl := hs.1
  have con : Calls Tryz.prog 49 #[.slice q n c, .string ⟨x.toArray⟩] (w.alloc (.cells #[.slice q n c] 42)) fun e w' => ∃ k : Nat, e = .returned (.tuple #[.int .i64 k, .bool (hasS xs x)]) ∧ Below w.heap.size w w' := by
    have hs2 := hs.alloc (.cells #[.slice q n c] 42)
    rcases Nat.eq_zero_or_pos n with h0 | h0
    · subst h0
      obtain rfl : xs = [] := List.eq_nil_of_length_eq_zero hl
      exact (search_none q c _ _).mono fun e w' ⟨he, hw⟩ => ⟨0, he, by rw [hw]; exact below_alloc _⟩
    · obtain ⟨b, o, rfl, hb, hc⟩ := hs2.at h0
      subst hl
      have hf := bs_found xs x hr (fun t => ⟨((xs[t]?).getD x).toArray⟩) (fun t y hy => by simp [hy]) (fun t ht => by simp [List.getElem?_eq_none ht])
      refine (search_any b o xs.length c (fun t => ⟨((xs[t]?).getD x).toArray⟩) ⟨x.toArray⟩ _ (by omega) (fun j hj => ?_)).mono ?_
      · have hx : xs[j]? = some xs[j] := List.getElem?_eq_getElem hj
        rw [hc j _ hx, hx]; rfl
      · rintro e w' ⟨he, k, hw⟩
        rw [hf] at he
        exact ⟨_, he, by rw [hw]; exact (below_alloc _).trans ⟨rfl, rfl, rfl, Nat.le_refl _, fun _ _ => rfl⟩⟩
  clear hs hr hl
  generalize hasS xs x = r at con ⊢
  generalize (⟨x.toArray⟩ : ByteArray) = s at con ⊢
  go_enter Tryz.func26, Tryz.ntmps26
  go_wp2_with fail
  refine con.mono ?_
  rintro e w' ⟨k, rfl, hb⟩
  go_wp2
  go_ret
  exact ⟨rfl, hb⟩

end Go.Proofs.YtgkandghennbhaaGreatDoor.S

namespace Go.Proofs.YtgkandghennbhaaGreatDoor.Frm
open Cls
set_option linter.unusedVariables false

theorem sum_sub {α : Type} [DecidableEq α] (f : α → Nat) : ∀ c l : List α, c.Nodup → (∀ x ∈ c, x ∈ l) → sumL f c ≤ sumL f l
  | [], l, _, _ => Nat.zero_le _
  | x :: c, l, hd, h => by
    rw [sumL, sum_erase f x l (h x (by simp))]
    have hd' := List.nodup_cons.1 hd
    have := sum_sub f c (l.erase x) hd'.2 fun y hy => (List.mem_erase_of_ne (fun e => hd'.1 (by rw [← e]; exact hy))).2 (h y (by simp [hy]))
    omega
theorem sum_onto (x : List UInt8) (l : List (List UInt8)) (h : l ≠ []) : sumL (fun p : List UInt8 => p.length + 1) (Ref.onto x l) = x.length + sumL (fun p : List UInt8 => p.length + 1) l := by
  cases l with
  | nil => exact absurd rfl h
  | cons p r =>
    show sumL _ ((x ++ p) :: r) = _
    rw [sumL, sumL, List.length_append]; omega
theorem sum_split (c : UInt8) : ∀ l : List UInt8, sumL (fun p : List UInt8 => p.length + 1) (Ref.splitL c l) = l.length + 1
  | [] => rfl
  | b :: r => by
    have ih := sum_split c r
    by_cases e : b = c
    · rw [e, Ref.split_is, sumL, ih]; simp; omega
    · rw [Ref.split_not c b r e, sum_onto _ _ (Ref.split_ne c r), ih]; simp; omega
theorem sum_three (l : List (List UInt8)) : sumL (fun p : List UInt8 => p.length + 3) l ≤ 3 * sumL (fun p : List UInt8 => p.length + 1) l := by
  induction l with
  | nil => simp [sumL]
  | cons p r ih => rw [sumL, sumL]; omega
theorem sum_trim (l : List (List UInt8)) (h : ∀ p : List UInt8, (trimB p).length ≤ p.length) : sumL (fun p : List UInt8 => p.length + 3) (l.map trimB) ≤ sumL (fun p : List UInt8 => p.length + 3) l := by
  induction l with
  | nil => exact Nat.le_refl _
  | cons p r ih => rw [List.map_cons, sumL, sumL]; have := h p; omega
theorem trim_small (p : List UInt8) : (trimB p).length ≤ p.length := by
  unfold trimB
  rw [List.length_reverse]
  have h1 := (List.dropWhile_sublist (l := p) Cls.blankB).length_le
  have h2 := (List.dropWhile_sublist (l := (p.dropWhile Cls.blankB).reverse) Cls.blankB).length_le
  rw [List.length_reverse] at h2
  omega
theorem flat_sum (s : List UInt8) (hs : s.length = 3) : ∀ r : List (List UInt8), (r.flatMap fun q => s ++ q).length = sumL (fun p : List UInt8 => p.length + 3) r
  | [] => rfl
  | q :: r => by rw [List.flatMap_cons, List.length_append, List.length_append, flat_sum s hs r, sumL, hs]; omega
theorem clsT_sum (c : List (List UInt8)) (hc : c ≠ []) : (clsT c).length + 3 = sumL (fun p : List UInt8 => p.length + 3) c := by
  cases c with
  | nil => exact absurd rfl hc
  | cons p r =>
    show (p ++ r.flatMap fun q => [32, 124, 32] ++ q).length + 3 = _
    rw [List.length_append, flat_sum _ rfl, sumL]; omega
theorem cls_short_text (t : List UInt8) (c : List (List UInt8)) (h : parseC t = .inr c) : (clsT c).length ≤ 3 * t.length := by
  unfold parseC at h
  split at h
  · cases h
  · split at h
    · rename_i hn
      cases h
      have h1 := trim_small t
      rw [hn] at h1
      have h2 : neverS.length = 5 := rfl
      show neverS.length ≤ _
      omega
    · obtain ⟨hok, hm⟩ := of_ok _ c h
      by_cases hc : c = []
      · subst hc
        have : ∃ p, p ∈ (Ref.splitL 124 t).map trimB := by
          cases hs : Ref.splitL 124 t with
          | nil => exact absurd hs (Ref.split_ne 124 t)
          | cons p r => exact ⟨trimB p, by simp⟩
        obtain ⟨p, hp⟩ := this
        exact absurd ((hm p).2 hp) (by simp)
      · have h1 := clsT_sum c hc
        have h2 := sum_sub (fun p : List UInt8 => p.length + 3) c _ (rises_nodup c hok.rise) fun x hx => (hm x).1 hx
        have h3 := sum_trim (Ref.splitL 124 t) trim_small
        have h4 := sum_three (Ref.splitL 124 t)
        have h5 := sum_split 124 t
        omega
theorem clauses_sum : ∀ (l : List (List UInt8)) (r : List (List (List UInt8))), clausesL l = .inr r → sumL (fun c => (clsT c).length + 3) r ≤ 3 * sumL (fun p : List UInt8 => p.length + 1) l
  | [], r, h => by cases h; exact Nat.zero_le _
  | p :: l, r, h => by
    unfold clausesL at h
    split at h
    · cases h
    · rename_i x hx
      split at h
      · cases h
      · rename_i y hy
        cases h
        have h1 := cls_short_text p x hx
        have h2 := clauses_sum l y hy
        rw [sumL, sumL]; omega
/-- The text of a formula that a text was parsed to. -/
theorem frm_short (t : List UInt8) (f : List (List (List UInt8))) (h : parseF t = .inr f) : (frmT f).length ≤ 3 * t.length + 6 := by
  unfold parseF at h
  split at h
  · cases h
  · split at h
    · cases h
      show alwaysS.length ≤ _
      rw [show alwaysS.length = 6 from rfl]; omega
    · split at h
      · cases h
      · rename_i l hl
        obtain ⟨hok, e⟩ := ofF_ok l f (clauses_ok _ l hl) h
        by_cases hf : f = []
        · subst hf
          show alwaysS.length ≤ _
          rw [show alwaysS.length = 6 from rfl]; omega
        · have h1 := frmT_sum f hf
          have h2 := sum_sub (fun c => (clsT c).length + 3) f l (rises_nodup f hok.canon.rise) fun x hx => by rw [e] at hx; exact ((mem_red l x).1 hx).1
          have h3 := clauses_sum _ l hl
          have h4 := sum_split 38 t
          omega
theorem parse_frm_short (t : List UInt8) (h : t.length ≤ 400) : (frmT (frmV (parseF t))).length ≤ 1300 := by
  cases hp : parseF t with
  | inl n => show alwaysS.length ≤ _; rw [show alwaysS.length = 6 from rfl]; omega
  | inr f => have := frm_short t f hp; show (frmT f).length ≤ _; omega
theorem frm_text (f : List (List (List UInt8))) (h : FOk f) (hl : (frmT f).length ≤ 4096) : parseF (frmT f) = .inr f := by
  have := parseF_text f h [] [] (fun b hb => (by cases hb)) (fun b hb => (by cases hb)) (by simpa using hl)
  simpa using this
end Go.Proofs.YtgkandghennbhaaGreatDoor.Frm

namespace Go.Proofs.YtgkandghennbhaaGreatDoor.Cls
open Go.RowKit Go.Shelf Url Org Frm
attribute [local go_sem] Oper.semAt_some

/-- A clause and no error, or the zero clause and one. -/
def ClsOut (r : Sum Int (List (List UInt8))) (w : World) (e : Ending) (w' : World) : Prop :=
  ∃ q n c, e = .returned (.tuple #[.agg #[.slice q n c], .int .i64 (errC r)]) ∧ SetIs encStr w' (.agg #[.slice q n c]) (valC r) ∧ Below w.heap.size w w'
set_option maxRecDepth 100000 in
set_option maxHeartbeats 4000000 in
theorem bounded_any (v : Value) (x : List (List UInt8)) (w : World) (h : SetIs encStr w v x) :
    Calls Tryz.prog 41 #[v] w (ClsOut (bndC x) w) := by
  obtain ⟨q, n, c, rfl⟩ := set_form h
  obtain ⟨W2, hW2⟩ : ∃ W2, (w.alloc (.cells #[.slice q n c] 42)).alloc (.cells #[.slice none 0 0] 44) = W2 := ⟨_, rfl⟩
  have A2 : Below w.heap.size w W2 := hW2 ▸ ((Below.refl _ w).alloc (Nat.le_refl _) _).alloc (by simp) _
  have b1 : Boxed W2 w.heap.size 42 (.slice q n c) := hW2 ▸ (Boxed.new w _ _).alloc _
  have b2 : Boxed W2 (w.heap.size + 1) 44 (.slice none 0 0) := by
    have := Boxed.new (w.alloc (.cells #[.slice q n c] 42)) 44 (.slice none 0 0)
    rw [World.size_alloc] at this
    exact hW2 ▸ this
  have hs2 := h.below A2
  have con := S.Len_any _ x _ hs2
  have c1 := b1.cell
  have HW2 := Lib.hid hW2
  clear h hW2
  have key : ∀ w3, Below W2.heap.size W2 w3 → Boxed w3 (w.heap.size + 1) 44 (.slice none 0 0) ∧ w3.cell? ⟨w.heap.size, 0, none⟩ = some (.slice q n c) ∧ SetIs encStr w3 (.agg #[.slice q n c]) x ∧ Below w.heap.size w w3 := fun w3 hb =>
    ⟨(Keep.of_below hb).boxed b2 b2.lt, ((Keep.of_below hb).boxed b1 b1.lt).cell, hs2.below hb, A2.trans (hb.mono A2.size)⟩
  clear b1 b2 hs2
  unfold bndC
  by_cases hx : x.length ≤ 16
  · rw [if_pos hx]
    have d : decide ((16 : Int) < (x.length : Int)) = false := by simp; omega
    go_enter Tryz.func41, Tryz.ntmps41
    go_wp2_with fail
    rw [HW2.out]
    refine con.mono ?_
    rintro e w3 ⟨rfl, hb⟩
    obtain ⟨k2, k1, k3, k4⟩ := key w3 hb
    have kf := k2.frozen
    have kc := k2.cell
    clear con key hb
    go_wp2
    refine bodyPost_ret (ret_cls2 rfl _ _ (w.heap.size + 1) _ rfl (k2.set _)) rfl ?_
    exact ⟨q, n, c, rfl, k3.set k2 (fun x h => by cases h), k4.setCell (by simp) _⟩
  · rw [if_neg hx]
    have d : decide ((16 : Int) < (x.length : Int)) = true := by simp; omega
    go_enter Tryz.func41, Tryz.ntmps41
    go_wp2_with fail
    rw [HW2.out]
    refine con.mono ?_
    rintro e w3 ⟨rfl, hb⟩
    obtain ⟨k2, k1, k3, k4⟩ := key w3 hb
    have kf := k2.frozen
    have kc := k2.cell
    clear con key hb
    go_wp2
    refine bodyPost_ret (ret_cls2 rfl _ _ (w.heap.size + 1) _ rfl (k2.set _)) rfl ?_
    exact ⟨none, 0, 0, rfl, set_nil _, k4.setCell (by simp) _⟩

set_option maxRecDepth 100000 in
set_option maxHeartbeats 8000000 in
theorem Of_any (q : Option Addr) (n c : Nat) (l : List (List UInt8)) (w : World) (h : SlIn encStr w q n l) (hq : q = none → c = 0) (hm : n ≤ 1099511627776) (hlen : ∀ t ∈ l, t.length ≤ 1300) (hG : Gl w) :
    Calls Tryz.prog 17 #[.slice q n c] w (ClsOut (ofC l) w) := by
  have hl := Lib.hid h.1
  obtain ⟨W1, hW1⟩ : ∃ W1, w.alloc (.cells #[.slice none 0 0] 44) = W1 := ⟨_, rfl⟩
  have A1 : Below w.heap.size w W1 := hW1 ▸ (Below.refl _ w).alloc (Nat.le_refl _) _
  have b1 : Boxed W1 w.heap.size 44 (.slice none 0 0) := hW1 ▸ Boxed.new w _ _
  have HW1 := Lib.hid hW1
  have HO := Lib.hid (ofC_bnd l)
  have HL := Lib.hid hlen
  have HG := Lib.hid hG
  clear hW1 hlen hG
  go_enter Tryz.func17, Tryz.ntmps17
  go_wp2_with fail
  rw [HW1.out]
  go_loopw [8] (fun i wr => ∃ k : Nat, k ≤ n ∧ i = .int .i64 k ∧ Hid (∀ j x, j < k → l[j]? = some x → prinB x = true) ∧ Boxed wr w.heap.size 44 (.slice none 0 0) ∧ Below w.heap.size w wr) (fun i _ => n - (intOf i).toNat)
  case atStart => exact ⟨0, Nat.zero_le _, rfl, Lib.hid (fun j x h => by omega), b1, A1⟩
  case round =>
    obtain ⟨k, hk, rfl, HJ, hb, hB⟩ := hrel
    clear b1 A1 HW1
    have kf := hb.frozen
    have hr := h.below hB h.lt
    by_cases hlt : k < n
    · obtain ⟨b, o, rfl, _, hc⟩ := hr.at (by omega)
      obtain ⟨x, hx, _⟩ := drop_getElem l k (by rw [hl.out]; exact hlt)
      have hck : wr.cell? ⟨b, o + k, none⟩ = some (.string ⟨x.toArray⟩) := hc k x hx
      have con := Principal_any x wr (HL.out x (List.mem_of_getElem? hx)) (HG.out.on hB)
      cases hp : prinB x with
      | false =>
        rw [hp] at con
        have HR := Lib.hid (show ofC l = .inl 2 by
          rw [HO.out, if_neg]
          intro ha
          have := List.all_eq_true.1 ha x (List.mem_of_getElem? hx)
          rw [hp] at this; cases this)
        clear hc hx hr h HJ
        go_wp2_with fail
        refine con.mono ?_
        rintro e w3 ⟨rfl, hb3⟩
        replace hb := (Keep.of_below hb3).boxed hb hb.lt
        have kf := hb.frozen
        have kc := hb.cell
        have A3 := hB.trans (hb3.mono hB.size)
        clear con hb3
        go_wp2
        refine bodyPost_ret (ret_cls2 rfl _ _ w.heap.size _ rfl (hb.set _)) rfl ?_
        rw [HR.out]
        exact ⟨none, 0, 0, rfl, set_nil _, A3.setCell (Nat.le_refl _) _⟩
      | true =>
        rw [hp] at con
        have HJ2 := Lib.hid (show ∀ j y, j < k + 1 → l[j]? = some y → prinB y = true from fun j y hj hy => by
          by_cases e : j = k
          · subst e; rw [hx] at hy; cases hy; exact hp
          · exact HJ.out j y (by omega) hy)
        clear hc hx hr HJ hp
        go_wp2_with fail
        refine con.mono ?_
        rintro e w3 ⟨rfl, hb3⟩
        replace hb := (Keep.of_below hb3).boxed hb hb.lt
        have A3 := hB.trans (hb3.mono hB.size)
        clear con hb3
        go_wp2
        go_roundw
        case rel => exact ⟨k + 1, by omega, by go_num, HJ2, hb, A3⟩
        case measure => simp [intOf]; omega
    · obtain rfl : k = n := by omega
      have HR := Lib.hid (show ofC l = bndC (setS l) by
        rw [HO.out, if_pos]
        rw [List.all_eq_true]
        intro x hx
        obtain ⟨j, hj, rfl⟩ := List.getElem_of_mem hx
        exact HJ.out j _ (by have := hl.out; omega) (List.getElem?_eq_getElem hj))
      have con := S.Of_any q k c l wr hr hq hm
      clear HJ hr h hlt HL HG HO
      go_wp2_with fail
      refine con.mono ?_
      rintro e w4 ⟨v, rfl, hs, hb4⟩
      have con2 := bounded_any v (setS l) w4 hs
      obtain ⟨q4, n4, c4, rfl⟩ := set_form hs
      replace hb := (Keep.of_below hb4).boxed hb hb.lt
      have A4 := hB.trans (hb4.mono hB.size)
      clear con hb4 hs kf
      obtain ⟨r, hr⟩ : ∃ r, bndC (setS l) = r := ⟨_, rfl⟩
      rw [hr] at con2 HR
      clear hr
      go_wp2_with fail
      refine con2.mono ?_
      rintro e w5 ⟨q5, n5, c5, rfl, hs, hb5⟩
      replace hb := (Keep.of_below hb5).boxed hb hb.lt
      have A5 := A4.trans (hb5.mono A4.size)
      have kf := hb.frozen
      have kc := hb.cell
      clear con2 hb5
      go_wp2
      refine bodyPost_ret (ret_cls2 rfl _ _ w.heap.size _ rfl (hb.set _)) rfl ?_
      rw [HR.out]
      exact ⟨q5, n5, c5, rfl, hs.set hb (fun x h => by cases h), A5.setCell (Nat.le_refl _) _⟩

end Go.Proofs.YtgkandghennbhaaGreatDoor.Cls

namespace Go.Proofs.YtgkandghennbhaaGreatDoor.Cls
open Go.RowKit Go.Shelf Url Org Frm
attribute [local go_sem] Oper.semAt_some

theorem mk_size (x : List UInt8) : (⟨x.toArray⟩ : ByteArray).size = x.length := by simp [ByteArray.size]
end Go.Proofs.YtgkandghennbhaaGreatDoor.Cls

namespace Go.Proofs.YtgkandghennbhaaGreatDoor.Frm
open Go.RowKit Go.Shelf Go.Sort Url Org Cls
attribute [local go_sem] Oper.semAt_some
set_option linter.unusedVariables false

theorem Never_any (w : World) : Calls Tryz.prog 21 #[] w fun e w' => ∃ q n c, e = .returned (.agg #[.slice q n c]) ∧ FrmIs w' (.agg #[.slice q n c]) [[]] ∧ Below w.heap.size w w' := by
  obtain ⟨W, hW⟩ : ∃ W, (w.alloc (.cells #[.slice (some ⟨w.heap.size + 1, 0, none⟩) 1 1] 26)).alloc (.cells #[.slice none 0 0] 44) = W := ⟨_, rfl⟩
  have b0 : Boxed W w.heap.size 26 (.slice (some ⟨w.heap.size + 1, 0, none⟩) 1 1) := hW ▸ (Boxed.new w _ _).alloc _
  have b1 : Boxed W (w.heap.size + 1) 44 (.slice none 0 0) := by
    have := Boxed.new (w.alloc (.cells #[.slice (some ⟨w.heap.size + 1, 0, none⟩) 1 1] 26)) 44 (.slice none 0 0)
    rw [World.size_alloc] at this
    exact hW ▸ this
  have hb : Below w.heap.size w W := hW ▸ ((Below.refl _ w).alloc (Nat.le_refl _) _).alloc (by simp) _
  have HW := Lib.hid hW
  have k0 := b0.cell
  have hf : FrmIs W (.agg #[.slice (some ⟨w.heap.size + 1, 0, none⟩) 1 1]) [[]] := ⟨_, _, _, rfl, (fun h => by cases h), Nat.le_refl _, [((none, 0, 0), [])], ⟨rfl, fun _ => ⟨_, _, rfl, b1.lt, fun i x hx => by
    cases i with
    | zero => cases hx; exact b1.cell
    | succ i => simp at hx⟩⟩, fun z hz => by rw [List.mem_singleton.1 hz]; exact ⟨set_nil _, by simp⟩, rfl⟩
  clear hW b0 b1
  go_enter Tryz.func21, Tryz.ntmps21
  go_wp2
  rw [HW.out]
  refine bodyPost_ret (v := .agg #[.slice (some ⟨w.heap.size + 1, 0, none⟩) 1 1]) (by simp [results, Tryz.f21, go_sem, k0]) rfl ?_
  exact ⟨_, _, _, rfl, hf, hb⟩
end Go.Proofs.YtgkandghennbhaaGreatDoor.Frm

namespace Go.Proofs.YtgkandghennbhaaGreatDoor.Frm
open Go.RowKit Go.Shelf Go.Sort Url Org Cls
attribute [local go_sem] Oper.semAt_some
set_option linter.unusedVariables false

/-- The formula of one principal. -/
def singleR (p : List UInt8) : Sum Int (List (List (List UInt8))) := match ofC [p] with
  | .inl e => .inl e
  | .inr c => ofF [c]
theorem ofC_no (l : List (List UInt8)) (n : Int) (h : ofC l = .inl n) : n = 2 ∨ n = 3 := by
  unfold ofC at h
  split at h
  · split at h
    · cases h
    · cases h; exact .inr rfl
  · cases h; exact .inl rfl


set_option maxRecDepth 100000 in
set_option maxHeartbeats 8000000 in
theorem Single_any (p : List UInt8) (w : World) (hl : p.length ≤ 1300) (hG : Gl w) :
    Calls Tryz.prog 23 #[.string ⟨p.toArray⟩] w (FrmOut (singleR p) w) := by
  obtain ⟨W1, hW1⟩ : ∃ W1, (w.alloc (.cells #[.slice none 0 0] 26)).alloc (.cells #[.string ⟨p.toArray⟩] 9) = W1 := ⟨_, rfl⟩
  have A1 : Below w.heap.size w W1 := hW1 ▸ ((Below.refl _ w).alloc (Nat.le_refl _) _).alloc (by simp) _
  have b1 : Boxed W1 w.heap.size 26 (.slice none 0 0) := hW1 ▸ (Boxed.new w _ _).alloc _
  have bp : Boxed W1 (w.heap.size + 1) 9 (.string ⟨p.toArray⟩) := by
    have := Boxed.new (w.alloc (.cells #[.slice none 0 0] 26)) 9 (.string ⟨p.toArray⟩)
    rw [World.size_alloc] at this
    exact hW1 ▸ this
  have hsl : SlIn encStr W1 (some ⟨w.heap.size + 1, 0, none⟩) 1 [p] := ⟨rfl, fun _ => ⟨_, _, rfl, bp.lt, fun i x hx => by
    cases i with
    | zero => cases hx; exact bp.cell
    | succ i => simp at hx⟩⟩
  have con := Cls.Of_new (some ⟨w.heap.size + 1, 0, none⟩) 1 1 [p] W1 hsl (fun h => by cases h) (by decide) (fun t ht => by rw [List.mem_singleton.1 ht]; exact hl) (hG.on A1)
  have HW1 := Lib.hid hW1
  clear hW1 hsl bp hG hl
  go_enter Tryz.func23, Tryz.ntmps23
  go_wp2_with fail
  rw [HW1.out]
  refine con.mono ?_
  rintro e w2 ⟨q2, n2, c2, rfl, hs2, hq2, hb2⟩
  have kb := Keep.of_below hb2
  have A2 := A1.trans (hb2.mono A1.size)
  have b2 := (kb.boxed b1 b1.lt).alloc (.cells #[.slice q2 n2 c2] 44)
  have kf := b2.frozen
  have kc := b2.cell
  have hsA := A1.size
  have hlt1 := b1.lt
  have hs12 := hb2.size
  clear con
  cases hc : ofC [p] with
  | inl en =>
    have hne : en ≠ 0 := by rcases ofC_no _ en hc with h | h <;> omega
    have d2 : ((en : Int) != 0) = true := by unfold bne; rw [beq_eq_false_iff_ne.2 hne]; rfl
    have HR := Lib.hid (show singleR p = .inl en by unfold singleR; rw [hc])
    have A3 := (A2.alloc A2.size (.cells #[.slice q2 n2 c2] 44)).setCell (p := ⟨w.heap.size, 0, none⟩) (by simp) (.slice none 0 0)
    clear hne hc hs2
    unfold errC
    go_wp2
    refine bodyPost_ret (ret_frm2 rfl _ _ w.heap.size _ rfl (b2.set _)) rfl ?_
    rw [HR.out]
    exact ⟨none, 0, 0, rfl, frm_nil _, (fun a h => by cases h), A3⟩
  | inr cv =>
    rw [hc] at hs2
    replace hs2 : SetIs encStr w2 (.agg #[.slice q2 n2 c2]) cv := hs2
    have hfew := (of_ok _ cv hc).1.few
    have HR := Lib.hid (show singleR p = ofF [cv] by unfold singleR; rw [hc])
    obtain ⟨W3, hW3⟩ : ∃ W3, (w2.alloc (.cells #[.slice q2 n2 c2] 44)).alloc (.cells #[.slice q2 n2 c2] 44) = W3 := ⟨_, rfl⟩
    have hk3 : Below w2.heap.size w2 W3 := hW3 ▸ ((Below.refl _ w2).alloc (Nat.le_refl _) _).alloc (by simp) _
    have b3 : Boxed W3 w.heap.size 26 (.slice none 0 0) := hW3 ▸ b2.alloc _
    have bc : Boxed W3 (w2.heap.size + 1) 44 (.slice q2 n2 c2) := by
      have := Boxed.new (w2.alloc (.cells #[.slice q2 n2 c2] 44)) 44 (.slice q2 n2 c2)
      rw [World.size_alloc] at this
      exact hW3 ▸ this
    have A3 := A2.trans (hk3.mono A2.size)
    have hcl : ClsIn W3 (some ⟨w2.heap.size + 1, 0, none⟩) 1 [cv] := ⟨[((q2, n2, c2), cv)], ⟨rfl, fun _ => ⟨_, _, rfl, bc.lt, fun i x hx => by
      cases i with
      | zero => cases hx; exact bc.cell
      | succ i => simp at hx⟩⟩, fun z hz => by rw [List.mem_singleton.1 hz]; exact (⟨hs2, hfew⟩ : ClAt w2 ((q2, n2, c2), cv)).below hk3, rfl⟩
    have con2 := Of_any (some ⟨w2.heap.size + 1, 0, none⟩) 1 1 [cv] W3 hcl (fun h => by cases h) (by decide)
    have HW3 := Lib.hid hW3
    rw [← HR.out] at con2
    clear hc hs2 hW3 hcl bc kf kc b2
    unfold errC
    go_wp2_with fail
    rw [HW3.out]
    refine con2.mono ?_
    rintro e w4 ⟨q4, n4, c4, rfl, hs4, hq4, hb4⟩
    have b4 := (Keep.of_below hb4).boxed b3 b3.lt
    have A4 := A3.trans (hb4.mono A3.size)
    have kf := b4.frozen
    have kc := b4.cell
    have hb3l := b3.lt
    clear con2
    go_wp2
    refine bodyPost_ret (ret_frm2 rfl _ _ w.heap.size _ rfl (b4.set _)) rfl ?_
    exact ⟨q4, n4, c4, rfl, hs4.set b4 (fun x h => by cases h) (fun a ha => by have := hq4 a ha; omega), (fun a ha => Nat.le_trans A3.size (hq4 a ha)), A4.setCell (by simp) _⟩

end Go.Proofs.YtgkandghennbhaaGreatDoor.Frm

namespace Go.Proofs.YtgkandghennbhaaGreatDoor.Frm
open Go.RowKit Go.Shelf Go.Sort Url Org Cls
attribute [local go_sem] Oper.semAt_some
set_option linter.unusedVariables false

/-- The texts that have come lie in the box's row; Pv: what others hold. -/
def PrL (Bo base : Nat) (W0 : World) (Pv : Nat → Prop) (W : World) (acc : List (List UInt8)) (m : Nat) : Prop :=
  ∃ v, Boxed W Bo 31 v ∧ (m = 0 → v = .slice none 0 0) ∧ W.ownsRow base 9 1 v acc.length (acc.map encStr) ∧ (∀ b, Pv b → W0.heap.size ≤ b) ∧ (∀ b, v.ownBlock = some b → ¬ Pv b) ∧ Keep (fun b => b < W0.heap.size ∧ b ≠ Bo) W0 W
theorem PrL.step {Bo base : Nat} {Pv Pv' : Nat → Prop} {W0 A B : World} {acc : List (List UInt8)} {m : Nat} (h : PrL Bo base W0 Pv A acc m) (hBo : Bo < W0.heap.size) (hk : Keep (fun b => ¬ Pv b) A B) (hp : ∀ b, Pv' b → (Pv b ∨ A.heap.size ≤ b)) : PrL Bo base W0 Pv' B acc m := by
  obtain ⟨v, h1, h0, h2, h3, h5, h6⟩ := h
  have hs := h6.size
  refine ⟨v, hk.boxed h1 (fun h => by have := h3 _ h; omega), h0, hk.row h2 h5, fun b hb => ?_, fun b hb hp' => ?_, h6.trans (hk.mono fun b _ hb hpb => by have := h3 b hpb; omega)⟩
  · rcases hp b hb with h | h
    · exact h3 b h
    · omega
  · rcases hp _ hp' with h | h
    · exact h5 b hb h
    · have := (h2.lt b hb).2; omega
theorem ret_set1 {fn : Func} {p : Tmp} (h : fn.results = #[.cell p 42]) (tmps : Array Value) (w : World) (B : Nat) (v : Value) (hp : tmps.getD p undef = .pointer (some ⟨B, 0, none⟩)) (hU : Boxed w B 42 v) :
    (results fn tmps).run Tryz.prog w = .ok (.agg #[v]) w :=
  results_cell_row h tmps w B _ #[v] (0, 0) _ hp hU Tryz.underlying42 rfl (by kernel_rfl)

set_option maxRecDepth 100000 in
set_option maxHeartbeats 16000000 in
theorem Principals_one (v : Value) (x : List (List UInt8)) (w : World) (h : FrmIs w v [x]) (hx : x.length ≤ 16) :
    Calls Tryz.prog 25 #[v] w fun e w' => ∃ q n c, e = .returned (.agg #[.slice q n c]) ∧ SetIs encStr w' (.agg #[.slice q n c]) (setS x) ∧ Below w.heap.size w w' := by
  obtain ⟨q, n, c, rfl⟩ := frm_form h
  obtain ⟨_, hnc, zs, s0, z0, hzx⟩ := h.row
  obtain ⟨z, rfl⟩ : ∃ z, zs = [z] := by
    cases zs with
    | nil => cases hzx
    | cons z r =>
      cases r with
      | nil => exact ⟨z, rfl⟩
      | cons _ _ => simp at hzx
  obtain ⟨⟨zq, zn, zc⟩, x'⟩ := z
  obtain rfl : x = x' := by simpa using hzx
  have hn1 : n = 1 := s0.1.symm
  subst hn1
  have hz0 := z0 _ (List.mem_singleton.2 rfl)
  clear z0 hzx
  obtain ⟨W0, hW0⟩ : ∃ W0, ((w.alloc (.cells #[.slice q 1 c] 26)).alloc (.cells #[.slice none 0 0] 42)).alloc (.cells #[.slice none 0 0] 31) = W0 := ⟨_, rfl⟩
  have bf : Boxed W0 w.heap.size 26 (.slice q 1 c) := hW0 ▸ ((Boxed.new w _ _).alloc _).alloc _
  have bR : Boxed W0 (w.heap.size + 1) 42 (.slice none 0 0) := by
    have := (Boxed.new (w.alloc (.cells #[.slice q 1 c] 26)) 42 (.slice none 0 0)).alloc (.cells #[.slice none 0 0] 31)
    rw [World.size_alloc] at this
    exact hW0 ▸ this
  have bA : Boxed W0 (w.heap.size + 1 + 1) 31 (.slice none 0 0) := by
    have := Boxed.new ((w.alloc (.cells #[.slice q 1 c] 26)).alloc (.cells #[.slice none 0 0] 42)) 31 (.slice none 0 0)
    rw [World.size_alloc, World.size_alloc] at this
    exact hW0 ▸ this
  have A0 : Below w.heap.size w W0 := hW0 ▸ (((Below.refl _ w).alloc (Nat.le_refl _) _).alloc (by simp) _).alloc (by simp; omega) _
  have hs0 : W0.heap.size = w.heap.size + 3 := by rw [← hW0]; simp
  have con := frmAll_any q 1 c W0
  obtain ⟨W1, hW1⟩ : ∃ W1, (W0.alloc (.cells #[.slice q 1 c] 26)).alloc (.cells #[.slice q 1 c] 24) = W1 := ⟨_, rfl⟩
  rw [hW1] at con
  have bv : Boxed W1 (W0.heap.size + 1) 24 (.slice q 1 c) := by
    have := Boxed.new (W0.alloc (.cells #[.slice q 1 c] 26)) 24 (.slice q 1 c)
    rw [World.size_alloc] at this
    exact hW1 ▸ this
  have hb1 : Below W0.heap.size W0 W1 := hW1 ▸ ((Below.refl _ W0).alloc (Nat.le_refl _) _).alloc (by simp) _
  have hs1 : W1.heap.size = w.heap.size + 5 := by rw [← hW1]; simp [hs0]
  have A1 := A0.trans (hb1.mono A0.size)
  replace bR := (Keep.of_below hb1).boxed bR bR.lt
  replace bA := (Keep.of_below hb1).boxed bA bA.lt
  have s1 := s0.below A1 s0.lt
  have cf := bf.cell
  have hit := Values1_iter (W0.heap.size + 1) q 1 c [((zq, zn, zc), x)] (fun b => b < w.heap.size ∨ b = w.heap.size + 4) W1 (by decide) s1 (fun a h h' => .inl (s0.lt a h h')) bv (.inr (by omega)) (fun b hb => by omega)
  rw [hs0] at hit
  have HW0 := Lib.hid hW0
  clear hW0 hW1 bf bv s1 s0 h hb1
  refine (callsIn_wide (n := 1)).1 ?_
  refine callsIn_of_wp_marks Tryz.func25 rfl trivial ?_ rfl
  simp only [Tryz.ntmps25, List.size_toArray, List.length_cons, List.length_nil, Nat.reduceAdd, Nat.reduceSub, Array.replicate_succ, Array.replicate_zero, List.push_toArray, List.append_toArray, List.nil_append, List.cons_append]
  gi_wp2_with fail
  rw [HW0.out]
  gi_wp2_with fail
  refine ⟨trivial, (callsIn_wide.2 con).mono ?_⟩
  rintro e W2 ⟨rfl, rfl⟩
  clear con HW0 cf
  gi_wp2
  refine rf_law (gf := 81) (lb := #[.pointer (some ⟨w.heap.size + 3 + 1, 0, none⟩)]) rfl (enters_of Tryz.func81 (by kernel_rfl) rfl)
    hit (Keep.refl _ _) (fun b hb => by omega) (fun x args G W h => by rw [h.1]; rfl)
    (fun pre Pv W => PrL (w.heap.size + 1 + 1) w.heap.size W2 Pv W (pre.map Prod.snd).flatten pre.length) (fun _ _ _ _ => False)
    (fun s Pv Pv' A B h hk hp => h.step (by omega) hk (fun b hb => (hp b hb).1)) (fun _ _ _ _ _ _ h _ _ => h)
    ⟨_, bA, fun _ => rfl, World.ownsRow_nil _ _ _ _, (fun _ h => h.elim), (fun _ h => by cases h), Keep.refl _ _⟩ ?round ?done ?stop
  case round =>
    rintro ll pre ⟨⟨xq, xn, xc⟩, y⟩ rest Pv G args Wr hll hxs hS hPl hGl hPb hGP ⟨harg, rfl⟩
    obtain rfl : args = #[.agg #[.slice xq xn xc]] := harg
    obtain ⟨rfl, hxe⟩ : pre = [] ∧ ((zq, zn, zc), x) = ((xq, xn, xc), y) := by
      cases pre with
      | nil => exact ⟨rfl, by simpa using (List.cons.inj hxs).1⟩
      | cons _ r => have := congrArg List.length hxs; simp at this
    cases hxe
    obtain ⟨v, hbx, hv0, hrow, hge, hnv, hKW⟩ := hS
    obtain rfl : v = .slice none 0 0 := hv0 rfl
    clear hrow hnv hv0
    clear hxs
    have hll2 := hPb ll hPl
    have hszr := hKW.size
    gi_wp2
    refine ⟨Keep.alloc _ _ _, fun W5 hk5 hs5 r hr => ?_⟩
    have hka := Keep.alloc (fun _ => True) Wr (.cells #[.slice zq zn zc] 44)
    have bx := hk5.boxed (Boxed.new Wr 44 (.slice zq zn zc)) (by omega)
    have hk5' : Keep (fun b => ¬ Pv b) Wr W5 := (hka.mono fun _ _ _ => trivial).trans (hk5.mono fun b _ hb h => hb (h ▸ hPl))
    replace hbx := hk5'.boxed hbx (fun h => by have := hge _ h; omega)
    have hK5 : Keep (fun b => b < W2.heap.size ∧ b ≠ w.heap.size + 1 + 1) W2 W5 := hKW.trans (hk5'.mono fun b _ hb h => by have := hge b h; omega)
    have hPl5 : ∀ b, Pv b → b < W5.heap.size := fun b hb => Nat.lt_of_lt_of_le (hPb b hb) hk5'.size
    have hszW : W2.heap.size ≤ W5.heap.size := hK5.size
    have A5 : Below w.heap.size w W5 := A1.trans ((hK5.mono fun b _ h => ⟨by omega, by omega⟩).below A1.size)
    have hz5 := hz0.below A5
    obtain ⟨Wd, hWd⟩ : ∃ Wd, W5.drew = Wd := ⟨_, rfl⟩
    have hkd : ∀ S, Keep S W5 Wd := fun S => by rw [← hWd]; exact Keep.drew S W5
    have HSZD := Lib.hid (show Wd.heap.size = W5.heap.size by rw [← hWd]; rfl)
    replace hbx := (hkd (fun _ => True)).boxed hbx trivial
    replace bx := (hkd (fun _ => True)).boxed bx trivial
    replace hz5 := hz5.keep (hkd _)
    have con := Cls.All_any zq zn zc Wd
    obtain ⟨W6, hW6⟩ : ∃ W6, Wd.alloc (.cells #[.slice zq zn zc] 44) = W6 := ⟨_, rfl⟩
    have bc : Boxed W6 Wd.heap.size 44 (.slice zq zn zc) := hW6 ▸ Boxed.new Wd _ _
    have hb6 : Below Wd.heap.size Wd W6 := hW6 ▸ below_alloc _
    have hz6 := hz5.below hb6
    obtain ⟨_, _, _, hee, hxc, hxn, hsx, hrx⟩ := hz6.set
    cases hee
    have con2 := Cls.AppendSeq_any 77 #[.pointer (some ⟨Wd.heap.size, 0, none⟩)] x (fun b => b < W6.heap.size) W6 (enters_of Tryz.func77 (by kernel_rfl) rfl)
      (Cls.All1_iter Wd.heap.size zq zn zc x _ W6 hxn hsx hsx.lt bc bc.lt (fun _ h => h)) (fun _ h => h) (Nat.le_trans hx (by decide))
    have c0 := hbx.cell
    have cx := bx.cell
    have HWd := Lib.hid hWd
    clear hWd hsx hz6 hz5 bc hr hk5 hk5' hs5 hKW hka hit
    gi_wp2_with fail
    refine region_anyO (fun j => decide (j ≠ 4)) (fun X => X.cell? ⟨w.heap.size + 1 + 1, 0, none⟩ = some (.slice none 0 0) ∧ X.cell? ⟨Wr.heap.size, 0, none⟩ = some (.slice zq zn zc)) (by kernel_rfl) ?_
    rw [HWd.out]
    refine anyO_take 0 (v := .slice none 0 0) rfl (by kernel_rfl) (by kernel_rfl) (by kernel_rfl) (by kernel_rfl) (by kernel_rfl) (fun _ _ _ h => h) ⟨.inl ⟨by rfl, ?_⟩, fun _ => rfl⟩ ⟨c0, cx⟩ ?_
    · rintro w ⟨h1, h2⟩; go_simp
    refine anyO_take 1 (v := .agg #[.slice zq zn zc]) rfl (by kernel_rfl) (by kernel_rfl) (by kernel_rfl) (by kernel_rfl) (by kernel_rfl) (fun _ _ _ h => h) ⟨.inl ⟨by rfl, ?_⟩, fun _ => rfl⟩ ⟨c0, cx⟩ ?_
    · rintro w ⟨h1, h2⟩; go_simp
    refine anyO_one 2 (by kernel_rfl) rfl fun K hK => ?_
    go_simp
    refine ⟨trivial, rfl, (CallsIn.inRound ll (callsIn_wide.2 con)).mono ?_⟩
    rintro e w4 ⟨rfl, hw4⟩
    rw [hW6] at hw4
    subst hw4
    have hbx4 := (Keep.of_below hb6).boxed hbx hbx.lt
    have bx4 := (Keep.of_below hb6).boxed bx bx.lt
    refine hK _ _ (fun _ => ⟨hbx4.cell, bx4.cell⟩) ?_
    clear hK K con
    refine anyO_one 3 (by kernel_rfl) rfl fun K hK => ?_
    go_simp
    refine ⟨trivial, rfl, (CallsIn.inRound ll (callsIn_wide.2 con2)).mono ?_⟩
    rintro e w6 ⟨v6, rfl, hrow6, hbel⟩
    obtain ⟨q6, c6, hv6, _, _, _, _⟩ := slIn_of_owns hrow6
    subst hv6
    have hbw : Below Wd.heap.size Wd w6 := hb6.trans (hbel.mono hb6.size)
    have kb := Keep.of_below hbw
    have hbx6 := kb.boxed hbx hbx.lt
    have bx6 := kb.boxed bx bx.lt
    have hsz6 := hbw.size
    have hszn := hb6.size
    have c7 := hbx6.cell
    have f7 := hbx6.frozen
    refine hK _ _ (fun _ => ⟨hbx6.cell, bx6.cell⟩) ?_
    clear hK K con2
    refine anyO_one 4 (by kernel_rfl) rfl fun K hK => ?_
    go_simp
    refine hK _ _ (fun h => absurd h (by decide)) ?_
    clear hK K
    refine anyO_done (by kernel_rfl) ?_ _
    clear c7 f7 c0 cx
    gi_wp2
    have hszd := HSZD.out
    have hk5 : ∀ S : Nat → Prop, (∀ b, S b → b < Wd.heap.size ∧ b ≠ w.heap.size + 1 + 1) → Keep S Wd (w6.setCell ⟨w.heap.size + 1 + 1, 0, none⟩ (.slice q6 x.length c6)) := fun S hS => (kb.mono fun b _ h => (hS b h).1).trans (Keep.setCell _ _ _ (fun h => (hS _ h).2 rfl))
    have hown6 : ∀ b, (Value.slice q6 x.length c6).ownBlock = some b → w4.heap.size ≤ b := fun b hb => (hrow6.lt b hb).1
    refine ⟨(hkd _).trans (hk5 _ (fun b hb => ?_)), _, hbx6.set _, (fun h => by simp at h), ?_, fun b hb => hge b hb, fun b hb hp => ?_, hK5.trans ((hkd _).trans (hk5 _ fun b hb => ⟨by omega, hb.2⟩))⟩
    · rcases hb with (h | h) | h
      · exact ⟨by omega, by omega⟩
      · exact ⟨by omega, by omega⟩
      · exact ⟨by have := hPl5 b h; omega, fun e => by have := hge b h; omega⟩
    · have h1 := (Keep.setCell (S := fun b => b ≠ w.heap.size + 1 + 1) w6 ⟨w.heap.size + 1 + 1, 0, none⟩ (.slice q6 x.length c6) (by simp)).row hrow6 (fun b hb e => by have := hown6 b hb; omega)
      have h2 := row_base h1 (show w.heap.size ≤ w4.heap.size by omega)
      simpa using h2
    · have := hown6 b hb
      have := hPl5 b hp
      omega
  case done =>
    rintro D Pv Wd hD hPD hPl ⟨v, hbx, _, hrow, hge, hnv, hKW⟩ hK
    replace hrow : Wd.ownsRow w.heap.size 9 1 v x.length (x.map encStr) := by simpa using hrow
    obtain ⟨q5, c5, rfl, hc5, _, hs5, _⟩ := slIn_of_owns hrow
    have bRd := hKW.boxed bR ⟨by omega, by omega⟩
    have hBd : Below w.heap.size w Wd := A1.trans ((hKW.mono fun b _ h => ⟨by omega, by omega⟩).below A1.size)
    have con := S.Of_new q5 x.length c5 x Wd hs5 (fun h => by subst h; exact (Cls.row_nil hrow).2) (by omega)
    have cB := hbx.cell
    have hDl := hPl D hPD
    have hDg := hge D hPD
    clear hs5 hrow hbx hge hnv hKW hit
    gi_wp2_with fail
    refine ⟨trivial, (callsIn_wide.2 con).mono ?_⟩
    rintro e w6 ⟨q6, n6, c6, rfl, hs6, hq6, hb6⟩
    have hD6 : w6.heap[D]? = some (.deferred (some [])) := (hb6.block D hDl).trans hK
    have bR6 := (Keep.of_below hb6).boxed bRd bRd.lt
    have A6 := hBd.trans (hb6.mono hBd.size)
    have kf := bR6.frozen
    have kc := bR6.cell
    clear con hb6
    gi_wp2
    have b3 := bR6.set (.slice q6 n6 c6)
    have f3 := hs6.set (u' := .slice q6 n6 c6) bR6 (fun x h => by cases h)
    have hD7 := (Keep.setCell (S := fun b => b = D) w6 ⟨w.heap.size + 1, 0, none⟩ (.slice q6 n6 c6) (by simp; omega)).heap rfl hD6
    have A7 := A6.setCell (p := ⟨w.heap.size + 1, 0, none⟩) (by simp) (.slice q6 n6 c6)
    refine ⟨by simp, .inl ⟨_, _, rfl, run_takeDeferred hD7, ?_⟩⟩
    have hkP : ∀ S : Nat → Prop, ¬ S D → Keep S (w6.setCell ⟨w.heap.size + 1, 0, none⟩ (.slice q6 n6 c6)) ((w6.setCell ⟨w.heap.size + 1, 0, none⟩ (.slice q6 n6 c6)).putObj D (.deferred none)) := fun S hS => Keep.putObj _ D (.deferred none) hS
    refine ⟨_, ret_set1 rfl _ _ (w.heap.size + 1) _ rfl ((hkP (fun b => b = w.heap.size + 1) (by omega)).boxed b3 rfl), q6, n6, c6, rfl, set_put f3 hD7, ((Keep.of_below A7).trans (hkP _ (by omega))).below (Nat.le_refl _)⟩
  case stop =>
    rintro D cc pre rest Pv Wd _ _ _ _ h _
    exact h.elim


end Go.Proofs.YtgkandghennbhaaGreatDoor.Frm
