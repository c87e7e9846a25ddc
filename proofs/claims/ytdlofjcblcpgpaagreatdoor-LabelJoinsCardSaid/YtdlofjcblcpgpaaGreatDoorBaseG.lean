/- What these laws want besides. Conditions: as each says. -/
import Derived.Test.YtdlofjcblcpgpaaGreatDoorBaseE

namespace Go.Proofs.YtdlofjcblcpgpaaGreatDoor.Ref

theorem split_small (c : UInt8) : ∀ (l : List UInt8), ∀ p ∈ splitL c l, p.length ≤ l.length
  | [], p, hp => by simp [splitL] at hp; subst hp; exact Nat.le_refl _
  | b :: r, p, hp => by
    have ih := split_small c r
    by_cases h : b = c
    · subst h
      rw [split_is] at hp
      rcases List.mem_cons.1 hp with rfl | hp
      · simp
      · have := ih p hp; simp only [List.length_cons]; omega
    · rw [split_not c b r h] at hp
      cases hs : splitL c r with
      | nil => exact absurd hs (split_ne c r)
      | cons q t =>
        rw [hs] at hp ih
        rcases List.mem_cons.1 hp with rfl | hp
        · have := ih q (by simp); simp only [List.length_append, List.length_cons, List.length_nil]; omega
        · have := ih p (by simp [hp]); simp only [List.length_cons]; omega

end Go.Proofs.YtdlofjcblcpgpaaGreatDoor.Ref

namespace Go.Proofs.YtdlofjcblcpgpaaGreatDoor.labelJoins
open Go.ChangeShapes Go.WideShapes Go.ChangeAt Go.RowKit
set_option linter.unusedVariables false

theorem own : ownKnob Tryz.prog.godebug = none := by kernel_rfl
theorem laidOut : laidOutB Tryz.prog = true := by kernel_rfl
theorem gTab : Tryz.prog.globalNamed "internal/strconv.uint64pow10" = some 3 := by kernel_rfl

def IsRow (k : IntKind) (w : World) (a : Option Addr) (len cap : Nat) (zs : List Int) : Prop :=
  (a = none ∧ len = 0 ∧ cap = 0 ∧ zs = []) ∨
  ∃ x, a = some x ∧ len ≤ cap ∧ cap ≤ maxLen ∧ zs.length = cap ∧ (∀ i, i < zs.length → w.cell? (x.add i) = some (.int k (zs.getD i 0))) ∧ ∀ n ∈ zs, (Lit.int k n).wf = true

/-- The law's walk. -/
def Walks : Prop := ∀ (a0 : Option Addr) (len0 cap0 : Nat) (z0 : List Int) (a1 : Option Addr) (len1 cap1 : Nat) (z1 : List Int) (w : World), IsRow .u8 w a0 len0 cap0 z0 → IsRow .u8 w a1 len1 cap1 z1 → Url.Gl w →
  Calls Tryz.prog 4 #[.slice a0 len0 cap0, .slice a1 len1 cap1] w fun e w' => e = .returned (.bool true) ∧ Below w.heap.size w w'

theorem gl {W : World} (hL : laidMetH Tryz.prog Rows.labelJoinsRow.laid W) (hsh : W.ShapedOpen Tryz.prog) : Url.Gl W := by
  refine ⟨?_, ?_⟩
  · exact cell_of_shapedOpen_int (t := 3) (zero := #[.int .i64 0]) hsh (by decide +kernel) (by kernel_rfl) rfl (by kernel_rfl) (by kernel_rfl) (by kernel_rfl)
  · have hL' : laidMet Tryz.prog Rows.labelJoinsRow.laid W := by
      rw [MakeChecks.laidMetH_plain _ _ _ (by kernel_rfl)] at hL; exact hL
    exact Lib.tabIs_of_head (rest := [("unicode/utf8.acceptRanges", Rows.laid_unicode_utf8_acceptRanges), ("unicode/utf8.first", Rows.laid_unicode_utf8_first)]) (t := 290) (e := 174) (n := 20) (k := .u64) (zs := Lib.pow10Tab) (g := 3) gTab (by kernel_rfl) (by kernel_rfl) (by kernel_rfl) (by kernel_rfl) (by kernel_rfl) (show laidMet Tryz.prog [("internal/strconv.uint64pow10", Lib.tabData .u64 Lib.pow10Tab), ("unicode/utf8.acceptRanges", Rows.laid_unicode_utf8_acceptRanges), ("unicode/utf8.first", Rows.laid_unicode_utf8_first)] W from hL'.tail.tail)

set_option maxRecDepth 100000 in
/-- What the walk gives, for every argument and every world that holds the listed tables. -/
theorem contract (hw : Walks) (H : Type) (enc : TypeId × Value → H) (W : World) (base : Nat) (args : Array Value) (ds gs : List (DataW H)) (before : List MemPlace)
    (hval0 : ∀ (j : Nat) t v, Tryz.f4.params[j]? = some t → args[j]? = some v → Value.okWide Tryz.prog W .any base t v)
    (hW : DataW.Whole enc Tryz.prog Tryz.f4.params.toList Rows.labelJoinsSpec.vars false W args.toList ds gs before) (hL : laidMetH Tryz.prog Rows.labelJoinsRow.laid W) (hsh : W.ShapedOpen Tryz.prog) :
    Calls Tryz.prog 4 args W fun e W' => ∃ v, e = .returned v ∧ Rows.labelJoinsSpec.post enc Tryz.prog Tryz.f4 false true false false W args v W' := by
  have hval : ∀ (j : Nat) t v, Tryz.f4.params[j]? = some t → args[j]? = some v → Value.okWide Tryz.prog W .any base t v := hval0
  have hW' := hW
  obtain ⟨p, q, hA0, hV, rfl, hfz, hnd⟩ := hW
  have hA : DataW.TrodAll enc Tryz.prog W 0 (fun _ => true) true Tryz.f4.params.toList args.toList ds p := hA0
  rw [Tryz.params4] at hA hval
  obtain ⟨v0, vs0, d0, ds0, p0, q0, hargs, rfl, rfl, h0, r0⟩ := trodAll_cons hA
  obtain ⟨v1, vs1, d1, ds1, p1, q1, rfl, rfl, rfl, h1, r1⟩ := trodAll_cons r0
  obtain ⟨rfl, rfl, rfl⟩ := trodAll_nil r1
  obtain rfl : args = #[v0, v1] := by cases args; simp_all
  obtain ⟨rfl, rfl⟩ := trodVars_none hV
  obtain ⟨a0, len0, cap0, rfl⟩ := okWide_slice Tryz.underlying22 (hval 0 22 v0 rfl rfl)
  have k0 := h0
  have lt0 : ∀ x ∈ p0, x.block < W.heap.size := by obtain ⟨m, hm⟩ := k0; exact DataW.trod_lt m _ _ _ hm
  obtain ⟨z0, w0⟩ : ∃ zs, IsRow .u8 W a0 len0 cap0 zs := by
    obtain ⟨fuel, hf⟩ := h0
    rcases open_ints Tryz.underlying22 Tryz.underlying5 (by kernel_rfl) hf with ⟨hcs, _⟩ | ⟨x, l, c, zs, hcs, _, hl, hm, hz, _, hcell, hwz⟩
    · simp [Value.cells] at hcs
      obtain ⟨rfl, rfl, rfl⟩ := hcs
      exact ⟨[], .inl ⟨rfl, rfl, rfl, rfl⟩⟩
    · simp [Value.cells] at hcs
      obtain ⟨rfl, rfl, rfl⟩ := hcs
      exact ⟨zs, .inr ⟨_, rfl, hl, hm, by simpa using hz, hcell, hwz⟩⟩
  obtain ⟨a1, len1, cap1, rfl⟩ := okWide_slice Tryz.underlying22 (hval 1 22 v1 rfl rfl)
  have k1 := h1
  have lt1 : ∀ x ∈ p1, x.block < W.heap.size := by obtain ⟨m, hm⟩ := k1; exact DataW.trod_lt m _ _ _ hm
  obtain ⟨z1, w1⟩ : ∃ zs, IsRow .u8 W a1 len1 cap1 zs := by
    obtain ⟨fuel, hf⟩ := h1
    rcases open_ints Tryz.underlying22 Tryz.underlying5 (by kernel_rfl) hf with ⟨hcs, _⟩ | ⟨x, l, c, zs, hcs, _, hl, hm, hz, _, hcell, hwz⟩
    · simp [Value.cells] at hcs
      obtain ⟨rfl, rfl, rfl⟩ := hcs
      exact ⟨[], .inl ⟨rfl, rfl, rfl, rfl⟩⟩
    · simp [Value.cells] at hcs
      obtain ⟨rfl, rfl, rfl⟩ := hcs
      exact ⟨zs, .inr ⟨_, rfl, hl, hm, by simpa using hz, hcell, hwz⟩⟩
  clear hA0 hval0
  refine (hw a0 len0 cap0 z0 a1 len1 cap1 z1 W w0 w1 (gl hL hsh)).mono fun e W' ⟨he, bel⟩ => ?_
  subst he
  exact ⟨_, rfl, _, _, _, [], _, [], hW', trodAll_mk1 (shut_bool Tryz.underlying4 _), (trodAll_cons_mk (Below.trod laidOut (by kernel_rfl) (of_decide_eq_true (by kernel_rfl)) k0 bel lt0) (trodAll_cons_mk (Below.trod laidOut (by kernel_rfl) (of_decide_eq_true (by kernel_rfl)) k1 bel lt1) trodAll_mk0)), rfl, bel.frame _, fun h => by cases h⟩

/-- The door's own heap meets the condition. -/
theorem door_met (os : Os) : laidMet Tryz.prog Rows.labelJoinsRow.laid ((World.laidAll Tryz.prog os Rows.labelJoinsRow.laid).forCall (fun _ _ => 0) ⟨#[], #[.slice none 0 0, .slice none 0 0], []⟩).memory :=
  laidMet_laidAll _ (by kernel_rfl) (by kernel_rfl)
theorem reads (os : Os) {H : Type} (enc : TypeId × Value → H) : ∃ places, DataW.whole enc Tryz.prog ((World.laidAll Tryz.prog os Rows.labelJoinsRow.laid).forCall (fun _ _ => 0) ⟨#[], #[.slice none 0 0, .slice none 0 0], []⟩).memory Tryz.f4.params.toList Rows.labelJoinsSpec.vars false #[Value.slice none 0 0, Value.slice none 0 0].toList 8 = some ([.nil, .nil], [], places) :=
  ⟨[], by kernel_rfl⟩

set_option maxRecDepth 100000 in
theorem lifted (hw : Walks) (os : Os) (started : os.Started) (H : Type) (enc : TypeId × Value → H) (F : Stop.Interp) :
    ReturnsInHanded {} Tryz.checked os 4 .any ((OpenSpec.ofChange Rows.labelJoinsSpec).preRow enc Tryz.prog Tryz.f4 Rows.labelJoinsRow.domain false Rows.labelJoinsRow.laid) (((OpenSpec.ofChange Rows.labelJoinsSpec).at F).post enc Tryz.prog Tryz.f4 false true false false) := by
  obtain ⟨places, hx⟩ := reads os enc
  refine returnsInHanded_of_row (C := Tryz.checked) (s := OpenSpec.ofChange Rows.labelJoinsSpec) own started (by kernel_rfl) Tryz.func4
    (witness_row_at (enc := enc) (C := Tryz.checked) false (World.laidAll Tryz.prog os Rows.labelJoinsRow.laid) #[.slice none 0 0, .slice none 0 0] (World.laidAll_os _ _ _) (by kernel_rfl) (by kernel_rfl) (by kernel_rfl)
      (OpenSpec.preRow_of_cond 8 hx (by kernel_rfl) (fun k hk => by cases hk) (by kernel_rfl) (door_met os))) ?_
  intro W base args ds gs before hval hW _ _ _ hL hsh _
  exact contract hw H enc W base args ds gs before hval hW hL hsh

theorem said (hw : Walks) : Rows.LabelJoinsSaid :=
  OpenClaim.holds_of_cond 4 Tryz.f4 rfl rfl rfl rfl rfl rfl rfl ⟨rfl, rfl, rfl, rfl, rfl⟩ rfl rfl rfl rfl rfl (by kernel_rfl) Tryz.func4 (by kernel_rfl)
    (of_decide_eq_true (by kernel_rfl)) (by unfold Func.isWrapper; first | (rw [if_pos (by decide +kernel)]; kernel_rfl) | (rw [if_neg (by decide +kernel)]; exact ⟨rfl, rfl⟩))
    (fun os started H enc _ F => by rw [OpenClaim.pre_eq_preRow]; exact lifted hw os started H enc F)

/-- No parameter wants a stand-in; the program's own looks are off. -/
theorem plain (f : FuncId) (fn : Func) (hf : Tryz.pinned.checked.prog.funcNamed "cordon/cordonlaw09.LabelJoins" = some f) (hfn : Tryz.pinned.checked.prog.funcs[f]? = some fn) :
    false = Tryz.pinned.checked.prog.looks [] ∧ ∀ (j : Nat) t, fn.params[j]? = some t → Tryz.pinned.checked.prog.wantsStandIn t = false := by
  obtain rfl : f = 4 := Option.some.inj ((show Tryz.prog.funcNamed "cordon/cordonlaw09.LabelJoins" = some 4 by kernel_rfl).symm.trans hf) |>.symm
  obtain rfl : fn = Tryz.f4 := (Option.some.inj (Tryz.func4.symm.trans hfn)).symm
  refine ⟨by kernel_rfl, fun j t ht => ?_⟩
  rw [Tryz.params4] at ht
  obtain rfl : t = 22 := by simpa using Array.mem_of_getElem? ht
  exact (show Tryz.prog.wantsStandIn 22 = false by kernel_rfl)

/-- The card, given the walk. -/
theorem card (hw : Walks) : Rows.LabelJoinsCardSaid :=
  Claim7.holds_tied_plain_at .later [] _ _ _ _ (said hw) (fun _ h => by cases h) (by kernel_rfl) (fun _ h => by cases h) labelJoins_row_tie rfl ⟨rfl, rfl⟩ (by kernel_rfl) rfl plain (by kernel_rfl)

end Go.Proofs.YtdlofjcblcpgpaaGreatDoor.labelJoins

namespace Go.Proofs.YtdlofjcblcpgpaaGreatDoor.Frm
set_option linter.unusedVariables false

theorem sort_same {α : Type} [LT α] [DecidableEq α] [DecidableLT α] [LE α] [Std.IsLinearOrder α] [Std.LawfulOrderLT α] (l : List α) (h : Rises l) : sortR l = l := rises_ext (sort_rises l) h fun a => mem_sort a l
theorem red_same (f : List (List (List UInt8))) (h : Canon f) : redL f = f :=
  rises_ext (sort_rises _) h.rise fun a => (mem_red f a).trans ⟨fun k => k.1, fun k => ⟨k, fun y hy hs => h.red y hy a k hs⟩⟩
/-- Whatever has the same members and is in one form is what is left. -/
theorem red_unique (l r : List (List (List UInt8))) (hr : Rises r) (h : ∀ x, x ∈ r ↔ x ∈ l ∧ ∀ y ∈ l, (∀ p ∈ y, p ∈ x) → y = x) : r = redL l :=
  rises_ext hr (sort_rises _) fun a => (h a).trans (mem_red l a).symm

end Go.Proofs.YtdlofjcblcpgpaaGreatDoor.Frm

namespace Go.Proofs.YtdlofjcblcpgpaaGreatDoor.Frm

set_option linter.unusedVariables false

/-- Is clause i kept, by the first k? -/
def keptK (l : List (List (List UInt8))) (i : Nat) (x : List (List UInt8)) (k : Nat) : Bool := (List.range k).all fun j => match l[j]? with
  | some y => !(subB y x && (decide (y.length < x.length) || decide (j < i)))
  | none => true
theorem keptK_zero (l : List (List (List UInt8))) (i : Nat) (x : List (List UInt8)) : keptK l i x 0 = true := rfl
theorem keptK_succ (l : List (List (List UInt8))) (i : Nat) (x y : List (List UInt8)) (k : Nat) (h : l[k]? = some y) : keptK l i x (k + 1) = (keptK l i x k && !(subB y x && (decide (y.length < x.length) || decide (k < i)))) := by
  unfold keptK
  rw [List.range_succ, List.all_append]
  simp [h]
theorem kept_no (l : List (List (List UInt8))) (i : Nat) (x y : List (List UInt8)) (k : Nat) (h : l[k]? = some y) (hs : (subB y x && (decide (y.length < x.length) || decide (k < i))) = true) : keptK l i x (k + 1) = false := by rw [keptK_succ l i x y k h, hs]; simp
theorem kept_go (l : List (List (List UInt8))) (i : Nat) (x y : List (List UInt8)) (k : Nat) (h : l[k]? = some y) (hs : (subB y x && (decide (y.length < x.length) || decide (k < i))) = false) : keptK l i x (k + 1) = keptK l i x k := by rw [keptK_succ l i x y k h, hs]; simp
theorem rise_sub (x y : List (List UInt8)) (hx : Rises x) (hy : Rises y) (hs : ∀ p ∈ y, p ∈ x) (hl : x.length ≤ y.length) : y = x :=
  rises_ext hy hx fun a => ⟨hs a, fun ha => Decidable.byContradiction fun hn => by
    have hd : (a :: y).Nodup := List.nodup_cons.2 ⟨hn, rises_nodup y hy⟩
    have := hd.length_le_of_subset (l₂ := x) (fun b hb => by
      rcases List.mem_cons.1 hb with rfl | hb
      · exact ha
      · exact hs b hb)
    rw [List.length_cons] at this
    omega⟩
theorem kept_iff (l : List (List (List UInt8))) (hl : ∀ c ∈ l, Rises c) (i : Nat) (x : List (List UInt8)) (hx : l[i]? = some x) :
    keptK l i x l.length = true ↔ (∀ y ∈ l, (∀ p ∈ y, p ∈ x) → y = x) ∧ ∀ j, j < i → l[j]? ≠ some x := by
  have hxm := List.mem_of_getElem? hx
  unfold keptK
  rw [List.all_eq_true]
  constructor
  · intro h
    refine ⟨fun y hy hs => ?_, fun j hj e => ?_⟩
    · obtain ⟨j, hj, rfl⟩ := List.getElem_of_mem hy
      have h1 := h j (List.mem_range.2 hj)
      rw [List.getElem?_eq_getElem hj] at h1
      simp only at h1
      rw [(subB_iff _ _).2 hs, Bool.true_and, Bool.not_eq_true', Bool.or_eq_false_iff] at h1
      exact rise_sub x _ (hl x hxm) (hl _ hy) hs (by have := of_decide_eq_false h1.1; omega)
    · have hjl : j < l.length := (List.getElem?_eq_some_iff.1 e).1
      have h1 := h j (List.mem_range.2 hjl)
      rw [e] at h1
      simp only at h1
      rw [(subB_iff x x).2 (fun a ha => ha), Bool.true_and, Bool.not_eq_true', Bool.or_eq_false_iff] at h1
      exact of_decide_eq_false h1.2 hj
  · rintro ⟨h1, h2⟩ j hj
    have hjl := List.mem_range.1 hj
    rw [List.getElem?_eq_getElem hjl]
    simp only
    cases hs : subB l[j] x with
    | false => rfl
    | true =>
      have e := h1 _ (List.getElem_mem hjl) ((subB_iff _ _).1 hs)
      rw [Bool.true_and, Bool.not_eq_true', Bool.or_eq_false_iff]
      refine ⟨decide_eq_false (by rw [e]; omega), decide_eq_false fun hlt => h2 j hlt (by rw [List.getElem?_eq_getElem hjl, e])⟩
/-- What has been put, behind the first i. -/
structure RedK (l : List (List (List UInt8))) (i : Nat) (out : List (List (List UInt8))) : Prop where
  rise : Rises out
  mem : ∀ x, x ∈ out ↔ (∃ j, j < i ∧ l[j]? = some x) ∧ ∀ y ∈ l, (∀ p ∈ y, p ∈ x) → y = x
theorem RedK.start (l : List (List (List UInt8))) : RedK l 0 [] := ⟨Rises.nil, fun x => ⟨fun h => (by cases h), fun ⟨⟨j, hj, _⟩, _⟩ => by omega⟩⟩
theorem RedK.len {l : List (List (List UInt8))} {i : Nat} {out : List (List (List UInt8))} (h : RedK l i out) : out.length ≤ l.length :=
  (rises_nodup' out h.rise).length_le_of_subset fun a ha => by
    obtain ⟨⟨j, _, e⟩, _⟩ := (h.mem a).1 ha
    exact List.mem_of_getElem? e
  where rises_nodup' (out : List (List (List UInt8))) (h : Rises out) : out.Nodup := rises_nodup out h
theorem RedK.skip {l : List (List (List UInt8))} {i : Nat} {out : List (List (List UInt8))} {x : List (List UInt8)} (h : RedK l i out) (hl : ∀ c ∈ l, Rises c) (hx : l[i]? = some x) (hk : keptK l i x l.length = false) : RedK l (i + 1) out := by
  refine ⟨h.rise, fun z => (h.mem z).trans ⟨fun ⟨⟨j, hj, e⟩, h2⟩ => ⟨⟨j, by omega, e⟩, h2⟩, fun ⟨⟨j, hj, e⟩, h2⟩ => ⟨?_, h2⟩⟩⟩
  by_cases hji : j = i
  · subst hji
    rw [hx] at e
    cases e
    have hn : ¬ ((∀ y ∈ l, (∀ p ∈ y, p ∈ x) → y = x) ∧ ∀ i, i < j → l[i]? ≠ some x) := fun k => by
      rw [(kept_iff l hl j x hx).2 k] at hk; cases hk
    refine Decidable.byContradiction fun hne => hn ⟨h2, fun i hi e => hne ⟨i, hi, e⟩⟩
  · exact ⟨j, by omega, e⟩
theorem RedK.take {l : List (List (List UInt8))} {i : Nat} {out : List (List (List UInt8))} {x : List (List UInt8)} (h : RedK l i out) (hl : ∀ c ∈ l, Rises c) (hx : l[i]? = some x) (hk : keptK l i x l.length = true)
    (a : Nat) (h1 : ∀ j y, j < a → out[j]? = some y → y < x) (h2 : ∀ z, out[a]? = some z → ¬ z < x) : RedK l (i + 1) (out.take a ++ x :: out.drop a) := by
  obtain ⟨k1, k2⟩ := (kept_iff l hl i x hx).1 hk
  have hno : x ∉ out := fun hm => by
    obtain ⟨⟨j, hj, e⟩, _⟩ := (h.mem x).1 hm
    exact k2 j hj e
  have ht : ∀ y ∈ out.take a, y < x := fun y hy => by
    obtain ⟨j, hj, rfl⟩ := List.getElem_of_mem hy
    rw [List.length_take] at hj
    exact h1 j _ (by omega) (by rw [List.getElem_take, List.getElem?_eq_getElem (by omega)])
  have hd : ∀ y ∈ out.drop a, x < y := fun y hy => by
    obtain ⟨j, hj, rfl⟩ := List.getElem_of_mem hy
    rw [List.length_drop] at hj
    rw [List.getElem_drop]
    have ha : out[a]? = some out[a] := List.getElem?_eq_getElem (by omega)
    have hx0 : x < out[a] := by
      rcases Lin.tri x out[a] with k | k | k
      · exact k
      · exact absurd (k ▸ List.getElem_mem _) hno
      · exact absurd k (h2 _ ha)
    by_cases e : j = 0
    · subst e; simpa using hx0
    · exact Lin.tr hx0 (List.pairwise_iff_getElem.1 h.rise a (a + j) (by omega) (by omega) (by omega))
  refine ⟨?_, fun z => ?_⟩
  · refine List.pairwise_append.2 ⟨h.rise.sublist (List.take_sublist a out), List.pairwise_cons.2 ⟨hd, h.rise.sublist (List.drop_sublist a out)⟩, fun y hy z hz => ?_⟩
    rcases List.mem_cons.1 hz with rfl | hz
    · exact ht y hy
    · exact Lin.tr (ht y hy) (hd z hz)
  · have hm : z ∈ out.take a ++ x :: out.drop a ↔ z = x ∨ z ∈ out := by
      rw [List.mem_append, List.mem_cons]
      constructor
      · rintro (h | h | h)
        · exact .inr (List.mem_of_mem_take h)
        · exact .inl h
        · exact .inr (List.mem_of_mem_drop h)
      · rintro (h | h)
        · exact .inr (.inl h)
        · have h : z ∈ out.take a ++ out.drop a := by rw [List.take_append_drop]; exact h
          rcases List.mem_append.1 h with h | h
          · exact .inl h
          · exact .inr (.inr h)
    rw [hm, h.mem]
    constructor
    · rintro (rfl | ⟨⟨j, hj, e⟩, h2⟩)
      · exact ⟨⟨i, by omega, hx⟩, k1⟩
      · exact ⟨⟨j, by omega, e⟩, h2⟩
    · rintro ⟨⟨j, hj, e⟩, h2⟩
      by_cases hji : j = i
      · subst hji; rw [hx] at e; cases e; exact .inl rfl
      · exact .inr ⟨⟨j, by omega, e⟩, h2⟩
theorem RedK.done {l out : List (List (List UInt8))} (h : RedK l l.length out) : out = redL l :=
  red_unique l out h.rise fun x => (h.mem x).trans ⟨fun ⟨⟨j, _, e⟩, h2⟩ => ⟨List.mem_of_getElem? e, h2⟩, fun ⟨h1, h2⟩ => by
    obtain ⟨j, hj, rfl⟩ := List.getElem_of_mem h1
    exact ⟨⟨j, hj, List.getElem?_eq_getElem hj⟩, h2⟩⟩

/-! ### implying, clause by clause -/
/-- Has one of the first k clauses said it? -/
def saidK (f : List (List (List UInt8))) (c : List (List UInt8)) (k : Nat) : Bool := (f.take k).any fun x => subB x c
theorem saidK_zero (f : List (List (List UInt8))) (c : List (List UInt8)) : saidK f c 0 = false := rfl
theorem saidK_succ (f : List (List (List UInt8))) (c x : List (List UInt8)) (k : Nat) (h : f[k]? = some x) : saidK f c (k + 1) = (saidK f c k || subB x c) := by
  obtain ⟨hk, rfl⟩ := List.getElem?_eq_some_iff.1 h
  unfold saidK
  rw [List.take_succ_eq_append_getElem hk, List.any_append]
  simp
theorem saidK_all (f : List (List (List UInt8))) (c : List (List UInt8)) : saidK f c f.length = f.any fun x => subB x c := by unfold saidK; rw [List.take_length]
end Go.Proofs.YtdlofjcblcpgpaaGreatDoor.Frm

namespace Go.Proofs.YtdlofjcblcpgpaaGreatDoor.Url

theorem digit_nat (d : Nat) (h : d < 10) : (UInt8.ofNat (48 + d)).toNat = 48 + d ∧ Ref.decB (UInt8.ofNat (48 + d)) = true := by
  have h1 : (UInt8.ofNat (48 + d)).toNat = 48 + d := by rw [UInt8.toNat_ofNat']; omega
  exact ⟨h1, (Ref.decB_of _).2 (by omega)⟩
theorem dig_dec (n : Nat) : ∀ b ∈ digL n, Ref.decB b = true := by
  induction n using Nat.strongRecOn with
  | ind n ih =>
    intro b hb
    by_cases h : n < 10
    · rw [dig_small n h, List.mem_singleton] at hb; rw [hb]; exact (digit_nat n h).2
    · rw [dig_big n h, List.mem_append, List.mem_singleton] at hb
      rcases hb with hb | hb
      · exact ih (n / 10) (by omega) b hb
      · rw [hb]; exact (digit_nat _ (by omega)).2
end Go.Proofs.YtdlofjcblcpgpaaGreatDoor.Url

namespace Go.Proofs.YtdlofjcblcpgpaaGreatDoor.Url

theorem split_ahead (c : UInt8) (x : List UInt8) : c ∉ x → ∀ t, Ref.splitL c (x ++ c :: t) = x :: Ref.splitL c t := by
  induction x with
  | nil => intro _ t; exact Ref.split_is c t
  | cons b r ih =>
    intro h t
    have hb : b ≠ c := fun e => h (by simp [e])
    rw [List.cons_append, Ref.split_not c b _ hb, ih (fun e => h (by simp [e])) t]; rfl
theorem split_none (c : UInt8) (x : List UInt8) : c ∉ x → Ref.splitL c x = [x] := by
  induction x with
  | nil => intro _; rfl
  | cons b r ih =>
    intro h
    have hb : b ≠ c := fun e => h (by simp [e])
    rw [Ref.split_not c b _ hb, ih (fun e => h (by simp [e]))]; rfl
end Go.Proofs.YtdlofjcblcpgpaaGreatDoor.Url

namespace Go.Proofs.YtdlofjcblcpgpaaGreatDoor.Url

theorem host_no (h : List UInt8) (hp : Host.parseE h = 0) (d : UInt8) (h1 : Host.hostByte d = false) (h2 : d ≠ 46) : d ∉ h := fun hd => by
  rcases host_bytes h hp d hd with h | h
  · rw [h1] at h; cases h
  · exact h2 h
theorem port_no (u : U) (d : UInt8) (hd : Ref.decB d = false) (h : d ≠ 58) : d ∉ portT u := by
  unfold portT
  split
  · simp
  · intro hm
    rcases List.mem_cons.1 hm with hm | hm
    · exact h hm
    · rw [dig_dec _ d hm] at hd; cases hd

end Go.Proofs.YtdlofjcblcpgpaaGreatDoor.Url

namespace Go.Proofs.YtdlofjcblcpgpaaGreatDoor.Org
open Url
set_option linter.unusedVariables false

/-- What may not stand in a server's name and port. -/
theorem name_no (u : U) (h : Ok u) (d : UInt8) (h1 : Host.hostByte d = false) (h2 : d ≠ 46) (h3 : Ref.decB d = false) (h4 : d ≠ 58) : d ∉ u.host ++ portT u := by
  rw [List.mem_append, not_or]
  exact ⟨host_no u.host h.host d h1 h2, port_no u d h3 h4⟩

end Go.Proofs.YtdlofjcblcpgpaaGreatDoor.Org

namespace Go.Proofs.YtdlofjcblcpgpaaGreatDoor
open Go.RowKit Go.Shelf
attribute [local go_sem] Oper.semAt_some

/-- A text as a value. -/
def strV (x : List UInt8) : Value := .string ⟨x.toArray⟩
end Go.Proofs.YtdlofjcblcpgpaaGreatDoor

namespace Go.Proofs.YtdlofjcblcpgpaaGreatDoor
open Go.RowKit Go.Shelf

/-- How a list of texts lies. -/
def StrsIn (w : World) (p : Option Addr) (n : Nat) (xs : List (List UInt8)) : Prop :=
  0 < n → ∃ b o, p = some ⟨b, o, none⟩ ∧ ∀ i, i < n → w.cell? ⟨b, o + i, none⟩ = some (strV (xs.getD i []))
def sameL (xs ys : List (List UInt8)) : Bool := decide (xs = ys)
theorem drop_consS (l : List (List UInt8)) (k : Nat) (h : k < l.length) : l.drop k = l.getD k [] :: l.drop (k + 1) := by
  rw [List.drop_eq_getElem_cons h]
  simp [List.getD, List.getElem?_eq_getElem h]

set_option maxHeartbeats 1000000 in
theorem Same_any (p1 p2 : Option Addr) (n c m d : Nat) (xs ys : List (List UInt8)) (w : World) (hx : xs.length = n) (hy : ys.length = m) (hn : n ≤ 140737488355328) (hm : m ≤ 140737488355328) (h1 : StrsIn w p1 n xs) (h2 : StrsIn w p2 m ys) :
    Calls Tryz.prog 63 #[.slice p1 n c, .slice p2 m d] w fun e w' => e = .returned (.bool (sameL xs ys)) ∧ ∃ q, w' = w.drewN q := by
  by_cases hnm : n = m
  · subst hnm
    have e0 : ((n : Int) != (n : Int)) = false := by simp
    go_enter Tryz.func63, Tryz.ntmps63
    go_wp2
    go_loopw [13] (fun i wr => ∃ k q : Nat, k ≤ n ∧ i = .int .i64 k ∧ wr = w.drewN q ∧ Hid (sameL xs ys = sameL (xs.drop k) (ys.drop k))) (fun i _ => n - (intOf i).toNat)
    case atStart => exact ⟨0, 0, Nat.zero_le _, rfl, rfl, rfl⟩
    case round =>
      obtain ⟨k, q, hk, rfl, rfl, HR⟩ := hrel
      by_cases hlt : k < n
      · obtain ⟨b1, o1, rfl, hc1⟩ := h1 (by omega)
        obtain ⟨b2, o2, rfl, hc2⟩ := h2 (by omega)
        have c1 := hc1 k hlt
        have c2 := hc2 k hlt
        have d1 := drop_consS xs k (by omega)
        have d2 := drop_consS ys k (by omega)
        clear hc1 hc2 h1 h2 e0
        generalize xs.getD k [] = x at c1 d1
        generalize ys.getD k [] = y at c2 d2
        unfold strV at c1 c2
        by_cases hxy : x = y
        · subst hxy
          have HR2 := Lib.hid (show sameL xs ys = sameL (xs.drop (k + 1)) (ys.drop (k + 1)) by rw [HR.out, d1, d2]; unfold sameL; simp)
          clear d1 d2 HR
          go_wp2
          go_quiet (fail)
          go_wp2
          go_roundw
          case rel => exact ⟨k + 1, q + nq, by omega, by go_num, rfl, HR2⟩
          case measure => simp [intOf]; omega
        · have hne' : (x == y) = false := by rw [beq_eq_false_iff_ne]; exact hxy
          have H := Lib.hid (show sameL xs ys = false by rw [HR.out, d1, d2]; unfold sameL; simp [hxy])
          clear d1 d2 HR hxy
          go_wp2
          go_quiet (fail)
          go_wp2
          go_ret
          exact ⟨(by rw [H.out]; try rfl), q + nq, by simp [World.drewN, Nat.add_assoc]⟩
      · have H := Lib.hid (show sameL xs ys = true by rw [HR.out, List.drop_of_length_le (by omega), List.drop_of_length_le (by omega)]; rfl)
        go_wp2
        go_ret
        exact ⟨(by rw [H.out]; try rfl), q, rfl⟩
  · have e0 : ((n : Int) != (m : Int)) = true := by rw [bne_iff_ne]; omega
    have H := Lib.hid (show sameL xs ys = false by unfold sameL; rw [decide_eq_false_iff_not]; intro h; apply hnm; rw [← hx, ← hy, h])
    go_enter Tryz.func63, Tryz.ntmps63
    go_wp2
    go_ret
    exact ⟨(by rw [H.out]; try rfl), 0, rfl⟩

end Go.Proofs.YtdlofjcblcpgpaaGreatDoor

namespace Go.Proofs.YtdlofjcblcpgpaaGreatDoor.Cls
open Url Org
set_option linter.unusedVariables false

theorem prin_text (t : List UInt8) (h : prinB t = true) : (∃ n : Nat, 1 ≤ n ∧ n ≤ 9223372036854775807 ∧ t = closedS ++ digL n) ∨ ∃ u, Ok u ∧ t = placeU u := by
  unfold prinB at h
  split at h
  · rename_i x hx
    have ht := (of_decide_eq_true h).symm
    rcases Q_in _ t x hx with ⟨n, rfl, h1, h2⟩ | ⟨u, rfl, hu⟩
    · exact .inl ⟨n, h1, h2, ht⟩
    · exact .inr ⟨u, parse_ok t u hu, ht⟩
  · cases h
/-- What stands in no principal. -/
theorem prin_no (t : List UInt8) (h : prinB t = true) (d : UInt8) (h1 : Host.hostByte d = false) (h2 : d ≠ 46) (h3 : Ref.decB d = false) (h4 : d ≠ 58) (h5 : d ≠ 47) (h6 : d ∉ closedS) (h7 : d ∉ httpsS) : d ∉ t := by
  rcases prin_text t h with ⟨n, _, _, rfl⟩ | ⟨u, hu, rfl⟩
  · rw [List.mem_append, not_or]
    refine ⟨h6, fun hd => ?_⟩
    rw [dig_dec n d hd] at h3; cases h3
  · have h8 : d ∉ u.scheme := by
      rcases hu.scheme with hs | hs <;> rw [hs]
      · intro hd
        apply h7
        unfold httpS at hd; unfold httpsS
        simp only [List.mem_cons, List.not_mem_nil, or_false] at hd ⊢
        rcases hd with hd | hd | hd | hd <;> simp [hd]
      · exact h7
    have := name_no u hu d h1 h2 h3 h4
    rw [List.mem_append, not_or] at this
    unfold placeU
    simp only [List.mem_append, not_or]
    exact ⟨⟨⟨h8, by simp [h4, h5]⟩, this.1⟩, this.2⟩
theorem prin_colon (t : List UInt8) (h : prinB t = true) : (58 : UInt8) ∈ t := by
  rcases prin_text t h with ⟨n, _, _, rfl⟩ | ⟨u, hu, rfl⟩
  · simp [closedS]
  · unfold placeU; simp
/-- A text that may stand between bars: not empty, no bar, no blank. -/
structure Part (p : List UInt8) : Prop where
  ne : p ≠ []
  bar : (124 : UInt8) ∉ p
  blank : ∀ b ∈ p, blankB b = false
  colon : (58 : UInt8) ∈ p
theorem prin_part (t : List UInt8) (h : prinB t = true) : Part t := by
  have hc := prin_colon t h
  refine ⟨fun e => (by rw [e] at hc; cases hc), prin_no t h 124 (by decide) (by decide) (by decide) (by decide) (by decide) (by decide) (by decide), fun b hb => ?_, hc⟩
  have n1 := prin_no t h 32 (by decide) (by decide) (by decide) (by decide) (by decide) (by decide) (by decide)
  have n2 := prin_no t h 9 (by decide) (by decide) (by decide) (by decide) (by decide) (by decide) (by decide)
  have d1 : b ≠ 32 := fun e => n1 (e ▸ hb)
  have d2 : b ≠ 9 := fun e => n2 (e ▸ hb)
  unfold blankB; simp [d1, d2]
theorem drop_blank (a l : List UInt8) (ha : ∀ b ∈ a, blankB b = true) (hl : ∀ b, l.head? = some b → blankB b = false) : (a ++ l).dropWhile blankB = l := by
  induction a with
  | nil =>
    cases l with
    | nil => rfl
    | cons x r => rw [List.nil_append, List.dropWhile_cons, if_neg (by rw [hl x rfl]; simp)]
  | cons x r ih =>
    rw [List.cons_append, List.dropWhile_cons, if_pos (ha x (by simp))]
    exact ih fun b hb => ha b (by simp [hb])
theorem trim_pad (a p c : List UInt8) (hp : p ≠ []) (hb : ∀ b ∈ p, blankB b = false) (ha : ∀ b ∈ a, blankB b = true) (hc : ∀ b ∈ c, blankB b = true) : trimB (a ++ p ++ c) = p := by
  unfold trimB
  rw [List.append_assoc, drop_blank a (p ++ c) ha, List.reverse_append, drop_blank, List.reverse_reverse]
  · intro b h; exact hc b (List.mem_reverse.1 h)
  · intro b h; exact hb b (List.mem_reverse.1 (List.mem_of_mem_head? h))
  · intro b h
    cases p with
    | nil => exact absurd rfl hp
    | cons x r =>
      obtain rfl : x = b := by simpa using h
      exact hb x (by simp)
/-- What is no blank stays. -/
theorem trim_keeps (l : List UInt8) (b : UInt8) (hb : blankB b = false) (h : b ∈ l) : b ∈ trimB l := by
  have keep : ∀ m : List UInt8, b ∈ m → b ∈ m.dropWhile blankB := fun m => by
    induction m with
    | nil => intro h; cases h
    | cons x r ih =>
      intro h
      rw [List.dropWhile_cons]
      split
      · rename_i hx
        rcases List.mem_cons.1 h with rfl | h
        · rw [hb] at hx; cases hx
        · exact ih h
      · exact h
  unfold trimB
  exact List.mem_reverse.2 (keep _ (List.mem_reverse.2 (keep _ h)))

theorem cls_colon (ps : List (List UInt8)) (hn : ps ≠ []) (h : ∀ p ∈ ps, Part p) : (58 : UInt8) ∈ clsT ps := by
  cases ps with
  | nil => exact absurd rfl hn
  | cons p r => exact List.mem_append.2 (.inl (h p (by simp)).colon)
end Go.Proofs.YtdlofjcblcpgpaaGreatDoor.Cls

namespace Go.Proofs.YtdlofjcblcpgpaaGreatDoor.Cls
open Url Org Frm
set_option linter.unusedVariables false

theorem never_trim (a c : List UInt8) (ha : ∀ b ∈ a, blankB b = true) (hc : ∀ b ∈ c, blankB b = true) : trimB (a ++ neverS ++ c) = neverS :=
  trim_pad a neverS c (by decide) (by decide) ha hc
/-- The pieces of a clause's text with blanks about it. -/
def barsL (pre post : List UInt8) : List (List UInt8) → List (List UInt8)
  | [] => []
  | [p] => [pre ++ p ++ post]
  | p :: q :: r => (pre ++ p ++ [32]) :: barsL [32] post (q :: r)
theorem split_pad (post : List UInt8) (hpost : (124 : UInt8) ∉ post) : ∀ (ps : List (List UInt8)) (pre : List UInt8), ps ≠ [] → (∀ p ∈ ps, (124 : UInt8) ∉ p) → (124 : UInt8) ∉ pre → Ref.splitL 124 (pre ++ clsT ps ++ post) = barsL pre post ps
  | [], _, h, _, _ => absurd rfl h
  | [p], pre, _, h, hpre => by
    have hn : (124 : UInt8) ∉ pre ++ p ++ post := by simp only [List.mem_append, not_or]; exact ⟨⟨hpre, h p (by simp)⟩, hpost⟩
    show Ref.splitL 124 (pre ++ (p ++ []) ++ post) = _
    rw [List.append_nil, split_none 124 _ hn]; rfl
  | p :: q :: r, pre, _, h, hpre => by
    have ih := split_pad post hpost (q :: r) [32] (by simp) (fun x hx => h x (by simp [hx])) (by decide)
    have hn : (124 : UInt8) ∉ pre ++ p ++ [32] := by
      simp only [List.mem_append, not_or]
      exact ⟨⟨hpre, h p (by simp)⟩, by decide⟩
    have e : pre ++ clsT (p :: q :: r) ++ post = (pre ++ p ++ [32]) ++ 124 :: ([32] ++ clsT (q :: r) ++ post) := by
      simp [clsT]
    rw [e, split_ahead 124 _ hn, ih]; rfl
theorem trim_barsL (post : List UInt8) (hpost : ∀ b ∈ post, blankB b = true) : ∀ (ps : List (List UInt8)) (pre : List UInt8), (∀ p ∈ ps, Part p) → (∀ b ∈ pre, blankB b = true) → (barsL pre post ps).map trimB = ps
  | [], _, _, _ => rfl
  | [p], pre, h, hpre => by
    have hp := h p (by simp)
    show [trimB (pre ++ p ++ post)] = _
    rw [trim_pad pre p post hp.ne hp.blank hpre hpost]
  | p :: q :: r, pre, h, hpre => by
    have hp := h p (by simp)
    have ih := trim_barsL post hpost (q :: r) [32] (fun x hx => h x (by simp [hx])) (by decide)
    show trimB (pre ++ p ++ [32]) :: _ = _
    rw [trim_pad pre p [32] hp.ne hp.blank hpre (by decide), ih]

theorem of_self (c : List (List UInt8)) (h : COk c) : ofC c = .inr c := by
  unfold ofC
  rw [if_pos (List.all_eq_true.2 h.prin), sort_same c h.rise, if_pos h.few]
theorem no_bar (a : List UInt8) (ha : ∀ b ∈ a, blankB b = true) (d : UInt8) (hd : blankB d = false) : d ∉ a := fun h => by rw [ha d h] at hd; cases hd
/-- A clause's text, with blanks about it or without, is parsed to it. -/
theorem parseC_text (c : List (List UInt8)) (h : COk c) (a z : List UInt8) (ha : ∀ b ∈ a, blankB b = true) (hz : ∀ b ∈ z, blankB b = true) (hl : (a ++ clsT c ++ z).length ≤ 4096) : parseC (a ++ clsT c ++ z) = .inr c := by
  unfold parseC
  rw [if_neg (by omega)]
  by_cases hc : c = []
  · subst hc
    exact if_pos (show trimB (a ++ neverS ++ z) = neverS from never_trim a z ha hz)
  · have hp : ∀ p ∈ c, Part p := fun p hp => prin_part p (h.prin p hp)
    have hne : trimB (a ++ clsT c ++ z) ≠ neverS := fun e => by
      have h1 := trim_keeps (a ++ clsT c ++ z) 58 (by decide) (List.mem_append.2 (.inl (List.mem_append.2 (.inr (cls_colon c hc hp)))))
      rw [e] at h1
      exact absurd h1 (by decide)
    rw [if_neg hne, split_pad z (no_bar z hz 124 (by decide)) c a hc (fun p hp2 => (hp p hp2).bar) (no_bar a ha 124 (by decide)), trim_barsL z hz c a hp ha, of_self c h]
/-- What stands in no clause's text. -/
theorem cls_no (c : List (List UInt8)) (h : COk c) (d : UInt8) (h0 : d ∉ neverS) (hs : d ∉ [32, 124, 32]) (h1 : Host.hostByte d = false) (h2 : d ≠ 46) (h3 : Ref.decB d = false) (h4 : d ≠ 58) (h5 : d ≠ 47) (h6 : d ∉ closedS) (h7 : d ∉ httpsS) : d ∉ clsT c := by
  cases c with
  | nil => exact h0
  | cons p r =>
    have hp : ∀ q ∈ p :: r, d ∉ q := fun q hq => prin_no q (h.prin q hq) d h1 h2 h3 h4 h5 h6 h7
    show d ∉ p ++ _
    rw [List.mem_append, not_or]
    refine ⟨hp p (by simp), fun hd => ?_⟩
    obtain ⟨q, hq, hd⟩ := List.mem_flatMap.1 hd
    rcases List.mem_append.1 hd with hd | hd
    · exact hs hd
    · exact hp q (by simp [hq]) hd

/-- What stands between the signs. -/
def andsL (pre post : List UInt8) : List (List (List UInt8)) → List (List UInt8)
  | [] => []
  | [c] => [pre ++ clsT c ++ post]
  | c :: d :: r => (pre ++ clsT c ++ [32]) :: andsL [32] post (d :: r)
theorem split_ands (post : List UInt8) (hpost : (38 : UInt8) ∉ post) : ∀ (f : List (List (List UInt8))) (pre : List UInt8), f ≠ [] → (∀ c ∈ f, (38 : UInt8) ∉ clsT c) → (38 : UInt8) ∉ pre → Ref.splitL 38 (pre ++ frmT f ++ post) = andsL pre post f
  | [], _, h, _, _ => absurd rfl h
  | [c], pre, _, h, hpre => by
    have hn : (38 : UInt8) ∉ pre ++ clsT c ++ post := by simp only [List.mem_append, not_or]; exact ⟨⟨hpre, h c (by simp)⟩, hpost⟩
    show Ref.splitL 38 (pre ++ (clsT c ++ []) ++ post) = _
    rw [List.append_nil, split_none 38 _ hn]; rfl
  | c :: d :: r, pre, _, h, hpre => by
    have ih := split_ands post hpost (d :: r) [32] (by simp) (fun x hx => h x (by simp [hx])) (by decide)
    have hn : (38 : UInt8) ∉ pre ++ clsT c ++ [32] := by
      simp only [List.mem_append, not_or]
      exact ⟨⟨hpre, h c (by simp)⟩, by decide⟩
    have e : pre ++ frmT (c :: d :: r) ++ post = (pre ++ clsT c ++ [32]) ++ 38 :: ([32] ++ frmT (d :: r) ++ post) := by
      simp [frmT]
    rw [e, split_ahead 38 _ hn, ih]; rfl
theorem ofF_self (f : List (List (List UInt8))) (h : FOk f) : ofF f = .inr f := by
  unfold ofF
  rw [red_same f h.canon, if_pos h.few]
theorem clauses_ands (post : List UInt8) (hpost : ∀ b ∈ post, blankB b = true) : ∀ (f : List (List (List UInt8))) (pre : List UInt8), (∀ c ∈ f, COk c) → (∀ b ∈ pre, blankB b = true) → (∀ x ∈ andsL pre post f, x.length ≤ 4096) → clausesL (andsL pre post f) = .inr f
  | [], _, _, _, _ => rfl
  | [c], pre, h, hpre, hl => by
    have hc := parseC_text c (h c (by simp)) pre post hpre hpost (hl _ (by simp [andsL]))
    show clausesL [pre ++ clsT c ++ post] = _
    unfold clausesL
    rw [hc]; rfl
  | c :: d :: r, pre, h, hpre, hl => by
    have hc := parseC_text c (h c (by simp)) pre [32] hpre (by decide) (hl _ (by simp [andsL]))
    have ih := clauses_ands post hpost (d :: r) [32] (fun x hx => h x (by simp [hx])) (by decide) (fun x hx => hl x (by simp [andsL, hx]))
    show clausesL ((pre ++ clsT c ++ [32]) :: andsL [32] post (d :: r)) = _
    unfold clausesL
    rw [hc]
    simp only
    rw [ih]
theorem split_le (c : UInt8) (l : List UInt8) : ∀ x ∈ Ref.splitL c l, x.length ≤ l.length := fun x hx => Ref.split_small c l x hx
theorem cls_38 (c : List (List UInt8)) (h : COk c) : (38 : UInt8) ∉ clsT c := cls_no c h 38 (by decide) (by decide) (by decide) (by decide) (by decide) (by decide) (by decide) (by decide) (by decide)
theorem cls_59 (c : List (List UInt8)) (h : COk c) : (59 : UInt8) ∉ clsT c := cls_no c h 59 (by decide) (by decide) (by decide) (by decide) (by decide) (by decide) (by decide) (by decide) (by decide)
/-- A clause's text, trimmed, is no always. -/
theorem cls_first (c : List (List UInt8)) (h : COk c) (a z : List UInt8) (ha : ∀ b ∈ a, blankB b = true) : trimB (a ++ clsT c ++ z) ≠ alwaysS := by
  intro e
  cases c with
  | nil =>
    have h1 := trim_keeps (a ++ neverS ++ z) 110 (by decide) (List.mem_append.2 (.inl (List.mem_append.2 (.inr (by decide)))))
    rw [show clsT ([] : List (List UInt8)) = neverS from rfl] at e
    rw [e] at h1
    exact absurd h1 (by decide)
  | cons p r =>
    have h1 := trim_keeps (a ++ clsT (p :: r) ++ z) 58 (by decide) (List.mem_append.2 (.inl (List.mem_append.2 (.inr (cls_colon (p :: r) (by simp) fun q hq => prin_part q (h.prin q hq))))))
    rw [e] at h1
    exact absurd h1 (by decide)
/-- A formula's text, with blanks about it or without, is parsed to it. -/
theorem parseF_text (f : List (List (List UInt8))) (h : FOk f) (a z : List UInt8) (ha : ∀ b ∈ a, blankB b = true) (hz : ∀ b ∈ z, blankB b = true) (hl : (a ++ frmT f ++ z).length ≤ 4096) : parseF (a ++ frmT f ++ z) = .inr f := by
  unfold parseF
  rw [if_neg (by omega)]
  cases f with
  | nil => exact if_pos (show trimB (a ++ alwaysS ++ z) = alwaysS from trim_pad a alwaysS z (by decide) (by decide) ha hz)
  | cons c r =>
    have hne : trimB (a ++ frmT (c :: r) ++ z) ≠ alwaysS := by
      have e : a ++ frmT (c :: r) ++ z = a ++ clsT c ++ ((r.flatMap fun d => [32, 38, 32] ++ clsT d) ++ z) := by simp [frmT]
      rw [e]
      exact cls_first c (h.each c (by simp)) a _ ha
    have hs := split_ands z (no_bar z hz 38 (by decide)) (c :: r) a (by simp) (fun x hx => cls_38 x (h.each x hx)) (no_bar a ha 38 (by decide))
    have hc := clauses_ands z hz (c :: r) a h.each ha (fun x hx => by
      rw [← hs] at hx
      exact Nat.le_trans (split_le 38 _ x hx) hl)
    rw [if_neg hne, hs, hc]
    exact ofF_self _ h
theorem frm_59 (f : List (List (List UInt8))) (h : FOk f) : (59 : UInt8) ∉ frmT f := by
  cases f with
  | nil => decide
  | cons c r =>
    show (59 : UInt8) ∉ clsT c ++ _
    rw [List.mem_append, not_or]
    refine ⟨cls_59 c (h.each c (by simp)), fun hd => ?_⟩
    obtain ⟨q, hq, hd⟩ := List.mem_flatMap.1 hd
    rcases List.mem_append.1 hd with hd | hd
    · exact absurd hd (by decide)
    · exact cls_59 q (h.each q (by simp [hq])) hd
theorem parseL_text (l : Lab) (hs : FOk l.s) (hi : FOk l.i) (hl : (labT l).length ≤ 4096) : parseL (labT l) = .inr l := by
  have n1 : (59 : UInt8) ∉ frmT l.s ++ [32] := by
    rw [List.mem_append, not_or]; exact ⟨frm_59 l.s hs, by decide⟩
  have n2 : (59 : UInt8) ∉ [32] ++ frmT l.i := by
    rw [List.mem_append, not_or]; exact ⟨by decide, frm_59 l.i hi⟩
  have e : labT l = (frmT l.s ++ [32]) ++ 59 :: ([32] ++ frmT l.i) := by simp [labT]
  have e2 := congrArg List.length e
  simp only [List.length_append, List.length_cons, List.length_nil] at e2
  have p1 := parseF_text l.s hs [] [32] (fun b hb => by cases hb) (by decide) (by simp only [List.length_append, List.length_cons, List.length_nil]; omega)
  have p2 := parseF_text l.i hi [32] [] (by decide) (fun b hb => by cases hb) (by simp only [List.length_append, List.length_cons, List.length_nil]; omega)
  rw [List.nil_append] at p1
  rw [List.append_nil] at p2
  unfold parseL
  rw [if_neg (by omega), e, split_ahead 59 _ n1, split_none 59 _ n2]
  simp only
  rw [p1, p2]

end Go.Proofs.YtdlofjcblcpgpaaGreatDoor.Cls

namespace Go.Proofs.YtdlofjcblcpgpaaGreatDoor
open Go.RowKit Go.Shelf

/-- The address of what goes on at place l. -/
def subR (q : Option Addr) (c l : Nat) : Option Addr := if c = l then q else q.map (·.add l)
def hdA (q : Option Addr) (c : Nat) : Option Addr := if c = 0 then q else q.map (·.add 0)
theorem subR_some (a : Addr) (c l : Nat) : ∃ a', subR (some a) c l = some a' ∧ a'.block = a.block := by
  unfold subR; split
  · exact ⟨a, rfl, rfl⟩
  · exact ⟨_, rfl, by simp [Addr.add]; try split <;> rfl⟩
theorem hdA_some (a : Addr) (c : Nat) : ∃ a', hdA (some a) c = some a' ∧ a'.block = a.block := by
  unfold hdA; split
  · exact ⟨a, rfl, rfl⟩
  · exact ⟨_, rfl, by simp [Addr.add]; try split <;> rfl⟩

theorem SlIn.take {α : Type} {enc : α → Value} {w : World} {q : Option Addr} {n c : Nat} {xs : List α} (h : SlIn enc w q n xs) (k : Nat) (hk : k ≤ n) (hnc : n ≤ c) : SlIn enc w (hdA q c) k (xs.take k) := by
  refine ⟨by have := h.1; simp; omega, fun hp => ?_⟩
  obtain ⟨b, o, rfl, hb, hc⟩ := h.at (by omega)
  refine ⟨b, o, ?_, hb, fun i x hx => ?_⟩
  · unfold hdA; rw [if_neg (by omega)]; simp [Addr.add]
  · rw [List.getElem?_take] at hx
    split at hx
    · exact hc i x hx
    · cases hx
theorem SlIn.drop {α : Type} {enc : α → Value} {w : World} {q : Option Addr} {n c : Nat} {xs : List α} (h : SlIn enc w q n xs) (k : Nat) (hk : k ≤ n) (hnc : n ≤ c) : SlIn enc w (subR q c k) (n - k) (xs.drop k) := by
  refine ⟨by have := h.1; simp; omega, fun hp => ?_⟩
  obtain ⟨b, o, rfl, hb, hc⟩ := h.at (by omega)
  refine ⟨b, o + k, ?_, hb, fun i x hx => ?_⟩
  · unfold subR; rw [if_neg (by omega)]
    by_cases h0 : k = 0
    · subst h0; simp [Addr.add]
    · simp [Addr.add, h0]
  · rw [List.getElem?_drop] at hx
    have := hc (k + i) x hx
    rwa [show o + (k + i) = o + k + i by omega] at this

end Go.Proofs.YtdlofjcblcpgpaaGreatDoor

namespace Go.Proofs.YtdlofjcblcpgpaaGreatDoor.Frm
open Cls
set_option linter.unusedVariables false

theorem sum_sub {α : Type} [DecidableEq α] (f : α → Nat) : ∀ c l : List α, c.Nodup → (∀ x ∈ c, x ∈ l) → sumL f c ≤ sumL f l
  | [], l, _, _ => Nat.zero_le _
  | x :: c, l, hd, h => by
    rw [sumL, sum_erase f x l (h x (by simp))]
    have hd' := List.nodup_cons.1 hd
    have := sum_sub f c (l.erase x) hd'.2 fun y hy => (List.mem_erase_of_ne (fun e => hd'.1 (by rw [← e]; exact hy))).2 (h y (by simp [hy]))
    omega
theorem sum_onto (x : List UInt8) (l : List (List UInt8)) (h : l ≠ []) : sumL (fun p : List UInt8 => p.length + 1) (Ref.onto x l) = x.length + sumL (fun p : List UInt8 => p.length + 1) l := by
  cases l with
  | nil => exact absurd rfl h
  | cons p r =>
    show sumL _ ((x ++ p) :: r) = _
    rw [sumL, sumL, List.length_append]; omega
theorem sum_split (c : UInt8) : ∀ l : List UInt8, sumL (fun p : List UInt8 => p.length + 1) (Ref.splitL c l) = l.length + 1
  | [] => rfl
  | b :: r => by
    have ih := sum_split c r
    by_cases e : b = c
    · rw [e, Ref.split_is, sumL, ih]; simp; omega
    · rw [Ref.split_not c b r e, sum_onto _ _ (Ref.split_ne c r), ih]; simp; omega
theorem sum_three (l : List (List UInt8)) : sumL (fun p : List UInt8 => p.length + 3) l ≤ 3 * sumL (fun p : List UInt8 => p.length + 1) l := by
  induction l with
  | nil => simp [sumL]
  | cons p r ih => rw [sumL, sumL]; omega
theorem sum_trim (l : List (List UInt8)) (h : ∀ p : List UInt8, (trimB p).length ≤ p.length) : sumL (fun p : List UInt8 => p.length + 3) (l.map trimB) ≤ sumL (fun p : List UInt8 => p.length + 3) l := by
  induction l with
  | nil => exact Nat.le_refl _
  | cons p r ih => rw [List.map_cons, sumL, sumL]; have := h p; omega
theorem trim_small (p : List UInt8) : (trimB p).length ≤ p.length := by
  unfold trimB
  rw [List.length_reverse]
  have h1 := (List.dropWhile_sublist (l := p) Cls.blankB).length_le
  have h2 := (List.dropWhile_sublist (l := (p.dropWhile Cls.blankB).reverse) Cls.blankB).length_le
  rw [List.length_reverse] at h2
  omega
theorem flat_sum (s : List UInt8) (hs : s.length = 3) : ∀ r : List (List UInt8), (r.flatMap fun q => s ++ q).length = sumL (fun p : List UInt8 => p.length + 3) r
  | [] => rfl
  | q :: r => by rw [List.flatMap_cons, List.length_append, List.length_append, flat_sum s hs r, sumL, hs]; omega
theorem clsT_sum (c : List (List UInt8)) (hc : c ≠ []) : (clsT c).length + 3 = sumL (fun p : List UInt8 => p.length + 3) c := by
  cases c with
  | nil => exact absurd rfl hc
  | cons p r =>
    show (p ++ r.flatMap fun q => [32, 124, 32] ++ q).length + 3 = _
    rw [List.length_append, flat_sum _ rfl, sumL]; omega
theorem cls_short_text (t : List UInt8) (c : List (List UInt8)) (h : parseC t = .inr c) : (clsT c).length ≤ 3 * t.length := by
  unfold parseC at h
  split at h
  · cases h
  · split at h
    · rename_i hn
      cases h
      have h1 := trim_small t
      rw [hn] at h1
      have h2 : neverS.length = 5 := rfl
      show neverS.length ≤ _
      omega
    · obtain ⟨hok, hm⟩ := of_ok _ c h
      by_cases hc : c = []
      · subst hc
        have : ∃ p, p ∈ (Ref.splitL 124 t).map trimB := by
          cases hs : Ref.splitL 124 t with
          | nil => exact absurd hs (Ref.split_ne 124 t)
          | cons p r => exact ⟨trimB p, by simp⟩
        obtain ⟨p, hp⟩ := this
        exact absurd ((hm p).2 hp) (by simp)
      · have h1 := clsT_sum c hc
        have h2 := sum_sub (fun p : List UInt8 => p.length + 3) c _ (rises_nodup c hok.rise) fun x hx => (hm x).1 hx
        have h3 := sum_trim (Ref.splitL 124 t) trim_small
        have h4 := sum_three (Ref.splitL 124 t)
        have h5 := sum_split 124 t
        omega
theorem clauses_sum : ∀ (l : List (List UInt8)) (r : List (List (List UInt8))), clausesL l = .inr r → sumL (fun c => (clsT c).length + 3) r ≤ 3 * sumL (fun p : List UInt8 => p.length + 1) l
  | [], r, h => by cases h; exact Nat.zero_le _
  | p :: l, r, h => by
    unfold clausesL at h
    split at h
    · cases h
    · rename_i x hx
      split at h
      · cases h
      · rename_i y hy
        cases h
        have h1 := cls_short_text p x hx
        have h2 := clauses_sum l y hy
        rw [sumL, sumL]; omega
/-- The text of a formula that a text was parsed to. -/
theorem frm_short (t : List UInt8) (f : List (List (List UInt8))) (h : parseF t = .inr f) : (frmT f).length ≤ 3 * t.length + 6 := by
  unfold parseF at h
  split at h
  · cases h
  · split at h
    · cases h
      show alwaysS.length ≤ _
      rw [show alwaysS.length = 6 from rfl]; omega
    · split at h
      · cases h
      · rename_i l hl
        obtain ⟨hok, e⟩ := ofF_ok l f (clauses_ok _ l hl) h
        by_cases hf : f = []
        · subst hf
          show alwaysS.length ≤ _
          rw [show alwaysS.length = 6 from rfl]; omega
        · have h1 := frmT_sum f hf
          have h2 := sum_sub (fun c => (clsT c).length + 3) f l (rises_nodup f hok.canon.rise) fun x hx => by rw [e] at hx; exact ((mem_red l x).1 hx).1
          have h3 := clauses_sum _ l hl
          have h4 := sum_split 38 t
          omega
end Go.Proofs.YtdlofjcblcpgpaaGreatDoor.Frm

namespace Go.Proofs.YtdlofjcblcpgpaaGreatDoor.Frm
open Cls
set_option linter.unusedVariables false

theorem parse_lab_short (t : List UInt8) (h : t.length ≤ 400) : (frmT (labV (parseL t)).s).length ≤ 1206 ∧ (frmT (labV (parseL t)).i).length ≤ 1206 := by
  have hal : (frmT []).length ≤ 1206 := by show alwaysS.length ≤ _; rw [show alwaysS.length = 6 from rfl]; omega
  cases hp : parseL t with
  | inl n => exact ⟨hal, hal⟩
  | inr l =>
    rcases (parseL_cases t l hp).2 with ⟨s, hs, h1, h2⟩ | ⟨s, i, hs, h1, h2⟩
    · have k1 := Ref.split_small 59 t s (by rw [hs]; simp)
      have k2 := frm_short s _ h1
      refine ⟨?_, ?_⟩
      · show (frmT l.s).length ≤ _; omega
      · show (frmT l.i).length ≤ _; rw [h2]; exact hal
    · have k1 := Ref.split_small 59 t s (by rw [hs]; simp)
      have k2 := frm_short s _ h1
      have k3 := Ref.split_small 59 t i (by rw [hs]; simp)
      have k4 := frm_short i _ h2
      refine ⟨?_, ?_⟩
      · show (frmT l.s).length ≤ _; omega
      · show (frmT l.i).length ≤ _; omega
theorem lab_text (l : Lab) (h : LOk l) (hl : (labT l).length ≤ 4096) : parseL (labT l) = .inr l := parseL_text l h.s h.i hl
theorem lab_len (l : Lab) : (labT l).length = (frmT l.s).length + 3 + (frmT l.i).length := by unfold labT; simp only [List.length_append, List.length_cons, List.length_nil]

/-! ### joins and meets, with their errors -/
/-! ### flowing, set by set -/
/-! ### one principal -/
end Go.Proofs.YtdlofjcblcpgpaaGreatDoor.Frm

namespace Go.Proofs.YtdlofjcblcpgpaaGreatDoor.Frm
open Go.RowKit Go.Shelf Go.Sort Url Org Cls
attribute [local go_sem] Oper.semAt_some
set_option linter.unusedVariables false

/-! ### lives -/
/-! ### Of -/
/-! ### what is told, collected -/
set_option maxRecDepth 100000 in
set_option maxHeartbeats 4000000 in
theorem all07_any (gf : Nat) (lb : Array Value) (x : List (List UInt8)) (RB : Nat → Prop) (w : World) (eg : ∀ args w, (callFunc gf args).run Tryz.prog w = .ok (.enter gf args) w)
    (hi : IterC Tryz.prog gf lb StrArg x RB w) (hRs : ∀ b, RB b → b < w.heap.size) (hN : x.length ≤ 1099511627776) :
    Calls Tryz.prog 90 #[.func (.func gf) #[] lb] w fun e w' => ∃ v, e = .returned v ∧ w'.ownsRow w.heap.size 9 1 v x.length (x.map encStr) ∧ Below w.heap.size w w' := by
  obtain ⟨i0, hi0, hz0, hz1, hz2⟩ := info_parts S.info_str
  have hnf : ∀ w' : World, (binOp .eql 109 (.func (.func gf) #[] lb) .nilFunc).run Tryz.prog w' = .ok (.bool false) w' := fun _ => by kernel_rfl
  refine (callsIn_wide (n := 1)).1 ?_
  refine callsIn_of_wp_marks Tryz.func90 rfl trivial ?_ rfl
  simp only [Tryz.ntmps90, List.size_toArray, List.length_cons, List.length_nil, Nat.reduceAdd, Nat.reduceSub, Array.replicate_succ, Array.replicate_zero, List.push_toArray, List.append_toArray, List.nil_append, List.cons_append]
  gi_wp2
  obtain ⟨W0, hW0⟩ : ∃ W0, w.alloc (.cells #[.slice none 0 0] 50) = W0 := ⟨_, rfl⟩
  have b0 : Boxed W0 w.heap.size 50 (.slice none 0 0) := by rw [← hW0]; exact Boxed.new w _ _
  have hB0 : Below w.heap.size w W0 := by rw [← hW0]; exact below_alloc _
  have hs0 : W0.heap.size = w.heap.size + 1 := by rw [← hW0]; simp
  rw [hW0]
  clear hW0 hnf
  have hRl : ∀ b, RB b → b < W0.heap.size := fun b hb => by have := hRs b hb; omega
  refine rf_law (gf := gf) (lb := lb) rfl eg hi ((Keep.of_below hB0).mono fun b _ hb => hRs b hb) hRl (fun x args G W h => by rw [h.1]; rfl)
    (ColI 50 9 w.heap.size (fun b => b < w.heap.size) W0) (fun _ _ _ _ => False) (ColI_abide _ _ _ _ _ (by omega) (fun b hb => by omega)) (fun _ _ _ _ _ _ h _ _ => h)
    ⟨_, b0, World.ownsRow_nil _ _ _ _, (fun _ h => h.elim), (fun _ h => by cases h), Keep.refl _ _⟩ ?round ?done ?stop
  case round =>
    rintro ll pre t rest Pv G args Wr hll hxs ⟨v, hbx, hrow, hge, hnv, hKW⟩ hPl hGl hPb hGP ⟨rfl, rfl⟩
    have hlen : pre.length + rest.length + 1 = x.length := by rw [hxs]; simp; omega
    have hpl : pre.length + 1 ≤ 1099511627776 := by omega
    clear hlen
    gi_wp2
    refine ⟨Keep.refl _ _, fun W2 hk2 hs2 r hr => ?_⟩
    have hnP : ∀ b, b < W0.heap.size → ¬ Pv b := fun b hb h => by have := hge b h; omega
    have hk2' : Keep (fun b => ¬ Pv b) Wr W2 := hk2.mono fun b _ hb h => hb (h ▸ hPl)
    replace hbx := hk2'.boxed hbx (hnP _ (by omega))
    replace hrow := hk2'.row hrow hnv
    have hK2 : Keep (fun b => b < w.heap.size) W0 W2 := hKW.trans (hk2'.mono fun b _ hb => hnP b (by omega))
    have hPl2 : ∀ b, Pv b → b < W2.heap.size := fun b hb => by rw [hs2]; exact hPb b hb
    have cB := hbx.cell
    have hszW := hK2.size
    clear hxs hr hk2 hk2' hs2 hKW
    gi_wp2_with (gi_at_builtin; go_must (refine wpListIn_append_own_at _ rfl _ _ 50 rfl W0.heap.size 9 i0 (.string ByteArray.empty) 1 16 Tryz.underlying50 hi0 hz0 hz1 hz2 rfl (by decide) _ _ _ rfl (hrow.alloc _) ⟨W2.heap.size, 0, none⟩ 1 1 [encStr t] rfl rfl (cell_one_new _ _ _) (by simp [encStr, Value.oneCell']) (by unfold maxLen; omega) (by omega) (by simp; omega) ?_); intro v' w1 hown' hgrow _ hat; obtain ⟨g', cap', rfl⟩ := ownsRow_succ hown'; obtain ⟨hv1, hv2, hr2, hkk⟩ := appended_keep (S := fun b => RB b ∨ Pv b ∨ b < w.heap.size) hbx (by decide) hrow (fun h => by rcases h with h | h | h; (have := hRs _ h; omega); exact hnP w.heap.size (by omega) h; omega) (fun b hb h => by have h0 := (hrow.lt b hb).1; rcases h with h | h | h; (have := hRs _ h; omega); exact hnv b hb h; omega) hown' hgrow; have hc1 := hv1.cell; have hf1 := hv1.frozen)
    refine ⟨hkk.mono fun b _ h => h.elim .inl fun h => .inr (.inl h), _, hv2, ?_, fun b hb => hge b hb, fun b hb hp => ?_, hK2.trans (hkk.mono fun b _ h => .inr (.inr h))⟩
    · simpa using hr2
    · rcases hat with h | h
      · exact hnv b (h ▸ hb) hp
      · rw [h] at hb; cases hb; have h5 := hPl2 _ hp; simp at h5; omega
  case done =>
    rintro D Pv Wd hD hPD hPl ⟨v, hbx, hrow, hge, hnv, hKW⟩ hK
    have cB := hbx.cell
    gi_wp2
    have hB : Keep (fun b => b < w.heap.size) w Wd := (Keep.of_below hB0).trans hKW
    refine ⟨by simp, .inl ⟨_, _, rfl, run_takeDeferred hK, ?_⟩⟩
    refine ⟨_, results_tmp rfl _ _ _, v, rfl, row_base ((Keep.putObj (S := fun b => ¬ Pv b) Wd D _ (fun h => h hPD)).row hrow hnv) (by omega), (hB.trans (Keep.putObj _ _ _ (by omega))).below (Nat.le_refl _)⟩
  case stop =>
    rintro D c pre rest Pv Wd _ _ _ _ h _
    exact h.elim

end Go.Proofs.YtdlofjcblcpgpaaGreatDoor.Frm

namespace Go.Proofs.YtdlofjcblcpgpaaGreatDoor.Frm
open Go.RowKit Go.Shelf Go.Sort Url Org Cls
attribute [local go_sem] Oper.semAt_some
set_option linter.unusedVariables false

theorem info_strs : (Tryz.prog.info? 50).map (fun i => (i.zero, i.size, i.bytes)) = some (some (.slice none 0 0), 1, 24) := by kernel_rfl
/-- A row of rows of texts: the document's formula. -/
def RefIn (w : World) (q : Option Addr) (n : Nat) (xs : List (List (List UInt8))) : Prop := ∃ zs : List Cl, SlIn encC w q n zs ∧ (∀ z ∈ zs, ClAt w z ∧ (z.1.1 = none → z.1.2.2 = 0)) ∧ xs = zs.map Prod.snd
theorem RefIn.len {w : World} {q : Option Addr} {n : Nat} {xs : List (List (List UInt8))} (h : RefIn w q n xs) : xs.length = n := by
  obtain ⟨zs, h1, _, rfl⟩ := h
  rw [List.length_map]; exact h1.1
theorem RefIn.below {w w' : World} {q : Option Addr} {n : Nat} {xs : List (List (List UInt8))} (h : RefIn w q n xs) (hb : Below w.heap.size w w') : RefIn w' q n xs := by
  obtain ⟨zs, h1, h2, rfl⟩ := h
  exact ⟨zs, h1.below hb h1.lt, fun z hz => ⟨(h2 z hz).1.below hb, (h2 z hz).2⟩, rfl⟩

/-- The rows that have come lie in the box's row; Pv: what others hold. -/
def RefL (Bo base : Nat) (W0 : World) (Pv : Nat → Prop) (W : World) (acc : List (List (List UInt8))) : Prop :=
  ∃ v, ∃ ls : List Cl, Boxed W Bo 33 v ∧ W.ownsRow base 50 1 v ls.length (ls.map encC) ∧ (∀ z ∈ ls, (ClAt W z ∧ (z.1.1 = none → z.1.2.2 = 0)) ∧ ∀ a, z.1.1 = some a → 0 < z.1.2.1 → ¬ Pv a.block ∧ W0.heap.size ≤ a.block ∧ v.ownBlock ≠ some a.block) ∧ ls.map Prod.snd = acc ∧
    (∀ b, Pv b → W0.heap.size ≤ b) ∧ (∀ b, v.ownBlock = some b → ¬ Pv b) ∧ Keep (fun b => b < base) W0 W
theorem RefL.step {Bo base : Nat} {Pv Pv' : Nat → Prop} {W0 A B : World} {acc : List (List (List UInt8))} (h : RefL Bo base W0 Pv A acc) (hBo : Bo < W0.heap.size) (hbs : base ≤ W0.heap.size) (hk : Keep (fun b => ¬ Pv b) A B) (hp : ∀ b, Pv' b → (Pv b ∨ A.heap.size ≤ b)) : RefL Bo base W0 Pv' B acc := by
  obtain ⟨v, ls, h1, h2, hz, hc, h3, h5, h6⟩ := h
  have hs := h6.size
  refine ⟨v, ls, hk.boxed h1 (fun h => by have := h3 _ h; omega), hk.row h2 h5, fun z hz' => ⟨⟨(hz z hz').1.1.from hk (fun a ha h0 => ((hz z hz').2 a ha h0).1), (hz z hz').1.2⟩, fun a ha h0 => ⟨fun hp' => ?_, ((hz z hz').2 a ha h0).2⟩⟩, hc, fun b hb => ?_, fun b hb hp' => ?_, h6.trans (hk.mono fun b _ hb hpb => by have := h3 b hpb; omega)⟩
  · rcases hp _ hp' with h | h
    · exact ((hz z hz').2 a ha h0).1 h
    · have := (hz z hz').1.1.lt a ha h0; omega
  · rcases hp b hb with h | h
    · exact h3 b h
    · omega
  · rcases hp _ hp' with h | h
    · exact h5 b hb h
    · have := (h2.lt b hb).2; omega

set_option maxRecDepth 100000 in
set_option maxHeartbeats 16000000 in
theorem all08_new (gf : Nat) (lb : Array Value) (zs : List Cl) (w : World) (eg : ∀ args w, (callFunc gf args).run Tryz.prog w = .ok (.enter gf args) w)
    (hi : IterC Tryz.prog gf lb ClArg zs (fun b => b < w.heap.size) w) (hz : ∀ z ∈ zs, ClAt w z) (hN : zs.length ≤ 1000) :
    Calls Tryz.prog 65 #[.func (.func gf) #[] lb] w fun e w' => ∃ q n c, e = .returned (.slice q n c) ∧ RefIn w' q n (zs.map Prod.snd) ∧ (∀ a, q = some a → w.heap.size ≤ a.block) ∧ (q = none → c = 0) ∧ Below w.heap.size w w' := by
  obtain ⟨i0, hi0, hz0, hz1, hz2⟩ := info_parts info_strs
  have hnf : ∀ w' : World, (binOp .eql 77 (.func (.func gf) #[] lb) .nilFunc).run Tryz.prog w' = .ok (.bool false) w' := fun _ => by kernel_rfl
  refine (callsIn_wide (n := 1)).1 ?_
  refine callsIn_of_wp_marks Tryz.func65 rfl trivial ?_ rfl
  simp only [Tryz.ntmps65, List.size_toArray, List.length_cons, List.length_nil, Nat.reduceAdd, Nat.reduceSub, Array.replicate_succ, Array.replicate_zero, List.push_toArray, List.append_toArray, List.nil_append, List.cons_append]
  gi_wp2
  obtain ⟨W0, hW0⟩ : ∃ W0, (w.alloc (.cells #[] 50)).alloc (.cells #[.slice (some ⟨w.heap.size, 0, none⟩) 0 0] 33) = W0 := ⟨_, rfl⟩
  have b0 : Boxed W0 (w.heap.size + 1) 33 (.slice (some ⟨w.heap.size, 0, none⟩) 0 0) := by
    have := Boxed.new (w.alloc (.cells #[] 50)) 33 (.slice (some ⟨w.heap.size, 0, none⟩) 0 0)
    rw [World.size_alloc] at this
    exact hW0 ▸ this
  have hrow0 : W0.ownsRow w.heap.size 50 1 (.slice (some ⟨w.heap.size, 0, none⟩) 0 0) 0 [] := hW0 ▸ (World.ownsRow_made w #[] 0 (Nat.le_refl _) (Nat.zero_le _) rfl).alloc _
  have hB0 : Below w.heap.size w W0 := hW0 ▸ ((Below.refl _ w).alloc (Nat.le_refl _) _).alloc (by simp) _
  have hs0 : W0.heap.size = w.heap.size + 2 := by rw [← hW0]; simp
  rw [hW0]
  clear hW0 hnf
  refine rf_law (gf := gf) (lb := lb) rfl eg hi (Keep.of_below hB0) (fun b hb => by omega) (fun x args G W h => by rw [h.1]; rfl)
    (fun pre Pv W => RefL (w.heap.size + 1) w.heap.size W0 Pv W (pre.map Prod.snd)) (fun _ _ _ _ => False)
    (fun s Pv Pv' A B h hk hp => h.step (by omega) (by omega) hk (fun b hb => (hp b hb).1)) (fun _ _ _ _ _ _ h _ _ => h)
    ⟨_, [], b0, hrow0, (fun z hz => by cases hz), rfl, (fun _ h => h.elim), (fun _ _ h => h), Keep.refl _ _⟩ ?round ?done ?stop
  case round =>
    rintro ll pre ⟨⟨xq, xn, xc⟩, x⟩ rest Pv G args Wr hll hxs ⟨v, ls, hbx, hrow, hzs, hacc, hge, hnv, hKW⟩ hPl hGl hPb hGP ⟨harg, rfl⟩
    obtain rfl : args = #[.agg #[.slice xq xn xc]] := harg
    have hxm : ((xq, xn, xc), x) ∈ zs := by rw [hxs]; simp
    have hpl : ls.length + 1 ≤ 1000 := by
      have h1 := congrArg List.length hacc
      rw [List.length_map, List.length_map] at h1
      rw [hxs, List.length_append, List.length_cons] at hN
      omega
    clear hxs
    have hll2 := hPb ll hPl
    have hszr := hKW.size
    gi_wp2
    refine ⟨Keep.alloc _ _ _, fun W5 hk5 hs5 r hr => ?_⟩
    have hka := Keep.alloc (fun _ => True) Wr (.cells #[.slice xq xn xc] 82)
    have bx := hk5.boxed (Boxed.new Wr 82 (.slice xq xn xc)) (by omega)
    have hk5' : Keep (fun b => ¬ Pv b) Wr W5 := (hka.mono fun _ _ _ => trivial).trans (hk5.mono fun b _ hb h => hb (h ▸ hPl))
    replace hbx := hk5'.boxed hbx (fun h => by have := hge _ h; omega)
    replace hrow := hk5'.row hrow hnv
    replace hzs : ∀ z ∈ ls, (ClAt W5 z ∧ (z.1.1 = none → z.1.2.2 = 0)) ∧ ∀ a, z.1.1 = some a → 0 < z.1.2.1 → ¬ Pv a.block ∧ W0.heap.size ≤ a.block ∧ v.ownBlock ≠ some a.block := fun z hz => ⟨⟨(hzs z hz).1.1.from hk5' (fun a ha h0 => ((hzs z hz).2 a ha h0).1), (hzs z hz).1.2⟩, (hzs z hz).2⟩
    have hK5 : Keep (fun b => b < w.heap.size) W0 W5 := hKW.trans (hk5'.mono fun b _ hb h => by have := hge b h; omega)
    have hPl5 : ∀ b, Pv b → b < W5.heap.size := fun b hb => Nat.lt_of_lt_of_le (hPb b hb) hk5'.size
    have hszW : W0.heap.size ≤ W5.heap.size := hK5.size
    have A5 : Below w.heap.size w W5 := hB0.trans (hK5.below (by omega))
    have hz5 := (hz _ hxm).below A5
    clear hr hk5 hk5' hs5 hKW hka
    obtain ⟨Wd, hWd⟩ : ∃ Wd, W5.drew = Wd := ⟨_, rfl⟩
    have hkd : ∀ S, Keep S W5 Wd := fun S => by rw [← hWd]; exact Keep.drew S W5
    have HSZD := Lib.hid (show Wd.heap.size = W5.heap.size by rw [← hWd]; rfl)
    replace hbx := (hkd (fun _ => True)).boxed hbx trivial
    replace hrow := (hkd (fun _ => True)).row hrow (fun _ _ => trivial)
    replace bx := (hkd (fun _ => True)).boxed bx trivial
    replace hzs : ∀ z ∈ ls, (ClAt Wd z ∧ (z.1.1 = none → z.1.2.2 = 0)) ∧ ∀ a, z.1.1 = some a → 0 < z.1.2.1 → ¬ Pv a.block ∧ W0.heap.size ≤ a.block ∧ v.ownBlock ≠ some a.block := fun z hz => ⟨⟨(hzs z hz).1.1.keep (hkd _), (hzs z hz).1.2⟩, (hzs z hz).2⟩
    replace hz5 := hz5.keep (hkd _)
    have con := Cls.All_any xq xn xc Wd
    obtain ⟨W6, hW6⟩ : ∃ W6, Wd.alloc (.cells #[.slice xq xn xc] 82) = W6 := ⟨_, rfl⟩
    have bc : Boxed W6 Wd.heap.size 82 (.slice xq xn xc) := hW6 ▸ Boxed.new Wd _ _
    have hb6 : Below Wd.heap.size Wd W6 := hW6 ▸ below_alloc _
    have hz6 := hz5.below hb6
    obtain ⟨_, _, _, hee, hxc, hxn, hsx, hrx⟩ := hz6.set
    cases hee
    have hxl := hsx.1
    have con2 := all07_any 103 #[.pointer (some ⟨Wd.heap.size, 0, none⟩)] x (fun b => b < W6.heap.size) W6 (enters_of Tryz.func103 (by kernel_rfl) rfl)
      (Cls.All1_iter Wd.heap.size xq xn xc x _ W6 hxn hsx hsx.lt bc bc.lt (fun _ h => h)) (fun _ h => h) (Nat.le_trans hz6.few (by decide))
    have hfew : x.length ≤ 16 := hz6.few
    have HFEW := Lib.hid hfew
    generalize x.length = m at con2 hfew
    have c0 := hbx.cell
    have cx := bx.cell
    have HWd := Lib.hid hWd
    have HX := Lib.hid hxl
    clear hWd hsx hz6 hz5 hxl
    gi_wp2_with fail
    refine region_anyO (fun j => decide (j ≠ 6)) (fun X => X.cell? ⟨w.heap.size + 1, 0, none⟩ = some v) (by kernel_rfl) ?_
    rw [HWd.out]
    refine anyO_take 0 (v := v) rfl (by kernel_rfl) (by kernel_rfl) (by kernel_rfl) (by kernel_rfl) (by kernel_rfl) (fun _ _ _ h => h) ⟨.inl ⟨by rfl, ?_⟩, fun _ => rfl⟩ c0 ?_
    · rintro w h1; go_simp
    refine anyO_one 1 (by kernel_rfl) rfl fun K hK => ?_
    go_simp
    refine hK _ _ (fun _ => c0) ?_
    clear hK K
    refine anyO_one 2 (by kernel_rfl) rfl fun K hK => ?_
    go_simp
    refine ⟨trivial, rfl, (CallsIn.inRound ll (callsIn_wide.2 con)).mono ?_⟩
    rintro e w4 ⟨rfl, hw4⟩
    rw [hW6] at hw4
    subst hw4
    have c4' := ((Keep.of_below hb6).boxed hbx hbx.lt).cell
    refine hK _ _ (fun _ => c4') ?_
    clear hK K con
    refine anyO_one 3 (by kernel_rfl) rfl fun K hK => ?_
    go_simp
    refine ⟨trivial, rfl, (CallsIn.inRound ll (callsIn_wide.2 con2)).mono ?_⟩
    rintro e w6 ⟨v6, rfl, hrow6, hbel⟩
    obtain ⟨q6, c6, rfl, hc6, hcm6, hs6, hq6⟩ := slIn_of_owns hrow6
    have hz6 : ClAt w6 ((q6, m, c6), x) := ⟨⟨_, _, _, rfl, hc6, show m ≤ 140737488355328 by omega, hs6, hrx⟩, HFEW.out⟩
    have hzn : q6 = none → c6 = 0 := fun h => by subst h; exact (Cls.row_nil hrow6).2
    have hbw : Below Wd.heap.size Wd w6 := hb6.trans (hbel.mono hb6.size)
    have kb := Keep.of_below hbw
    have hbx4 := kb.boxed hbx hbx.lt
    have hrow4 := kb.row hrow (fun b hb => (hrow.lt b hb).2)
    have hsz6 := hbw.size
    have hszn := hb6.size
    have c5' := hbx4.cell
    refine hK _ _ (fun _ => c5') ?_
    clear hK K con2
    refine anyO_one 4 (by kernel_rfl) rfl fun K hK => ?_
    go_simp
    have c6' := (hbx4.alloc (.cells #[.slice q6 m c6] 50)).cell
    refine hK _ _ (fun _ => c6') ?_
    clear hK K
    refine anyO_one 5 (by kernel_rfl) rfl fun K hK => ?_
    rw [if_pos (by rfl)]
    refine S.wpIn_append_own _ _ 33 rfl w.heap.size 50 i0 (.slice none 0 0) 1 24 Tryz.underlying33 hi0 hz0 hz1 hz2 rfl (by decide) v ls.length _ rfl (hrow4.alloc _) ⟨w6.heap.size, 0, none⟩ 1 1 [.slice q6 m c6] rfl rfl (cell_one_new _ _ _) (by simp [Value.oneCell']) (by unfold maxLen; omega) (by omega) (by have := HSZD.out; simp; omega) ?_
    intro v2 w7 hown' hgrow hat
    obtain ⟨g', cap', rfl⟩ := ownsRow_succ hown'
    obtain ⟨hv1, hv2, hr2, hkk⟩ := appended_keep (S := fun b => b ≠ w.heap.size + 1 ∧ v.ownBlock ≠ some b) hbx4 (by decide) hrow4 (fun h => h.1 rfl) (fun b hb h => h.2 hb) hown' hgrow
    have c7 := hv1.cell
    have f7 := hv1.frozen
    refine hK _ _ (fun _ => c7) ?_
    clear hK K
    refine anyO_one 6 (by kernel_rfl) rfl fun K hK => ?_
    go_simp
    refine hK _ _ (fun h => absurd h (by decide)) ?_
    clear hK K
    refine anyO_done (by kernel_rfl) ?_ _
    clear c7 f7 c6' c5' c4' c0 cx
    gi_wp2
    have hszd := HSZD.out
    have hat' : some g' = v.ownBlock ∨ some g' = some (w6.alloc (.cells #[.slice q6 m c6] 50)).heap.size := hat
    have hg : ∀ b, some g' = some b → v.ownBlock = some b ∨ w6.heap.size + 1 ≤ b := fun b hb => by
      rcases hat' with h | h
      · exact .inl (h ▸ hb)
      · rw [h] at hb
        have := Option.some.inj hb
        simp at this
        exact .inr (by omega)
    have hk6 : ∀ S : Nat → Prop, (∀ b, S b → b < w6.heap.size ∧ b ≠ w.heap.size + 1 ∧ v.ownBlock ≠ some b) → Keep S w6 (w7.setCell ⟨w.heap.size + 1, 0, none⟩ (.slice (some ⟨g', 0, none⟩) (ls.length + 1) cap')) := fun S hS => hkk.mono fun b _ h => (hS b h).2
    have hk5 : ∀ S : Nat → Prop, (∀ b, S b → b < Wd.heap.size ∧ b ≠ w.heap.size + 1 ∧ v.ownBlock ≠ some b) → Keep S Wd (w7.setCell ⟨w.heap.size + 1, 0, none⟩ (.slice (some ⟨g', 0, none⟩) (ls.length + 1) cap')) := fun S hS => (kb.mono fun b _ h => (hS b h).1).trans (hk6 S fun b h => ⟨by have := (hS b h).1; omega, (hS b h).2⟩)
    have hown5 : ∀ b, v.ownBlock = some b → w.heap.size ≤ b ∧ b < Wd.heap.size := fun b hb => hrow.lt b hb
    have hkr : ∀ b, b < w.heap.size → b < Wd.heap.size ∧ b ≠ w.heap.size + 1 ∧ v.ownBlock ≠ some b := fun b hb => ⟨by omega, by omega, fun e => by have := (hown5 b e).1; omega⟩
    refine ⟨(hkd _).trans (hk5 _ (fun b hb => ?_)), _, ls ++ [((q6, m, c6), x)], hv2, by simpa [encC] using hr2, fun z hz => ?_, ?_, fun b hb => hge b hb, fun b hb hp => ?_, hK5.trans ((hkd _).trans (hk5 _ hkr))⟩
    · rcases hb with h | h
      · exact hkr b h
      · exact ⟨by have := hPl5 b h; omega, fun e => by have := hge b h; omega, fun e => hnv b e h⟩
    · rcases List.mem_append.1 hz with h | h
      · obtain ⟨⟨k1, k3⟩, k2⟩ := hzs z h
        refine ⟨⟨k1.from (hk5 (fun b => b < Wd.heap.size ∧ b ≠ w.heap.size + 1 ∧ v.ownBlock ≠ some b) (fun b hb => hb)) (fun a ha h0 => ?_), k3⟩, fun a ha h0 => ?_⟩
        · obtain ⟨j1, j2, j3⟩ := k2 a ha h0
          exact ⟨k1.lt a ha h0, by omega, j3⟩
        · obtain ⟨j1, j2, j3⟩ := k2 a ha h0
          refine ⟨j1, j2, fun e => ?_⟩
          rcases hg a.block e with h | h
          · exact j3 h
          · have := k1.lt a ha h0; omega
      · rw [List.mem_singleton.1 h]
        refine ⟨⟨hz6.from (hk6 (fun b => b < w6.heap.size ∧ b ≠ w.heap.size + 1 ∧ v.ownBlock ≠ some b) (fun b hb => hb)) (fun a ha h0 => ?_), hzn⟩, fun a ha h0 => ?_⟩
        · have j := (hq6 a ha).1
          exact ⟨hz6.lt a ha h0, by omega, fun e => by have := (hown5 _ e).2; omega⟩
        · have j := (hq6 a ha).1
          refine ⟨fun hp => by have := hPl5 _ hp; omega, by omega, fun e => ?_⟩
          rcases hg a.block e with h | h
          · have := (hown5 _ h).2; omega
          · have := hz6.lt a ha h0; omega
    · rw [List.map_append, List.map_append, hacc]; rfl
    · rcases hg b hb with h | h
      · exact hnv b h hp
      · have := hPl5 b hp; omega
  case done =>
    rintro D Pv Wd hD hPD hPl ⟨v, ls, hbx, hrow, hzs, hacc, hge, hnv, hKW⟩ hK
    obtain ⟨q4, c4, rfl, hc4, _, hs4, hq4⟩ := slIn_of_owns hrow
    have HQ4 := Lib.hid (show ∀ a, q4 = some a → w.heap.size ≤ a.block from fun a h => (hq4 a h).1)
    have HN4 := Lib.hid (show q4 = none → c4 = 0 from fun h => by subst h; exact (Cls.row_nil hrow).2)
    clear hq4
    have hBd : Below w.heap.size w Wd := hB0.trans (hKW.below (by omega))
    have cB := hbx.cell
    have HR := Lib.hid (show RefIn (Wd.putObj D (.deferred none)) q4 ls.length (zs.map Prod.snd) from ⟨ls, slC_put hs4 hK, fun z hz => ⟨⟨set_put (hzs z hz).1.1.set hK, (hzs z hz).1.1.few⟩, (hzs z hz).1.2⟩, hacc.symm⟩)
    clear hs4 hrow hbx hzs hacc hnv hge hKW
    gi_wp2
    refine ⟨by simp, .inl ⟨_, _, rfl, run_takeDeferred hK, ?_⟩⟩
    exact ⟨_, results_tmp rfl _ _ _, q4, ls.length, c4, rfl, HR.out, HQ4.out, HN4.out, ((Keep.of_below hBd).trans (Keep.putObj _ D (.deferred none) (by omega))).below (Nat.le_refl _)⟩
  case stop =>
    rintro D c pre rest Pv Wd _ _ _ _ h _
    exact h.elim

set_option maxRecDepth 100000 in
set_option maxHeartbeats 4000000 in
theorem Ref_new (v : Value) (f : List (List (List UInt8))) (w : World) (h : FrmIs w v f) (hN : f.length ≤ 1000) :
    Calls Tryz.prog 37 #[v] w fun e w' => ∃ q n c, e = .returned (.slice q n c) ∧ RefIn w' q n f ∧ (∀ a, q = some a → w.heap.size ≤ a.block) ∧ (q = none → c = 0) ∧ Below w.heap.size w w' := by
  obtain ⟨q, n, c, rfl⟩ := frm_form h
  obtain ⟨_, hnc, zs, s0, z0, rfl⟩ := h.row
  rw [List.length_map] at hN
  have A1 := below_alloc (w := w) (.cells #[.slice q n c] 26)
  have con := frmAll_any q n c (w.alloc (.cells #[.slice q n c] 26))
  have hl := s0.1
  obtain ⟨W1, hW1⟩ : ∃ W1, w.alloc (.cells #[.slice q n c] 26) = W1 := ⟨_, rfl⟩
  rw [hW1] at A1 con
  obtain ⟨W2, hW2⟩ : ∃ W2, (W1.alloc (.cells #[.slice q n c] 26)).alloc (.cells #[.slice q n c] 24) = W2 := ⟨_, rfl⟩
  rw [hW2] at con
  have bv : Boxed W2 (W1.heap.size + 1) 24 (.slice q n c) := by
    have := Boxed.new (W1.alloc (.cells #[.slice q n c] 26)) 24 (.slice q n c)
    rw [World.size_alloc] at this
    exact hW2 ▸ this
  have hB2 : Below W1.heap.size W1 W2 := hW2 ▸ ((Below.refl _ W1).alloc (Nat.le_refl _) _).alloc (by simp) _
  have A2 := A1.trans (hB2.mono A1.size)
  have s2 := s0.below A2 s0.lt
  have con2 := all08_new 100 #[.pointer (some ⟨W1.heap.size + 1, 0, none⟩)] zs W2 (enters_of Tryz.func100 (by kernel_rfl) rfl)
    (Values1_iter (W1.heap.size + 1) q n c zs _ W2 (by omega) s2 s2.lt bv bv.lt (fun _ h => h)) (fun z hz => (z0 z hz).below A2) hN
  have HW1 := Lib.hid hW1
  clear hW1 hW2 bv s0 s2 z0 h hl
  go_enter Tryz.func37, Tryz.ntmps37
  go_wp2_with fail
  rw [HW1.out]
  refine con.mono ?_
  rintro e w2 ⟨rfl, rfl⟩
  clear con
  go_wp2_with fail
  refine con2.mono ?_
  rintro e w3 ⟨q3, n3, c3, rfl, h3, hq3, hz3, hb3⟩
  have HQ3 := Lib.hid (show ∀ a, q3 = some a → w.heap.size ≤ a.block from fun a h => Nat.le_trans A2.size (hq3 a h))
  have HZ3 := Lib.hid hz3
  clear hq3 hz3
  clear con2
  go_wp2
  go_ret
  exact ⟨q3, n3, c3, rfl, h3, HQ3.out, HZ3.out, A2.trans (hb3.mono A2.size)⟩

end Go.Proofs.YtdlofjcblcpgpaaGreatDoor.Frm

namespace Go.Proofs.YtdlofjcblcpgpaaGreatDoor.Frm
open Go.RowKit Go.Shelf Go.Sort Url Org Cls
attribute [local go_sem] Oper.semAt_some
set_option linter.unusedVariables false

set_option maxRecDepth 100000 in
set_option maxHeartbeats 4000000 in
theorem In_any (q : Option Addr) (n c : Nat) (l : List (List UInt8)) (p : List UInt8) (w : World) (h : SlIn encStr w q n l) (hn : n ≤ 140737488355328) :
    Calls Tryz.prog 49 #[.slice q n c, .string ⟨p.toArray⟩] w fun e w' => e = .returned (.bool (decide (p ∈ l))) ∧ w = w' := by
  have hl := Lib.hid h.1
  go_enter Tryz.func49, Tryz.ntmps49
  go_wp2
  go_loop [9] (fun i => ∃ k : Nat, k ≤ n ∧ i = .int .i64 k ∧ Hid (∀ j x, j < k → l[j]? = some x → p ≠ x)) (fun i => n - (intOf i).toNat)
  case atStart => exact ⟨0, Nat.zero_le _, rfl, Lib.hid (fun j x h => by omega)⟩
  case round =>
    obtain ⟨k, hk, rfl, HJ⟩ := hrel
    by_cases hlt : k < n
    · obtain ⟨b, o, rfl, _, hc⟩ := h.at (by omega)
      obtain ⟨x, hx, _⟩ := drop_getElem l k (by rw [hl.out]; exact hlt)
      have hck : w.cell? ⟨b, o + k, none⟩ = some (.string ⟨x.toArray⟩) := hc k x hx
      by_cases hp : p = x
      · have e1 : (p == x) = true := by rw [beq_iff_eq]; exact hp
        have HR := Lib.hid (show decide (p ∈ l) = true from decide_eq_true (hp ▸ List.mem_of_getElem? hx))
        clear hx hc h HJ hp
        go_wp2
        go_ret
        exact ⟨(by rw [HR.out]; rfl), rfl⟩
      · have e1 : (p == x) = false := by rw [beq_eq_false_iff_ne]; exact hp
        have HJ2 := Lib.hid (show ∀ j y, j < k + 1 → l[j]? = some y → p ≠ y from fun j y hj hy => by
          by_cases e : j = k
          · subst e; rw [hx] at hy; cases hy; exact hp
          · exact HJ.out j y (by omega) hy)
        clear hx hc h HJ hp
        go_wp2
        go_round
        case rel => exact ⟨k + 1, by omega, by go_num, HJ2⟩
        case measure => simp [intOf]; omega
    · obtain rfl : k = n := by omega
      have HR := Lib.hid (show decide (p ∈ l) = false from decide_eq_false fun hm => by
        obtain ⟨j, hj, he⟩ := List.getElem_of_mem hm
        exact HJ.out j _ (by have := hl.out; omega) (List.getElem?_eq_getElem hj) he.symm)
      clear HJ h
      go_wp2
      go_ret
      exact ⟨(by rw [HR.out]; rfl), rfl⟩


/-- The least of some texts, up to a number. -/
def leastK (l : List (List UInt8)) (k : Nat) (m : List UInt8) : Prop := m ∈ l ∧ ∀ j x, j < k → l[j]? = some x → ¬ x < m
/-- What has come, and what is left, together make the list. -/
structure RiseK (l0 out l : List (List UInt8)) : Prop where
  rise : Rises out
  less : ∀ a ∈ out, ∀ b ∈ l, a < b
  mem : ∀ a, a ∈ l0 ↔ a ∈ out ∨ a ∈ l
theorem RiseK.start (l : List (List UInt8)) : RiseK l [] l := ⟨Rises.nil, fun a ha => (by cases ha), fun a => by simp⟩
theorem RiseK.next {l0 out l : List (List UInt8)} {m : List UInt8} (h : RiseK l0 out l) (hm : m ∈ l) (hl : ∀ x ∈ l, ¬ x < m) : RiseK l0 (out ++ [m]) (l.filter fun x => decide (x ≠ m)) := by
  refine ⟨?_, fun a ha b hb => ?_, fun a => ?_⟩
  · refine List.pairwise_append.2 ⟨h.rise, by simp, fun a ha b hb => ?_⟩
    rw [List.mem_singleton.1 hb]
    exact h.less a ha m hm
  · obtain ⟨hb1, hb2⟩ := List.mem_filter.1 hb
    have hb2 := of_decide_eq_true hb2
    rcases List.mem_append.1 ha with ha | ha
    · exact h.less a ha b hb1
    · rw [List.mem_singleton.1 ha]
      rcases Lin.tri m b with k | k | k
      · exact k
      · exact absurd k.symm hb2
      · exact absurd k (hl b hb1)
  · rw [h.mem, List.mem_append, List.mem_singleton, List.mem_filter]
    constructor
    · rintro (h | h)
      · exact .inl (.inl h)
      · by_cases e : a = m
        · exact .inl (.inr e)
        · exact .inr ⟨h, decide_eq_true e⟩
    · rintro ((h | h) | h)
      · exact .inl h
      · exact .inr (h ▸ hm)
      · exact .inr h.1
theorem RiseK.done {l0 out : List (List UInt8)} (h : RiseK l0 out []) : out = sortR l0 :=
  rises_ext h.rise (sort_rises l0) fun a => by rw [mem_sort, h.mem]; simp
/-- What is left, up to a number. -/
def restK (l : List (List UInt8)) (m : List UInt8) (k : Nat) : List (List UInt8) := (l.take k).filter fun x => decide (x ≠ m)
theorem restK_succ (l : List (List UInt8)) (m x : List UInt8) (k : Nat) (h : l[k]? = some x) : restK l m (k + 1) = if x = m then restK l m k else restK l m k ++ [x] := by
  unfold restK
  rw [(take_snoc l k x h).1, List.filter_append]
  by_cases e : x = m
  · rw [if_pos e]; simp [e]
  · rw [if_neg e]; simp [e]
theorem restK_len (l : List (List UInt8)) (m : List UInt8) (k : Nat) : (restK l m k).length ≤ l.length := by
  unfold restK
  exact Nat.le_trans (List.length_filter_le _ _) (by rw [List.length_take]; omega)
theorem restK_less (l : List (List UInt8)) (m : List UInt8) (hm : m ∈ l) : (l.filter fun x => decide (x ≠ m)).length < l.length := by
  have h1 : (l.filter fun x => decide (x ≠ m)).length + (l.filter fun x => decide (x = m)).length = l.length := by
    induction l with
    | nil => rfl
    | cons y r ih =>
      by_cases e : y = m
      · by_cases hr : m ∈ r
        · have := ih hr
          simp [e] at this ⊢; omega
        · have hn : r.filter (fun x => decide (x ≠ m)) = r := List.filter_eq_self.2 fun a ha => decide_eq_true fun e2 => hr (e2 ▸ ha)
          have hn2 : r.filter (fun x => decide (x = m)) = [] := List.filter_eq_nil_iff.2 fun a ha h => hr (of_decide_eq_true h ▸ ha)
          simp only [List.filter_cons, e]
          rw [hn, hn2]; simp
      · have hr : m ∈ r := (List.mem_cons.1 hm).elim (fun k => absurd k.symm e) id
        have := ih hr
        simp [e] at this ⊢; omega
  have h2 : 0 < (l.filter fun x => decide (x = m)).length := List.length_pos_of_mem (List.mem_filter.2 ⟨hm, decide_eq_true rfl⟩)
  omega

/-- A slice's length. -/
def sliceLen : Value → Nat
  | .slice _ n _ => n
  | _ => 0
theorem rises_nodup' (l : List (List UInt8)) (h : Rises l) : l.Nodup := rises_nodup l h

end Go.Proofs.YtdlofjcblcpgpaaGreatDoor.Frm

namespace Go.Proofs.YtdlofjcblcpgpaaGreatDoor.Frm
open Go.RowKit Go.Shelf Go.Sort Url Org Cls
attribute [local go_sem] Oper.semAt_some
set_option linter.unusedVariables false

theorem RefIn.few {w : World} {q : Option Addr} {n : Nat} {xs : List (List (List UInt8))} (h : RefIn w q n xs) : ∀ x ∈ xs, x.length ≤ 16 := by
  obtain ⟨zs, _, h2, rfl⟩ := h
  intro x hx
  obtain ⟨z, hz, rfl⟩ := List.mem_map.1 hx
  exact (h2 z hz).1.few
end Go.Proofs.YtdlofjcblcpgpaaGreatDoor.Frm

namespace Go.Proofs.YtdlofjcblcpgpaaGreatDoor.Lbl
open Go.RowKit Go.Shelf Go.Sort Url Org Cls Frm
attribute [local go_sem] Oper.semAt_some
set_option linter.unusedVariables false

set_option maxRecDepth 100000 in
set_option maxHeartbeats 16000000 in
theorem Rising_new (q : Option Addr) (n c : Nat) (l : List (List UInt8)) (w : World) (h : SlIn encStr w q n l) (hn : n ≤ 1099511627776) :
    Calls Tryz.prog 48 #[.slice q n c] w fun e w' => ∃ q n c, e = .returned (.slice q n c) ∧ SlIn encStr w' q n (sortR l) ∧ (∀ a, q = some a → w.heap.size ≤ a.block) ∧ (q = none → c = 0) ∧ n ≤ c ∧ Below w.heap.size w w' := by
  obtain ⟨i0, hi0, hz0, hz1, hz2⟩ := info_parts S.info_str
  obtain ⟨W1, hW1⟩ : ∃ W1, w.alloc (.cells #[] 9) = W1 := ⟨_, rfl⟩
  have A1 : Below w.heap.size w W1 := hW1 ▸ below_alloc _
  have hrow0 : W1.ownsRow w.heap.size 9 1 (.slice (some ⟨w.heap.size, 0, none⟩) 0 0) 0 [] := hW1 ▸ World.ownsRow_made w #[] 0 (Nat.le_refl _) (Nat.zero_le _) rfl
  have h1 := h.below A1 h.lt
  have hl := h.1
  have HL := Lib.hid hl
  have HW1 := Lib.hid hW1
  have HLT := Lib.hid h.lt
  clear hW1 h hl
  go_enter Tryz.func48, Tryz.ntmps48
  go_wp2
  rw [HW1.out]
  go_loopw [0, 3] (fun a o wr => ∃ (q' : Option Addr) (n' c' : Nat) (ll out : List (List UInt8)), a = .slice q' n' c' ∧ n' ≤ n ∧ SlIn encStr wr q' n' ll ∧ wr.ownsRow w.heap.size 9 1 o out.length (out.map encStr) ∧ Hid (RiseK l out ll) ∧ Below w.heap.size w wr ∧ (∀ a, q' = some a → 0 < n' → o.ownBlock ≠ some a.block)) (fun a _ _ => sliceLen a)
  case atStart => exact ⟨q, n, c, l, [], rfl, Nat.le_refl _, h1, hrow0, Lib.hid (RiseK.start l), A1, fun a ha h0 e => by
    have e : some w.heap.size = some a.block := e
    have h2 := HLT.out a ha h0
    have := Option.some.inj e
    omega⟩
  case round =>
    obtain ⟨q', n', c', ll, out, rfl, hnn, hsl, hrow, HK, hB, hne⟩ := hrel
    have hol : out.length ≤ n := by
      have h2 := HK.out
      have h3 : out.length ≤ l.length := (rises_nodup' out h2.rise).length_le_of_subset fun a ha => (h2.mem a).2 (.inl ha)
      have := HL.out
      omega
    have hll := hsl.1
    have HLL := Lib.hid hll
    have hBs := hB.size
    clear h1 hrow0 hll
    by_cases hpos : 0 < n'
    · obtain ⟨b, o, rfl, hbl, hc⟩ := hsl.at hpos
      have d1 : decide ((n' : Int) > 0) = true := by simp; omega
      have d1' : decide (0 < n') = true := by simp; omega
      obtain ⟨x0, hx0⟩ : ∃ x, ll[0]? = some x := ⟨_, List.getElem?_eq_getElem (by have := HLL.out; omega)⟩
      have hc0 : wr.cell? ⟨b, o, none⟩ = some (.string ⟨x0.toArray⟩) := hc 0 x0 hx0
      have HX0 := Lib.hid (show leastK ll 0 x0 from ⟨List.mem_of_getElem? hx0, fun j x hj => by omega⟩)
      have HC := Lib.hid hc
      clear hx0 hc
      go_wp2
      go_loop [4, 19] (fun m i => ∃ (k : Nat) (mm : List UInt8), k ≤ n' ∧ i = .int .i64 k ∧ m = .string ⟨mm.toArray⟩ ∧ Hid (leastK ll k mm)) (fun _ i => n' - (intOf i).toNat)
      case atStart => exact ⟨0, x0, Nat.zero_le _, rfl, rfl, HX0⟩
      case round =>
        obtain ⟨k, mm, hk, rfl, rfl, HM⟩ := hrel
        by_cases hlt : k < n'
        · obtain ⟨x, hx, _⟩ := drop_getElem ll k (by rw [HLL.out]; exact hlt)
          have hck : wr.cell? ⟨b, o + k, none⟩ = some (.string ⟨x.toArray⟩) := HC.out k x hx
          have HX := Lib.hid hx
          clear hx
          by_cases hxm : x < mm
          · have e1 : Op.bytesLess x mm = true := by rw [Go.Proofs.bytesLess_eq]; exact decide_eq_true hxm
            have HM2 := Lib.hid (show leastK ll (k + 1) x from ⟨List.mem_of_getElem? HX.out, fun j y hj hy hyx => by
              by_cases e : j = k
              · subst e; rw [HX.out] at hy; cases hy; exact Lin.irr _ hyx
              · exact HM.out.2 j y (by omega) hy (Lin.tr hyx hxm)⟩)
            clear hxm
            go_wp2
            go_round
            case rel => exact ⟨k + 1, x, by omega, by go_num, rfl, HM2⟩
            case measure => simp [intOf]; omega
          · have e1 : Op.bytesLess x mm = false := by rw [Go.Proofs.bytesLess_eq]; exact decide_eq_false hxm
            have HM2 := Lib.hid (show leastK ll (k + 1) mm from ⟨HM.out.1, fun j y hj hy hyx => by
              by_cases e : j = k
              · subst e; rw [HX.out] at hy; cases hy; exact hxm hyx
              · exact HM.out.2 j y (by omega) hy hyx⟩)
            clear hxm
            go_wp2
            go_round
            case rel => exact ⟨k + 1, mm, by omega, by go_num, rfl, HM2⟩
            case measure => simp [intOf]; omega
        · obtain rfl : k = n' := by omega
          have HM3 := Lib.hid (show mm ∈ ll ∧ ∀ x ∈ ll, ¬ x < mm from ⟨HM.out.1, fun x hx => by
            obtain ⟨j, hj, rfl⟩ := List.getElem_of_mem hx
            exact HM.out.2 j _ (by have := HLL.out; omega) (List.getElem?_eq_getElem hj)⟩)
          clear HM HX0
          go_wp2_with (at_builtin; refine wpList_append_own_at _ rfl _ _ 50 rfl w.heap.size 9 i0 (.string ByteArray.empty) 1 16 Tryz.underlying50 hi0 hz0 hz1 hz2 rfl (by decide) _ _ _ rfl (hrow.alloc _) ⟨wr.heap.size, 0, none⟩ 1 1 [.string ⟨mm.toArray⟩] rfl rfl (cell_one_new _ _ _) (by simp [Value.oneCell']) (by unfold maxLen; omega) (by omega) (by simp; omega) ?_; intro v' w1 hown' hgrow _ hat)
          have hk1 : ∀ S : Nat → Prop, (∀ b, S b → u3.ownBlock ≠ some b) → Keep S wr w1 := fun S hS => (Keep.alloc S wr _).trans (Keep.of_grownBy hgrow (fun r hr h => hS r h hr))
          have hb1 : Below w.heap.size wr w1 := (hk1 (· < w.heap.size) (fun b hb e => by have := (hrow.lt b e).1; omega)).below hBs
          have hsl1 : SlIn encStr w1 (some ⟨b, o, none⟩) k ll := hsl.keep (hk1 (fun x => x = b) (fun x hx => by subst hx; exact hne _ rfl hpos)) (fun a ha _ => by cases ha; rfl)
          have hs1 := hb1.size
          have hbl1 : b < w1.heap.size := by have := (hk1 (fun _ => False) (fun _ h => h.elim)).size; omega
          obtain ⟨W7, hW7⟩ : ∃ W7, w1.alloc (.cells #[] 9) = W7 := ⟨_, rfl⟩
          have hr7 : W7.ownsRow w1.heap.size 9 1 (.slice (some ⟨w1.heap.size, 0, none⟩) 0 0) 0 [] := hW7 ▸ World.ownsRow_made w1 #[] 0 (Nat.le_refl _) (Nat.zero_le _) rfl
          have hb7 : Below w1.heap.size w1 W7 := hW7 ▸ below_alloc _
          rw [hW7]
          clear hat hgrow HC hsl hc0 hW7 hrow
          go_loopw [7, 35] (fun r i wr2 => ∃ k' : Nat, k' ≤ k ∧ i = .int .i64 k' ∧ wr2.ownsRow w1.heap.size 9 1 r (restK ll mm k').length ((restK ll mm k').map encStr) ∧ Below w1.heap.size w1 wr2) (fun _ i _ => k - (intOf i).toNat)
          case atStart => exact ⟨0, Nat.zero_le _, rfl, by simpa [restK] using hr7, hb7⟩
          case round =>
            obtain ⟨k', hk', rfl, hrow2, hB2⟩ := hrel
            have hBs2 := hB2.size
            have hrl := restK_len ll mm k'
            have hll := HLL.out
            clear hr7 hb7
            by_cases hlt : k' < k
            · obtain ⟨x, hx, _⟩ := drop_getElem ll k' (by rw [HLL.out]; exact hlt)
              obtain ⟨_, _, he, _, hc⟩ := (hsl1.below hB2 hsl1.lt).at hpos
              cases he
              have hck : wr.cell? ⟨b, o + k', none⟩ = some (.string ⟨x.toArray⟩) := hc k' x hx
              have HRS := Lib.hid (restK_succ ll mm x k' hx)
              clear hx hc
              by_cases hxm : x = mm
              · have e1 : (x == mm) = true := by rw [beq_iff_eq]; exact hxm
                have HR2 := Lib.hid (show restK ll mm (k' + 1) = restK ll mm k' by rw [HRS.out, if_pos hxm])
                clear hxm hll
                go_wp2
                go_roundw
                case rel => exact ⟨k' + 1, by omega, by go_num, by rw [HR2.out]; exact hrow2, hB2⟩
                case measure => simp [intOf]; omega
              · have e1 : (x == mm) = false := beq_eq_false_iff_ne.2 hxm
                have HR2 := Lib.hid (show restK ll mm (k' + 1) = restK ll mm k' ++ [x] by rw [HRS.out, if_neg hxm])
                have hrb : (restK ll mm k').length ≤ 1099511627776 := by omega
                clear hxm hll hrl
                generalize restK ll mm k' = rs at *
                go_wp2_with (at_builtin; refine wpList_append_own_at _ rfl _ _ 50 rfl w1.heap.size 9 i0 (.string ByteArray.empty) 1 16 Tryz.underlying50 hi0 hz0 hz1 hz2 rfl (by decide) _ _ _ rfl (hrow2.alloc _) ⟨wr.heap.size, 0, none⟩ 1 1 [.string ⟨x.toArray⟩] rfl rfl (cell_one_new _ _ _) (by simp [Value.oneCell']) (by unfold maxLen; omega) (by omega) (by simp; omega) ?_; intro v8 w8 hown8 hgrow8 _ _)
                have hb8 : Below w1.heap.size wr w8 := ((Below.refl _ wr).alloc hBs2 _).grown hgrow8 (by simp; omega) (fun b hb => (hrow2.lt b hb).1)
                go_roundw
                case rel => exact ⟨k' + 1, by omega, by go_num, by rw [HR2.out]; simpa [encStr] using hown8, hB2.trans hb8⟩
                case measure => simp [intOf]; omega
            · obtain rfl : k' = k := by omega
              have hall : restK ll mm k' = ll.filter fun x => decide (x ≠ mm) := by
                unfold restK
                rw [List.take_of_length_le (by omega)]
              have hless := restK_less ll mm HM3.out.1
              rw [← hall] at hless
              have HK2 := Lib.hid (show RiseK l (out ++ [mm]) (restK ll mm k') by rw [hall]; exact HK.out.next HM3.out.1 HM3.out.2)
              obtain ⟨q2, c2, rfl, hc2, hm2, hs2, hq2⟩ := slIn_of_owns hrow2
              have hlen2 : (restK ll mm k').length < k' := by omega
              clear hall hless hll hrl
              generalize restK ll mm k' = rs at *
              go_wp2
              go_roundw
              case rel =>
                refine ⟨q2, rs.length, c2, rs, out ++ [mm], rfl, by omega, hs2, ?_, HK2, hB.trans (hb1.trans (hB2.mono (by omega))), fun a ha h0 e => ?_⟩
                · have := (Keep.of_below hB2).row hown' (fun b hb => (hown'.lt b hb).2)
                  simpa [encStr] using this
                · have h1 := (hq2 a ha).1
                  have h2 := (hown'.lt _ e).2
                  omega
              case measure => simp [sliceLen]; omega
    · obtain rfl : n' = 0 := by omega
      have hnil : ll = [] := List.eq_nil_of_length_eq_zero HLL.out
      subst hnil
      have HR := Lib.hid HK.out.done
      obtain ⟨q4, c4, rfl, hc4, _, hs4, hq4⟩ := slIn_of_owns hrow
      have HN4 := Lib.hid (show q4 = none → c4 = 0 from fun h => by subst h; exact (Cls.row_nil hrow).2)
      have HQ4 := Lib.hid (show ∀ a, q4 = some a → w.heap.size ≤ a.block from fun a h => (hq4 a h).1)
      have HC4 := Lib.hid hc4
      clear hq4
      replace hs4 : SlIn encStr wr q4 out.length (sortR l) := by have := hs4; rw [← HR.out]; exact this
      clear hsl hrow HK
      go_wp2
      go_ret
      exact ⟨q4, _, c4, rfl, hs4, HQ4.out, HN4.out, HC4.out, hB⟩

end Go.Proofs.YtdlofjcblcpgpaaGreatDoor.Lbl

namespace Go.Proofs.YtdlofjcblcpgpaaGreatDoor.Lbl
open Go.RowKit Go.Shelf Go.Sort Url Org Cls Frm
attribute [local go_sem] Oper.semAt_some
set_option linter.unusedVariables false

theorem sameB_iff (l o : Lab) : sameB l o = true ↔ l = o := by
  cases l; cases o
  simp [sameB]
end Go.Proofs.YtdlofjcblcpgpaaGreatDoor.Lbl

namespace Go.Proofs.YtdlofjcblcpgpaaGreatDoor.Lbl
open Go.RowKit Go.Shelf Go.Sort Url Org Cls Frm
attribute [local go_sem] Oper.semAt_some
set_option linter.unusedVariables false

theorem below_drewN {B : Nat} {w w' : World} (h : Below B w w') (q : Nat) : Below B w (w'.drewN q) := ⟨h.os, h.tape, h.output, h.size, h.block⟩

set_option maxRecDepth 100000 in
set_option maxHeartbeats 4000000 in
theorem refImp_any (q1 : Option Addr) (n1 c1 : Nat) (xs : List (List UInt8)) (q2 : Option Addr) (n2 c2 : Nat) (ys : List (List UInt8)) (w : World) (h1 : SlIn encStr w q1 n1 xs) (h2 : SlIn encStr w q2 n2 ys) (hn1 : n1 ≤ 1099511627776) (hn2 : n2 ≤ 1099511627776) :
    Calls Tryz.prog 69 #[.slice q1 n1 c1, .slice q2 n2 c2] w fun e w' => e = .returned (.bool (subB xs ys)) ∧ w = w' := by
  have hl := Lib.hid h1.1
  have HI := Lib.hid (fun p => Frm.In_any q2 n2 c2 ys p w h2 (by omega))
  clear h2
  go_enter Tryz.func69, Tryz.ntmps69
  go_wp2
  go_loop [9] (fun i => ∃ k : Nat, k ≤ n1 ∧ i = .int .i64 k ∧ Hid (∀ j x, j < k → xs[j]? = some x → x ∈ ys)) (fun i => n1 - (intOf i).toNat)
  case atStart => exact ⟨0, Nat.zero_le _, rfl, Lib.hid (fun j x h => by omega)⟩
  case round =>
    obtain ⟨k, hk, rfl, HJ⟩ := hrel
    by_cases hlt : k < n1
    · obtain ⟨b, o, rfl, _, hc⟩ := h1.at (by omega)
      obtain ⟨x, hx, _⟩ := drop_getElem xs k (by rw [hl.out]; exact hlt)
      have hck : w.cell? ⟨b, o + k, none⟩ = some (.string ⟨x.toArray⟩) := hc k x hx
      have con := HI.out x
      by_cases hm : x ∈ ys
      · rewrite [decide_eq_true hm] at con
        have HJ2 := Lib.hid (show ∀ j y, j < k + 1 → xs[j]? = some y → y ∈ ys from fun j y hj hy => by
          by_cases e : j = k
          · subst e; rw [hx] at hy; cases hy; exact hm
          · exact HJ.out j y (by omega) hy)
        clear hx hc h1 HJ hm
        go_wp2_with fail
        refine con.mono ?_
        rintro e w' ⟨rfl, rfl⟩
        clear con
        go_wp2
        go_round
        case rel => exact ⟨k + 1, by omega, by go_num, HJ2⟩
        case measure => simp [intOf]; omega
      · rewrite [decide_eq_false hm] at con
        have HR := Lib.hid (show subB xs ys = false by
          rw [Bool.eq_false_iff]
          exact fun e => hm ((subB_iff xs ys).1 e x (List.mem_of_getElem? hx)))
        clear hx hc h1 HJ hm
        go_wp2_with fail
        refine con.mono ?_
        rintro e w' ⟨rfl, rfl⟩
        clear con
        go_wp2
        go_ret
        exact ⟨(by rw [HR.out]; rfl), rfl⟩
    · obtain rfl : k = n1 := by omega
      have HR := Lib.hid (show subB xs ys = true from (subB_iff xs ys).2 fun x hx => by
        obtain ⟨j, hj, rfl⟩ := List.getElem_of_mem hx
        exact HJ.out j _ (by have := hl.out; omega) (List.getElem?_eq_getElem hj))
      clear HJ h1
      go_wp2
      go_ret
      exact ⟨(by rw [HR.out]; rfl), rfl⟩

theorem cmp_lt' (x y : List UInt8) (xs ys : List (List UInt8)) (h : x < y) : cmpL (x :: xs) (y :: ys) = -1 := by unfold cmpL; rw [if_pos h]
theorem cmp_gt' (x y : List UInt8) (xs ys : List (List UInt8)) (h : y < x) : cmpL (x :: xs) (y :: ys) = 1 := by unfold cmpL; rw [if_neg (lin_asym h), if_pos h]
theorem cmp_eq' (x : List UInt8) (xs ys : List (List UInt8)) : cmpL (x :: xs) (x :: ys) = cmpL xs ys := by conv => lhs; unfold cmpL; rw [if_neg (Lin.irr x), if_neg (Lin.irr x)]
theorem cmp_end (xs ys : List (List UInt8)) (k : Nat) (h : k = xs.length ∨ k = ys.length) (h1 : k ≤ xs.length) (h2 : k ≤ ys.length) : cmpL (xs.drop k) (ys.drop k) = if xs.length < ys.length then -1 else if ys.length < xs.length then 1 else 0 := by
  rcases h with rfl | rfl
  · rw [List.drop_length]
    by_cases e : xs.length < ys.length
    · rw [if_pos e]
      obtain ⟨y, r, hr⟩ : ∃ y r, ys.drop xs.length = y :: r := ⟨_, _, List.drop_eq_getElem_cons e⟩
      rw [hr]; rfl
    · rw [if_neg e, if_neg (by omega), List.drop_of_length_le (by omega)]; rfl
  · rw [List.drop_length]
    by_cases e : ys.length < xs.length
    · rw [if_neg (by omega), if_pos e]
      obtain ⟨y, r, hr⟩ : ∃ y r, xs.drop ys.length = y :: r := ⟨_, _, List.drop_eq_getElem_cons e⟩
      rw [hr]; rfl
    · rw [if_neg (by omega), if_neg e, List.drop_of_length_le (by omega)]; rfl

set_option maxRecDepth 100000 in
set_option maxHeartbeats 8000000 in
theorem refCmp_any (q1 : Option Addr) (n1 c1 : Nat) (xs : List (List UInt8)) (q2 : Option Addr) (n2 c2 : Nat) (ys : List (List UInt8)) (w : World) (h1 : SlIn encStr w q1 n1 xs) (h2 : SlIn encStr w q2 n2 ys) (hn1 : n1 ≤ 1099511627776) (hn2 : n2 ≤ 1099511627776) :
    Calls Tryz.prog 115 #[.slice q1 n1 c1, .slice q2 n2 c2] w fun e w' => e = .returned (.int .i64 (cmpL xs ys)) ∧ Below w.heap.size w w' := by
  have hl1 := Lib.hid h1.1
  have hl2 := Lib.hid h2.1
  go_enter Tryz.func115, Tryz.ntmps115
  go_wp2
  go_loopw [5] (fun i wr => ∃ k : Nat, k ≤ n1 ∧ k ≤ n2 ∧ i = .int .i64 k ∧ Below w.heap.size w wr ∧ Hid (cmpL xs ys = cmpL (xs.drop k) (ys.drop k))) (fun i _ => n1 - (intOf i).toNat)
  case atStart => exact ⟨0, Nat.zero_le _, Nat.zero_le _, rfl, Below.refl _ _, Lib.hid rfl⟩
  case round =>
    obtain ⟨k, hk1, hk2, rfl, hB, HR⟩ := hrel
    by_cases hlt : k < n1 ∧ k < n2
    · obtain ⟨hlt1, hlt2⟩ := hlt
      obtain ⟨ba, oa, rfl, _, hca⟩ := (h1.below hB h1.lt).at (by omega)
      obtain ⟨bb, ob, rfl, _, hcb⟩ := (h2.below hB h2.lt).at (by omega)
      obtain ⟨x, hx, dx⟩ := drop_getElem xs k (by rw [hl1.out]; exact hlt1)
      obtain ⟨y, hy, dy⟩ := drop_getElem ys k (by rw [hl2.out]; exact hlt2)
      have cka : wr.cell? ⟨ba, oa + k, none⟩ = some (.string ⟨x.toArray⟩) := hca k x hx
      have ckb : wr.cell? ⟨bb, ob + k, none⟩ = some (.string ⟨y.toArray⟩) := hcb k y hy
      have b1 : Op.bytesLess x y = decide (x < y) := Go.Proofs.bytesLess_eq x y
      have b2 : Op.bytesLess y x = decide (y < x) := Go.Proofs.bytesLess_eq y x
      rcases Lin.tri x y with h | h | h
      · have H := Lib.hid (show cmpL xs ys = -1 by rw [HR.out, dx, dy]; exact cmp_lt' x y _ _ h)
        rw [decide_eq_true h] at b1
        clear hx hy dx dy hca hcb h1 h2 HR b2 h
        go_wp2
        go_quiet (fail)
        go_wp2
        go_ret
        first | exact ⟨by rw [H.out]; rfl, below_drewN hB _⟩ | exact ⟨by rw [H.out]; rfl, below_drewN (below_drewN hB _) _⟩
      · subst h
        have HR2 := Lib.hid (show cmpL xs ys = cmpL (xs.drop (k + 1)) (ys.drop (k + 1)) by rw [HR.out, dx, dy]; exact cmp_eq' x _ _)
        have b3 : Op.bytesLess x x = false := by rw [b1]; exact decide_eq_false (Lin.irr x)
        clear hx hy dx dy hca hcb h1 h2 HR b1 b2
        go_wp2
        go_quiet (fail)
        go_wp2
        go_quiet (fail)
        go_wp2
        go_roundw
        case rel => exact ⟨k + 1, by omega, by omega, by go_num, below_drewN hB _, HR2⟩
        case measure => simp [intOf]; omega
      · have H := Lib.hid (show cmpL xs ys = 1 by rw [HR.out, dx, dy]; exact cmp_gt' x y _ _ h)
        have b3 : (x == y) = false := beq_eq_false_iff_ne.2 (fun e => Lin.irr y (e ▸ h))
        rw [decide_eq_false (lin_asym h)] at b1
        rw [decide_eq_true h] at b2
        clear hx hy dx dy hca hcb h1 h2 HR h
        go_wp2
        go_quiet (fail)
        go_wp2
        go_quiet (fail)
        go_wp2
        go_ret
        first | exact ⟨by rw [H.out]; rfl, below_drewN hB _⟩ | exact ⟨by rw [H.out]; rfl, below_drewN (below_drewN hB _) _⟩
    · have H := Lib.hid (show cmpL xs ys = if n1 < n2 then -1 else if n2 < n1 then 1 else 0 by
        rw [HR.out, cmp_end xs ys k (by have := hl1.out; have := hl2.out; omega) (by have := hl1.out; omega) (by have := hl2.out; omega), hl1.out, hl2.out])
      have hor : k = n1 ∨ k = n2 := by omega
      clear h1 h2 HR
      by_cases h : n1 < n2
      · have d1 : decide ((n1 : Int) < (n2 : Int)) = true := by simp; omega
        have d1' : decide (n1 < n2) = true := decide_eq_true h
        have H2 := Lib.hid (H.out.trans (if_pos h))
        obtain rfl : k = n1 := by omega
        clear H h hor hlt
        go_wp2
        go_ret
        exact ⟨by rw [H2.out]; rfl, hB⟩
      · have d1 : decide ((n1 : Int) < (n2 : Int)) = false := by simp; omega
        have d1' : decide (n1 < n2) = false := decide_eq_false h
        obtain rfl : k = n2 := by omega
        by_cases h' : k < n1
        · have d2 : decide ((k : Int) < (n1 : Int)) = true := by simp; omega
          have d2' : decide (k < n1) = true := decide_eq_true h'
          have H2 := Lib.hid (H.out.trans ((if_neg h).trans (if_pos h')))
          clear H h hor hlt h'
          go_wp2
          go_ret
          exact ⟨by rw [H2.out]; rfl, hB⟩
        · obtain rfl : k = n1 := by omega
          have H2 := Lib.hid (H.out.trans ((if_neg h).trans (if_neg h')))
          clear H h hor hlt h'
          go_wp2
          go_ret
          exact ⟨by rw [H2.out]; rfl, hB⟩

/-- 'append(dst, src...)' of rows of texts, dst the call's own, src whatever row. -/
theorem wpList_append_rowC {ops : Array Oper} {rest : List Oper} {o : Oper} {a : Act} {w : World} {Q : Exit → Act → World → Prop} (hgd : o.guard = none) (s x : Operand) (t ty : TypeId)
    (ho : o.op = .call { callee := .builtin .append, args := #[s, x], argTypes := #[t, t] }) (i0 : TypeInfo) (z : Value) (bytes : Nat) (ht : Tryz.prog.underlying t = some (.slice ty)) (hi0 : Tryz.prog.info? ty = some i0) (hz0 : i0.zero = some z) (hz1 : i0.size = 1) (hz2 : i0.bytes = bytes) (hz3 : z.cells.size = 1)
    (hby : bytes ≤ 24)
    (base : Nat) (v : Value) (n : Nat) (xs : List Value) (hs : a.eval s = v) (hown : w.ownsRow base ty 1 v n xs) (q : Option Addr) (m c : Nat) (zs : List Cl) (hx : a.eval x = .slice q m c) (hq : q = none → c = 0)
    (hb : SlIn encC w q m zs) (h47 : n + m ≤ 1099511627776) (hbase : base ≤ w.heap.size)
    (h : ∀ v' w', w'.ownsRow base ty 1 v' (n + m) (xs ++ zs.map encC) → w.grownBy w' v.ownBlock → wpList Tryz.prog ops Q rest (a.put o.dst v') w') : wpList Tryz.prog ops Q (o :: rest) a w := by
  cases q with
  | none =>
    obtain rfl := hq rfl
    have hm : m = 0 := by
      rcases Nat.eq_zero_or_pos m with h0 | h0
      · exact h0
      · obtain ⟨b, o, he, _⟩ := hb.at h0; cases he
    subst hm
    obtain rfl : zs = [] := List.eq_nil_of_length_eq_zero hb.1
    refine wpList_append_own_none hgd s x _ ho base ty i0 1 ht hi0 v n xs hs hown hx (h v w ?_ ⟨rfl, rfl, rfl, Nat.le_refl _, fun _ _ _ => rfl⟩)
    simpa using hown
  | some ad =>
    have hbb : (n + m) * bytes ≤ (n + m) * 24 := Nat.mul_le_mul_left _ hby
    refine wpList_append_own w hgd s x _ ho base ty i0 z 1 bytes ht hi0 hz0 hz1 hz2 hz3 (by decide) v n xs hs hown ad m c (zs.map encC) hx (by simp [hb.1]) (fun j u hj => ?_) (fun u hu => by obtain ⟨y, _, rfl⟩ := List.mem_map.1 hu; rfl) (by unfold maxLen; omega) (by omega) hbase (fun v' w' h1 h2 _ => h v' w' h1 h2)
    rw [List.getElem?_map] at hj
    cases hy : zs[j]? with
    | none => rw [hy] at hj; cases hj
    | some y =>
      rw [hy] at hj
      cases hj
      have hjl : j < zs.length := (List.getElem?_eq_some_iff.1 hy).1
      obtain ⟨b, o, he, _, hcc⟩ := hb.at (by have := hb.1; omega)
      cases he
      rw [Go.WideShapes.add_plain]
      exact hcc j y hy
theorem run_ref_head (q : Option Addr) (n c k : Nat) (W : World) (hk : k ≤ c) :
    (Instr.slice 33 (.slice q n c) none (some (.int .i64 (k : Int))) none).run Tryz.prog W = .ok (.slice (hdA q c) k c) W := by
  have hs : ∀ w, (Go.sizeOf 50).run Tryz.prog w = .ok 1 w := Tryz.sizeOf50
  have he : Tryz.prog.elem 33 = 50 := by kernel_rfl
  have h := run_slice_h (P := Tryz.prog) (w := W) 33 q n c (by rw [he]; exact Tryz.underlying33) .i64 k (by omega) (by omega)
  rw [h, he, hs]
  simp only [Result.andThen, sliced, hdA, Int.toNat_natCast, Nat.zero_mul, Nat.sub_zero]
theorem run_ref_rest (q : Option Addr) (n c k : Nat) (W : World) (hk : k ≤ n) :
    (Instr.slice 33 (.slice q n c) (some (.int .i64 (k : Int))) none none).run Tryz.prog W = .ok (.slice (subR q c k) (n - k) (c - k)) W := by
  have hs : ∀ w, (Go.sizeOf 50).run Tryz.prog w = .ok 1 w := Tryz.sizeOf50
  have he : Tryz.prog.elem 33 = 50 := by kernel_rfl
  have h := run_slice_l (P := Tryz.prog) (w := W) 33 q n c (by rw [he]; exact Tryz.underlying33) .i64 k (by omega) (by omega)
  rw [h, he, hs]
  simp only [Result.andThen, sliced, subR, Int.toNat_natCast, Nat.mul_one]
end Go.Proofs.YtdlofjcblcpgpaaGreatDoor.Lbl

namespace Go.Proofs.YtdlofjcblcpgpaaGreatDoor.Lbl
open Go.RowKit Go.Shelf Go.Sort Url Org Cls Frm
attribute [local go_sem] Oper.semAt_some
set_option linter.unusedVariables false

set_option maxRecDepth 100000 in
set_option maxHeartbeats 32000000 in
theorem Reduce_any (q : Option Addr) (n c : Nat) (zs : List Cl) (w : World) (h : SlIn encC w q n zs) (hz : ∀ z ∈ zs, ClAt w z ∧ (z.1.1 = none → z.1.2.2 = 0)) (hn : n ≤ 1000) :
    Calls Tryz.prog 89 #[.slice q n c] w fun e w' => ∃ q' n' c', e = .returned (.slice q' n' c') ∧ RefIn w' q' n' (redL (zs.map Prod.snd)) ∧ (∀ a, q' = some a → w.heap.size ≤ a.block) ∧ (q' = none → c' = 0) ∧ Below w.heap.size w w' := by
  obtain ⟨i0, hi0, hz0, hz1, hz2⟩ := info_parts info_strs
  have hR := Lib.hid (show ∀ c ∈ zs.map Prod.snd, Rises c from fun c hc => by
    obtain ⟨z, hm, rfl⟩ := List.mem_map.1 hc
    exact (hz z hm).1.rise)
  obtain ⟨W1, hW1⟩ : ∃ W1, w.alloc (.cells #[] 50) = W1 := ⟨_, rfl⟩
  have A1 : Below w.heap.size w W1 := hW1 ▸ below_alloc _
  have hrow0 : W1.ownsRow w.heap.size 50 1 (.slice (some ⟨w.heap.size, 0, none⟩) 0 0) 0 [] := hW1 ▸ World.ownsRow_made w #[] 0 (Nat.le_refl _) (Nat.zero_le _) rfl
  have HW1 := Lib.hid hW1
  have HZ := Lib.hid hz
  have HL := Lib.hid h.1
  have HXL := Lib.hid (show (zs.map Prod.snd).length = n by rw [List.length_map]; exact h.1)
  clear hW1 hz
  go_enter Tryz.func89, Tryz.ntmps89
  go_wp2
  rw [HW1.out]
  go_loopw [3, 14] (fun v i wr => ∃ (k : Nat) (ls : List Cl), k ≤ n ∧ i = .int .i64 k ∧ wr.ownsRow w.heap.size 50 1 v ls.length (ls.map encC) ∧ Hid ((∀ z ∈ ls, z ∈ zs) ∧ RedK (zs.map Prod.snd) k (ls.map Prod.snd)) ∧ Below w.heap.size w wr) (fun _ i _ => n - (intOf i).toNat)
  case atStart => exact ⟨0, [], Nat.zero_le _, rfl, hrow0, Lib.hid ⟨by simp, RedK.start _⟩, A1⟩
  case round =>
    obtain ⟨k, ls, hk, rfl, hrow, HLS, hB⟩ := hrel
    have hbs := hB.size
    have HLIM := Lib.hid (show ls.length ≤ 1000 by have := HLS.out.2.len; rw [List.length_map, HXL.out] at this; omega)
    obtain ⟨q4, c4, rfl, hc4, hm4, hs4, hq4⟩ := slIn_of_owns hrow
    have hn4 : q4 = none → c4 = 0 := fun h => by subst h; exact (Cls.row_nil hrow).2
    clear hrow0 A1 HW1
    by_cases hlt : k < n
    · obtain ⟨b, o, rfl, _, hc⟩ := (h.below hB h.lt).at (by omega)
      obtain ⟨⟨⟨xq, xn, xc⟩, x⟩, hzk⟩ : ∃ z, zs[k]? = some z := ⟨_, List.getElem?_eq_getElem (by have := HL.out; omega)⟩
      have hck : wr.cell? ⟨b, o + k, none⟩ = some (.slice xq xn xc) := hc k _ hzk
      have hxm := HZ.out _ (List.mem_of_getElem? hzk)
      obtain ⟨_, _, _, hee, _, _, hsx, _⟩ := (hxm.1.below hB).set
      cases hee
      have hxf : x.length ≤ 16 := hxm.1.few
      have hxl : x.length = xn := hsx.1
      have hxn : xn ≤ 16 := by omega
      have HXK := Lib.hid (show (zs.map Prod.snd)[k]? = some x by rw [List.getElem?_map, hzk]; rfl)
      have HZK := Lib.hid hzk
      have HXLN := Lib.hid hxl
      have HC := Lib.hid hc
      have HSX := Lib.hid hsx
      clear hzk hxm hc hxl hxf hsx
      go_wp2
      go_loop [6, 21] (fun kp i => ∃ j : Nat, j ≤ n ∧ i = .int .i64 j ∧ kp = .bool (keptK (zs.map Prod.snd) k x j)) (fun _ i => n - (intOf i).toNat)
      case atStart => exact ⟨0, Nat.zero_le _, rfl, by rw [keptK_zero]⟩
      case round =>
        obtain ⟨j, hj, rfl, rfl⟩ := hrel
        by_cases hjl : j < n
        · obtain ⟨⟨⟨yq, yn, yc⟩, y⟩, hzj⟩ : ∃ z, zs[j]? = some z := ⟨_, List.getElem?_eq_getElem (by have := HL.out; omega)⟩
          have hcj : wr.cell? ⟨b, o + j, none⟩ = some (.slice yq yn yc) := HC.out j _ hzj
          have hym := HZ.out _ (List.mem_of_getElem? hzj)
          obtain ⟨_, _, _, hee, _, _, hsy, _⟩ := (hym.1.below hB).set
          cases hee
          have hyf : y.length ≤ 16 := hym.1.few
          have hyl : y.length = yn := hsy.1
          have hyn : yn ≤ 16 := by omega
          have con := refImp_any yq yn yc y xq xn xc x wr hsy HSX.out (by omega) (by omega)
          have HYJ : (zs.map Prod.snd)[j]? = some y := by rw [List.getElem?_map, hzj]; rfl
          have HNO := Lib.hid (kept_no (zs.map Prod.snd) k x y j HYJ)
          have HGO := Lib.hid (kept_go (zs.map Prod.snd) k x y j HYJ)
          rw [hyl, HXLN.out] at HNO HGO
          generalize subB y x = A at con HNO HGO
          generalize keptK (zs.map Prod.snd) k x j = m at HGO ⊢
          clear hzj hym hyl hyf HYJ hsy hck
          cases A with
          | false =>
            have HK1 := Lib.hid (HGO.out rfl)
            clear HGO HNO
            go_wp2_with fail
            refine con.mono ?_
            rintro e w' ⟨rfl, rfl⟩
            clear con
            go_wp2
            go_round
            case rel => exact ⟨j + 1, by omega, by go_num, by rw [HK1.out]⟩
            case measure => simp [intOf]; omega
          | true =>
            by_cases h1 : yn < xn
            · have HK1 := Lib.hid (HNO.out (by rw [decide_eq_true h1]; rfl))
              have d1 : decide ((yn : Int) < (xn : Int)) = true := by simp; omega
              have d1' : decide (yn < xn) = true := decide_eq_true h1
              clear HGO HNO h1
              go_wp2_with fail
              refine con.mono ?_
              rintro e w' ⟨rfl, rfl⟩
              clear con
              go_wp2
              go_round
              case rel => exact ⟨j + 1, by omega, by go_num, by rw [HK1.out]⟩
              case measure => simp [intOf]; omega
            · have d1 : decide ((yn : Int) < (xn : Int)) = false := by simp; omega
              have d1' : decide (yn < xn) = false := decide_eq_false h1
              by_cases h2 : j < k
              · have HK1 := Lib.hid (HNO.out (by rw [decide_eq_true h2, decide_eq_false h1]; rfl))
                have d2 : decide ((j : Int) < (k : Int)) = true := by simp; omega
                have d2' : decide (j < k) = true := decide_eq_true h2
                clear HGO HNO h1 h2
                go_wp2_with fail
                refine con.mono ?_
                rintro e w' ⟨rfl, rfl⟩
                clear con
                go_wp2
                go_round
                case rel => exact ⟨j + 1, by omega, by go_num, by rw [HK1.out]⟩
                case measure => simp [intOf]; omega
              · have HK1 := Lib.hid (HGO.out (by rw [decide_eq_false h2, decide_eq_false h1]; rfl))
                have d2 : decide ((j : Int) < (k : Int)) = false := by simp; omega
                have d2' : decide (j < k) = false := decide_eq_false h2
                clear HGO HNO h1 h2
                go_wp2_with fail
                refine con.mono ?_
                rintro e w' ⟨rfl, rfl⟩
                clear con
                go_wp2
                go_round
                case rel => exact ⟨j + 1, by omega, by go_num, by rw [HK1.out]⟩
                case measure => simp [intOf]; omega
        · obtain rfl : j = n := by omega
          obtain ⟨kp, hkp⟩ : ∃ kp, keptK (zs.map Prod.snd) k x j = kp := ⟨_, rfl⟩
          rewrite [hkp]
          have HKP := Lib.hid (show keptK (zs.map Prod.snd) k x (zs.map Prod.snd).length = kp by rw [HXL.out]; exact hkp)
          clear hkp hck
          cases kp with
          | false =>
            have HLS2 := Lib.hid (show (∀ z ∈ ls, z ∈ zs) ∧ RedK (zs.map Prod.snd) (k + 1) (ls.map Prod.snd) from ⟨HLS.out.1, HLS.out.2.skip hR.out HXK.out HKP.out⟩)
            clear hs4 HLS HC
            go_wp2
            go_roundw
            case rel => exact ⟨k + 1, ls, by omega, by go_num, hrow, HLS2, hB⟩
            case measure => simp [intOf]; omega
          | true =>
            go_wp2
            obtain ⟨W4, rfl⟩ : ∃ W, W = wr := ⟨_, rfl⟩
            have hlim := HLIM.out
            go_loopw [9] (fun a wr2 => ∃ p : Nat, p ≤ ls.length ∧ a = .int .i64 p ∧ Below W4.heap.size W4 wr2 ∧ Hid (∀ i y, i < p → (ls.map Prod.snd)[i]? = some y → y < x)) (fun a _ => ls.length - (intOf a).toNat)
            case atStart => exact ⟨0, Nat.zero_le _, rfl, Below.refl _ _, Lib.hid (fun i y h => by omega)⟩
            case round =>
              obtain ⟨p, hp, rfl, hB2, HJ⟩ := hrel
              by_cases hpl : p < ls.length
              · obtain ⟨⟨⟨yq, yn, yc⟩, y⟩, hyp⟩ : ∃ z, ls[p]? = some z := ⟨_, List.getElem?_eq_getElem hpl⟩
                obtain ⟨b4, o4, he4, _, hcy⟩ := (hs4.below hB2 hs4.lt).at (by omega)
                have hcp : wr.cell? ⟨b4, o4 + p, none⟩ = some (.slice yq yn yc) := hcy p _ hyp
                have hym := HZ.out _ (HLS.out.1 _ (List.mem_of_getElem? hyp))
                obtain ⟨_, _, _, hee, _, _, hsy, _⟩ := (hym.1.below hB).set
                cases hee
                have hyf : y.length ≤ 16 := hym.1.few
                have hyl : y.length = yn := hsy.1
                have hyn : yn ≤ 16 := by omega
                have con := refCmp_any yq yn yc y xq xn xc x wr (hsy.below hB2 hsy.lt) (HSX.out.below hB2 HSX.out.lt) (by omega) (by omega)
                have HYP := Lib.hid (show (ls.map Prod.snd)[p]? = some y by rw [List.getElem?_map, hyp]; rfl)
                clear hyp hym hyl hyf hsy hcy
                by_cases hyx : y < x
                · have HJ2 := Lib.hid (show ∀ i z, i < p + 1 → (ls.map Prod.snd)[i]? = some z → z < x from fun i z hi hz => by
                    by_cases e : i = p
                    · subst e; rw [HYP.out] at hz; cases hz; exact hyx
                    · exact HJ.out i z (by omega) hz)
                  rewrite [(cmp_lt y x).2 hyx] at con
                  subst he4
                  clear hyx HJ HC hs4 hrow
                  go_wp2_with fail
                  refine con.mono ?_
                  rintro e w5 ⟨rfl, hb⟩
                  have hB5 := hB2.trans (hb.mono hB2.size)
                  clear con hb hB2
                  go_wp2
                  go_roundw
                  case rel => exact ⟨p + 1, by omega, by go_num, hB5, HJ2⟩
                  case measure => simp [intOf]; omega
                · have HEND := Lib.hid (show ∀ z, (ls.map Prod.snd)[p]? = some z → ¬ z < x from fun z hz => by rw [HYP.out] at hz; cases hz; exact hyx)
                  have hcn : ¬ cmpL y x < 0 := fun h => hyx ((Frm.cmpL_neg y x).1 h)
                  obtain ⟨cv, hcv⟩ : ∃ v, cmpL y x = v := ⟨_, rfl⟩
                  rw [hcv] at hcn
                  have d1 : decide (cv < 0) = false := decide_eq_false hcn
                  rewrite [hcv] at con
                  have hcp' := hcp
                  have HQ4 := Lib.hid he4
                  have hcp2 : wr.cell? ⟨b4, o4 + p, none⟩ = some (.slice yq yn yc) := hcp
                  clear hyx hcv hcn hcp' HYP
                  subst he4
                  go_wp2_with fail
                  refine con.mono ?_
                  rintro e w5 ⟨rfl, hb⟩
                  have hB5 := hB2.trans (hb.mono hB2.size)
                  clear con hb hB2 hcp hcp2 HQ4
                  generalize (some ⟨b4, o4, none⟩ : Option Addr) = q4 at *
                  replace hB2 := hB5
                  clear hB5
                  obtain ⟨wy, rfl⟩ : ∃ W, W = w5 := ⟨_, rfl⟩
                  have hw5 : Below wy.heap.size wy (wy.alloc (.cells #[] 50)) := below_alloc _
                  have hrow5 : (wy.alloc (.cells #[] 50)).ownsRow wy.heap.size 50 1 (.slice (some ⟨wy.heap.size, 0, none⟩) 0 0) 0 [] := World.ownsRow_made wy #[] 0 (Nat.le_refl _) (Nat.zero_le _) rfl
                  have hs5 : SlIn encC wy q4 ls.length ls := hs4.below hB2 hs4.lt
                  have hsl1 := Lib.hid (fun W => run_ref_head q4 ls.length c4 p W (by omega))
                  have hsl2 := Lib.hid (fun W => run_ref_rest q4 ls.length c4 p W hp)
                  have hn1 : hdA q4 c4 = none → c4 = 0 := fun h => by
                    cases q4 with
                    | none => exact hn4 rfl
                    | some a => obtain ⟨a', e, _⟩ := hdA_some a c4; rw [e] at h; cases h
                  have hn2 : subR q4 c4 p = none → c4 - p = 0 := fun h => by
                    cases q4 with
                    | none => rw [hn4 rfl]; omega
                    | some a => obtain ⟨a', e, _⟩ := subR_some a c4 p; rw [e] at h; cases h
                  have st : SlIn encC (wy.alloc (.cells #[] 50)) (hdA q4 c4) p (ls.take p) := (hs5.take p hp hc4).alloc _
                  have sd : SlIn encC wy (subR q4 c4 p) (ls.length - p) (ls.drop p) := hs5.drop p hp hc4
                  have hq5 : ∀ a, subR q4 c4 p = some a → 0 < ls.length - p → a.block < wy.heap.size := sd.lt
                  have HLS2 := Lib.hid (show (∀ z ∈ ls.take p ++ ((xq, xn, xc), x) :: ls.drop p, z ∈ zs) ∧ RedK (zs.map Prod.snd) (k + 1) ((ls.take p ++ ((xq, xn, xc), x) :: ls.drop p).map Prod.snd) from ⟨fun z hz => by
                    rcases List.mem_append.1 hz with h | h
                    · exact HLS.out.1 z (List.mem_of_mem_take h)
                    · rcases List.mem_cons.1 h with rfl | h
                      · exact List.mem_of_getElem? HZK.out
                      · exact HLS.out.1 z (List.mem_of_mem_drop h), by
                    have := HLS.out.2.take hR.out HXK.out HKP.out p HJ.out HEND.out
                    rw [List.map_append, List.map_cons, List.map_take, List.map_drop]
                    exact this⟩)
                  have HLEN := Lib.hid (show 0 + p + 1 + (ls.length - p) = (ls.take p ++ ((xq, xn, xc), x) :: ls.drop p).length by rw [List.length_append, List.length_cons, List.length_take, List.length_drop]; omega)
                  have HMAP := Lib.hid (show ([] ++ (ls.take p).map encC ++ [Value.slice xq xn xc] ++ (ls.drop p).map encC) = (ls.take p ++ ((xq, xn, xc), x) :: ls.drop p).map encC by rw [List.map_append, List.map_cons, List.nil_append, List.append_assoc]; rfl)
                  have hB2w := hB.trans (hB2.mono hbs)
                  have hb2s := hB2w.size
                  have hlen16 := HLIM.out
                  have HB2W := Lib.hid hB2w
                  generalize ls.take p = l1 at st HLS2 HLEN HMAP
                  generalize ls.drop p = l2 at sd HLS2 HLEN HMAP
                  have hz1p := Lib.hid hsl1
                  have k1 := hsl1.out
                  have k2 := hsl2.out
                  clear hs4 hs5 hsl1 hsl2 hB2 hrow HJ HEND HLS HKP hB hB2w HC hz1p
                  go_upto_region 17 with (at_builtin; refine wpList_append_rowC rfl _ _ 33 50 rfl i0 (.slice none 0 0) 24 Tryz.underlying33 hi0 hz0 hz1 hz2 rfl (by decide) wy.heap.size _ 0 [] rfl hrow5 (hdA q4 c4) p c4 l1 rfl hn1 st (by omega) (by simp) ?_; intro v6 w6 hown6 hgrow6)
                  have hb6 : Below wy.heap.size wy w6 := hw5.grown hgrow6 (by simp) (fun b hb => (hrow5.lt b hb).1)
                  have hs6 := hb6.size
                  have sd6 := sd.below hb6 sd.lt
                  clear hrow5 hgrow6 st k1 sd hw5
                  go_upto_region 18 with (at_builtin; refine wpList_append_own_at _ rfl _ _ 33 rfl wy.heap.size 50 i0 (.slice none 0 0) 1 24 Tryz.underlying33 hi0 hz0 hz1 hz2 rfl (by decide) _ _ _ rfl (hown6.alloc _) ⟨w6.heap.size, 0, none⟩ 1 1 [.slice xq xn xc] rfl rfl (cell_one_new _ _ _) (by simp [Value.oneCell']) (by unfold maxLen; omega) (by omega) (by simp; omega) ?_; intro v7 w7 hown7 hgrow7 _ _)
                  have hb7 : Below wy.heap.size w6 w7 := ((Below.refl _ w6).alloc hs6 _).grown hgrow7 (by simp; omega) (fun b hb => (hown6.lt b hb).1)
                  have hs7 := hb7.size
                  have sd7 := sd6.below hb7 hq5
                  clear hown6 hgrow7 sd6
                  go_wp2_with (at_builtin; refine wpList_append_rowC rfl _ _ 33 50 rfl i0 (.slice none 0 0) 24 Tryz.underlying33 hi0 hz0 hz1 hz2 rfl (by decide) wy.heap.size _ (0 + p + 1) _ rfl hown7 (subR q4 c4 p) (ls.length - p) (c4 - p) l2 rfl hn2 sd7 (by omega) (by omega) ?_; intro v8 w8 hown8 hgrow8)
                  have hb8 : Below wy.heap.size w7 w8 := (Below.refl _ w7).grown hgrow8 (Nat.le_trans hs6 hs7) (fun b hb => (hown7.lt b hb).1)
                  rw [HLEN.out, HMAP.out] at hown8
                  have hfin := row_base hown8 hb2s
                  have hall := HB2W.out.trans (((hb6.trans (hb7.mono (Nat.le_refl _))).trans (hb8.mono (Nat.le_refl _))).mono hb2s)
                  go_roundw
                  case rel => exact ⟨k + 1, _, by omega, by go_num, hfin, HLS2, hall⟩
                  case measure => simp [intOf]; omega
              · obtain rfl : p = ls.length := by omega
                have HEND := Lib.hid (show ∀ z, (ls.map Prod.snd)[ls.length]? = some z → ¬ z < x from fun z hz => by rw [List.getElem?_eq_none (by rw [List.length_map]; exact Nat.le_refl _)] at hz; cases hz)
                obtain ⟨p, hpe⟩ : ∃ p, ls.length = p := ⟨_, rfl⟩
                have hp : p ≤ ls.length := by omega
                have HPE := Lib.hid hpe
                rewrite [hpe] at HJ HEND
                clear hpe
                replace hpl : ¬ p < ls.length := by have := HPE.out; omega
                have hpp : (.int .i64 (ls.length : Int) : Value) = .int .i64 (p : Int) := by rw [HPE.out]
                rewrite [hpp]
                clear hpp
                obtain ⟨wy, rfl⟩ : ∃ W, W = wr := ⟨_, rfl⟩
                have hw5 : Below wy.heap.size wy (wy.alloc (.cells #[] 50)) := below_alloc _
                have hrow5 : (wy.alloc (.cells #[] 50)).ownsRow wy.heap.size 50 1 (.slice (some ⟨wy.heap.size, 0, none⟩) 0 0) 0 [] := World.ownsRow_made wy #[] 0 (Nat.le_refl _) (Nat.zero_le _) rfl
                have hs5 : SlIn encC wy q4 ls.length ls := hs4.below hB2 hs4.lt
                have hsl1 := Lib.hid (fun W => run_ref_head q4 ls.length c4 p W (by omega))
                have hsl2 := Lib.hid (fun W => run_ref_rest q4 ls.length c4 p W hp)
                have hn1 : hdA q4 c4 = none → c4 = 0 := fun h => by
                  cases q4 with
                  | none => exact hn4 rfl
                  | some a => obtain ⟨a', e, _⟩ := hdA_some a c4; rw [e] at h; cases h
                have hn2 : subR q4 c4 p = none → c4 - p = 0 := fun h => by
                  cases q4 with
                  | none => rw [hn4 rfl]; omega
                  | some a => obtain ⟨a', e, _⟩ := subR_some a c4 p; rw [e] at h; cases h
                have st : SlIn encC (wy.alloc (.cells #[] 50)) (hdA q4 c4) p (ls.take p) := (hs5.take p hp hc4).alloc _
                have sd : SlIn encC wy (subR q4 c4 p) (ls.length - p) (ls.drop p) := hs5.drop p hp hc4
                have hq5 : ∀ a, subR q4 c4 p = some a → 0 < ls.length - p → a.block < wy.heap.size := sd.lt
                have HLS2 := Lib.hid (show (∀ z ∈ ls.take p ++ ((xq, xn, xc), x) :: ls.drop p, z ∈ zs) ∧ RedK (zs.map Prod.snd) (k + 1) ((ls.take p ++ ((xq, xn, xc), x) :: ls.drop p).map Prod.snd) from ⟨fun z hz => by
                  rcases List.mem_append.1 hz with h | h
                  · exact HLS.out.1 z (List.mem_of_mem_take h)
                  · rcases List.mem_cons.1 h with rfl | h
                    · exact List.mem_of_getElem? HZK.out
                    · exact HLS.out.1 z (List.mem_of_mem_drop h), by
                  have := HLS.out.2.take hR.out HXK.out HKP.out p HJ.out HEND.out
                  rw [List.map_append, List.map_cons, List.map_take, List.map_drop]
                  exact this⟩)
                have HLEN := Lib.hid (show 0 + p + 1 + (ls.length - p) = (ls.take p ++ ((xq, xn, xc), x) :: ls.drop p).length by rw [List.length_append, List.length_cons, List.length_take, List.length_drop]; omega)
                have HMAP := Lib.hid (show ([] ++ (ls.take p).map encC ++ [Value.slice xq xn xc] ++ (ls.drop p).map encC) = (ls.take p ++ ((xq, xn, xc), x) :: ls.drop p).map encC by rw [List.map_append, List.map_cons, List.nil_append, List.append_assoc]; rfl)
                have hB2w := hB.trans (hB2.mono hbs)
                have hb2s := hB2w.size
                have hlen16 := HLIM.out
                have HB2W := Lib.hid hB2w
                generalize ls.take p = l1 at st HLS2 HLEN HMAP
                generalize ls.drop p = l2 at sd HLS2 HLEN HMAP
                have hz1p := Lib.hid hsl1
                have k1 := hsl1.out
                have k2 := hsl2.out
                clear hs4 hs5 hsl1 hsl2 hB2 hrow HJ HEND HLS HKP hB hB2w HC hz1p
                go_upto_region 17 with (at_builtin; refine wpList_append_rowC rfl _ _ 33 50 rfl i0 (.slice none 0 0) 24 Tryz.underlying33 hi0 hz0 hz1 hz2 rfl (by decide) wy.heap.size _ 0 [] rfl hrow5 (hdA q4 c4) p c4 l1 rfl hn1 st (by omega) (by simp) ?_; intro v6 w6 hown6 hgrow6)
                have hb6 : Below wy.heap.size wy w6 := hw5.grown hgrow6 (by simp) (fun b hb => (hrow5.lt b hb).1)
                have hs6 := hb6.size
                have sd6 := sd.below hb6 sd.lt
                clear hrow5 hgrow6 st k1 sd hw5
                go_upto_region 18 with (at_builtin; refine wpList_append_own_at _ rfl _ _ 33 rfl wy.heap.size 50 i0 (.slice none 0 0) 1 24 Tryz.underlying33 hi0 hz0 hz1 hz2 rfl (by decide) _ _ _ rfl (hown6.alloc _) ⟨w6.heap.size, 0, none⟩ 1 1 [.slice xq xn xc] rfl rfl (cell_one_new _ _ _) (by simp [Value.oneCell']) (by unfold maxLen; omega) (by omega) (by simp; omega) ?_; intro v7 w7 hown7 hgrow7 _ _)
                have hb7 : Below wy.heap.size w6 w7 := ((Below.refl _ w6).alloc hs6 _).grown hgrow7 (by simp; omega) (fun b hb => (hown6.lt b hb).1)
                have hs7 := hb7.size
                have sd7 := sd6.below hb7 hq5
                clear hown6 hgrow7 sd6
                go_wp2_with (at_builtin; refine wpList_append_rowC rfl _ _ 33 50 rfl i0 (.slice none 0 0) 24 Tryz.underlying33 hi0 hz0 hz1 hz2 rfl (by decide) wy.heap.size _ (0 + p + 1) _ rfl hown7 (subR q4 c4 p) (ls.length - p) (c4 - p) l2 rfl hn2 sd7 (by omega) (by omega) ?_; intro v8 w8 hown8 hgrow8)
                have hb8 : Below wy.heap.size w7 w8 := (Below.refl _ w7).grown hgrow8 (Nat.le_trans hs6 hs7) (fun b hb => (hown7.lt b hb).1)
                rw [HLEN.out, HMAP.out] at hown8
                have hfin := row_base hown8 hb2s
                have hall := HB2W.out.trans (((hb6.trans (hb7.mono (Nat.le_refl _))).trans (hb8.mono (Nat.le_refl _))).mono hb2s)
                go_roundw
                case rel => exact ⟨k + 1, _, by omega, by go_num, hfin, HLS2, hall⟩
                case measure => simp [intOf]; omega
    · obtain rfl : k = n := by omega
      have HD := Lib.hid (show redL (zs.map Prod.snd) = ls.map Prod.snd from (RedK.done (by have := HLS.out.2; rw [← HXL.out] at this; exact this)).symm)
      have HA := Lib.hid (show ∀ z ∈ ls, ClAt wr z ∧ (z.1.1 = none → z.1.2.2 = 0) from fun z hz => ⟨(HZ.out z (HLS.out.1 z hz)).1.below hB, (HZ.out z (HLS.out.1 z hz)).2⟩)
      clear hrow HLS
      go_wp2
      go_ret
      exact ⟨q4, ls.length, c4, rfl, ⟨ls, hs4, HA.out, HD.out⟩, (fun a ha => (hq4 a ha).1), hn4, hB⟩

end Go.Proofs.YtdlofjcblcpgpaaGreatDoor.Lbl

namespace Go.Proofs.YtdlofjcblcpgpaaGreatDoor.Lbl
open Go.RowKit Go.Shelf Url Org Frm Cls
set_option linter.unusedVariables false

theorem text_same (l o : Lab) (hl : LOk l) (ho : LOk o) (nl : (labT l).length ≤ 4096) (no : (labT o).length ≤ 4096) : sameB l o = (labT l == labT o) := by
  by_cases h : l = o
  · subst h
    rw [(sameB_iff l l).2 rfl, beq_self_eq_true]
  · have h1 : sameB l o = false := Bool.eq_false_iff.2 fun e => h ((sameB_iff l o).1 e)
    have h2 : (labT l == labT o) = false := beq_eq_false_iff_ne.2 fun e => h (by
      have a := lab_text l hl nl
      have b := lab_text o ho no
      rw [e, b] at a
      injection a with a
      exact a.symm)
    rw [h1, h2]
theorem joinV_few (l o : Lab) (hl : LOk l) (ho : LOk o) : Few (labV (joinR l o)) := by
  cases h : joinR l o with
  | inl n => exact open_few
  | inr j => exact join_few l o hl ho j h
theorem meetV_few (l o : Lab) (hl : LOk l) (ho : LOk o) : Few (labV (meetR l o)) := by
  cases h : meetR l o with
  | inl n => exact open_few
  | inr j => exact meet_few l o hl ho j h

end Go.Proofs.YtdlofjcblcpgpaaGreatDoor.Lbl

namespace Go.Proofs.YtdlofjcblcpgpaaGreatDoor.Lbl
open Go.RowKit Go.Shelf Go.Sort Url Org Cls Frm
attribute [local go_sem] Oper.semAt_some
set_option linter.unusedVariables false

/-- Block B holds the cells of a label of the document's. -/
def RB (B : Nat) (cs : Array Value) (X : World) : Prop := X.heap[B]? = some (.cells cs 35 (0, 0))
theorem RB.box {B : Nat} {cs : Array Value} {X : World} (h : RB B cs X) : Box B cs X := fun i x hx => by
  simp only [World.cell?, show X.heap[B]? = _ from h]; exact hx
theorem RB.frozen {B : Nat} {cs : Array Value} {X : World} (h : RB B cs X) (i : Nat) : X.frozen? ⟨B, i, none⟩ = false := by
  simp [World.frozen?, show X.heap[B]? = _ from h]
theorem RB.on {B : Nat} {cs : Array Value} {X Y : World} (h : RB B cs X) (hk : Below X.heap.size X Y) : RB B cs Y := (hk.block B (Array.getElem?_eq_some_iff.1 h).1).trans h
theorem RB.lt {B : Nat} {cs : Array Value} {X : World} (h : RB B cs X) : B < X.heap.size := (Array.getElem?_eq_some_iff.1 h).1
theorem RB.new (w : World) (cs : Array Value) : RB w.heap.size cs (w.alloc (.cells cs 35)) := World.alloc_heap_new w _
theorem RB.set {B : Nat} {cs : Array Value} {X : World} (h : RB B cs X) (i : Nat) (v : Value) : RB B (cs.setIfInBounds i v) (X.setCell ⟨B, i, none⟩ v) := by
  obtain ⟨hlt, hk⟩ := Array.getElem?_eq_some_iff.1 h
  show (X.heap.modify B _)[B]? = _
  rw [Array.getElem?_eq_getElem (by rw [Array.size_modify]; exact hlt), Array.getElem_modify_self, hk]
  rfl
theorem RB.put {B : Nat} {X : World} {a0 a1 : Value} (h : RB B #[a0, a1] X) (v0 v1 : Value) :
    ∃ Y, (X.setCell ⟨B, 0, none⟩ v0).setCell ⟨B, 1, none⟩ v1 = Y ∧ RB B #[v0, v1] Y ∧ (∀ S : Nat → Prop, ¬ S B → Keep S X Y) ∧ ∀ M, M ≤ B → Below M X Y := by
  have h8 := (h.set 0 v0).set 1 v1
  simp only [List.setIfInBounds_toArray, List.set_cons_zero, List.set_cons_succ] at h8
  refine ⟨_, rfl, h8, fun S hS => ?_, fun M hM => ?_⟩
  · exact (Keep.setCell _ _ _ hS).trans (Keep.setCell _ _ _ hS)
  · exact ((Below.refl M X).setCell (p := ⟨B, 0, none⟩) hM v0).setCell (p := ⟨B, 1, none⟩) hM v1
theorem size_ref : (Tryz.prog.info? 35).map (·.size) = some 2 := by kernel_rfl
theorem ret_ref {fn : Func} {p : Tmp} (h : fn.results = #[.cell p 35]) (tmps : Array Value) (w : World) (B : Nat) (cs : Array Value) (hp : tmps.getD p undef = .pointer (some ⟨B, 0, none⟩)) (hU : RB B cs w) (hs : cs.size = 2) :
    (results fn tmps).run Tryz.prog w = .ok (.agg cs) w :=
  results_cell_row h tmps w B _ cs (0, 0) _ hp hU Tryz.underlying35 rfl (by rw [size_ref, hs])
theorem ret_ref2 {fn : Func} {p u : Tmp} (h : fn.results = #[.cell p 35, .tmp u]) (tmps : Array Value) (w : World) (B : Nat) (cs : Array Value) (hp : tmps.getD p undef = .pointer (some ⟨B, 0, none⟩)) (hU : RB B cs w) (hs : cs.size = 2) :
    (results fn tmps).run Tryz.prog w = .ok (.tuple #[.agg cs, tmps.getD u undef]) w := by
  rw [results_cell_tmp h, hp]
  simp [asAddr, Result.andThen, run_loadVar_row w B 35 _ cs (0, 0) _ hU Tryz.underlying35 rfl (by rw [size_ref, hs])]
theorem slIn_ne_rb {w : World} {q : Option Addr} {n : Nat} {xs : List (List UInt8)} {B : Nat} {s0 s1 : Value} (h : SlIn encStr w q n xs) (hB : RB B #[s0, s1] w) (h0 : ∀ x, encStr x ≠ s0) (h1 : ∀ x, encStr x ≠ s1) : ∀ a, q = some a → 0 < n → a.block ≠ B := by
  rintro a rfl hn rfl
  obtain ⟨b, o, he, _, hc⟩ := h.at hn
  cases he
  cases xs with
  | nil => have := h.1; simp at this; omega
  | cons x xs =>
    have k1 := hc 0 x rfl
    have k2 : w.heap[b]? = some (.cells #[s0, s1] 35 (0, 0)) := hB
    simp only [World.cell?, k2] at k1
    rcases (show o = 0 ∨ o = 1 ∨ 2 ≤ o by omega) with ho | ho | ho
    · subst ho; simp at k1; exact h0 x k1.symm
    · subst ho; simp at k1; exact h1 x k1.symm
    · simp at k1; rw [List.getElem?_eq_none (by simp; omega)] at k1; cases k1
theorem RefIn.lt {w : World} {q : Option Addr} {n : Nat} {f : List (List (List UInt8))} (h : RefIn w q n f) : ∀ a, q = some a → 0 < n → a.block < w.heap.size := by
  obtain ⟨zs, h1, _⟩ := h
  exact h1.lt
theorem RefIn.off {w Y : World} {q : Option Addr} {n : Nat} {f : List (List (List UInt8))} {B : Nat} {q1 q2 : Option Addr} {n1 c1 n2 c2 : Nat} (h : RefIn w q n f) (hB : RB B #[.slice q1 n1 c1, .slice q2 n2 c2] w)
    (hq : ∀ a, q = some a → 0 < n → a.block ≠ B) (hk : Keep (fun b => b ≠ B) w Y) : RefIn Y q n f := by
  obtain ⟨zs, s, z, rfl⟩ := h
  exact ⟨zs, s.keep hk hq, fun x hx => ⟨(z x hx).1.from hk fun a ha h0 => by
    obtain ⟨_, _, _, he, _, _, hs, _⟩ := (z x hx).1.set
    cases he
    exact slIn_ne_rb hs hB (fun x h => by cases h) (fun x h => by cases h) a ha h0, (z x hx).2⟩, rfl⟩
theorem refIn_nil (w : World) (q : Option Addr) : RefIn w q 0 [] := ⟨[], SlIn.nil _ _ _, fun z hz => (by cases hz), rfl⟩

/-- The value v is the document's label l, in w. -/
def LabRef (w : World) (v : Value) (l : Lab) : Prop := ∃ q1 n1 c1 q2 n2 c2, v = .agg #[.slice q1 n1 c1, .slice q2 n2 c2] ∧ RefIn w q1 n1 l.s ∧ RefIn w q2 n2 l.i ∧ (q1 = none → c1 = 0) ∧ (q2 = none → c2 = 0)
theorem LabRef.below {w w' : World} {v : Value} {l : Lab} (h : LabRef w v l) (hb : Below w.heap.size w w') : LabRef w' v l := by
  obtain ⟨q1, n1, c1, q2, n2, c2, rfl, h1, h2, h3⟩ := h
  exact ⟨q1, n1, c1, q2, n2, c2, rfl, h1.below hb, h2.below hb, h3⟩
/-- A box that holds a label of the document's. -/
def RX (b : Nat) (q1 : Option Addr) (n1 c1 : Nat) (q2 : Option Addr) (n2 c2 : Nat) (l : Lab) (X : World) : Prop := RB b #[.slice q1 n1 c1, .slice q2 n2 c2] X ∧ LabRef X (.agg #[.slice q1 n1 c1, .slice q2 n2 c2]) l
theorem RX.on {b : Nat} {q1 : Option Addr} {n1 c1 : Nat} {q2 : Option Addr} {n2 c2 : Nat} {l : Lab} {X Y : World} (h : RX b q1 n1 c1 q2 n2 c2 l X) (hb : Below X.heap.size X Y) : RX b q1 n1 c1 q2 n2 c2 l Y := ⟨h.1.on hb, h.2.below hb⟩
theorem RX.new {q1 : Option Addr} {n1 c1 : Nat} {q2 : Option Addr} {n2 c2 : Nat} {l : Lab} {X : World} (h : LabRef X (.agg #[.slice q1 n1 c1, .slice q2 n2 c2]) l) : RX X.heap.size q1 n1 c1 q2 n2 c2 l (X.alloc (.cells #[.slice q1 n1 c1, .slice q2 n2 c2] 35)) := ⟨RB.new X _, h.below (below_alloc _)⟩
theorem RX.c0 {b : Nat} {q1 : Option Addr} {n1 c1 : Nat} {q2 : Option Addr} {n2 c2 : Nat} {l : Lab} {X : World} (h : RX b q1 n1 c1 q2 n2 c2 l X) : X.cell? ⟨b, 0, none⟩ = some (.slice q1 n1 c1) := h.1.box 0 _ rfl
theorem RX.c1 {b : Nat} {q1 : Option Addr} {n1 c1 : Nat} {q2 : Option Addr} {n2 c2 : Nat} {l : Lab} {X : World} (h : RX b q1 n1 c1 q2 n2 c2 l X) : X.cell? ⟨b, 1, none⟩ = some (.slice q2 n2 c2) := h.1.box 1 _ rfl
set_option maxRecDepth 100000 in
set_option maxHeartbeats 16000000 in
theorem lawRef_any (v : Value) (l : Lab) (w : World) (h : LabIs w v l) (fl : Few l) :
    Calls Tryz.prog 15 #[v] w fun e w' => ∃ q1 n1 c1 q2 n2 c2, e = .returned (.agg #[.slice q1 n1 c1, .slice q2 n2 c2]) ∧ LabRef w' (.agg #[.slice q1 n1 c1, .slice q2 n2 c2]) l ∧ (∀ a, q1 = some a → w.heap.size ≤ a.block) ∧ (∀ a, q2 = some a → w.heap.size ≤ a.block) ∧ Below w.heap.size w w' := by
  obtain ⟨q1, n1, c1, q2, n2, c2, rfl, s1, i1⟩ := h
  obtain ⟨W, hW⟩ : ∃ W, (w.alloc (.cells #[.slice q1 n1 c1, .slice q2 n2 c2] 28)).alloc (.cells #[.slice none 0 0, .slice none 0 0] 35) = W := ⟨_, rfl⟩
  have A1 : Below w.heap.size w W := hW ▸ ((Below.refl _ w).alloc (Nat.le_refl _) _).alloc (by simp) _
  have b0 : LB w.heap.size #[.slice q1 n1 c1, .slice q2 n2 c2] W := hW ▸ (LB.new w _).on (below_alloc _)
  have b1 : RB (w.heap.size + 1) #[.slice none 0 0, .slice none 0 0] W := by
    have := RB.new (w.alloc (.cells #[.slice q1 n1 c1, .slice q2 n2 c2] 28)) #[.slice none 0 0, .slice none 0 0]
    rw [World.size_alloc] at this
    exact hW ▸ this
  obtain ⟨W2, hW2⟩ : ∃ Z, W.drew = Z := ⟨_, rfl⟩
  have hd : Below W.heap.size W W2 := hW2 ▸ ⟨rfl, rfl, rfl, Nat.le_refl _, fun _ _ => rfl⟩
  have A2 := A1.trans (hd.mono A1.size)
  have b2 := b0.on hd
  have r2 := b1.on hd
  have HSZ := Lib.hid (show w.heap.size + 2 ≤ W2.heap.size from r2.lt)
  have con := Frm.Ref_new _ l.s W2 (s1.below A2) (by have := fl.1; omega)
  have HC := Lib.hid (fun X (hb : Below w.heap.size w X) => Frm.Ref_new _ l.i X (i1.below hb) (by have := fl.2; omega))
  have HW := Lib.hid hW
  have HW2 := Lib.hid hW2
  have x0 := b2.box 0 _ rfl
  have x1 := b2.box 1 _ rfl
  clear hW s1 i1 fl hW2 hd A1 b0 b1
  go_enter Tryz.func15, Tryz.ntmps15
  go_wp2_with fail
  rw [HW.out]
  refine pregion_any (fun X => X.cell? ⟨w.heap.size, 0, none⟩ = some (.slice q1 n1 c1) ∧ X.cell? ⟨w.heap.size, 1, none⟩ = some (.slice q2 n2 c2)) (by kernel_rfl) ?_
  rw [HW2.out]
  refine wpAnyH_take (i := 0) (v := (.pointer (some ⟨w.heap.size, 0, none⟩))) rfl (by kernel_rfl) (by kernel_rfl) (by kernel_rfl) (fun _ _ _ h => h) (.inl ⟨by kernel_rfl, ?_⟩) ⟨x0, x1⟩ ?_
  · rintro w ⟨h1, h2⟩; go_simp <;> omega
  refine plist #[true, false, false, false, false, false, false, false] (by kernel_rfl) ?_
  refine wpAnyH_take (i := 1) (v := (.agg #[.slice q1 n1 c1])) rfl (by kernel_rfl) (by kernel_rfl) (by kernel_rfl) (fun _ _ _ h => h) (.inl ⟨by kernel_rfl, ?_⟩) ⟨x0, x1⟩ ?_
  · rintro w ⟨h1, h2⟩; go_simp <;> omega
  refine plist #[true, true, false, false, false, false, false, false] (by kernel_rfl) ?_
  refine wpAnyH_take (i := 3) (v := (.pointer (some ⟨w.heap.size, 1, none⟩))) rfl (by kernel_rfl) (by kernel_rfl) (by kernel_rfl) (fun _ _ _ h => h) (.inl ⟨by kernel_rfl, ?_⟩) ⟨x0, x1⟩ ?_
  · rintro w ⟨h1, h2⟩; go_simp <;> omega
  refine plist #[true, true, false, true, false, false, false, false] (by kernel_rfl) ?_
  refine wpAnyH_take (i := 4) (v := (.agg #[.slice q2 n2 c2])) rfl (by kernel_rfl) (by kernel_rfl) (by kernel_rfl) (fun _ _ _ h => h) (.inl ⟨by kernel_rfl, ?_⟩) ⟨x0, x1⟩ ?_
  · rintro w ⟨h1, h2⟩; go_simp <;> omega
  refine plist #[true, true, false, true, true, false, false, false] (by kernel_rfl) ?_
  refine pone 2 (by kernel_rfl) rfl fun K hK => ?_
  go_simp
  refine con.mono ?_
  rintro e w3 ⟨q7, n7, c7, rfl, R7, k7, z7, hb⟩
  have A3 := A2.trans (hb.mono A2.size)
  have b3 := b2.on hb
  have r3 := r2.on hb
  replace x0 := b3.box 0 _ rfl
  replace x1 := b3.box 1 _ rfl
  have HSZ3 := Lib.hid hb.size
  clear con hb b2 r2
  refine hK _ _ ⟨x0, x1⟩ ?_
  clear hK K
  refine plist #[true, true, true, true, true, false, false, false] (by kernel_rfl) ?_
  have con := HC.out w3 A3
  refine pone 5 (by kernel_rfl) rfl fun K hK => ?_
  go_simp
  refine con.mono ?_
  rintro e w4 ⟨q8, n8, c8, rfl, R8, k8, z8, hb⟩
  have A4 := A3.trans (hb.mono A3.size)
  have b4 := b3.on hb
  have r4 := r3.on hb
  replace R7 := R7.below hb
  replace x0 := b4.box 0 _ rfl
  replace x1 := b4.box 1 _ rfl
  have K7 := Lib.hid (show ∀ a, q7 = some a → w.heap.size + 2 ≤ a.block from fun a h => by have := k7 a h; have := HSZ.out; omega)
  have K8 := Lib.hid (show ∀ a, q8 = some a → w.heap.size + 2 ≤ a.block from fun a h => by have := k8 a h; have := HSZ.out; have := HSZ3.out; omega)
  clear con hb b3 r3 k7 k8
  refine hK _ _ ⟨x0, x1⟩ ?_
  clear hK K
  refine plist #[true, true, true, true, true, true, false, false] (by kernel_rfl) ?_
  refine pone 6 (by kernel_rfl) rfl fun K hK => ?_
  go_simp
  refine hK _ _ ⟨x0, x1⟩ ?_
  clear hK K
  refine plist #[true, true, true, true, true, true, true, false] (by kernel_rfl) ?_
  have kf0 := r4.frozen 0
  have kf1 := r4.frozen 1
  have y0 := r4.box 0 _ rfl
  have y1 := r4.box 1 _ rfl
  obtain ⟨Y, hY, rY, hkY, hBY⟩ := r4.put (.slice q7 n7 c7) (.slice q8 n8 c8)
  have A5 := A4.trans (hBY _ (by omega))
  have g7 := RefIn.off R7 r4 (fun a h h0 => by have := K7.out a h; omega) (hkY _ (by simp))
  have g8 := RefIn.off R8 r4 (fun a h h0 => by have := K8.out a h; omega) (hkY _ (by simp))
  have b5 : LB w.heap.size #[.slice q1 n1 c1, .slice q2 n2 c2] Y := ((hBY (w.heap.size + 1) (Nat.le_refl _)).block _ (by omega)).trans b4
  have HY := Lib.hid hY
  clear hY R7 R8
  refine pone 7 (by kernel_rfl) rfl fun K hK => ?_
  go_simp
  rw [HY.out]
  refine hK _ _ ⟨b5.box 0 _ rfl, b5.box 1 _ rfl⟩ ?_
  clear hK K
  refine pdone (by kernel_rfl) ?_ _
  go_wp2
  refine bodyPost_ret (ret_ref rfl _ _ (w.heap.size + 1) _ rfl rY rfl) rfl ?_
  exact ⟨q7, n7, c7, q8, n8, c8, rfl, ⟨_, _, _, _, _, _, rfl, g7, g8, z7, z8⟩, (fun a h => by have := K7.out a h; omega), (fun a h => by have := K8.out a h; omega), A5⟩

end Go.Proofs.YtdlofjcblcpgpaaGreatDoor.Lbl

namespace Go.Proofs.YtdlofjcblcpgpaaGreatDoor.Lbl
open Go.RowKit Go.Shelf Go.Sort Url Org Cls Frm
set_option linter.unusedVariables false

/-- Two, or three, operations may come up. -/
theorem ptwoQ {P : Program} {ops : Array Oper} {Q : Exit → Act → World → Prop} {md : Region.Mode} {S : World → Prop} (i j : Nat) {fuel : Nat} {listed : Array Bool} {a : Act} {w : World} {o p : Oper} (hr : Region.ready md ops listed = [i, j]) (ho : ops[i]? = some o) (hp : ops[j]? = some p)
    (h1 : ∀ K : Act → World → Prop, (∀ a' w', S w' → wpAnyH P md ops Q S fuel (listed.setIfInBounds i true) a' w' → K a' w') → if Region.wanted o (yielded ops a.tmps) = true then Oper.wp P o a w K Q else K (a.put o.dst undef) w)
    (h2 : ∀ K : Act → World → Prop, (∀ a' w', S w' → wpAnyH P md ops Q S fuel (listed.setIfInBounds j true) a' w' → K a' w') → if Region.wanted p (yielded ops a.tmps) = true then Oper.wp P p a w K Q else K (a.put p.dst undef) w) :
    wpAnyH P md ops Q S (fuel + 1) listed a w :=
  wpAnyH_all hr (by simp) (AllReadyH.cons ho (fun K hK => h1 K fun a' w' hs ha => hK.out a' w' hs fun _ => ha) (AllReadyH.cons hp (fun K hK => h2 K fun a' w' hs ha => hK.out a' w' hs fun _ => ha) AllReadyH.nil))
theorem pthreeQ {P : Program} {ops : Array Oper} {Q : Exit → Act → World → Prop} {md : Region.Mode} {S : World → Prop} (i j k : Nat) {fuel : Nat} {listed : Array Bool} {a : Act} {w : World} {o p q : Oper} (hr : Region.ready md ops listed = [i, j, k]) (ho : ops[i]? = some o) (hp : ops[j]? = some p) (hq : ops[k]? = some q)
    (h1 : ∀ K : Act → World → Prop, (∀ a' w', S w' → wpAnyH P md ops Q S fuel (listed.setIfInBounds i true) a' w' → K a' w') → if Region.wanted o (yielded ops a.tmps) = true then Oper.wp P o a w K Q else K (a.put o.dst undef) w)
    (h2 : ∀ K : Act → World → Prop, (∀ a' w', S w' → wpAnyH P md ops Q S fuel (listed.setIfInBounds j true) a' w' → K a' w') → if Region.wanted p (yielded ops a.tmps) = true then Oper.wp P p a w K Q else K (a.put p.dst undef) w)
    (h3 : ∀ K : Act → World → Prop, (∀ a' w', S w' → wpAnyH P md ops Q S fuel (listed.setIfInBounds k true) a' w' → K a' w') → if Region.wanted q (yielded ops a.tmps) = true then Oper.wp P q a w K Q else K (a.put q.dst undef) w) :
    wpAnyH P md ops Q S (fuel + 1) listed a w :=
  wpAnyH_all hr (by simp) (AllReadyH.cons ho (fun K hK => h1 K fun a' w' hs ha => hK.out a' w' hs fun _ => ha) (AllReadyH.cons hp (fun K hK => h2 K fun a' w' hs ha => hK.out a' w' hs fun _ => ha) (AllReadyH.cons hq (fun K hK => h3 K fun a' w' hs ha => hK.out a' w' hs fun _ => ha) AllReadyH.nil)))

theorem LabRef.parts {w : World} {q1 : Option Addr} {n1 c1 : Nat} {q2 : Option Addr} {n2 c2 : Nat} {l : Lab} (h : LabRef w (.agg #[.slice q1 n1 c1, .slice q2 n2 c2]) l) : RefIn w q1 n1 l.s ∧ RefIn w q2 n2 l.i ∧ (q1 = none → c1 = 0) ∧ (q2 = none → c2 = 0) := by
  obtain ⟨_, _, _, _, _, _, he, h⟩ := h
  cases he
  exact h
theorem LabRef.off {w Y : World} {q1 : Option Addr} {n1 c1 : Nat} {q2 : Option Addr} {n2 c2 : Nat} {l : Lab} {B : Nat} {p1 p2 : Option Addr} {k1 d1 k2 d2 : Nat} (h : LabRef w (.agg #[.slice q1 n1 c1, .slice q2 n2 c2]) l) (hB : RB B #[.slice p1 k1 d1, .slice p2 k2 d2] w)
    (hn : (∀ a, q1 = some a → 0 < n1 → a.block ≠ B) ∧ ∀ a, q2 = some a → 0 < n2 → a.block ≠ B) (hk : Keep (fun b => b ≠ B) w Y) : LabRef Y (.agg #[.slice q1 n1 c1, .slice q2 n2 c2]) l := by
  obtain ⟨h1, h2, h3⟩ := h.parts
  exact ⟨_, _, _, _, _, _, rfl, RefIn.off h1 hB hn.1 hk, RefIn.off h2 hB hn.2 hk, h3⟩
theorem LabRef.ne {w : World} {q1 : Option Addr} {n1 c1 : Nat} {q2 : Option Addr} {n2 c2 : Nat} {l : Lab} (h : LabRef w (.agg #[.slice q1 n1 c1, .slice q2 n2 c2]) l) : (∀ a, q1 = some a → 0 < n1 → a.block ≠ w.heap.size) ∧ ∀ a, q2 = some a → 0 < n2 → a.block ≠ w.heap.size := by
  obtain ⟨h1, h2, _⟩ := h.parts
  exact ⟨fun a ha h0 => by have := RefIn.lt h1 a ha h0; omega, fun a ha h0 => by have := RefIn.lt h2 a ha h0; omega⟩
theorem RB.away {B B' : Nat} {cs : Array Value} {X Y : World} (h : RB B cs X) (hk : Keep (fun b => b ≠ B') X Y) (hne : B ≠ B') : RB B cs Y := (hk.block B h.lt hne).trans h
/-- A slot holds a pointer to a box with the document's label l. -/
def HeldR (s : Value) (l : Lab) (X : World) : Prop := ∃ b q1 n1 c1 q2 n2 c2, s = .pointer (some ⟨b, 0, none⟩) ∧ RX b q1 n1 c1 q2 n2 c2 l X
end Go.Proofs.YtdlofjcblcpgpaaGreatDoor.Lbl

namespace Go.Proofs.YtdlofjcblcpgpaaGreatDoor.Lbl
open Go.RowKit Go.Shelf Go.Sort Url Org Cls Frm
attribute [local go_sem] Oper.semAt_some
set_option linter.unusedVariables false

/-- A formula of the document's and no error, or none and one. -/
def RefOut (r : Sum Int (List (List (List UInt8)))) (w : World) (e : Ending) (w' : World) : Prop :=
  ∃ q n c, e = .returned (.tuple #[.slice q n c, .int .i64 (frmE r)]) ∧ RefIn w' q n (frmV r) ∧ (∀ a, q = some a → w.heap.size ≤ a.block) ∧ (q = none → c = 0) ∧ Below w.heap.size w w'
/-- What a row of rows of texts is asked to be. -/
structure RowOk (w : World) (q : Option Addr) (n c : Nat) (zs : List Cl) : Prop where
  row : SlIn encC w q n zs
  each : ∀ z ∈ zs, ClAt w z ∧ (z.1.1 = none → z.1.2.2 = 0)
  nil : q = none → c = 0
theorem RowOk.below {w w' : World} {q : Option Addr} {n c : Nat} {zs : List Cl} (h : RowOk w q n c zs) (hb : Below w.heap.size w w') : RowOk w' q n c zs :=
  ⟨h.row.below hb h.row.lt, fun z hz => ⟨(h.each z hz).1.below hb, (h.each z hz).2⟩, h.nil⟩

set_option maxRecDepth 100000 in
set_option maxHeartbeats 8000000 in
theorem refOf_any (q : Option Addr) (n c : Nat) (zs : List Cl) (w : World) (h : SlIn encC w q n zs) (hz : ∀ z ∈ zs, ClAt w z ∧ (z.1.1 = none → z.1.2.2 = 0)) (hn : n ≤ 1000) :
    Calls Tryz.prog 62 #[.slice q n c] w (RefOut (ofF (zs.map Prod.snd)) w) := by
  have con := Reduce_any q n c zs w h hz hn
  have HF := Lib.hid (show ofF (zs.map Prod.snd) = if (redL (zs.map Prod.snd)).length ≤ 16 then .inr (redL (zs.map Prod.snd)) else .inl 3 from rfl)
  obtain ⟨rr, hrr⟩ : ∃ r, ofF (zs.map Prod.snd) = r := ⟨_, rfl⟩
  rw [hrr] at HF ⊢
  generalize redL (zs.map Prod.snd) = r at con HF
  clear h hz hn hrr
  go_enter Tryz.func62, Tryz.ntmps62
  go_wp2_with fail
  refine con.mono ?_
  rintro e w2 ⟨q2, n2, c2, rfl, R, k2, z2, hb⟩
  have hl := R.len
  have HL := Lib.hid hl
  have HK := Lib.hid k2
  have HZ := Lib.hid z2
  clear con hl k2 z2
  by_cases hbig : 16 < n2
  · have d1 : decide ((16 : Int) < (n2 : Int)) = true := by simp; omega
    have d1' : decide (16 < n2) = true := decide_eq_true hbig
    have HR := HF.out.trans (if_neg (by rw [HL.out]; omega))
    subst HR
    clear hbig R HF
    go_wp2
    go_ret2
    exact ⟨none, 0, 0, rfl, refIn_nil _ _, (fun a h => by cases h), (fun _ => rfl), hb⟩
  · have d1 : decide ((16 : Int) < (n2 : Int)) = false := by simp; omega
    have d1' : decide (16 < n2) = false := decide_eq_false hbig
    have HR := HF.out.trans (if_pos (by rw [HL.out]; omega))
    subst HR
    clear hbig HF
    go_wp2
    go_ret2
    exact ⟨q2, n2, c2, rfl, R, HK.out, HZ.out, hb⟩

set_option maxRecDepth 100000 in
set_option maxHeartbeats 8000000 in
theorem refAnd_any (q1 : Option Addr) (n1 c1 : Nat) (zs1 : List Cl) (q2 : Option Addr) (n2 c2 : Nat) (zs2 : List Cl) (w : World) (h1 : RowOk w q1 n1 c1 zs1) (h2 : RowOk w q2 n2 c2 zs2) (l1 : n1 ≤ 16) (l2 : n2 ≤ 16) :
    Calls Tryz.prog 41 #[.slice q1 n1 c1, .slice q2 n2 c2] w (RefOut (andR (zs1.map Prod.snd) (zs2.map Prod.snd)) w) := by
  obtain ⟨i0, hi0, hz0, hz1, hz2⟩ := info_parts info_strs
  have hw5 : Below w.heap.size w (w.alloc (.cells #[] 50)) := below_alloc _
  have hrow5 : (w.alloc (.cells #[] 50)).ownsRow w.heap.size 50 1 (.slice (some ⟨w.heap.size, 0, none⟩) 0 0) 0 [] := World.ownsRow_made w #[] 0 (Nat.le_refl _) (Nat.zero_le _) rfl
  have s1 : SlIn encC (w.alloc (.cells #[] 50)) q1 n1 zs1 := h1.row.alloc _
  have s2 := h2.row
  have z1 := h1.nil
  have z2 := h2.nil
  have H1 := Lib.hid h1
  have H2 := Lib.hid h2
  have HR := Lib.hid (show andR (zs1.map Prod.snd) (zs2.map Prod.snd) = ofF ((zs1 ++ zs2).map Prod.snd) by rw [List.map_append]; rfl)
  rw [HR.out]
  obtain ⟨r, hr⟩ : ∃ r, ofF ((zs1 ++ zs2).map Prod.snd) = r := ⟨_, rfl⟩
  rw [hr]
  have HRR := Lib.hid hr
  clear h1 h2 HR hr
  go_enter Tryz.func41, Tryz.ntmps41
  go_wp2_with (at_builtin; first
    | (refine wpList_append_rowC rfl _ _ 33 50 rfl i0 (.slice none 0 0) 24 Tryz.underlying33 hi0 hz0 hz1 hz2 rfl (by decide) w.heap.size _ 0 [] rfl hrow5 q1 n1 c1 zs1 rfl z1 s1 (by omega) (by simp) ?_; intro v6 w6 hown6 hgrow6)
    | (refine wpList_append_rowC rfl _ _ 33 50 rfl i0 (.slice none 0 0) 24 Tryz.underlying33 hi0 hz0 hz1 hz2 rfl (by decide) w.heap.size _ (0 + n1) _ rfl hown6 q2 n2 c2 zs2 rfl z2 (s2.below (hw5.grown hgrow6 (by simp) (fun b hb => (hrow5.lt b hb).1)) s2.lt) (by omega) (hw5.grown hgrow6 (by simp) (fun b hb => (hrow5.lt b hb).1)).size ?_; intro v7 w7 hown7 hgrow7))
  have hb6 : Below w.heap.size w w6 := hw5.grown hgrow6 (by simp) (fun b hb => (hrow5.lt b hb).1)
  have hb7 : Below w.heap.size w w7 := hb6.grown hgrow7 hb6.size (fun b hb => (hown6.lt b hb).1)
  have hrow : w7.ownsRow w.heap.size 50 1 v7 (0 + n1 + n2) ((zs1 ++ zs2).map encC) := by
    rw [List.map_append]
    have := hown7
    rw [List.nil_append] at this
    exact this
  obtain ⟨q7, c7, rfl, hc7, _, hs7, hq7⟩ := slIn_of_owns hrow
  have con := refOf_any q7 (0 + n1 + n2) c7 (zs1 ++ zs2) w7 hs7 (fun z hz => by
    rcases List.mem_append.1 hz with h | h
    · exact (H1.out.below hb7).each z h
    · exact (H2.out.below hb7).each z h) (by omega)
  rw [HRR.out] at con
  clear hrow hown7 hown6 hgrow6 hgrow7 hrow5 hw5 s1 s2 z1 z2 hs7 hq7
  refine con.mono ?_
  rintro e w8 ⟨q8, n8, c8, rfl, R8, k8, z8, hb⟩
  have HK := Lib.hid (show ∀ a, q8 = some a → w.heap.size ≤ a.block from fun a h => Nat.le_trans hb7.size (k8 a h))
  have HZ := Lib.hid z8
  have hb8 := hb7.trans (hb.mono hb7.size)
  clear con hb k8 z8
  go_wp2
  go_ret2
  exact ⟨q8, n8, c8, rfl, R8, HK.out, HZ.out, hb8⟩

set_option maxRecDepth 100000 in
set_option maxHeartbeats 8000000 in
theorem refImpF_any (q1 : Option Addr) (n1 c1 : Nat) (zs1 : List Cl) (q2 : Option Addr) (n2 c2 : Nat) (zs2 : List Cl) (w : World) (h1 : RowOk w q1 n1 c1 zs1) (h2 : RowOk w q2 n2 c2 zs2) (l1 : n1 ≤ 16) (l2 : n2 ≤ 16) :
    Calls Tryz.prog 44 #[.slice q1 n1 c1, .slice q2 n2 c2] w fun e w' => e = .returned (.bool (impB (zs1.map Prod.snd) (zs2.map Prod.snd))) ∧ w = w' := by
  have HE1 := Lib.hid h1.each
  have HE2 := Lib.hid h2.each
  have HS1 := Lib.hid h1.row
  have hL1 := Lib.hid (show (zs1.map Prod.snd).length = n1 by rw [List.length_map]; exact h1.row.1)
  have hL2 := Lib.hid (show (zs2.map Prod.snd).length = n2 by rw [List.length_map]; exact h2.row.1)
  have HS2 := Lib.hid h2.row
  clear h1 h2
  go_enter Tryz.func44, Tryz.ntmps44
  go_wp2
  go_loop [12] (fun i => ∃ k : Nat, k ≤ n2 ∧ i = .int .i64 k ∧ Hid (∀ j c, j < k → (zs2.map Prod.snd)[j]? = some c → saidK (zs1.map Prod.snd) c n1 = true)) (fun i => n2 - (intOf i).toNat)
  case atStart => exact ⟨0, Nat.zero_le _, rfl, Lib.hid (fun j c h => by omega)⟩
  case round =>
    obtain ⟨k, hk, rfl, HJ⟩ := hrel
    by_cases hlt : k < n2
    · obtain ⟨b2, o2, he2, _, hc2⟩ := HS2.out.at (by omega)
      obtain ⟨⟨⟨xq, xn, xc⟩, x⟩, hzk⟩ : ∃ z, zs2[k]? = some z := ⟨_, List.getElem?_eq_getElem (by have := hL2.out; rw [List.length_map] at this; omega)⟩
      have hck : w.cell? ⟨b2, o2 + k, none⟩ = some (.slice xq xn xc) := hc2 k _ hzk
      have hxm := HE2.out _ (List.mem_of_getElem? hzk)
      obtain ⟨_, _, _, hee, _, _, hsx, _⟩ := hxm.1.set
      cases hee
      have hxf : x.length ≤ 16 := hxm.1.few
      have hxl : x.length = xn := hsx.1
      have hxn : xn ≤ 16 := by omega
      have HXK := Lib.hid (show (zs2.map Prod.snd)[k]? = some x by rw [List.getElem?_map, hzk]; rfl)
      have HSX := Lib.hid hsx
      clear hzk hxm hc2 hxf hxl hsx
      subst he2
      go_wp2
      go_loop [7, 18] (fun sd i => ∃ j : Nat, j ≤ n1 ∧ i = .int .i64 j ∧ sd = .bool (saidK (zs1.map Prod.snd) x j)) (fun _ i => n1 - (intOf i).toNat)
      case atStart => exact ⟨0, Nat.zero_le _, rfl, by rw [saidK_zero]⟩
      case round =>
        obtain ⟨j, hj, rfl, rfl⟩ := hrel
        by_cases hjl : j < n1
        · obtain ⟨b1, o1, he1, _, hc1⟩ := HS1.out.at (by omega)
          obtain ⟨⟨⟨yq, yn, yc⟩, y⟩, hzj⟩ : ∃ z, zs1[j]? = some z := ⟨_, List.getElem?_eq_getElem (by have := hL1.out; rw [List.length_map] at this; omega)⟩
          have hcj : w.cell? ⟨b1, o1 + j, none⟩ = some (.slice yq yn yc) := hc1 j _ hzj
          have hym := HE1.out _ (List.mem_of_getElem? hzj)
          obtain ⟨_, _, _, hee, _, _, hsy, _⟩ := hym.1.set
          cases hee
          have hyf : y.length ≤ 16 := hym.1.few
          have hyl : y.length = yn := hsy.1
          have hyn : yn ≤ 16 := by omega
          have con := refImp_any yq yn yc y xq xn xc x w hsy HSX.out (by omega) (by omega)
          have HK1 := Lib.hid (saidK_succ (zs1.map Prod.snd) x y j (by rw [List.getElem?_map, hzj]; rfl))
          generalize subB y x = A at con HK1
          generalize saidK (zs1.map Prod.snd) x j = m at HK1 ⊢
          clear hzj hym hyl hyf hsy hck hc1
          subst he1
          cases m with
          | true =>
            clear con
            go_wp2
            go_round
            case rel => exact ⟨j + 1, by omega, by go_num, by rw [HK1.out]; rfl⟩
            case measure => simp [intOf]; omega
          | false =>
            go_wp2_with fail
            refine con.mono ?_
            rintro e w' ⟨rfl, rfl⟩
            clear con
            cases A with
            | true =>
              go_wp2
              go_round
              case rel => exact ⟨j + 1, by omega, by go_num, by rw [HK1.out]; rfl⟩
              case measure => simp [intOf]; omega
            | false =>
              go_wp2
              go_round
              case rel => exact ⟨j + 1, by omega, by go_num, by rw [HK1.out]; rfl⟩
              case measure => simp [intOf]; omega
        · obtain rfl : j = n1 := by omega
          obtain ⟨m, hm⟩ : ∃ m, saidK (zs1.map Prod.snd) x j = m := ⟨_, rfl⟩
          rewrite [hm]
          have HM := Lib.hid hm
          clear hm hck
          cases m with
          | true =>
            have HJ2 := Lib.hid (show ∀ i c, i < k + 1 → (zs2.map Prod.snd)[i]? = some c → saidK (zs1.map Prod.snd) c j = true from fun i c hi hc => by
              by_cases e : i = k
              · subst e; rw [HXK.out] at hc; cases hc; exact HM.out
              · exact HJ.out i c (by omega) hc)
            clear HJ
            go_wp2
            go_round
            case rel => exact ⟨k + 1, by omega, by go_num, HJ2⟩
            case measure => simp [intOf]; omega
          | false =>
            have HR := Lib.hid (show impB (zs1.map Prod.snd) (zs2.map Prod.snd) = false by
              unfold impB
              rw [List.all_eq_false]
              refine ⟨x, List.mem_of_getElem? HXK.out, ?_⟩
              have h1 := saidK_all (zs1.map Prod.snd) x
              rw [hL1.out, HM.out] at h1
              rw [← h1]; simp)
            clear HJ
            go_wp2
            go_ret
            exact ⟨(by rw [HR.out]; rfl), rfl⟩
    · obtain rfl : k = n2 := by omega
      have HR := Lib.hid (show impB (zs1.map Prod.snd) (zs2.map Prod.snd) = true by
        unfold impB
        rw [List.all_eq_true]
        intro c hc
        obtain ⟨j, hj, rfl⟩ := List.getElem_of_mem hc
        have h1 := HJ.out j _ (by rw [hL2.out] at hj; exact hj) (List.getElem?_eq_getElem hj)
        rw [← hL1.out, saidK_all] at h1
        exact h1)
      clear HJ
      go_wp2
      go_ret
      exact ⟨(by rw [HR.out]; rfl), rfl⟩

end Go.Proofs.YtdlofjcblcpgpaaGreatDoor.Lbl

namespace Go.Proofs.YtdlofjcblcpgpaaGreatDoor.Lbl
open Go.RowKit Go.Shelf Go.Sort Url Org Cls Frm
attribute [local go_sem] Oper.semAt_some
set_option linter.unusedVariables false

/-- The Eithers that have come lie in a row of one's own, off their texts. -/
def EitK (W : World) (v : Value) (ls : List Cl) : Prop := ∀ z ∈ ls, (ClAt W z ∧ (z.1.1 = none → z.1.2.2 = 0)) ∧ ∀ a, z.1.1 = some a → 0 < z.1.2.1 → v.ownBlock ≠ some a.block
theorem small_all (l : List (List (List UInt8))) : smallB l = true ↔ ∀ c ∈ l, c.length ≤ 16 := by
  unfold smallB
  rw [List.all_eq_true]
  exact ⟨fun h c hc => of_decide_eq_true (h c hc), fun h c hc => decide_eq_true (h c hc)⟩

set_option maxRecDepth 100000 in
set_option maxHeartbeats 32000000 in
theorem refOr_any (q1 : Option Addr) (n1 c1 : Nat) (zs1 : List Cl) (q2 : Option Addr) (n2 c2 : Nat) (zs2 : List Cl) (w : World) (h1 : RowOk w q1 n1 c1 zs1) (h2 : RowOk w q2 n2 c2 zs2) (l1 : n1 ≤ 16) (l2 : n2 ≤ 16) :
    Calls Tryz.prog 42 #[.slice q1 n1 c1, .slice q2 n2 c2] w (RefOut (orR (zs1.map Prod.snd) (zs2.map Prod.snd)) w) := by
  obtain ⟨i0, hi0, hz0, hz1, hz2⟩ := info_parts info_strs
  obtain ⟨j0, hj0, hy0, hy1, hy2⟩ := info_parts S.info_str
  obtain ⟨W1, hW1⟩ : ∃ W1, w.alloc (.cells #[] 50) = W1 := ⟨_, rfl⟩
  have A1 : Below w.heap.size w W1 := hW1 ▸ below_alloc _
  have hrow0 : W1.ownsRow w.heap.size 50 1 (.slice (some ⟨w.heap.size, 0, none⟩) 0 0) 0 [] := hW1 ▸ World.ownsRow_made w #[] 0 (Nat.le_refl _) (Nat.zero_le _) rfl
  have HW1 := Lib.hid hW1
  have H1 := Lib.hid h1
  have H2 := Lib.hid h2
  have L1 := Lib.hid (show zs1.length = n1 from h1.row.1)
  have L2 := Lib.hid (show zs2.length = n2 from h2.row.1)
  have HSM := Lib.hid (orR_small zs1 zs2)
  have HGR := Lib.hid (orR_great zs1 zs2)
  obtain ⟨rr, hrr⟩ : ∃ r, orR (zs1.map Prod.snd) (zs2.map Prod.snd) = r := ⟨_, rfl⟩
  rw [hrr] at HSM HGR ⊢
  clear hW1 h1 h2 hrr
  go_enter Tryz.func42, Tryz.ntmps42
  go_wp2
  rw [HW1.out]
  go_loopw [6, 15] (fun v i wr => ∃ (k : Nat) (ls : List Cl), k ≤ n1 ∧ i = .int .i64 k ∧ wr.ownsRow w.heap.size 50 1 v ls.length (ls.map encC) ∧ Hid (EitK wr v ls) ∧ Hid (ls.map Prod.snd = eithL zs2 (zs1.take k)) ∧ Below w.heap.size w wr) (fun _ i _ => n1 - (intOf i).toNat)
  case atStart => exact ⟨0, [], Nat.zero_le _, rfl, hrow0, Lib.hid (fun z hz => by cases hz), Lib.hid (by simp [eithL]), A1⟩
  case round =>
    obtain ⟨k, ls0, hk, rfl, hrow, HE, HM, hB⟩ := hrel
    have hbs := hB.size
    have HLN := Lib.hid (show ls0.length = k * n2 by
      have h := congrArg List.length HM.out
      rw [List.length_map, eithL_len, List.length_take, L1.out, L2.out, Nat.min_eq_left hk] at h
      exact h)
    clear hrow0 A1 HW1
    by_cases hlt : k < n1
    · obtain ⟨b1, o1, he1, _, hc1⟩ := ((H1.out.below hB).row).at (by omega)
      obtain ⟨⟨⟨xq, xn, xc⟩, x⟩, hzk⟩ : ∃ z, zs1[k]? = some z := ⟨_, List.getElem?_eq_getElem (by have := L1.out; omega)⟩
      have hck : wr.cell? ⟨b1, o1 + k, none⟩ = some (.slice xq xn xc) := hc1 k _ hzk
      have hxm := (H1.out.below hB).each _ (List.mem_of_getElem? hzk)
      obtain ⟨_, _, _, hee, _, _, hsx, _⟩ := hxm.1.set
      cases hee
      have hxz : xq = none → xc = 0 := hxm.2
      have hxf : x.length ≤ 16 := hxm.1.few
      have hxl : x.length = xn := hsx.1
      have hxn : xn ≤ 16 := by omega
      have HXM := Lib.hid (List.mem_of_getElem? hzk)
      have HTK := Lib.hid (Frm.take_snoc zs1 k _ hzk).1
      clear hzk hxm hc1 hxf hxl hsx
      subst he1
      go_wp2
      obtain ⟨W4, rfl⟩ : ∃ W, W = wr := ⟨_, rfl⟩
      go_loopw [6, 21] (fun v i wr2 => ∃ (j : Nat) (ls : List Cl), j ≤ n2 ∧ i = .int .i64 j ∧ wr2.ownsRow w.heap.size 50 1 v ls.length (ls.map encC) ∧ Hid (EitK wr2 v ls) ∧ Hid (ls.map Prod.snd = eithL zs2 (zs1.take k) ++ withL x (zs2.take j)) ∧ Below w.heap.size w wr2) (fun _ i _ => n2 - (intOf i).toNat)
      case atStart => exact ⟨0, ls0, Nat.zero_le _, rfl, hrow, HE, Lib.hid (by rw [HM.out]; simp [withL]), hB⟩
      case round =>
        obtain ⟨j, ls, hj, rfl, hrow2, HE2, HM2, hB2⟩ := hrel
        have hbs2 := hB2.size
        have HLN2 := Lib.hid (show ls.length = k * n2 + j by
          have h := congrArg List.length HM2.out
          rw [List.length_map, List.length_append, eithL_len, withL_len, List.length_take, List.length_take, L1.out, L2.out, Nat.min_eq_left hk, Nat.min_eq_left hj] at h
          exact h)
        have hlim : ls.length ≤ 300 := by
          have h1 := HLN2.out
          have h2 : k * n2 ≤ 16 * 16 := Nat.mul_le_mul (by omega) l2
          omega
        clear hrow HE
        by_cases hjl : j < n2
        · obtain ⟨b2, o2, he2, _, hc2⟩ := ((H2.out.below hB2).row).at (by omega)
          obtain ⟨⟨⟨yq, yn, yc⟩, y⟩, hzj⟩ : ∃ z, zs2[j]? = some z := ⟨_, List.getElem?_eq_getElem (by have := L2.out; omega)⟩
          have hcj : wr.cell? ⟨b2, o2 + j, none⟩ = some (.slice yq yn yc) := hc2 j _ hzj
          have hym := (H2.out.below hB2).each _ (List.mem_of_getElem? hzj)
          obtain ⟨_, _, _, hee, _, _, hsy, _⟩ := hym.1.set
          cases hee
          have hyz : yq = none → yc = 0 := hym.2
          have hyf : y.length ≤ 16 := hym.1.few
          have hyl : y.length = yn := hsy.1
          have hyn : yn ≤ 16 := by omega
          have HYM := Lib.hid (List.mem_of_getElem? hzj)
          have HTJ := Lib.hid (Frm.take_snoc zs2 j _ hzj).1
          have HYL := Lib.hid hyl
          clear hzj hym hc2 hyf hyl hck
          subst he2
          have hw5 : Below wr.heap.size wr (wr.alloc (.cells #[] 9)) := below_alloc _
          have hrow5 : (wr.alloc (.cells #[] 9)).ownsRow wr.heap.size 9 1 (.slice (some ⟨wr.heap.size, 0, none⟩) 0 0) 0 [] := World.ownsRow_made wr #[] 0 (Nat.le_refl _) (Nat.zero_le _) rfl
          obtain ⟨_, _, _, hee, _, _, hsx, _⟩ := ((H1.out.below hB2).each _ HXM.out).1.set
          cases hee
          have sx : SlIn encStr (wr.alloc (.cells #[] 9)) xq xn x := hsx.alloc _
          have sy := hsy
          have HRW := Lib.hid hrow2
          clear hrow2 hsy hsx
          go_upto_region 9 with (at_builtin; first
            | (refine wpList_append_row (enc := encStr) rfl _ _ 50 9 rfl j0 (.string ByteArray.empty) 16 Tryz.underlying50 hj0 hy0 hy1 hy2 rfl (fun _ => rfl) (by decide) wr.heap.size _ 0 [] rfl hrow5 xq xn xc x rfl hxz sx (by omega) (by simp) ?_; intro v6 w6 hown6 hgrow6)
            | (refine wpList_append_row (enc := encStr) rfl _ _ 50 9 rfl j0 (.string ByteArray.empty) 16 Tryz.underlying50 hj0 hy0 hy1 hy2 rfl (fun _ => rfl) (by decide) wr.heap.size _ (0 + xn) _ rfl hown6 yq yn yc y rfl hyz (sy.below (hw5.grown hgrow6 (by simp) (fun b hb => (hrow5.lt b hb).1)) sy.lt) (by omega) (hw5.grown hgrow6 (by simp) (fun b hb => (hrow5.lt b hb).1)).size ?_; intro v7 w7 hown7 hgrow7))
          have hb6 : Below wr.heap.size wr w6 := hw5.grown hgrow6 (by simp) (fun b hb => (hrow5.lt b hb).1)
          have hb7 : Below wr.heap.size wr w7 := hb6.grown hgrow7 hb6.size (fun b hb => (hown6.lt b hb).1)
          have hrow7 : w7.ownsRow wr.heap.size 9 1 v7 (0 + xn + yn) ((x ++ y).map encStr) := by
            rw [List.map_append]
            have := hown7
            rw [List.nil_append] at this
            exact this
          obtain ⟨q7, c7, rfl, hc7, _, hs7, hq7⟩ := slIn_of_owns hrow7
          have con := Rising_new q7 (0 + xn + yn) c7 (x ++ y) w7 hs7 (by omega)
          obtain ⟨sr, hsr⟩ : ∃ s, sortR (x ++ y) = s := ⟨_, rfl⟩
          rw [hsr] at con
          have HSR := Lib.hid hsr
          have HRS := Lib.hid (show Rises sr by rw [← hsr]; exact sort_rises _)
          clear hrow7 hown7 hown6 hgrow6 hgrow7 hrow5 hw5 sx sy hs7 hq7 hsr
          refine con.mono ?_
          rintro e w8 ⟨q8, n8, c8, rfl, s8, k8, z8, m8, hb⟩
          have HC8 := Lib.hid m8
          have hb8 := hb7.trans (hb.mono hb7.size)
          have HK8 := Lib.hid (show ∀ a, q8 = some a → wr.heap.size ≤ a.block from fun a h => Nat.le_trans hb7.size (k8 a h))
          have HZ8 := Lib.hid z8
          have HL8 := Lib.hid (show sr.length = n8 from s8.1)
          have HS8 := Lib.hid s8
          clear con hb k8 z8 s8 m8 hb6 hb7 hxz hyz
          by_cases hbig : 16 < n8
          · have d1 : decide ((16 : Int) < (n8 : Int)) = true := by simp; omega
            have d1' : decide (16 < n8) = true := decide_eq_true hbig
            have HR := HGR.out (great_of zs1 zs2 _ _ HXM.out HYM.out (by
              show ¬ (sortR (x ++ y)).length ≤ 16
              rw [HSR.out, HL8.out]; omega))
            subst HR
            have hall := hB2.trans (hb8.mono hbs2)
            clear hbig HSM HGR HLN HLN2 HM HM2 HE2
            go_wp2
            go_ret2
            exact ⟨none, 0, 0, rfl, refIn_nil _ _, (fun a h => by cases h), (fun _ => rfl), hall⟩
          · have d1 : decide ((16 : Int) < (n8 : Int)) = false := by simp; omega
            have d1' : decide (16 < n8) = false := decide_eq_false hbig
            have hs8' := hb8.size
            have hn8 : n8 ≤ 16 := by omega
            have hrow8 := (Keep.of_below hb8).row HRW.out (fun b hb => (HRW.out.lt b hb).2)
            have HLT := Lib.hid (fun b (hb : u6.ownBlock = some b) => (HRW.out.lt b hb).2)
            have hbw8 := hB2.trans (hb8.mono hbs2)
            have hbws := hbw8.size
            clear hbig HRW
            go_wp2_with (at_builtin; refine wpList_append_own_at _ rfl _ _ 33 rfl w.heap.size 50 i0 (.slice none 0 0) 1 24 Tryz.underlying33 hi0 hz0 hz1 hz2 rfl (by decide) _ _ _ rfl (hrow8.alloc _) ⟨w8.heap.size, 0, none⟩ 1 1 [.slice q8 n8 c8] rfl rfl (cell_one_new _ _ _) (by simp [Value.oneCell']) (by unfold maxLen; omega) (by omega) (by simp; omega) ?_; intro v9 w9 hown9 hgrow9 _ hat)
            have hb9 : Below w.heap.size w8 w9 := ((Below.refl _ w8).alloc hbws _).grown hgrow9 (by simp; omega) (fun b hb => (hrow8.lt b hb).1)
            have hk9 : ∀ S : Nat → Prop, (∀ b, S b → u6.ownBlock ≠ some b) → Keep S w8 w9 := fun S hS => (Keep.alloc S w8 _).trans (Keep.of_grownBy hgrow9 (fun r hr h => hS r h hr))
            have hown : ∀ b, v9.ownBlock = some b → u6.ownBlock = some b ∨ w8.heap.size ≤ b := fun b hb => by
              rcases hat with h | h
              · exact .inl (h ▸ hb)
              · rw [h] at hb; have := Option.some.inj hb; simp at this; exact .inr (by omega)
            have HE3 := Lib.hid (show EitK w9 v9 (ls ++ [((q8, n8, c8), sr)]) from fun z hz => by
              rcases List.mem_append.1 hz with h | h
              · obtain ⟨⟨k1, k2⟩, k3⟩ := HE2.out z h
                have k4 := k1.below hb8
                refine ⟨⟨k4.from (hk9 (fun b => u6.ownBlock ≠ some b) (fun b hb => hb)) (fun a ha h0 => k3 a ha h0), k2⟩, fun a ha h0 e => ?_⟩
                rcases hown _ e with h5 | h5
                · exact k3 a ha h0 h5
                · have := k4.lt a ha h0; omega
              · rw [List.mem_singleton.1 h]
                have hne : ∀ a, q8 = some a → u6.ownBlock ≠ some a.block := fun a ha e => by
                  have h1 := HK8.out a ha
                  have h2 := HLT.out _ e
                  omega
                have h6 : ClAt w8 ((q8, n8, c8), sr) := ⟨⟨q8, n8, c8, rfl, HC8.out, by omega, HS8.out, HRS.out⟩, by show sr.length ≤ 16; rw [HL8.out]; exact hn8⟩
                refine ⟨⟨h6.from (hk9 (fun b => u6.ownBlock ≠ some b) (fun b hb => hb)) (fun a ha h0 => hne a ha), HZ8.out⟩, fun a ha h0 e => ?_⟩
                rcases hown _ e with h5 | h5
                · exact hne a ha h5
                · have := h6.lt a ha h0; omega)
            have HM3 := Lib.hid (show (ls ++ [((q8, n8, c8), sr)]).map Prod.snd = eithL zs2 (zs1.take k) ++ withL x (zs2.take (j + 1)) by
              rw [List.map_append, HM2.out, HTJ.out, withL_snoc, ← HSR.out, List.append_assoc]; rfl)
            have hall := hbw8.trans hb9
            go_roundw
            case rel => exact ⟨j + 1, ls ++ [((q8, n8, c8), sr)], by omega, by go_num, by simpa [encC] using hown9, HE3, HM3, hall⟩
            case measure => simp [intOf]; omega
        · obtain rfl : j = n2 := by omega
          have HM3 := Lib.hid (show ls.map Prod.snd = eithL zs2 (zs1.take (k + 1)) by
            rw [HM2.out, HTK.out, eithL_snoc, show zs2.take j = zs2 from List.take_of_length_le (by rw [L2.out]; exact Nat.le_refl _)])
          clear HLN2 HM2
          go_wp2
          go_roundw
          case rel => exact ⟨k + 1, ls, by omega, by go_num, hrow2, HE2, HM3, hB2⟩
          case measure => simp [intOf]; omega
    · obtain rfl : k = n1 := by omega
      have HM2 := Lib.hid (show ls0.map Prod.snd = eithL zs2 zs1 by rw [HM.out, List.take_of_length_le (by rw [L1.out]; exact Nat.le_refl _)])
      have HR := HSM.out ((small_all _).2 fun c hc => by
        rw [← HM2.out] at hc
        obtain ⟨z, hz, rfl⟩ := List.mem_map.1 hc
        exact (HE.out z hz).1.1.few)
      rw [← HM2.out] at HR
      obtain ⟨q4, c4, rfl, hc4, hm4, hs4, hq4⟩ := slIn_of_owns hrow
      have con := refOf_any q4 ls0.length c4 ls0 wr hs4 (fun z hz => (HE.out z hz).1) (by
        rw [HLN.out]
        have : k * n2 ≤ 16 * 16 := Nat.mul_le_mul (by omega) l2
        omega)
      rw [← HR] at con
      clear HR hrow hs4 hq4 HE HM HM2 HSM HGR HLN
      go_wp2_with fail
      refine con.mono ?_
      rintro e w8 ⟨q8, n8, c8, rfl, R8, k8, z8, hb⟩
      have HK := Lib.hid (show ∀ a, q8 = some a → w.heap.size ≤ a.block from fun a h => Nat.le_trans hB.size (k8 a h))
      have HZ := Lib.hid z8
      have hb8 := hB.trans (hb.mono hB.size)
      clear con hb k8 z8
      go_wp2
      go_ret2
      exact ⟨q8, n8, c8, rfl, R8, HK.out, HZ.out, hb8⟩

end Go.Proofs.YtdlofjcblcpgpaaGreatDoor.Lbl

namespace Go.Proofs.YtdlofjcblcpgpaaGreatDoor.Lbl
open Go.RowKit Go.Shelf Go.Sort Url Org Cls Frm
attribute [local go_sem] Oper.semAt_some
set_option linter.unusedVariables false

theorem strs_of_slIn {w : World} {q : Option Addr} {n : Nat} {xs : List (List UInt8)} (h : SlIn encStr w q n xs) : StrsIn w q n xs := fun h0 => by
  obtain ⟨b, o, rfl, _, hc⟩ := h.at h0
  exact ⟨b, o, rfl, fun i hi => hc i (xs.getD i []) (by rw [List.getElem?_eq_getElem (by rw [h.1]; exact hi)]; simp [List.getD, List.getElem?_eq_getElem (show i < xs.length by rw [h.1]; exact hi)])⟩

set_option maxRecDepth 100000 in
set_option maxHeartbeats 16000000 in
theorem lawSameF_any (v : Value) (q : Option Addr) (n c : Nat) (f : List (List (List UInt8))) (w : World) (h1 : FrmIs w v f) (h2 : RefIn w q n f) (lf : f.length ≤ 16) :
    Calls Tryz.prog 35 #[v, .slice q n c] w fun e w' => e = .returned (.bool true) ∧ Below w.heap.size w w' := by
  obtain ⟨q1, n1, c1, rfl⟩ := frm_form h1
  obtain ⟨W, hW⟩ : ∃ W, w.alloc (.cells #[.slice q1 n1 c1] 26) = W := ⟨_, rfl⟩
  have A1 : Below w.heap.size w W := hW ▸ below_alloc _
  have b0 : Boxed W w.heap.size 26 (.slice q1 n1 c1) := hW ▸ Boxed.new w _ _
  have con := Frm.Ref_new _ f W (h1.below A1) (by omega)
  have H1 := Lib.hid (fun X (hb : Below w.heap.size w X) => Len_any _ f X (h1.below hb))
  have H2 := Lib.hid h2
  have HW := Lib.hid hW
  clear hW h1 h2
  go_enter Tryz.func35, Tryz.ntmps35
  go_wp2_with fail
  rw [HW.out]
  refine con.mono ?_
  rintro e w2 ⟨q3, n3, c3, rfl, r3, _, _, hb⟩
  have A2 := A1.trans (hb.mono A1.size)
  have b2 : Boxed w2 w.heap.size 26 (.slice q1 n1 c1) := (hb.block _ b0.lt).trans b0
  have x0 := b2.cell
  have g3 := H2.out.below A2
  obtain rfl : n3 = n := by rw [← r3.len, ← g3.len]
  have HN := Lib.hid r3.len
  have con := H1.out w2 A2
  have en : f.length = n3 := r3.len
  rw [en] at con lf
  have d1 : ((n3 : Int) != (n3 : Int)) = false := by simp
  have HR := Lib.hid r3
  have HG := Lib.hid g3
  clear en hb A1 b0 H1 H2 HW r3 g3
  go_wp2_with fail
  refine con.mono ?_
  rintro e w3 ⟨rfl, hb⟩
  have A3 := A2.trans (hb.mono A2.size)
  obtain ⟨zs, hz, hze, hfz⟩ := HR.out.below hb
  obtain ⟨ys, hy, hye, hfy⟩ := HG.out.below hb
  have HZ := Lib.hid hz
  have HZE := Lib.hid hze
  have HY := Lib.hid hy
  have HYE := Lib.hid hye
  have HFZ := Lib.hid hfz
  have HFY := Lib.hid hfy
  have hzl := Lib.hid hz.1
  have hyl := Lib.hid hy.1
  clear con hb hz hze hy hye hfz hfy A2 b2 x0 HR HG
  go_wp2
  go_loopw [23] (fun i X => ∃ k : Nat, k ≤ n3 ∧ i = .int .i64 k ∧ Below w3.heap.size w3 X) (fun i _ => n3 - (intOf i).toNat)
  case atStart => exact ⟨0, Nat.zero_le _, rfl, Below.refl _ _⟩
  case round =>
    obtain ⟨k, hk, rfl, hX⟩ := hrel
    by_cases hlt : k < n3
    · obtain ⟨bz, oz, hez, hbz, hcz⟩ := HZ.out.at (by omega)
      obtain ⟨by_, oy, hey, hby, hcy⟩ := HY.out.at (by omega)
      obtain ⟨⟨⟨zq, zn, zc⟩, z⟩, hzk⟩ : ∃ z, zs[k]? = some z := ⟨_, List.getElem?_eq_getElem (by have := hzl.out; omega)⟩
      obtain ⟨⟨⟨yq, yn, yc⟩, y⟩, hyk⟩ : ∃ z, ys[k]? = some z := ⟨_, List.getElem?_eq_getElem (by have := hyl.out; omega)⟩
      have hzm := HZE.out _ (List.mem_of_getElem? hzk)
      have hym := HYE.out _ (List.mem_of_getElem? hyk)
      have hyz : z = y := by
        have a : (zs.map Prod.snd)[k]? = some z := by rw [List.getElem?_map, hzk]; rfl
        have b : (ys.map Prod.snd)[k]? = some y := by rw [List.getElem?_map, hyk]; rfl
        rw [← HFZ.out, HFY.out, b] at a
        injection a with a; exact a.symm
      subst hyz
      obtain ⟨_, _, _, hee, _, _, hsz, _⟩ := hzm.1.set
      cases hee
      obtain ⟨_, _, _, hee, _, _, hsy, _⟩ := hym.1.set
      cases hee
      have hzf : z.length ≤ 16 := hzm.1.few
      have c1 : wr.cell? ⟨bz, oz + k, none⟩ = some (.slice zq zn zc) := (hX.cell hbz).trans (hcz k _ hzk)
      have c2 : wr.cell? ⟨by_, oy + k, none⟩ = some (.slice yq yn yc) := (hX.cell hby).trans (hcy k _ hyk)
      have HC := Lib.hid (fun m => Go.Proofs.YtdlofjcblcpgpaaGreatDoor.Same_any zq yq zn zc yn yc z z (wr.drewN m) hsz.1 hsy.1 (by have := hsz.1; omega) (by have := hsy.1; omega)
        (strs_of_slIn (hsz.below (below_drewN hX m) hsz.lt)) (strs_of_slIn (hsy.below (below_drewN hX m) hsy.lt)))
      have HX := Lib.hid hX
      have HS : sameL z z = true := by unfold sameL; simp
      rw [HS] at HC
      subst hez hey
      clear hX hzm hym hsz hsy hzk hyk hcz hcy HS hzf hbz hby
      go_wp2
      go_quiet ((go_at_call 63; exact Calls.quiet_of (HC.out _)))
      go_wp2
      go_roundw
      case rel => exact ⟨k + 1, by omega, by go_num, below_drewN HX.out _⟩
      case measure => simp [intOf]; omega
    · go_wp2
      go_ret
      exact ⟨rfl, A3.trans (hX.mono A3.size)⟩

set_option maxRecDepth 100000 in
set_option maxHeartbeats 8000000 in
theorem lawSame_any (v1 v2 : Value) (l : Lab) (w : World) (h1 : LabIs w v1 l) (h2 : LabRef w v2 l) (fl : Few l) :
    Calls Tryz.prog 11 #[v1, v2] w fun e w' => e = .returned (.bool true) ∧ Below w.heap.size w w' := by
  obtain ⟨q1, n1, c1, q2, n2, c2, rfl, s1, i1⟩ := h1
  obtain ⟨q3, n3, c3, q4, n4, c4, rfl, s2, i2, _, _⟩ := h2
  obtain ⟨W, hW⟩ : ∃ W, (w.alloc (.cells #[.slice q1 n1 c1, .slice q2 n2 c2] 28)).alloc (.cells #[.slice q3 n3 c3, .slice q4 n4 c4] 35) = W := ⟨_, rfl⟩
  have A1 : Below w.heap.size w W := hW ▸ ((Below.refl _ w).alloc (Nat.le_refl _) _).alloc (by simp) _
  have b0 : LB w.heap.size #[.slice q1 n1 c1, .slice q2 n2 c2] W := hW ▸ (LB.new w _).on (below_alloc _)
  have b1 : RB (w.heap.size + 1) #[.slice q3 n3 c3, .slice q4 n4 c4] W := by
    have := RB.new (w.alloc (.cells #[.slice q1 n1 c1, .slice q2 n2 c2] 28)) #[.slice q3 n3 c3, .slice q4 n4 c4]
    rw [World.size_alloc] at this
    exact hW ▸ this
  have x0 := b0.box 0 _ rfl
  have y0 := b1.box 0 _ rfl
  have con := lawSameF_any _ q3 n3 c3 l.s W (s1.below A1) (s2.below A1) fl.1
  have HC := Lib.hid (fun X (hb : Below w.heap.size w X) => lawSameF_any _ q4 n4 c4 l.i X (i1.below hb) (i2.below hb) fl.2)
  have HW := Lib.hid hW
  clear hW s1 i1 s2 i2 fl
  go_enter Tryz.func11, Tryz.ntmps11
  go_wp2_with fail
  rw [HW.out]
  refine con.mono ?_
  rintro e w2 ⟨rfl, hb⟩
  have A2 := A1.trans (hb.mono A1.size)
  have x1 := (b0.on hb).box 1 _ rfl
  have y1 := (b1.on hb).box 1 _ rfl
  clear x0 y0 b0 b1 hb con HW A1
  have con := HC.out w2 A2
  go_wp2_with fail
  refine con.mono ?_
  rintro e w3 ⟨rfl, hb⟩
  have A3 := A2.trans (hb.mono A2.size)
  clear con hb x1 y1
  go_wp2
  go_ret
  exact ⟨rfl, A3⟩

end Go.Proofs.YtdlofjcblcpgpaaGreatDoor.Lbl

namespace Go.Proofs.YtdlofjcblcpgpaaGreatDoor.Lbl
open Go.RowKit Go.Shelf Go.Sort Url Org Cls Frm
attribute [local go_sem] Oper.semAt_some
set_option linter.unusedVariables false

theorem RB.two (w : World) (cs ds : Array Value) : RB (w.heap.size + 1) ds ((w.alloc (.cells cs 35)).alloc (.cells ds 35)) := by
  have := RB.new (w.alloc (.cells cs 35)) ds
  rw [World.size_alloc] at this
  exact this
theorem RB.three (w : World) (cs ds es : Array Value) : RB (w.heap.size + 2) es (((w.alloc (.cells cs 35)).alloc (.cells ds 35)).alloc (.cells es 35)) := by
  have := RB.new ((w.alloc (.cells cs 35)).alloc (.cells ds 35)) es
  rw [World.size_alloc, World.size_alloc] at this
  exact this
/-- A row as it is asked, out of what a label's side is. -/
theorem rowOk_of {w : World} {q : Option Addr} {n c : Nat} {f : List (List (List UInt8))} (h : RefIn w q n f) (hn : q = none → c = 0) : ∃ zs, RowOk w q n c zs ∧ f = zs.map Prod.snd := by
  obtain ⟨zs, h1, h2, h3⟩ := h
  exact ⟨zs, ⟨h1, h2, hn⟩, h3⟩
theorem refAnd_of (q1 : Option Addr) (n1 c1 : Nat) (f : List (List (List UInt8))) (q2 : Option Addr) (n2 c2 : Nat) (g : List (List (List UInt8))) (w : World) (h1 : RefIn w q1 n1 f) (h2 : RefIn w q2 n2 g) (z1 : q1 = none → c1 = 0) (z2 : q2 = none → c2 = 0) (l1 : f.length ≤ 16) (l2 : g.length ≤ 16) :
    Calls Tryz.prog 41 #[.slice q1 n1 c1, .slice q2 n2 c2] w (RefOut (andR f g) w) := by
  rw [h1.len] at l1
  rw [h2.len] at l2
  obtain ⟨zs1, r1, rfl⟩ := rowOk_of h1 z1
  obtain ⟨zs2, r2, rfl⟩ := rowOk_of h2 z2
  exact refAnd_any q1 n1 c1 zs1 q2 n2 c2 zs2 w r1 r2 l1 l2
theorem refOr_of (q1 : Option Addr) (n1 c1 : Nat) (f : List (List (List UInt8))) (q2 : Option Addr) (n2 c2 : Nat) (g : List (List (List UInt8))) (w : World) (h1 : RefIn w q1 n1 f) (h2 : RefIn w q2 n2 g) (z1 : q1 = none → c1 = 0) (z2 : q2 = none → c2 = 0) (l1 : f.length ≤ 16) (l2 : g.length ≤ 16) :
    Calls Tryz.prog 42 #[.slice q1 n1 c1, .slice q2 n2 c2] w (RefOut (orR f g) w) := by
  rw [h1.len] at l1
  rw [h2.len] at l2
  obtain ⟨zs1, r1, rfl⟩ := rowOk_of h1 z1
  obtain ⟨zs2, r2, rfl⟩ := rowOk_of h2 z2
  exact refOr_any q1 n1 c1 zs1 q2 n2 c2 zs2 w r1 r2 l1 l2
theorem refImpF_of (q1 : Option Addr) (n1 c1 : Nat) (f : List (List (List UInt8))) (q2 : Option Addr) (n2 c2 : Nat) (g : List (List (List UInt8))) (w : World) (h1 : RefIn w q1 n1 f) (h2 : RefIn w q2 n2 g) (z1 : q1 = none → c1 = 0) (z2 : q2 = none → c2 = 0) (l1 : f.length ≤ 16) (l2 : g.length ≤ 16) :
    Calls Tryz.prog 44 #[.slice q1 n1 c1, .slice q2 n2 c2] w fun e w' => e = .returned (.bool (impB f g)) ∧ w = w' := by
  rw [h1.len] at l1
  rw [h2.len] at l2
  obtain ⟨zs1, r1, rfl⟩ := rowOk_of h1 z1
  obtain ⟨zs2, r2, rfl⟩ := rowOk_of h2 z2
  exact refImpF_any q1 n1 c1 zs1 q2 n2 c2 zs2 w r1 r2 l1 l2

set_option maxRecDepth 100000 in
set_option maxHeartbeats 8000000 in
theorem refFlows_any (v1 v2 : Value) (l o : Lab) (w : World) (h1 : LabRef w v1 l) (h2 : LabRef w v2 o) (fl : Few l) (fo : Few o) :
    Calls Tryz.prog 21 #[v1, v2] w fun e w' => e = .returned (.bool (flowsB l o)) ∧ Below w.heap.size w w' := by
  obtain ⟨q1, n1, c1, q2, n2, c2, rfl, s1, i1, y1, y2⟩ := h1
  obtain ⟨q3, n3, c3, q4, n4, c4, rfl, s2, i2, y3, y4⟩ := h2
  obtain ⟨W, hW⟩ : ∃ W, (w.alloc (.cells #[.slice q1 n1 c1, .slice q2 n2 c2] 35)).alloc (.cells #[.slice q3 n3 c3, .slice q4 n4 c4] 35) = W := ⟨_, rfl⟩
  have A1 : Below w.heap.size w W := hW ▸ ((Below.refl _ w).alloc (Nat.le_refl _) _).alloc (by simp) _
  have b0 : RB w.heap.size #[.slice q1 n1 c1, .slice q2 n2 c2] W := hW ▸ (RB.new w _).on (below_alloc _)
  have b1 : RB (w.heap.size + 1) #[.slice q3 n3 c3, .slice q4 n4 c4] W := hW ▸ RB.two w _ _
  have x0 := b0.box 0 _ rfl
  have y0 := b1.box 0 _ rfl
  have x1 := b0.box 1 _ rfl
  have y1' := b1.box 1 _ rfl
  have con := refImpF_of q3 n3 c3 o.s q1 n1 c1 l.s W (s2.below A1) (s1.below A1) y3 y1 fo.1 fl.1
  have HC := Lib.hid (refImpF_of q2 n2 c2 l.i q4 n4 c4 o.i W (i1.below A1) (i2.below A1) y2 y4 fl.2 fo.2)
  have HF := Lib.hid (show flowsB l o = (impB o.s l.s && impB l.i o.i) from rfl)
  have HW := Lib.hid hW
  obtain ⟨A, hA⟩ : ∃ A, impB o.s l.s = A := ⟨_, rfl⟩
  rw [hA] at con HF
  clear hW s1 i1 s2 i2 fl fo hA b0 b1 y1 y2 y3 y4
  go_enter Tryz.func21, Tryz.ntmps21
  go_wp2_with fail
  rw [HW.out]
  refine con.mono ?_
  rintro e w2 ⟨rfl, rfl⟩
  clear con HW
  cases A with
  | false =>
    clear HC
    go_wp2
    go_ret
    exact ⟨by rw [HF.out]; rfl, A1⟩
  | true =>
    have con := HC.out
    go_wp2_with fail
    refine con.mono ?_
    rintro e w3 ⟨rfl, rfl⟩
    clear con
    go_wp2
    go_ret
    exact ⟨by rw [HF.out]; rfl, A1⟩

/-- A label of the document's and no error, or none and one; what is told lies in new memory. -/
def RLabOut (r : Sum Int Lab) (w : World) (e : Ending) (w' : World) : Prop :=
  ∃ q1 n1 c1 q2 n2 c2, e = .returned (.tuple #[.agg #[.slice q1 n1 c1, .slice q2 n2 c2], .int .i64 (labE r)]) ∧ LabRef w' (.agg #[.slice q1 n1 c1, .slice q2 n2 c2]) (labV r) ∧ Below w.heap.size w w'
theorem rlabOut_open {w w' : World} (n : Int) (h : Below w.heap.size w w') : RLabOut (.inl n) w (.returned (.tuple #[.agg #[.slice none 0 0, .slice none 0 0], .int .i64 n])) w' :=
  ⟨none, 0, 0, none, 0, 0, rfl, ⟨_, _, _, _, _, _, rfl, refIn_nil _ _, refIn_nil _ _, fun _ => rfl, fun _ => rfl⟩, h⟩

set_option maxRecDepth 100000 in
set_option maxHeartbeats 16000000 in
theorem refJoin_any (v1 v2 : Value) (l o : Lab) (w : World) (h1 : LabRef w v1 l) (h2 : LabRef w v2 o) (fl : Few l) (fo : Few o) :
    Calls Tryz.prog 17 #[v1, v2] w (RLabOut (joinR l o) w) := by
  obtain ⟨q1, n1, c1, q2, n2, c2, rfl, s1, i1, y1, y2⟩ := h1
  obtain ⟨q3, n3, c3, q4, n4, c4, rfl, s2, i2, y3, y4⟩ := h2
  obtain ⟨W, hW⟩ : ∃ W, ((w.alloc (.cells #[.slice q1 n1 c1, .slice q2 n2 c2] 35)).alloc (.cells #[.slice q3 n3 c3, .slice q4 n4 c4] 35)).alloc (.cells #[.slice none 0 0, .slice none 0 0] 35) = W := ⟨_, rfl⟩
  have A1 : Below w.heap.size w W := hW ▸ (((Below.refl _ w).alloc (Nat.le_refl _) _).alloc (by simp) _).alloc (by simp; omega) _
  have b0 : RB w.heap.size #[.slice q1 n1 c1, .slice q2 n2 c2] W := hW ▸ ((RB.new w _).on (below_alloc _)).on (below_alloc _)
  have b1 : RB (w.heap.size + 1) #[.slice q3 n3 c3, .slice q4 n4 c4] W := hW ▸ (RB.two w _ _).on (below_alloc _)
  have b8 : RB (w.heap.size + 2) #[.slice none 0 0, .slice none 0 0] W := hW ▸ RB.three w _ _ _
  have HSZ := Lib.hid (show W.heap.size = w.heap.size + 3 by rw [← hW]; simp)
  have x0 := b0.box 0 _ rfl
  have y0 := b1.box 0 _ rfl
  have con := refAnd_of q1 n1 c1 l.s q3 n3 c3 o.s W (s1.below A1) (s2.below A1) y1 y3 fl.1 fo.1
  have HC := Lib.hid (fun X (hb : Below w.heap.size w X) => refOr_of q2 n2 c2 l.i q4 n4 c4 o.i X (i1.below hb) (i2.below hb) y2 y4 fl.2 fo.2)
  have HE1 := Lib.hid (and_err3 l.s o.s)
  have HE2 := Lib.hid (or_err3 l.i o.i)
  have HR := Lib.hid (show joinR l o = bothR (andR l.s o.s) (orR l.i o.i) from rfl)
  have HW := Lib.hid hW
  obtain ⟨r1, hr1⟩ : ∃ r, andR l.s o.s = r := ⟨_, rfl⟩
  obtain ⟨r2, hr2⟩ : ∃ r, orR l.i o.i = r := ⟨_, rfl⟩
  rw [hr1] at con HE1 HR
  rw [hr2] at HC HE2 HR
  rw [HR.out]
  clear hW s1 i1 s2 i2 fl fo hr1 hr2 HR y1 y2 y3 y4
  go_enter Tryz.func17, Tryz.ntmps17
  go_wp2_with fail
  rw [HW.out]
  refine con.mono ?_
  rintro e w2 ⟨q5, n5, c5, rfl, f5, k5, z5, hb⟩
  have A2 := A1.trans (hb.mono A1.size)
  replace b0 := b0.on hb
  replace b1 := b1.on hb
  replace b8 := b8.on hb
  have K5 := Lib.hid (show ∀ a, q5 = some a → w.heap.size + 2 < a.block from fun a h => by have := k5 a h; have := HSZ.out; omega)
  have Z5 := Lib.hid z5
  have HS2 := Lib.hid hb.size
  clear con hb x0 y0 A1 HW k5 z5
  cases r1 with
  | inl en =>
    obtain rfl : en = 3 := HE1.out en rfl
    have kf0 := b8.frozen 0
    have kf1 := b8.frozen 1
    have z0 := b8.box 0 _ rfl
    have z1 := b8.box 1 _ rfl
    obtain ⟨Y, hY, bY, _, hBY⟩ := b8.put (.slice none 0 0) (.slice none 0 0)
    have A4 := A2.trans (hBY _ (by omega))
    have HY := Lib.hid hY
    clear hY f5 b0 b1 HC
    unfold frmE
    go_wp2
    rw [HY.out]
    refine bodyPost_ret (ret_ref2 rfl _ _ (w.heap.size + 2) _ rfl bY rfl) rfl ?_
    exact rlabOut_open 3 A4
  | inr s =>
    replace f5 : RefIn w2 q5 n5 s := f5
    have x1 := b0.box 1 _ rfl
    have y1 := b1.box 1 _ rfl
    have con := HC.out _ A2
    have B8 := Lib.hid (show w.heap.size + 2 < w2.heap.size by have := HSZ.out; have := HS2.out; omega)
    clear HC HE1
    unfold frmE
    go_wp2_with fail
    refine con.mono ?_
    rintro e w4 ⟨q6, n6, c6, rfl, f6, k6, z6, hb⟩
    have A4 := A2.trans (hb.mono A2.size)
    replace b8 := b8.on hb
    replace f5 := f5.below hb
    have K6 := Lib.hid (show ∀ a, q6 = some a → w.heap.size + 2 < a.block from fun a h => by have h1 := k6 a h; have h4 := B8.out; omega)
    have Z6 := Lib.hid z6
    have kf0 := b8.frozen 0
    have kf1 := b8.frozen 1
    have z0 := b8.box 0 _ rfl
    have z1 := b8.box 1 _ rfl
    clear con hb b0 b1 x1 y1 k6 z6
    cases r2 with
    | inl en =>
      obtain rfl : en = 3 := HE2.out en rfl
      obtain ⟨Y, hY, bY, _, hBY⟩ := b8.put (.slice none 0 0) (.slice none 0 0)
      have A6 := A4.trans (hBY _ (by omega))
      have HY := Lib.hid hY
      clear hY f5 f6
      unfold frmE
      go_wp2
      rw [HY.out]
      refine bodyPost_ret (ret_ref2 rfl _ _ (w.heap.size + 2) _ rfl bY rfl) rfl ?_
      exact rlabOut_open 3 A6
    | inr i =>
      replace f6 : RefIn w4 q6 n6 i := f6
      obtain ⟨Y, hY, bY, hkY, hBY⟩ := b8.put (.slice q5 n5 c5) (.slice q6 n6 c6)
      have A6 := A4.trans (hBY _ (by omega))
      have g5 := RefIn.off f5 b8 (fun a h h0 => by have := K5.out a h; omega) (hkY _ (by simp))
      have g6 := RefIn.off f6 b8 (fun a h h0 => by have := K6.out a h; omega) (hkY _ (by simp))
      have HY := Lib.hid hY
      clear hY f5 f6
      unfold frmE
      go_wp2
      rw [HY.out]
      refine bodyPost_ret (ret_ref2 rfl _ _ (w.heap.size + 2) _ rfl bY rfl) rfl ?_
      exact ⟨q5, n5, c5, q6, n6, c6, rfl, ⟨_, _, _, _, _, _, rfl, g5, g6, Z5.out, Z6.out⟩, A6⟩

set_option maxRecDepth 100000 in
set_option maxHeartbeats 16000000 in
theorem refMeet_any (v1 v2 : Value) (l o : Lab) (w : World) (h1 : LabRef w v1 l) (h2 : LabRef w v2 o) (fl : Few l) (fo : Few o) :
    Calls Tryz.prog 19 #[v1, v2] w (RLabOut (meetR l o) w) := by
  obtain ⟨q1, n1, c1, q2, n2, c2, rfl, s1, i1, y1, y2⟩ := h1
  obtain ⟨q3, n3, c3, q4, n4, c4, rfl, s2, i2, y3, y4⟩ := h2
  obtain ⟨W, hW⟩ : ∃ W, ((w.alloc (.cells #[.slice q1 n1 c1, .slice q2 n2 c2] 35)).alloc (.cells #[.slice q3 n3 c3, .slice q4 n4 c4] 35)).alloc (.cells #[.slice none 0 0, .slice none 0 0] 35) = W := ⟨_, rfl⟩
  have A1 : Below w.heap.size w W := hW ▸ (((Below.refl _ w).alloc (Nat.le_refl _) _).alloc (by simp) _).alloc (by simp; omega) _
  have b0 : RB w.heap.size #[.slice q1 n1 c1, .slice q2 n2 c2] W := hW ▸ ((RB.new w _).on (below_alloc _)).on (below_alloc _)
  have b1 : RB (w.heap.size + 1) #[.slice q3 n3 c3, .slice q4 n4 c4] W := hW ▸ (RB.two w _ _).on (below_alloc _)
  have b8 : RB (w.heap.size + 2) #[.slice none 0 0, .slice none 0 0] W := hW ▸ RB.three w _ _ _
  have HSZ := Lib.hid (show W.heap.size = w.heap.size + 3 by rw [← hW]; simp)
  have x0 := b0.box 0 _ rfl
  have y0 := b1.box 0 _ rfl
  have con := refOr_of q1 n1 c1 l.s q3 n3 c3 o.s W (s1.below A1) (s2.below A1) y1 y3 fl.1 fo.1
  have HC := Lib.hid (fun X (hb : Below w.heap.size w X) => refAnd_of q2 n2 c2 l.i q4 n4 c4 o.i X (i1.below hb) (i2.below hb) y2 y4 fl.2 fo.2)
  have HE1 := Lib.hid (or_err3 l.s o.s)
  have HE2 := Lib.hid (and_err3 l.i o.i)
  have HR := Lib.hid (show meetR l o = bothR (orR l.s o.s) (andR l.i o.i) from rfl)
  have HW := Lib.hid hW
  obtain ⟨r1, hr1⟩ : ∃ r, orR l.s o.s = r := ⟨_, rfl⟩
  obtain ⟨r2, hr2⟩ : ∃ r, andR l.i o.i = r := ⟨_, rfl⟩
  rw [hr1] at con HE1 HR
  rw [hr2] at HC HE2 HR
  rw [HR.out]
  clear hW s1 i1 s2 i2 fl fo hr1 hr2 HR y1 y2 y3 y4
  go_enter Tryz.func19, Tryz.ntmps19
  go_wp2_with fail
  rw [HW.out]
  refine con.mono ?_
  rintro e w2 ⟨q5, n5, c5, rfl, f5, k5, z5, hb⟩
  have A2 := A1.trans (hb.mono A1.size)
  replace b0 := b0.on hb
  replace b1 := b1.on hb
  replace b8 := b8.on hb
  have K5 := Lib.hid (show ∀ a, q5 = some a → w.heap.size + 2 < a.block from fun a h => by have := k5 a h; have := HSZ.out; omega)
  have Z5 := Lib.hid z5
  have HS2 := Lib.hid hb.size
  clear con hb x0 y0 A1 HW k5 z5
  cases r1 with
  | inl en =>
    obtain rfl : en = 3 := HE1.out en rfl
    have kf0 := b8.frozen 0
    have kf1 := b8.frozen 1
    have z0 := b8.box 0 _ rfl
    have z1 := b8.box 1 _ rfl
    obtain ⟨Y, hY, bY, _, hBY⟩ := b8.put (.slice none 0 0) (.slice none 0 0)
    have A4 := A2.trans (hBY _ (by omega))
    have HY := Lib.hid hY
    clear hY f5 b0 b1 HC
    unfold frmE
    go_wp2
    rw [HY.out]
    refine bodyPost_ret (ret_ref2 rfl _ _ (w.heap.size + 2) _ rfl bY rfl) rfl ?_
    exact rlabOut_open 3 A4
  | inr s =>
    replace f5 : RefIn w2 q5 n5 s := f5
    have x1 := b0.box 1 _ rfl
    have y1 := b1.box 1 _ rfl
    have con := HC.out _ A2
    have B8 := Lib.hid (show w.heap.size + 2 < w2.heap.size by have := HSZ.out; have := HS2.out; omega)
    clear HC HE1
    unfold frmE
    go_wp2_with fail
    refine con.mono ?_
    rintro e w4 ⟨q6, n6, c6, rfl, f6, k6, z6, hb⟩
    have A4 := A2.trans (hb.mono A2.size)
    replace b8 := b8.on hb
    replace f5 := f5.below hb
    have K6 := Lib.hid (show ∀ a, q6 = some a → w.heap.size + 2 < a.block from fun a h => by have h1 := k6 a h; have h4 := B8.out; omega)
    have Z6 := Lib.hid z6
    have kf0 := b8.frozen 0
    have kf1 := b8.frozen 1
    have z0 := b8.box 0 _ rfl
    have z1 := b8.box 1 _ rfl
    clear con hb b0 b1 x1 y1 k6 z6
    cases r2 with
    | inl en =>
      obtain rfl : en = 3 := HE2.out en rfl
      obtain ⟨Y, hY, bY, _, hBY⟩ := b8.put (.slice none 0 0) (.slice none 0 0)
      have A6 := A4.trans (hBY _ (by omega))
      have HY := Lib.hid hY
      clear hY f5 f6
      unfold frmE
      go_wp2
      rw [HY.out]
      refine bodyPost_ret (ret_ref2 rfl _ _ (w.heap.size + 2) _ rfl bY rfl) rfl ?_
      exact rlabOut_open 3 A6
    | inr i =>
      replace f6 : RefIn w4 q6 n6 i := f6
      obtain ⟨Y, hY, bY, hkY, hBY⟩ := b8.put (.slice q5 n5 c5) (.slice q6 n6 c6)
      have A6 := A4.trans (hBY _ (by omega))
      have g5 := RefIn.off f5 b8 (fun a h h0 => by have := K5.out a h; omega) (hkY _ (by simp))
      have g6 := RefIn.off f6 b8 (fun a h h0 => by have := K6.out a h; omega) (hkY _ (by simp))
      have HY := Lib.hid hY
      clear hY f5 f6
      unfold frmE
      go_wp2
      rw [HY.out]
      refine bodyPost_ret (ret_ref2 rfl _ _ (w.heap.size + 2) _ rfl bY rfl) rfl ?_
      exact ⟨q5, n5, c5, q6, n6, c6, rfl, ⟨_, _, _, _, _, _, rfl, g5, g6, Z5.out, Z6.out⟩, A6⟩

end Go.Proofs.YtdlofjcblcpgpaaGreatDoor.Lbl
