/- What these laws want besides. Conditions: as each says. -/
import Derived.Test.YtedglpfdibamdaaGreatDoorBaseF
import Derived.Test.YtedglpfdibamdaaGreatDoorCards
import Derived.Test.YtedglpfdibamdaaGreatDoorTie
import Derived.ProofKit
import Derived.OpenShut
import Derived.ShutString
import Derived.ChangeOld
import Derived.Deep.DeepHandedRow
import Derived.Lib.LaidTab
import Derived.Stop.LaidErr
import Derived.LaidMore
import Derived.Lay
namespace Go.Proofs.YtedglpfdibamdaaGreatDoor
theorem cmpL_neg {α : Type} [LT α] [DecidableEq α] [DecidableLT α] [LE α] [Std.IsLinearOrder α] [Std.LawfulOrderLT α] : ∀ xs ys : List α, cmpL xs ys = -cmpL ys xs
  | [], [] => rfl
  | [], _ :: _ => rfl
  | _ :: _, [] => rfl
  | x :: xs, y :: ys => by
    unfold cmpL
    by_cases h : x < y
    · rw [if_pos h, if_neg (lin_asym h), if_pos h]
    · by_cases k : y < x
      · rw [if_neg h, if_pos k, if_pos k]; rfl
      · rw [if_neg h, if_neg k, if_neg k, if_neg h, cmpL_neg xs ys]
theorem cmpL_eq {α : Type} [LT α] [DecidableEq α] [DecidableLT α] [LE α] [Std.IsLinearOrder α] [Std.LawfulOrderLT α] : ∀ xs ys : List α, cmpL xs ys = 0 ↔ xs = ys
  | [], [] => by simp [cmpL]
  | [], _ :: _ => by simp [cmpL]
  | _ :: _, [] => by simp [cmpL]
  | x :: xs, y :: ys => by
    unfold cmpL
    by_cases h : x < y
    · rw [if_pos h]; simp; intro e; exact absurd e (lin_ne h)
    · by_cases k : y < x
      · rw [if_neg h, if_pos k]; simp; intro e; exact absurd e.symm (lin_ne k)
      · rw [if_neg h, if_neg k, cmpL_eq xs ys, lin_eq h k]; simp
end Go.Proofs.YtedglpfdibamdaaGreatDoor
namespace Go.Proofs.YtedglpfdibamdaaGreatDoor.policyPlain
open Go.ChangeShapes Go.WideShapes Go.ChangeAt Go.RowKit
set_option linter.unusedVariables false
theorem own : ownKnob Tryz.prog.godebug = none := by kernel_rfl
theorem laidOut : laidOutB Tryz.prog = true := by kernel_rfl
theorem gTab : Tryz.prog.globalNamed "internal/strconv.uint64pow10" = some 1 := by kernel_rfl
def IsRow (k : IntKind) (w : World) (a : Option Addr) (len cap : Nat) (zs : List Int) : Prop :=
  (a = none ∧ len = 0 ∧ cap = 0 ∧ zs = []) ∨
  ∃ x, a = some x ∧ len ≤ cap ∧ cap ≤ maxLen ∧ zs.length = cap ∧ (∀ i, i < zs.length → w.cell? (x.add i) = some (.int k (zs.getD i 0))) ∧ ∀ n ∈ zs, (Lit.int k n).wf = true
def Walks : Prop := ∀ (a0 : Option Addr) (len0 cap0 : Nat) (z0 : List Int) (a1 : Option Addr) (len1 cap1 : Nat) (z1 : List Int) (w : World), IsRow .u8 w a0 len0 cap0 z0 → IsRow .u8 w a1 len1 cap1 z1 → Url.Gl w →
  Calls Tryz.prog 3 #[.slice a0 len0 cap0, .slice a1 len1 cap1] w fun e w' => e = .returned (.bool true) ∧ Below w.heap.size w w'
theorem gl {W : World} (hL : laidMetH Tryz.prog Rows.policyPlainRow.laid W) (hsh : W.ShapedOpen Tryz.prog) : Url.Gl W := by
  refine ⟨?_, ?_⟩
  · exact cell_of_shapedOpen_int (t := 3) (zero := #[.int .i64 0]) hsh (by decide +kernel) (by kernel_rfl) rfl (by kernel_rfl) (by kernel_rfl) (by kernel_rfl)
  · have hL' : laidMet Tryz.prog Rows.policyPlainRow.laid W := by
      rw [MakeChecks.laidMetH_plain _ _ _ (by kernel_rfl)] at hL; exact hL
    exact Lib.tabIs_of_head (rest := [("unicode/utf8.acceptRanges", Rows.laid_unicode_utf8_acceptRanges), ("unicode/utf8.first", Rows.laid_unicode_utf8_first)]) (t := 224) (e := 189) (n := 20) (k := .u64) (zs := Lib.pow10Tab) (g := 1) gTab (by kernel_rfl) (by kernel_rfl) (by kernel_rfl) (by kernel_rfl) (by kernel_rfl) (show laidMet Tryz.prog [("internal/strconv.uint64pow10", Lib.tabData .u64 Lib.pow10Tab), ("unicode/utf8.acceptRanges", Rows.laid_unicode_utf8_acceptRanges), ("unicode/utf8.first", Rows.laid_unicode_utf8_first)] W from hL'.tail.tail)
set_option maxRecDepth 100000 in
theorem contract (hw : Walks) (H : Type) (enc : TypeId × Value → H) (W : World) (base : Nat) (args : Array Value) (ds gs : List (DataW H)) (before : List MemPlace)
    (hval0 : ∀ (j : Nat) t v, Tryz.f3.params[j]? = some t → args[j]? = some v → Value.okWide Tryz.prog W .any base t v)
    (hW : DataW.Whole enc Tryz.prog Tryz.f3.params.toList Rows.policyPlainSpec.vars false W args.toList ds gs before) (hL : laidMetH Tryz.prog Rows.policyPlainRow.laid W) (hsh : W.ShapedOpen Tryz.prog) :
    Calls Tryz.prog 3 args W fun e W' => ∃ v, e = .returned v ∧ Rows.policyPlainSpec.post enc Tryz.prog Tryz.f3 false true false false W args v W' := by
  have hval : ∀ (j : Nat) t v, Tryz.f3.params[j]? = some t → args[j]? = some v → Value.okWide Tryz.prog W .any base t v := hval0
  have hW' := hW
  obtain ⟨p, q, hA0, hV, rfl, hfz, hnd⟩ := hW
  have hA : DataW.TrodAll enc Tryz.prog W 0 (fun _ => true) true Tryz.f3.params.toList args.toList ds p := hA0
  rw [Tryz.params3] at hA hval
  obtain ⟨v0, vs0, d0, ds0, p0, q0, hargs, rfl, rfl, h0, r0⟩ := trodAll_cons hA
  obtain ⟨v1, vs1, d1, ds1, p1, q1, rfl, rfl, rfl, h1, r1⟩ := trodAll_cons r0
  obtain ⟨rfl, rfl, rfl⟩ := trodAll_nil r1
  obtain rfl : args = #[v0, v1] := by cases args; simp_all
  obtain ⟨rfl, rfl⟩ := trodVars_none hV
  obtain ⟨a0, len0, cap0, rfl⟩ := okWide_slice Tryz.underlying22 (hval 0 22 v0 rfl rfl)
  have k0 := h0
  have lt0 : ∀ x ∈ p0, x.block < W.heap.size := by obtain ⟨m, hm⟩ := k0; exact DataW.trod_lt m _ _ _ hm
  obtain ⟨z0, w0⟩ : ∃ zs, IsRow .u8 W a0 len0 cap0 zs := by
    obtain ⟨fuel, hf⟩ := h0
    rcases open_ints Tryz.underlying22 Tryz.underlying5 (by kernel_rfl) hf with ⟨hcs, _⟩ | ⟨x, l, c, zs, hcs, _, hl, hm, hz, _, hcell, hwz⟩
    · simp [Value.cells] at hcs
      obtain ⟨rfl, rfl, rfl⟩ := hcs
      exact ⟨[], .inl ⟨rfl, rfl, rfl, rfl⟩⟩
    · simp [Value.cells] at hcs
      obtain ⟨rfl, rfl, rfl⟩ := hcs
      exact ⟨zs, .inr ⟨_, rfl, hl, hm, by simpa using hz, hcell, hwz⟩⟩
  obtain ⟨a1, len1, cap1, rfl⟩ := okWide_slice Tryz.underlying22 (hval 1 22 v1 rfl rfl)
  have k1 := h1
  have lt1 : ∀ x ∈ p1, x.block < W.heap.size := by obtain ⟨m, hm⟩ := k1; exact DataW.trod_lt m _ _ _ hm
  obtain ⟨z1, w1⟩ : ∃ zs, IsRow .u8 W a1 len1 cap1 zs := by
    obtain ⟨fuel, hf⟩ := h1
    rcases open_ints Tryz.underlying22 Tryz.underlying5 (by kernel_rfl) hf with ⟨hcs, _⟩ | ⟨x, l, c, zs, hcs, _, hl, hm, hz, _, hcell, hwz⟩
    · simp [Value.cells] at hcs
      obtain ⟨rfl, rfl, rfl⟩ := hcs
      exact ⟨[], .inl ⟨rfl, rfl, rfl, rfl⟩⟩
    · simp [Value.cells] at hcs
      obtain ⟨rfl, rfl, rfl⟩ := hcs
      exact ⟨zs, .inr ⟨_, rfl, hl, hm, by simpa using hz, hcell, hwz⟩⟩
  clear hA0 hval0
  refine (hw a0 len0 cap0 z0 a1 len1 cap1 z1 W w0 w1 (gl hL hsh)).mono fun e W' ⟨he, bel⟩ => ?_
  subst he
  exact ⟨_, rfl, _, _, _, [], _, [], hW', trodAll_mk1 (shut_bool Tryz.underlying4 _), (trodAll_cons_mk (Below.trod laidOut (by kernel_rfl) (of_decide_eq_true (by kernel_rfl)) k0 bel lt0) (trodAll_cons_mk (Below.trod laidOut (by kernel_rfl) (of_decide_eq_true (by kernel_rfl)) k1 bel lt1) trodAll_mk0)), rfl, bel.frame _, fun h => by cases h⟩
theorem door_met (os : Os) : laidMet Tryz.prog Rows.policyPlainRow.laid ((World.laidAll Tryz.prog os Rows.policyPlainRow.laid).forCall (fun _ _ => 0) ⟨#[], #[.slice none 0 0, .slice none 0 0], []⟩).memory :=
  laidMet_laidAll _ (by kernel_rfl) (by kernel_rfl)
theorem reads (os : Os) {H : Type} (enc : TypeId × Value → H) : ∃ places, DataW.whole enc Tryz.prog ((World.laidAll Tryz.prog os Rows.policyPlainRow.laid).forCall (fun _ _ => 0) ⟨#[], #[.slice none 0 0, .slice none 0 0], []⟩).memory Tryz.f3.params.toList Rows.policyPlainSpec.vars false #[Value.slice none 0 0, Value.slice none 0 0].toList 8 = some ([.nil, .nil], [], places) :=
  ⟨[], by kernel_rfl⟩
set_option maxRecDepth 100000 in
theorem lifted (hw : Walks) (os : Os) (started : os.Started) (H : Type) (enc : TypeId × Value → H) (F : Stop.Interp) :
    ReturnsInHanded {} Tryz.checked os 3 .any ((OpenSpec.ofChange Rows.policyPlainSpec).preRow enc Tryz.prog Tryz.f3 Rows.policyPlainRow.domain false Rows.policyPlainRow.laid) (((OpenSpec.ofChange Rows.policyPlainSpec).at F).post enc Tryz.prog Tryz.f3 false true false false) := by
  obtain ⟨places, hx⟩ := reads os enc
  refine returnsInHanded_of_row (C := Tryz.checked) (s := OpenSpec.ofChange Rows.policyPlainSpec) own started (by kernel_rfl) Tryz.func3
    (witness_row_at (enc := enc) (C := Tryz.checked) false (World.laidAll Tryz.prog os Rows.policyPlainRow.laid) #[.slice none 0 0, .slice none 0 0] (World.laidAll_os _ _ _) (by kernel_rfl) (by kernel_rfl) (by kernel_rfl)
      (OpenSpec.preRow_of_cond 8 hx (by kernel_rfl) (fun k hk => by cases hk) (by kernel_rfl) (door_met os))) ?_
  intro W base args ds gs before hval hW _ _ _ hL hsh _
  exact contract hw H enc W base args ds gs before hval hW hL hsh
theorem said (hw : Walks) : Rows.PolicyPlainSaid :=
  OpenClaim.holds_of_cond 3 Tryz.f3 rfl rfl rfl rfl rfl rfl rfl ⟨rfl, rfl, rfl, rfl, rfl⟩ rfl rfl rfl rfl rfl (by kernel_rfl) Tryz.func3 (by kernel_rfl)
    (of_decide_eq_true (by kernel_rfl)) (by unfold Func.isWrapper; first | (rw [if_pos (by decide +kernel)]; kernel_rfl) | (rw [if_neg (by decide +kernel)]; exact ⟨rfl, rfl⟩))
    (fun os started H enc _ F => by rw [OpenClaim.pre_eq_preRow]; exact lifted hw os started H enc F)
theorem plain (f : FuncId) (fn : Func) (hf : Tryz.pinned.checked.prog.funcNamed "cordon/cordonlaw12.PolicyPlain" = some f) (hfn : Tryz.pinned.checked.prog.funcs[f]? = some fn) :
    false = Tryz.pinned.checked.prog.looks [] ∧ ∀ (j : Nat) t, fn.params[j]? = some t → Tryz.pinned.checked.prog.wantsStandIn t = false := by
  obtain rfl : f = 3 := Option.some.inj ((show Tryz.prog.funcNamed "cordon/cordonlaw12.PolicyPlain" = some 3 by kernel_rfl).symm.trans hf) |>.symm
  obtain rfl : fn = Tryz.f3 := (Option.some.inj (Tryz.func3.symm.trans hfn)).symm
  refine ⟨by kernel_rfl, fun j t ht => ?_⟩
  rw [Tryz.params3] at ht
  obtain rfl : t = 22 := by simpa using Array.mem_of_getElem? ht
  exact (show Tryz.prog.wantsStandIn 22 = false by kernel_rfl)
theorem card (hw : Walks) : Rows.PolicyPlainCardSaid :=
  Claim7.holds_tied_plain_at .later [] _ _ _ _ (said hw) (fun _ h => by cases h) (by kernel_rfl) (fun _ h => by cases h) policyPlain_row_tie rfl ⟨rfl, rfl⟩ (by kernel_rfl) rfl plain (by kernel_rfl)
end Go.Proofs.YtedglpfdibamdaaGreatDoor.policyPlain
namespace Go.Proofs.YtedglpfdibamdaaGreatDoor.Frm
set_option linter.unusedVariables false
def holdsB {α : Type} (f : List (List α)) (S : α → Bool) : Bool := f.all fun c => c.any S
theorem imp_iff {α : Type} [DecidableEq α] (f g : List (List α)) : impB f g = true ↔ ∀ c ∈ g, ∃ x ∈ f, ∀ p ∈ x, p ∈ c := by
  unfold impB
  rw [List.all_eq_true]
  constructor
  · intro h c hc
    obtain ⟨x, hx, hs⟩ := List.any_eq_true.1 (h c hc)
    exact ⟨x, hx, (subB_iff x c).1 hs⟩
  · intro h c hc
    obtain ⟨x, hx, hs⟩ := h c hc
    exact List.any_eq_true.2 ⟨x, hx, (subB_iff x c).2 hs⟩
theorem holds_iff {α : Type} (f : List (List α)) (S : α → Bool) : holdsB f S = true ↔ ∀ c ∈ f, ∃ p ∈ c, S p = true := by
  unfold holdsB
  rw [List.all_eq_true]
  exact ⟨fun h c hc => List.any_eq_true.1 (h c hc), fun h c hc => List.any_eq_true.2 (h c hc)⟩
theorem imp_means {α : Type} [DecidableEq α] (f g : List (List α)) : impB f g = true ↔ ∀ S : α → Bool, holdsB f S = true → holdsB g S = true := by
  rw [imp_iff]
  constructor
  · intro h S hf
    rw [holds_iff] at hf ⊢
    intro c hc
    obtain ⟨x, hx, hs⟩ := h c hc
    obtain ⟨p, hp, h1⟩ := hf x hx
    exact ⟨p, hs p hp, h1⟩
  · intro h c hc
    refine Decidable.byContradiction fun hno => ?_
    have h1 := h (fun p => !c.contains p) ((holds_iff f _).2 fun x hx => ?_)
    · obtain ⟨p, hp, h2⟩ := (holds_iff g _).1 h1 c hc
      rw [Bool.not_eq_true', ← Bool.not_eq_true] at h2
      exact h2 (List.contains_iff_mem.2 hp)
    · refine Decidable.byContradiction fun hn => hno ⟨x, hx, fun p hp => ?_⟩
      refine Decidable.byContradiction fun hpc => hn ⟨p, hp, ?_⟩
      rw [Bool.not_eq_true', ← Bool.not_eq_true]
      exact fun h => hpc (List.contains_iff_mem.1 h)
end Go.Proofs.YtedglpfdibamdaaGreatDoor.Frm
namespace Go.Proofs.YtedglpfdibamdaaGreatDoor.Frm
set_option linter.unusedVariables false
theorem imp_refl (f : List (List (List UInt8))) : impB f f = true := (imp_means f f).2 fun _ h => h
end Go.Proofs.YtedglpfdibamdaaGreatDoor.Frm
namespace Go.Proofs.YtedglpfdibamdaaGreatDoor.S
open Go.RowKit Go.Shelf
attribute [local go_sem] Oper.semAt_some
theorem Cmp_any (v1 v2 : Value) (xs ys : List (List UInt8)) (w : World) (h1 : SetIs encStr w v1 xs) (h2 : SetIs encStr w v2 ys) :
    Calls Tryz.prog 58 #[v1, v2] w fun e w' => e = .returned (.int .i64 (cmpL xs ys)) ∧ Below w.heap.size w w' := by
  obtain ⟨q1, n1, c1, rfl, _, hn1, hs1, _⟩ := h1
  obtain ⟨q2, n2, c2, rfl, _, hn2, hs2, _⟩ := h2
  have con := Compare_any q1 q2 n1 c1 n2 c2 xs ys _ ((hs1.alloc (.cells #[.slice q1 n1 c1] 75)).alloc (.cells #[.slice q2 n2 c2] 75)) ((hs2.alloc _).alloc _) hn1 hn2
  clear hs1 hs2
  generalize cmpL xs ys = r at con ⊢
  go_enter Tryz.func58, Tryz.ntmps58
  go_wp2_with fail
  refine con.mono ?_
  rintro e w' ⟨rfl, rfl⟩
  go_wp2
  go_ret
  exact ⟨rfl, (below_alloc _).trans ((below_alloc _).mono (by simp))⟩
end Go.Proofs.YtedglpfdibamdaaGreatDoor.S
namespace Go.Proofs.YtedglpfdibamdaaGreatDoor.Hdr
open Go.RowKit Go.Shelf Url
set_option linter.unusedVariables false
def pB (r : Sum Int (List Fld × List UInt8)) : List UInt8 := match r with | .inl _ => [] | .inr x => x.2
end Go.Proofs.YtedglpfdibamdaaGreatDoor.Hdr
namespace Go.Proofs.YtedglpfdibamdaaGreatDoor.Pol
open Url Org Frm Cls
set_option linter.unusedVariables false
theorem of_nil (o : QO) : ofP [] o = .inr (plainP o) := by
  have h : (impB (ownF o) (ownF o) && flowsB ⟨[], []⟩ ⟨[[]], []⟩) = true := by
    rw [imp_refl]; decide
  show (if (impB (ownF o) (ownF o) && flowsB ⟨[], []⟩ ⟨[[]], []⟩) = true then (Sum.inr ⟨⟨[], []⟩, ⟨[], []⟩, ⟨[[]], []⟩, ownF o, [allS], [allS]⟩ : Sum Int PolP) else .inl 17) = _
  rw [if_pos h]; rfl
theorem all_allows (own o : QO) : allowsB [allS] own o = decide ((partsQ o).2.2 = 0) := by
  show (allowB allS own o || false) = _
  rw [Bool.or_false]
  unfold allowB
  rw [show srcP allS = (1, (none, [])) from rfl]
  rfl
end Go.Proofs.YtedglpfdibamdaaGreatDoor.Pol
namespace Go.Proofs.YtedglpfdibamdaaGreatDoor.Cls
open Go.RowKit Go.Shelf Url Org Frm
attribute [local go_sem] Oper.semAt_some
set_option maxHeartbeats 1000000 in
theorem Cmp_any (v1 v2 : Value) (x y : List (List UInt8)) (w : World) (h1 : SetIs encStr w v1 x) (h2 : SetIs encStr w v2 y) :
    Calls Tryz.prog 33 #[v1, v2] w fun e w' => e = .returned (.int .i64 (cmpL x y)) ∧ Below w.heap.size w w' := by
  obtain ⟨q1, n1, c1, rfl⟩ := set_form h1
  obtain ⟨q2, n2, c2, rfl⟩ := set_form h2
  have A1 := below_alloc (w := w) (.cells #[.slice q1 n1 c1] 77)
  have A2 := A1.trans ((below_alloc (w := w.alloc (.cells #[.slice q1 n1 c1] 77)) (.cells #[.slice q2 n2 c2] 77)).mono A1.size)
  have con := S.Cmp_any _ _ x y _ (h1.below A2) (h2.below A2)
  clear h1 h2
  go_enter Tryz.func33, Tryz.ntmps33
  go_wp2_with fail
  refine con.mono ?_
  rintro e w' ⟨rfl, hb⟩
  go_wp2
  go_ret
  exact ⟨rfl, A2.trans (hb.mono A2.size)⟩
end Go.Proofs.YtedglpfdibamdaaGreatDoor.Cls
namespace Go.Proofs.YtedglpfdibamdaaGreatDoor.Frm
open Go.RowKit Go.Shelf Go.Sort Url Org Cls
attribute [local go_sem] Oper.semAt_some
set_option linter.unusedVariables false
theorem take_eq {α : Type} (xs ys : List α) (k : Nat) (x y : α) (hx : xs[k]? = some x) (hy : ys[k]? = some y) (h : xs.take k = ys.take k) (e : x = y) : xs.take (k + 1) = ys.take (k + 1) := by
  rw [(take_snoc xs k x hx).1, (take_snoc ys k y hy).1, h, e]
set_option maxRecDepth 100000 in
set_option maxHeartbeats 8000000 in
theorem CompareFunc_any (q1 q2 : Option Addr) (n1 c1 n2 c2 : Nat) (xs ys : List (List (List UInt8))) (w : World) (h1 : ClsIn w q1 n1 xs) (h2 : ClsIn w q2 n2 ys) (hn1 : n1 ≤ 140737488355328) (hn2 : n2 ≤ 140737488355328) :
    Calls Tryz.prog 32 #[.slice q1 n1 c1, .slice q2 n2 c2, .func (.func 33) #[] #[]] w fun e w' => ∃ i : Int, e = .returned (.int .i64 i) ∧ (i == 0) = decide (xs = ys) ∧ Below w.heap.size w w' := by
  have hl1 := Lib.hid h1.len
  have hl2 := Lib.hid h2.len
  go_enter Tryz.func32, Tryz.ntmps32
  go_wp2
  go_loopw [13] (fun i wr => ∃ k : Nat, k ≤ n1 ∧ k ≤ n2 ∧ i = .int .i64 k ∧ Hid (xs.take k = ys.take k) ∧ Below w.heap.size w wr) (fun i _ => n1 - (intOf i).toNat)
  case atStart => exact ⟨0, Nat.zero_le _, Nat.zero_le _, rfl, rfl, Below.refl _ _⟩
  case round =>
    obtain ⟨k, hk1, hk2, rfl, HR, hB⟩ := hrel
    by_cases hlt : k < n1
    · obtain ⟨b1, o1, xq, xn, xc, x, rfl, hx, ck1, hsx, hfx⟩ := (h1.below hB).at k hlt
      by_cases hlt2 : k < n2
      · obtain ⟨b2, o2, yq, yn, yc, y, rfl, hy, ck2, hsy, hfy⟩ := (h2.below hB).at k hlt2
        have d2 : decide ((n2 : Int) ≤ (k : Int)) = false := by simp; omega
        have ka := Keep.alloc (fun _ => True) wr (.cells #[.slice xq xn xc] 77)
        have hlb : b2 < wr.heap.size := World.block_lt_of_cell? wr _ ck2
        have ck2' : (wr.alloc (.cells #[.slice xq xn xc] 77)).cell? ⟨b2, o2 + k, none⟩ = some (.slice yq yn yc) := (World.cell?_of_block (ka.block b2 hlb trivial)).trans ck2
        have A1 := below_alloc (w := wr) (.cells #[.slice xq xn xc] 77)
        have A2 := A1.trans ((below_alloc (w := wr.alloc (.cells #[.slice xq xn xc] 77)) (.cells #[.slice yq yn yc] 77)).mono A1.size)
        have cA := ((Boxed.new wr 77 (.slice xq xn xc)).alloc (.cells #[.slice yq yn yc] 77)).cell
        have cB := (Boxed.new (wr.alloc (.cells #[.slice xq xn xc] 77)) 77 (.slice yq yn yc)).cell
        rw [World.size_alloc] at cB
        have con := Cls.Cmp_any _ _ x y _ (hsx.below A2) (hsy.below A2)
        have hBB := hB.trans (A2.mono hB.size)
        have HX := Lib.hid hx
        have HY := Lib.hid hy
        have HC := Lib.hid (cmpL_eq x y)
        generalize cmpL x y = r at con HC
        clear hx hy h1 h2 hsx hsy ka A1 A2
        by_cases hr : r = 0
        · have HR2 := Lib.hid (take_eq xs ys k x y HX.out HY.out HR.out (HC.out.1 hr))
          have d3 : ((r : Int) != 0) = false := by rw [hr]; rfl
          clear hr
          go_wp2_with fail
          refine con.mono ?_
          rintro e w3 ⟨rfl, hb3⟩
          have A3 := hBB.trans (hb3.mono hBB.size)
          clear con hb3 cA cB
          go_wp2
          go_roundw
          case rel => exact ⟨k + 1, by omega, by omega, by go_num, HR2, A3⟩
          case measure => simp [intOf]; omega
        · have HN := Lib.hid (show (r == 0) = decide (xs = ys) by
            rw [beq_eq_false_iff_ne.2 hr, eq_comm, decide_eq_false_iff_not]
            intro e
            have h1 := HX.out
            rw [e, HY.out] at h1
            exact hr (HC.out.2 (Option.some.inj h1).symm))
          have d3 : ((r : Int) != 0) = true := by unfold bne; rw [beq_eq_false_iff_ne.2 hr]; rfl
          clear hr
          go_wp2_with fail
          refine con.mono ?_
          rintro e w3 ⟨rfl, hb3⟩
          have A3 := hBB.trans (hb3.mono hBB.size)
          clear con hb3 cA cB
          go_wp2
          go_ret
          exact ⟨_, rfl, HN.out, A3⟩
      · have d2 : decide ((n2 : Int) ≤ (k : Int)) = true := by simp; omega
        have HN := Lib.hid (show ((1 : Int) == 0) = decide (xs = ys) by
          rw [eq_comm, show ((1 : Int) == 0) = false from rfl, decide_eq_false_iff_not]
          intro e
          have := hl1.out
          rw [e, hl2.out] at this
          omega)
        have hBB := hB.trans ((below_alloc (w := wr) (.cells #[.slice xq xn xc] 77)).mono hB.size)
        clear hx hsx h1 h2
        go_wp2
        go_ret
        exact ⟨_, rfl, HN.out, hBB⟩
    · obtain rfl : k = n1 := by omega
      clear h1 h2
      by_cases hlt2 : k < n2
      · have d2 : decide ((k : Int) < (n2 : Int)) = true := by simp; omega
        have HN := Lib.hid (show ((-1 : Int) == 0) = decide (xs = ys) by
          rw [eq_comm, show ((-1 : Int) == 0) = false from rfl, decide_eq_false_iff_not]
          intro e
          have := hl1.out
          rw [e, hl2.out] at this
          omega)
        go_wp2
        go_ret
        exact ⟨_, rfl, HN.out, hB⟩
      · have d2 : decide ((k : Int) < (n2 : Int)) = false := by simp; omega
        have HN := Lib.hid (show ((0 : Int) == 0) = decide (xs = ys) by
          rw [eq_comm, show ((0 : Int) == 0) = true from rfl, decide_eq_true_iff]
          have := HR.out
          rwa [List.take_of_length_le (by rw [hl1.out]; omega), List.take_of_length_le (by rw [hl2.out]; omega)] at this)
        go_wp2
        go_ret
        exact ⟨_, rfl, HN.out, hB⟩
set_option maxRecDepth 100000 in
set_option maxHeartbeats 4000000 in
theorem Same_any (v1 v2 : Value) (f g : List (List (List UInt8))) (w : World) (h1 : FrmIs w v1 f) (h2 : FrmIs w v2 g) (lf : f.length ≤ 1099511627776) (lg : g.length ≤ 1099511627776) :
    Calls Tryz.prog 15 #[v1, v2] w fun e w' => e = .returned (.bool (decide (f = g))) ∧ Below w.heap.size w w' := by
  obtain ⟨q1, n1, c1, rfl⟩ := frm_form h1
  obtain ⟨q2, n2, c2, rfl⟩ := frm_form h2
  obtain ⟨_, _, r1⟩ := h1.row
  obtain ⟨_, _, r2⟩ := h2.row
  have A1 := below_alloc (w := w) (.cells #[.slice q1 n1 c1] 31)
  have A2 := A1.trans ((below_alloc (w := w.alloc (.cells #[.slice q1 n1 c1] 31)) (.cells #[.slice q2 n2 c2] 31)).mono A1.size)
  have e1 := r1.len
  have e2 := r2.len
  have con := CompareFunc_any q1 q2 n1 c1 n2 c2 f g _ (r1.below A2) (r2.below A2) (by omega) (by omega)
  clear h1 h2 r1 r2 e1 e2
  generalize decide (f = g) = b at con ⊢
  go_enter Tryz.func15, Tryz.ntmps15
  go_wp2_with fail
  refine con.mono ?_
  rintro e w' ⟨i, rfl, hi, hb⟩
  have HI := Lib.hid hi
  clear hi con
  go_wp2
  go_ret
  exact ⟨(by first | rfl | (rw [← HI.out]; rfl)), A2.trans (hb.mono A2.size)⟩
end Go.Proofs.YtedglpfdibamdaaGreatDoor.Frm
namespace Go.Proofs.YtedglpfdibamdaaGreatDoor.Lbl
open Go.RowKit Go.Shelf Go.Sort Url Org Cls Frm
attribute [local go_sem] Oper.semAt_some
set_option linter.unusedVariables false
set_option maxRecDepth 100000 in
set_option maxHeartbeats 4000000 in
theorem Shut_any (w : World) : Calls Tryz.prog 14 #[] w fun e w' => ∃ v, e = .returned v ∧ LabIs w' v ⟨[[]], []⟩ ∧ Below w.heap.size w w' := by
  obtain ⟨W1, hW1⟩ : ∃ W1, w.alloc (.cells #[.slice none 0 0, .slice none 0 0] 33) = W1 := ⟨_, rfl⟩
  have A1 : Below w.heap.size w W1 := hW1 ▸ below_alloc _
  have b1 : LB w.heap.size #[.slice none 0 0, .slice none 0 0] W1 := hW1 ▸ LB.new w _
  have HW1 := Lib.hid hW1
  have HL1 := Lib.hid b1.lt
  clear hW1
  go_enter Tryz.func14, Tryz.ntmps14
  go_wp2_with fail
  rw [HW1.out]
  clear HW1
  have con := Never_new W1
  refine con.mono ?_
  rintro e w2 ⟨rfl, fS, hb⟩
  have nS : ∀ a, (some ⟨W1.heap.size + 1, 0, none⟩ : Option Addr) = some a → 0 < 1 → a.block ≠ w.heap.size := fun a h _ => by cases h; have := HL1.out; have := A1.size; simp only; omega
  obtain ⟨zS, hzS⟩ : ∃ z, W1.heap.size + 1 = z := ⟨_, rfl⟩
  rw [hzS] at fS nS ⊢
  clear hzS
  have b2 := b1.on hb
  have A2 := A1.trans (hb.mono A1.size)
  replace HL1 := Lib.hid b2.lt
  clear con hb b1
  have con := Always_any w2
  go_wp2_with fail
  refine con.mono ?_
  rintro e w3 ⟨rfl, hb⟩
  have fI : FrmIs w3 (.agg #[.slice none 0 0]) [] := frm_nil _
  have nI : ∀ a, (none : Option Addr) = some a → 0 < 0 → a.block ≠ w.heap.size := fun a h => by cases h
  replace fS := fS.below hb
  have b3 := b2.on hb
  have A3 := A2.trans (hb.mono A2.size)
  replace HL1 := Lib.hid b3.lt
  clear con hb b2
  have kf0 := b3.frozen 0
  have kf1 := b3.frozen 1
  have z0 := b3.box 0 _ rfl
  have z1 := b3.box 1 _ rfl
  obtain ⟨Y, hY, b4, hk, hB4⟩ := b3.put (.slice (some ⟨zS, 0, none⟩) 1 1) (.slice none 0 0)
  have HY := Lib.hid hY
  have rS := FrmIs.off fS b3 nS (hk _ (by simp))
  have rI := FrmIs.off fI b3 nI (hk _ (by simp))
  clear hY fS fI nS nI
  go_wp2
  rw [HY.out]
  refine bodyPost_ret (ret_lab rfl _ _ w.heap.size _ rfl b4 rfl) rfl ?_
  exact ⟨_, rfl, ⟨_, _, _, _, _, _, rfl, rS, rI⟩, A3.trans (hB4 _ (Nat.le_refl _))⟩
end Go.Proofs.YtedglpfdibamdaaGreatDoor.Lbl
namespace Go.Proofs.YtedglpfdibamdaaGreatDoor.Lbl
open Go.RowKit Go.Shelf Go.Sort Url Org Cls Frm
attribute [local go_sem] Oper.semAt_some
set_option linter.unusedVariables false
def sameB (l o : Lab) : Bool := decide (l.s = o.s) && decide (l.i = o.i)
set_option maxRecDepth 100000 in
set_option maxHeartbeats 8000000 in
theorem Same_any (v1 v2 : Value) (l o : Lab) (w : World) (h1 : LabIs w v1 l) (h2 : LabIs w v2 o) (fl : Few l) (fo : Few o) :
    Calls Tryz.prog 12 #[v1, v2] w fun e w' => e = .returned (.bool (sameB l o)) ∧ Below w.heap.size w w' := by
  obtain ⟨q1, n1, c1, q2, n2, c2, rfl, s1, i1⟩ := h1
  obtain ⟨q3, n3, c3, q4, n4, c4, rfl, s2, i2⟩ := h2
  obtain ⟨W, hW⟩ : ∃ W, (w.alloc (.cells #[.slice q1 n1 c1, .slice q2 n2 c2] 33)).alloc (.cells #[.slice q3 n3 c3, .slice q4 n4 c4] 33) = W := ⟨_, rfl⟩
  have A1 : Below w.heap.size w W := hW ▸ ((Below.refl _ w).alloc (Nat.le_refl _) _).alloc (by simp) _
  have b0 : LB w.heap.size #[.slice q1 n1 c1, .slice q2 n2 c2] W := hW ▸ (LB.new w _).on (below_alloc _)
  have b1 : LB (w.heap.size + 1) #[.slice q3 n3 c3, .slice q4 n4 c4] W := hW ▸ LB.two w _ _
  have x0 := b0.box 0 _ rfl
  have y0 := b1.box 0 _ rfl
  have con := Frm.Same_any _ _ l.s o.s W (s1.below A1) (s2.below A1) (by have := fl.1; omega) (by have := fo.1; omega)
  have HC := Lib.hid (fun X (hb : Below w.heap.size w X) => Frm.Same_any _ _ l.i o.i X (i1.below hb) (i2.below hb) (by have := fl.2; omega) (by have := fo.2; omega))
  have HF := Lib.hid (show sameB l o = (decide (l.s = o.s) && decide (l.i = o.i)) from rfl)
  have HW := Lib.hid hW
  obtain ⟨A, hA⟩ : ∃ A, decide (l.s = o.s) = A := ⟨_, rfl⟩
  rw [hA] at con HF
  obtain ⟨B, hB⟩ : ∃ B, decide (l.i = o.i) = B := ⟨_, rfl⟩
  rw [hB] at HC HF
  clear hW s1 i1 s2 i2 fl fo hA hB
  go_enter Tryz.func12, Tryz.ntmps12
  go_wp2_with fail
  rw [HW.out]
  refine con.mono ?_
  rintro e w2 ⟨rfl, hb⟩
  have A2 := A1.trans (hb.mono A1.size)
  have x1 := (b0.on hb).box 1 _ rfl
  have y1 := (b1.on hb).box 1 _ rfl
  clear x0 y0 b0 b1 hb con HW A1
  cases A with
  | false =>
    clear HC
    go_wp2
    go_ret
    exact ⟨by rw [HF.out]; rfl, A2⟩
  | true =>
    have con := HC.out w2 A2
    go_wp2_with fail
    refine con.mono ?_
    rintro e w3 ⟨rfl, hb⟩
    have A3 := A2.trans (hb.mono A2.size)
    clear con hb x1 y1
    go_wp2
    go_ret
    exact ⟨by rw [HF.out]; rfl, A3⟩
end Go.Proofs.YtedglpfdibamdaaGreatDoor.Lbl
namespace Go.Proofs.YtedglpfdibamdaaGreatDoor.Pol
open Go.RowKit Go.Shelf Url Org Frm Cls Lbl
set_option linter.unusedVariables false
theorem agg_one {a x : Value} (h : Value.agg #[a] = .agg #[x]) : a = x := by
  have := Array.mk.inj (Value.agg.inj h)
  simpa using this
end Go.Proofs.YtedglpfdibamdaaGreatDoor.Pol
