/- What these laws want besides. Conditions: as each says. -/
import Derived.Test.YtedglpfdibamdaaGreatDoorBaseF
import Derived.Test.YtedglpfdibamdaaGreatDoorCards
import Derived.Test.YtedglpfdibamdaaGreatDoorTie
import Derived.ProofKit
import Derived.OpenShut
import Derived.ShutString
import Derived.ChangeOld
import Derived.Deep.DeepHandedRow
import Derived.Lib.LaidTab
import Derived.Stop.LaidErr
import Derived.LaidMore
import Derived.Lay
namespace Go.Proofs.YtedglpfdibamdaaGreatDoor.policyBack
open Go.ChangeShapes Go.WideShapes Go.ChangeAt Go.RowKit
set_option linter.unusedVariables false
theorem own : ownKnob Tryz.prog.godebug = none := by kernel_rfl
theorem laidOut : laidOutB Tryz.prog = true := by kernel_rfl
theorem gTab : Tryz.prog.globalNamed "internal/strconv.uint64pow10" = some 1 := by kernel_rfl
def IsRow (k : IntKind) (w : World) (a : Option Addr) (len cap : Nat) (zs : List Int) : Prop :=
  (a = none ∧ len = 0 ∧ cap = 0 ∧ zs = []) ∨
  ∃ x, a = some x ∧ len ≤ cap ∧ cap ≤ maxLen ∧ zs.length = cap ∧ (∀ i, i < zs.length → w.cell? (x.add i) = some (.int k (zs.getD i 0))) ∧ ∀ n ∈ zs, (Lit.int k n).wf = true
def Walks : Prop := ∀ (a0 : Option Addr) (len0 cap0 : Nat) (z0 : List Int) (a1 : Option Addr) (len1 cap1 : Nat) (z1 : List Int) (a2 : Option Addr) (len2 cap2 : Nat) (z2 : List Int) (w : World), IsRow .u8 w a0 len0 cap0 z0 → IsRow .u8 w a1 len1 cap1 z1 → IsRow .u8 w a2 len2 cap2 z2 → Url.Gl w →
  Calls Tryz.prog 4 #[.slice a0 len0 cap0, .slice a1 len1 cap1, .slice a2 len2 cap2] w fun e w' => e = .returned (.bool true) ∧ Below w.heap.size w w'
theorem gl {W : World} (hL : laidMetH Tryz.prog Rows.policyBackRow.laid W) (hsh : W.ShapedOpen Tryz.prog) : Url.Gl W := by
  refine ⟨?_, ?_⟩
  · exact cell_of_shapedOpen_int (t := 3) (zero := #[.int .i64 0]) hsh (by decide +kernel) (by kernel_rfl) rfl (by kernel_rfl) (by kernel_rfl) (by kernel_rfl)
  · have hL' : laidMet Tryz.prog Rows.policyBackRow.laid W := by
      rw [MakeChecks.laidMetH_plain _ _ _ (by kernel_rfl)] at hL; exact hL
    exact Lib.tabIs_of_head (rest := [("unicode/utf8.acceptRanges", Rows.laid_unicode_utf8_acceptRanges), ("unicode/utf8.first", Rows.laid_unicode_utf8_first)]) (t := 224) (e := 189) (n := 20) (k := .u64) (zs := Lib.pow10Tab) (g := 1) gTab (by kernel_rfl) (by kernel_rfl) (by kernel_rfl) (by kernel_rfl) (by kernel_rfl) (show laidMet Tryz.prog [("internal/strconv.uint64pow10", Lib.tabData .u64 Lib.pow10Tab), ("unicode/utf8.acceptRanges", Rows.laid_unicode_utf8_acceptRanges), ("unicode/utf8.first", Rows.laid_unicode_utf8_first)] W from hL'.tail.tail)
set_option maxRecDepth 100000 in
theorem contract (hw : Walks) (H : Type) (enc : TypeId × Value → H) (W : World) (base : Nat) (args : Array Value) (ds gs : List (DataW H)) (before : List MemPlace)
    (hval0 : ∀ (j : Nat) t v, Tryz.f4.params[j]? = some t → args[j]? = some v → Value.okWide Tryz.prog W .any base t v)
    (hW : DataW.Whole enc Tryz.prog Tryz.f4.params.toList Rows.policyBackSpec.vars false W args.toList ds gs before) (hL : laidMetH Tryz.prog Rows.policyBackRow.laid W) (hsh : W.ShapedOpen Tryz.prog) :
    Calls Tryz.prog 4 args W fun e W' => ∃ v, e = .returned v ∧ Rows.policyBackSpec.post enc Tryz.prog Tryz.f4 false true false false W args v W' := by
  have hval : ∀ (j : Nat) t v, Tryz.f4.params[j]? = some t → args[j]? = some v → Value.okWide Tryz.prog W .any base t v := hval0
  have hW' := hW
  obtain ⟨p, q, hA0, hV, rfl, hfz, hnd⟩ := hW
  have hA : DataW.TrodAll enc Tryz.prog W 0 (fun _ => true) true Tryz.f4.params.toList args.toList ds p := hA0
  rw [Tryz.params4] at hA hval
  obtain ⟨v0, vs0, d0, ds0, p0, q0, hargs, rfl, rfl, h0, r0⟩ := trodAll_cons hA
  obtain ⟨v1, vs1, d1, ds1, p1, q1, rfl, rfl, rfl, h1, r1⟩ := trodAll_cons r0
  obtain ⟨v2, vs2, d2, ds2, p2, q2, rfl, rfl, rfl, h2, r2⟩ := trodAll_cons r1
  obtain ⟨rfl, rfl, rfl⟩ := trodAll_nil r2
  obtain rfl : args = #[v0, v1, v2] := by cases args; simp_all
  obtain ⟨rfl, rfl⟩ := trodVars_none hV
  obtain ⟨a0, len0, cap0, rfl⟩ := okWide_slice Tryz.underlying22 (hval 0 22 v0 rfl rfl)
  have k0 := h0
  have lt0 : ∀ x ∈ p0, x.block < W.heap.size := by obtain ⟨m, hm⟩ := k0; exact DataW.trod_lt m _ _ _ hm
  obtain ⟨z0, w0⟩ : ∃ zs, IsRow .u8 W a0 len0 cap0 zs := by
    obtain ⟨fuel, hf⟩ := h0
    rcases open_ints Tryz.underlying22 Tryz.underlying5 (by kernel_rfl) hf with ⟨hcs, _⟩ | ⟨x, l, c, zs, hcs, _, hl, hm, hz, _, hcell, hwz⟩
    · simp [Value.cells] at hcs
      obtain ⟨rfl, rfl, rfl⟩ := hcs
      exact ⟨[], .inl ⟨rfl, rfl, rfl, rfl⟩⟩
    · simp [Value.cells] at hcs
      obtain ⟨rfl, rfl, rfl⟩ := hcs
      exact ⟨zs, .inr ⟨_, rfl, hl, hm, by simpa using hz, hcell, hwz⟩⟩
  obtain ⟨a1, len1, cap1, rfl⟩ := okWide_slice Tryz.underlying22 (hval 1 22 v1 rfl rfl)
  have k1 := h1
  have lt1 : ∀ x ∈ p1, x.block < W.heap.size := by obtain ⟨m, hm⟩ := k1; exact DataW.trod_lt m _ _ _ hm
  obtain ⟨z1, w1⟩ : ∃ zs, IsRow .u8 W a1 len1 cap1 zs := by
    obtain ⟨fuel, hf⟩ := h1
    rcases open_ints Tryz.underlying22 Tryz.underlying5 (by kernel_rfl) hf with ⟨hcs, _⟩ | ⟨x, l, c, zs, hcs, _, hl, hm, hz, _, hcell, hwz⟩
    · simp [Value.cells] at hcs
      obtain ⟨rfl, rfl, rfl⟩ := hcs
      exact ⟨[], .inl ⟨rfl, rfl, rfl, rfl⟩⟩
    · simp [Value.cells] at hcs
      obtain ⟨rfl, rfl, rfl⟩ := hcs
      exact ⟨zs, .inr ⟨_, rfl, hl, hm, by simpa using hz, hcell, hwz⟩⟩
  obtain ⟨a2, len2, cap2, rfl⟩ := okWide_slice Tryz.underlying22 (hval 2 22 v2 rfl rfl)
  have k2 := h2
  have lt2 : ∀ x ∈ p2, x.block < W.heap.size := by obtain ⟨m, hm⟩ := k2; exact DataW.trod_lt m _ _ _ hm
  obtain ⟨z2, w2⟩ : ∃ zs, IsRow .u8 W a2 len2 cap2 zs := by
    obtain ⟨fuel, hf⟩ := h2
    rcases open_ints Tryz.underlying22 Tryz.underlying5 (by kernel_rfl) hf with ⟨hcs, _⟩ | ⟨x, l, c, zs, hcs, _, hl, hm, hz, _, hcell, hwz⟩
    · simp [Value.cells] at hcs
      obtain ⟨rfl, rfl, rfl⟩ := hcs
      exact ⟨[], .inl ⟨rfl, rfl, rfl, rfl⟩⟩
    · simp [Value.cells] at hcs
      obtain ⟨rfl, rfl, rfl⟩ := hcs
      exact ⟨zs, .inr ⟨_, rfl, hl, hm, by simpa using hz, hcell, hwz⟩⟩
  clear hA0 hval0
  refine (hw a0 len0 cap0 z0 a1 len1 cap1 z1 a2 len2 cap2 z2 W w0 w1 w2 (gl hL hsh)).mono fun e W' ⟨he, bel⟩ => ?_
  subst he
  exact ⟨_, rfl, _, _, _, [], _, [], hW', trodAll_mk1 (shut_bool Tryz.underlying4 _), (trodAll_cons_mk (Below.trod laidOut (by kernel_rfl) (of_decide_eq_true (by kernel_rfl)) k0 bel lt0) (trodAll_cons_mk (Below.trod laidOut (by kernel_rfl) (of_decide_eq_true (by kernel_rfl)) k1 bel lt1) (trodAll_cons_mk (Below.trod laidOut (by kernel_rfl) (of_decide_eq_true (by kernel_rfl)) k2 bel lt2) trodAll_mk0))), rfl, bel.frame _, fun h => by cases h⟩
theorem door_met (os : Os) : laidMet Tryz.prog Rows.policyBackRow.laid ((World.laidAll Tryz.prog os Rows.policyBackRow.laid).forCall (fun _ _ => 0) ⟨#[], #[.slice none 0 0, .slice none 0 0, .slice none 0 0], []⟩).memory :=
  laidMet_laidAll _ (by kernel_rfl) (by kernel_rfl)
theorem reads (os : Os) {H : Type} (enc : TypeId × Value → H) : ∃ places, DataW.whole enc Tryz.prog ((World.laidAll Tryz.prog os Rows.policyBackRow.laid).forCall (fun _ _ => 0) ⟨#[], #[.slice none 0 0, .slice none 0 0, .slice none 0 0], []⟩).memory Tryz.f4.params.toList Rows.policyBackSpec.vars false #[Value.slice none 0 0, Value.slice none 0 0, Value.slice none 0 0].toList 8 = some ([.nil, .nil, .nil], [], places) :=
  ⟨[], by kernel_rfl⟩
set_option maxRecDepth 100000 in
theorem lifted (hw : Walks) (os : Os) (started : os.Started) (H : Type) (enc : TypeId × Value → H) (F : Stop.Interp) :
    ReturnsInHanded {} Tryz.checked os 4 .any ((OpenSpec.ofChange Rows.policyBackSpec).preRow enc Tryz.prog Tryz.f4 Rows.policyBackRow.domain false Rows.policyBackRow.laid) (((OpenSpec.ofChange Rows.policyBackSpec).at F).post enc Tryz.prog Tryz.f4 false true false false) := by
  obtain ⟨places, hx⟩ := reads os enc
  refine returnsInHanded_of_row (C := Tryz.checked) (s := OpenSpec.ofChange Rows.policyBackSpec) own started (by kernel_rfl) Tryz.func4
    (witness_row_at (enc := enc) (C := Tryz.checked) false (World.laidAll Tryz.prog os Rows.policyBackRow.laid) #[.slice none 0 0, .slice none 0 0, .slice none 0 0] (World.laidAll_os _ _ _) (by kernel_rfl) (by kernel_rfl) (by kernel_rfl)
      (OpenSpec.preRow_of_cond 8 hx (by kernel_rfl) (fun k hk => by cases hk) (by kernel_rfl) (door_met os))) ?_
  intro W base args ds gs before hval hW _ _ _ hL hsh _
  exact contract hw H enc W base args ds gs before hval hW hL hsh
theorem said (hw : Walks) : Rows.PolicyBackSaid :=
  OpenClaim.holds_of_cond 4 Tryz.f4 rfl rfl rfl rfl rfl rfl rfl ⟨rfl, rfl, rfl, rfl, rfl⟩ rfl rfl rfl rfl rfl (by kernel_rfl) Tryz.func4 (by kernel_rfl)
    (of_decide_eq_true (by kernel_rfl)) (by unfold Func.isWrapper; first | (rw [if_pos (by decide +kernel)]; kernel_rfl) | (rw [if_neg (by decide +kernel)]; exact ⟨rfl, rfl⟩))
    (fun os started H enc _ F => by rw [OpenClaim.pre_eq_preRow]; exact lifted hw os started H enc F)
theorem plain (f : FuncId) (fn : Func) (hf : Tryz.pinned.checked.prog.funcNamed "cordon/cordonlaw12.PolicyBack" = some f) (hfn : Tryz.pinned.checked.prog.funcs[f]? = some fn) :
    false = Tryz.pinned.checked.prog.looks [] ∧ ∀ (j : Nat) t, fn.params[j]? = some t → Tryz.pinned.checked.prog.wantsStandIn t = false := by
  obtain rfl : f = 4 := Option.some.inj ((show Tryz.prog.funcNamed "cordon/cordonlaw12.PolicyBack" = some 4 by kernel_rfl).symm.trans hf) |>.symm
  obtain rfl : fn = Tryz.f4 := (Option.some.inj (Tryz.func4.symm.trans hfn)).symm
  refine ⟨by kernel_rfl, fun j t ht => ?_⟩
  rw [Tryz.params4] at ht
  obtain rfl : t = 22 := by simpa using Array.mem_of_getElem? ht
  exact (show Tryz.prog.wantsStandIn 22 = false by kernel_rfl)
theorem card (hw : Walks) : Rows.PolicyBackCardSaid :=
  Claim7.holds_tied_plain_at .later [] _ _ _ _ (said hw) (fun _ h => by cases h) (by kernel_rfl) (fun _ h => by cases h) policyBack_row_tie rfl ⟨rfl, rfl⟩ (by kernel_rfl) rfl plain (by kernel_rfl)
end Go.Proofs.YtedglpfdibamdaaGreatDoor.policyBack
namespace Go.Proofs.YtedglpfdibamdaaGreatDoor.Hdr
open Go.RowKit Go.Shelf Url
set_option linter.unusedVariables false
def pB (r : Sum Int (List Fld × List UInt8)) : List UInt8 := match r with | .inl _ => [] | .inr x => x.2
end Go.Proofs.YtedglpfdibamdaaGreatDoor.Hdr
namespace Go.Proofs.YtedglpfdibamdaaGreatDoor.Pol
open Url Org
set_option linter.unusedVariables false
theorem spans_cons (b : UInt8) (r : List UInt8) (i f : Nat) : spansGo blankB (b :: r) i f = if blankB b = true then (f, i) :: spansGo blankB r (i + 1) (i + 1) else spansGo blankB r (i + 1) f := rfl
theorem spans_part : ∀ (p : List UInt8) (r : List UInt8) (i f : Nat), (∀ b ∈ p, blankB b = false) → spansGo blankB (p ++ 32 :: r) i f = (f, i + p.length) :: spansGo blankB r (i + p.length + 1) (i + p.length + 1)
  | [], r, i, f, _ => by rw [List.nil_append, spans_cons, if_pos (by decide)]; rfl
  | b :: p, r, i, f, h => by
    have hb := h b (by simp)
    rw [List.cons_append, spans_cons, if_neg (by rw [hb]; decide), spans_part p r (i + 1) f (fun b hb => h b (List.mem_cons_of_mem _ hb)), List.length_cons, show i + 1 + p.length = i + (p.length + 1) by omega]
theorem spans_end : ∀ (p : List UInt8) (i f : Nat), (∀ b ∈ p, blankB b = false) → spansGo blankB p i f = [(f, i + p.length)]
  | [], i, f, _ => rfl
  | b :: p, i, f, h => by
    have hb := h b (by simp)
    rw [spans_cons, if_neg (by rw [hb]; decide), spans_end p (i + 1) f (fun b hb => h b (List.mem_cons_of_mem _ hb)), List.length_cons, show i + 1 + p.length = i + (p.length + 1) by omega]
theorem fields_cons (l : List UInt8) (x : Nat × Nat) (xs : List (Nat × Nat)) (h : x.1 < x.2) : fieldsOf l (x :: xs) = sub l x.1 x.2 :: fieldsOf l xs := by
  unfold fieldsOf
  rw [List.filter_cons, if_pos (by simpa using h), List.map_cons]
theorem sub_mid (pre p r : List UInt8) : sub (pre ++ (p ++ r)) pre.length (pre.length + p.length) = p := by
  unfold sub
  rw [List.drop_left, show pre.length + p.length - pre.length = p.length by omega, List.take_left]
theorem fields_join : ∀ (ps : List (List UInt8)) (pre : List UInt8), ps ≠ [] → (∀ p ∈ ps, p ≠ [] ∧ ∀ b ∈ p, blankB b = false) → fieldsOf (pre ++ joinS ps) (spansGo blankB (joinS ps) pre.length pre.length) = ps
  | [], _, h, _ => absurd rfl h
  | [p], pre, _, h => by
    obtain ⟨h1, h2⟩ := h p (by simp)
    have hl := List.length_pos_iff.2 h1
    show fieldsOf (pre ++ p) (spansGo blankB p pre.length pre.length) = [p]
    rw [spans_end p _ _ h2, fields_cons _ _ _ (by show _ < _; omega)]
    have := sub_mid pre p []
    rw [List.append_nil] at this
    show sub (pre ++ p) pre.length (pre.length + p.length) :: fieldsOf (pre ++ p) [] = [p]
    rw [this]; rfl
  | p :: q :: r, pre, _, h => by
    obtain ⟨h1, h2⟩ := h p (by simp)
    have hl := List.length_pos_iff.2 h1
    have ih := fields_join (q :: r) (pre ++ p ++ [32]) (by simp) (fun p hp => h p (List.mem_cons_of_mem _ hp))
    have e0 : joinS (p :: q :: r) = p ++ 32 :: joinS (q :: r) := rfl
    have e1 : (pre ++ p ++ [32]) ++ joinS (q :: r) = pre ++ joinS (p :: q :: r) := by rw [e0]; simp
    have e2 : (pre ++ p ++ [32]).length = pre.length + p.length + 1 := by simp; omega
    rw [e1, e2] at ih
    rw [e0, spans_part p _ _ _ h2, fields_cons _ _ _ (by show _ < _; omega), ← e0, ih]
    congr 1
    rw [e0]
    exact sub_mid pre p _
theorem fields_text (ps : List (List UInt8)) (hn : ps ≠ []) (h : ∀ p ∈ ps, p ≠ [] ∧ ∀ b ∈ p, blankB b = false) : fieldsL (joinS ps) = ps := by
  have := fields_join ps [] hn h
  simpa [fieldsL, spansL] using this
theorem join_head (p : List UInt8) (r : List (List UInt8)) : ∃ z, joinS (p :: r) = p ++ z := by
  cases r with
  | nil => exact ⟨[], by simp [joinS]⟩
  | cons q r => exact ⟨_, rfl⟩
theorem join_last : ∀ (ps : List (List UInt8)), ps ≠ [] → ∃ z p, p ∈ ps ∧ joinS ps = z ++ p
  | [], h => absurd rfl h
  | [p], _ => ⟨[], p, by simp, rfl⟩
  | p :: q :: r, _ => by
    obtain ⟨z, x, hx, hj⟩ := join_last (q :: r) (by simp)
    exact ⟨p ++ 32 :: z, x, List.mem_cons_of_mem _ hx, by show p ++ 32 :: joinS (q :: r) = _; rw [hj]; simp⟩
theorem trim_none (t : List UInt8) (h1 : ∀ b, t.head? = some b → Cls.blankB b = false) (h2 : ∀ b, t.getLast? = some b → Cls.blankB b = false) : Cls.trimB t = t := by
  have e1 : t.dropWhile Cls.blankB = t := by
    cases t with
    | nil => rfl
    | cons b r => rw [List.dropWhile_cons, if_neg (by rw [h1 b rfl]; decide)]
  have e2 : t.reverse.dropWhile Cls.blankB = t.reverse := by
    cases hr : t.reverse with
    | nil => rfl
    | cons b r =>
      have : t.getLast? = some b := by rw [← List.head?_reverse, hr]; rfl
      rw [List.dropWhile_cons, if_neg (by rw [h2 b this]; decide)]
  unfold Cls.trimB
  rw [e1, e2, List.reverse_reverse]
theorem join_trim (ps : List (List UInt8)) (hn : ps ≠ []) (h : ∀ p ∈ ps, p ≠ [] ∧ ∀ b ∈ p, blankB b = false) : Cls.trimB (joinS ps) = joinS ps := by
  cases ps with
  | nil => exact absurd rfl hn
  | cons p r =>
    refine trim_none _ (fun b hb => ?_) (fun b hb => ?_)
    · obtain ⟨z, hz⟩ := join_head p r
      obtain ⟨h1, h2⟩ := h p (by simp)
      cases p with
      | nil => exact absurd rfl h1
      | cons a p =>
        rw [hz] at hb
        simp at hb
        subst hb
        rw [← blank_same]; exact h2 _ (by simp)
    · obtain ⟨z, x, hx, hz⟩ := join_last (p :: r) hn
      obtain ⟨h1, h2⟩ := h x hx
      rw [hz, List.getLast?_append, List.getLast?_eq_some_getLast h1] at hb
      simp at hb
      subst hb
      rw [← blank_same]
      exact h2 _ (List.getLast_mem h1)
theorem join_none (ps : List (List UInt8)) (h : ∀ p ∈ ps, SrcOk p) (hn : ps ≠ []) : joinS ps ≠ noneS := by
  match ps, hn, h with
  | [p], _, h => exact (h p (by simp)).word
  | p :: q :: r, _, h =>
    intro e
    have : (32 : UInt8) ∈ joinS (p :: q :: r) := by show (32 : UInt8) ∈ p ++ 32 :: joinS (q :: r); simp
    rw [e] at this
    revert this; decide
theorem go_ok : ∀ (ps out : List (List UInt8)), (∀ p ∈ ps, SrcOk p) → out.length + ps.length ≤ 32 → (out ≠ [] ∨ ps ≠ []) → goS out ps = .inr (out ++ ps)
  | [], out, _, _, hn => by
    unfold goS
    rw [if_neg (by rcases hn with h | h; exact h; exact absurd rfl h), List.append_nil]
  | p :: r, out, h, hl, _ => by
    simp only [List.length_cons] at hl
    unfold goS
    rw [(h p (by simp)).src]
    simp only
    rw [if_neg (by omega), go_ok r (out ++ [p]) (fun x hx => h x (List.mem_cons_of_mem _ hx)) (by simp; omega) (.inl (by simp)), List.append_assoc]
    rfl
theorem parse_textS (l : List (List UInt8)) (h : ∀ c ∈ l, SrcOk c) (hl : l.length ≤ 32) : parseS (textS l) = .inr l := by
  cases l with
  | nil => decide +kernel
  | cons p r =>
    have hp : ∀ x ∈ p :: r, x ≠ [] ∧ ∀ b ∈ x, blankB b = false := fun x hx => ⟨(h x hx).ne, (h x hx).blank⟩
    have ht : textS (p :: r) = joinS (p :: r) := rfl
    unfold parseS
    rw [ht, join_trim _ (by simp) hp, if_neg (join_none _ h (by simp)), fields_text _ (by simp) hp, go_ok _ [] h (by simpa using hl) (.inr (by simp)), List.nil_append]
theorem pieces_text (l : List (List UInt8)) (h : ∀ c ∈ l, SrcOk c) : ∀ p ∈ fieldsL (textS l), PieceOk p := by
  cases l with
  | nil =>
    intro p hp
    have h0 : fieldsL (textS []) = [noneS] := by decide +kernel
    rw [h0, List.mem_singleton] at hp
    subst hp
    exact ⟨by decide, fun u hu => absurd hu (no_url noneS (by decide) u)⟩
  | cons c r =>
    intro p hp
    rw [show textS (c :: r) = joinS (c :: r) from rfl, fields_text _ (by simp) (fun x hx => ⟨(h x hx).ne, (h x hx).blank⟩)] at hp
    exact ⟨by have := (h p hp).len; omega, (h p hp).url⟩
end Go.Proofs.YtedglpfdibamdaaGreatDoor.Pol
