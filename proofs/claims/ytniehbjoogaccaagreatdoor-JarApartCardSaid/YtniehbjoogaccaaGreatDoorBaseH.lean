/- What these laws want besides. Conditions: as each says. -/
import Derived.Test.YtniehbjoogaccaaGreatDoorBaseF
namespace Go.Proofs.YtniehbjoogaccaaGreatDoor
open Go.RowKit
end Go.Proofs.YtniehbjoogaccaaGreatDoor
namespace Go.Proofs.YtniehbjoogaccaaGreatDoor
open Go.RowKit Go.Shelf
attribute [local go_sem] Oper.semAt_some
end Go.Proofs.YtniehbjoogaccaaGreatDoor
namespace Go.Proofs.YtniehbjoogaccaaGreatDoor.Jar
open Url Hdr Ck
set_option linter.unusedVariables false
theorem filter_twice (p : En → Bool) (l : List En) : (l.filter p).filter p = l.filter p := by
  rw [List.filter_filter]
  congr 1
  funext e
  exact Bool.and_self _
theorem set_mine (l : List En) (at_ : U) (c : Ck) (now : Int) : (setJ l at_ c now).filter (mine (keyU at_)) = setJ (l.filter (mine (keyU at_))) at_ c now := by
  have hx : mine (keyU at_) ⟨at_, c, now⟩ = true := decide_eq_true rfl
  have hc := filter_comm (keepE at_ c now) (mine (keyU at_)) l
  unfold setJ putJ
  split
  · split
    · exact hc
    · rw [List.filter_append, List.filter_cons_of_pos hx, List.filter_nil, ← hc, filter_twice]
      split
      · rfl
      · rw [erase_mine]
  · rfl
theorem here_mine (k : Key) (u : U) (now : Int) (l m : List En) (h : l.filter (mine k) = m.filter (mine k)) : forJ k u now l = forJ k u now m := by
  unfold forJ hereJ
  rw [h]
end Go.Proofs.YtniehbjoogaccaaGreatDoor.Jar
namespace Go.Proofs.YtniehbjoogaccaaGreatDoor.jarApart
open Go.ChangeShapes Go.WideShapes Go.ChangeAt Go.RowKit
set_option linter.unusedVariables false
theorem own : ownKnob Tryz.prog.godebug = none := by kernel_rfl
theorem laidOut : laidOutB Tryz.prog = true := by kernel_rfl
theorem gTab : Tryz.prog.globalNamed "internal/strconv.uint64pow10" = some 1 := by kernel_rfl
def IsRow (k : IntKind) (w : World) (a : Option Addr) (len cap : Nat) (zs : List Int) : Prop :=
  (a = none ∧ len = 0 ∧ cap = 0 ∧ zs = []) ∨
  ∃ x, a = some x ∧ len ≤ cap ∧ cap ≤ maxLen ∧ zs.length = cap ∧ (∀ i, i < zs.length → w.cell? (x.add i) = some (.int k (zs.getD i 0))) ∧ ∀ n ∈ zs, (Lit.int k n).wf = true
def Walks : Prop := ∀ (a0 : Option Addr) (len0 cap0 : Nat) (a1 : Option Addr) (len1 cap1 : Nat) (z1 : List Int) (a2 : Int) (w : World), Jar.IsActs w a0 len0 cap0 → IsRow .u8 w a1 len1 cap1 z1 → (Lit.int .i64 a2).wf = true → Url.Gl w →
  Calls Tryz.prog 4 #[.slice a0 len0 cap0, .slice a1 len1 cap1, .int .i64 a2] w fun e w' => e = .returned (.bool true) ∧ Below w.heap.size w w'
theorem gl {W : World} (hL : laidMetH Tryz.prog Rows.jarApartRow.laid W) (hsh : W.ShapedOpen Tryz.prog) : Url.Gl W := by
  refine ⟨?_, ?_⟩
  · exact cell_of_shapedOpen_int (t := 3) (zero := #[.int .i64 0]) hsh (by decide +kernel) (by kernel_rfl) rfl (by kernel_rfl) (by kernel_rfl) (by kernel_rfl)
  · have hL' : laidMet Tryz.prog Rows.jarApartRow.laid W := by
      rw [MakeChecks.laidMetH_plain _ _ _ (by kernel_rfl)] at hL; exact hL
    exact Lib.tabIs_of_head (rest := []) (t := 234) (e := 200) (n := 20) (k := .u64) (zs := Lib.pow10Tab) (g := 1) gTab (by kernel_rfl) (by kernel_rfl) (by kernel_rfl) (by kernel_rfl) (by kernel_rfl) (show laidMet Tryz.prog [("internal/strconv.uint64pow10", Lib.tabData .u64 Lib.pow10Tab)] W from hL'.tail.tail)
set_option maxRecDepth 100000 in
theorem contract (hw : Walks) (H : Type) (enc : TypeId × Value → H) (W : World) (base : Nat) (args : Array Value) (ds gs : List (DataW H)) (before : List MemPlace)
    (hval0 : ∀ (j : Nat) t v, Tryz.f4.params[j]? = some t → args[j]? = some v → Value.okWide Tryz.prog W .any base t v)
    (hW : DataW.Whole enc Tryz.prog Tryz.f4.params.toList Rows.jarApartSpec.vars false W args.toList ds gs before) (hL : laidMetH Tryz.prog Rows.jarApartRow.laid W) (hsh : W.ShapedOpen Tryz.prog) :
    Calls Tryz.prog 4 args W fun e W' => ∃ v, e = .returned v ∧ Rows.jarApartSpec.post enc Tryz.prog Tryz.f4 false true false false W args v W' := by
  have hval : ∀ (j : Nat) t v, Tryz.f4.params[j]? = some t → args[j]? = some v → Value.okWide Tryz.prog W .any base t v := hval0
  have hW' := hW
  obtain ⟨p, q, hA0, hV, rfl, hfz, hnd⟩ := hW
  have hA : DataW.TrodAll enc Tryz.prog W 0 (fun _ => true) true Tryz.f4.params.toList args.toList ds p := hA0
  rw [Tryz.params4] at hA hval
  obtain ⟨v0, vs0, d0, ds0, p0, q0, hargs, rfl, rfl, h0, r0⟩ := trodAll_cons hA
  obtain ⟨v1, vs1, d1, ds1, p1, q1, rfl, rfl, rfl, h1, r1⟩ := trodAll_cons r0
  obtain ⟨v2, vs2, d2, ds2, p2, q2, rfl, rfl, rfl, h2, r2⟩ := trodAll_cons r1
  obtain ⟨rfl, rfl, rfl⟩ := trodAll_nil r2
  obtain rfl : args = #[v0, v1, v2] := by cases args; simp_all
  obtain ⟨rfl, rfl⟩ := trodVars_none hV
  obtain ⟨a0, len0, cap0, rfl⟩ := okWide_slice Tryz.underlying22 (hval 0 22 v0 rfl rfl)
  have k0 := h0
  have lt0 : ∀ x ∈ p0, x.block < W.heap.size := by obtain ⟨m, hm⟩ := k0; exact DataW.trod_lt m _ _ _ hm
  have w0 : Jar.IsActs W a0 len0 cap0 := by
    obtain ⟨fuel, hf⟩ := h0
    exact Jar.open_acts hf
  obtain ⟨a1, len1, cap1, rfl⟩ := okWide_slice Tryz.underlying29 (hval 1 29 v1 rfl rfl)
  have k1 := h1
  have lt1 : ∀ x ∈ p1, x.block < W.heap.size := by obtain ⟨m, hm⟩ := k1; exact DataW.trod_lt m _ _ _ hm
  obtain ⟨z1, w1⟩ : ∃ zs, IsRow .u8 W a1 len1 cap1 zs := by
    obtain ⟨fuel, hf⟩ := h1
    rcases open_ints Tryz.underlying29 Tryz.underlying5 (by kernel_rfl) hf with ⟨hcs, _⟩ | ⟨x, l, c, zs, hcs, _, hl, hm, hz, _, hcell, hwz⟩
    · simp [Value.cells] at hcs
      obtain ⟨rfl, rfl, rfl⟩ := hcs
      exact ⟨[], .inl ⟨rfl, rfl, rfl, rfl⟩⟩
    · simp [Value.cells] at hcs
      obtain ⟨rfl, rfl, rfl⟩ := hcs
      exact ⟨zs, .inr ⟨_, rfl, hl, hm, by simpa using hz, hcell, hwz⟩⟩
  obtain ⟨a2, rfl, rfl, rfl, w2⟩ := open_int Tryz.underlying3 (hval 2 3 v2 rfl rfl) h2
  clear hA0 hval0
  refine (hw a0 len0 cap0 a1 len1 cap1 z1 a2 W w0 w1 w2 (gl hL hsh)).mono fun e W' ⟨he, bel⟩ => ?_
  subst he
  exact ⟨_, rfl, _, _, _, [], _, [], hW', trodAll_mk1 (shut_bool Tryz.underlying4 _), (trodAll_cons_mk (Below.trod laidOut (by kernel_rfl) (of_decide_eq_true (by kernel_rfl)) k0 bel lt0) (trodAll_cons_mk (Below.trod laidOut (by kernel_rfl) (of_decide_eq_true (by kernel_rfl)) k1 bel lt1) (trodAll_cons_mk (shut_int Tryz.underlying3 w2) trodAll_mk0))), rfl, bel.frame _, fun h => by cases h⟩
theorem door_met (os : Os) : laidMet Tryz.prog Rows.jarApartRow.laid ((World.doorLaid Tryz.prog 24 os).forCall (fun _ _ => 0) ⟨#[], #[.slice none 0 0, .slice none 0 0, .int .i64 0], []⟩).memory :=
  laidMet_of_run' 8 (by kernel_rfl) (by kernel_rfl)
theorem reads (os : Os) {H : Type} (enc : TypeId × Value → H) : ∃ places, DataW.whole enc Tryz.prog ((World.doorLaid Tryz.prog 24 os).forCall (fun _ _ => 0) ⟨#[], #[.slice none 0 0, .slice none 0 0, .int .i64 0], []⟩).memory Tryz.f4.params.toList Rows.jarApartSpec.vars false #[Value.slice none 0 0, Value.slice none 0 0, Value.int .i64 0].toList 8 = some ([.nil, .nil, .lit (.int .i64 0)], [], places) :=
  ⟨[], by kernel_rfl⟩
set_option maxRecDepth 100000 in
theorem lifted (hw : Walks) (os : Os) (started : os.Started) (H : Type) (enc : TypeId × Value → H) (F : Stop.Interp) :
    ReturnsInHanded {} Tryz.checked os 4 .any ((OpenSpec.ofChange Rows.jarApartSpec).preRow enc Tryz.prog Tryz.f4 Rows.jarApartRow.domain false Rows.jarApartRow.laid) (((OpenSpec.ofChange Rows.jarApartSpec).at F).post enc Tryz.prog Tryz.f4 false true false false) := by
  obtain ⟨places, hx⟩ := reads os enc
  refine returnsInHanded_of_row (C := Tryz.checked) (s := OpenSpec.ofChange Rows.jarApartSpec) own started (by kernel_rfl) Tryz.func4
    (witness_row_at (enc := enc) (C := Tryz.checked) false (World.doorLaid Tryz.prog 24 os) #[.slice none 0 0, .slice none 0 0, .int .i64 0] rfl (by kernel_rfl) (by kernel_rfl) (by kernel_rfl)
      (OpenSpec.preRow_of_cond 8 hx (by kernel_rfl) (fun k hk => by cases hk) (by kernel_rfl) (door_met os))) ?_
  intro W base args ds gs before hval hW _ _ _ hL hsh _
  exact contract hw H enc W base args ds gs before hval hW hL hsh
theorem said (hw : Walks) : Rows.JarApartSaid :=
  OpenClaim.holds_of_cond 4 Tryz.f4 rfl rfl rfl rfl rfl rfl rfl ⟨rfl, rfl, rfl, rfl, rfl⟩ rfl rfl rfl rfl rfl (by kernel_rfl) Tryz.func4 (by kernel_rfl)
    (of_decide_eq_true (by kernel_rfl)) (by unfold Func.isWrapper; first | (rw [if_pos (by decide +kernel)]; kernel_rfl) | (rw [if_neg (by decide +kernel)]; exact ⟨rfl, rfl⟩))
    (fun os started H enc _ F => by rw [OpenClaim.pre_eq_preRow]; exact lifted hw os started H enc F)
theorem plain (f : FuncId) (fn : Func) (hf : Tryz.pinned.checked.prog.funcNamed "cordon/cordonlaw14.JarApart" = some f) (hfn : Tryz.pinned.checked.prog.funcs[f]? = some fn) :
    true = Tryz.pinned.checked.prog.looks [] ∧ ∀ (j : Nat) t, fn.params[j]? = some t → Tryz.pinned.checked.prog.wantsStandIn t = false := by
  obtain rfl : f = 4 := Option.some.inj ((show Tryz.prog.funcNamed "cordon/cordonlaw14.JarApart" = some 4 by kernel_rfl).symm.trans hf) |>.symm
  obtain rfl : fn = Tryz.f4 := (Option.some.inj (Tryz.func4.symm.trans hfn)).symm
  refine ⟨by kernel_rfl, fun j t ht => ?_⟩
  rw [Tryz.params4] at ht
  rcases (show t = 22 ∨ t = 29 ∨ t = 3 by simpa [or_comm] using Array.mem_of_getElem? ht) with rfl | rfl | rfl
  · exact (show Tryz.prog.wantsStandIn 22 = false by kernel_rfl)
  · exact (show Tryz.prog.wantsStandIn 29 = false by kernel_rfl)
  · exact (show Tryz.prog.wantsStandIn 3 = false by kernel_rfl)
theorem card (hw : Walks) : Rows.JarApartCardSaid :=
  Claim7.holds_tied_plain_at .later [] _ _ _ _ (said hw) (fun _ h => by cases h) (by kernel_rfl) (fun _ h => by cases h) jarApart_row_tie rfl ⟨rfl, rfl⟩ (by kernel_rfl) rfl plain (by kernel_rfl)
end Go.Proofs.YtniehbjoogaccaaGreatDoor.jarApart
namespace Go.Proofs.YtniehbjoogaccaaGreatDoor.Jar
open Go.RowKit Go.Shelf Url
attribute [local go_sem] Oper.semAt_some
set_option linter.unusedVariables false
theorem eq_org (u x : U) (w : World) : (Op.equalIn 10000 62 (Org.orgV u.scheme u.host u.port 0) (Org.orgV x.scheme x.host x.port 0)).run Tryz.prog w = .ok (decide (keyU u = keyU x)) w := by
  unfold Org.orgV
  rw [eq_org4]
  congr 1
  unfold keyU
  by_cases h1 : u.scheme = x.scheme <;> by_cases h2 : u.host = x.host <;> by_cases h3 : u.port = x.port <;> simp [h1, h2, h3] <;> omega
end Go.Proofs.YtniehbjoogaccaaGreatDoor.Jar
namespace Go.Proofs.YtniehbjoogaccaaGreatDoor.Jar
open Go.RowKit Go.Shelf Url Ck
attribute [local go_sem] Oper.semAt_some
set_option linter.unusedVariables false
theorem act_no {x : Ax} (h : (∃ e, parseU x.at_ = .inl e) ∨ ∃ e, parseC x.set = .inl e) (l : List En) : actN l x = l := by
  unfold actN
  rcases h with ⟨e, h⟩ | ⟨e, h⟩
  · rw [h]
  · rw [h]; cases parseU x.at_ <;> rfl
theorem act_yes {x : Ax} {u : U} {c : Ck} (h : parseU x.at_ = .inr u) (h2 : parseC x.set = .inr c) (l : List En) : actN l x = setN l u c x.now := by
  unfold actN
  rw [h, h2]
theorem act_other {x : Ax} {v : U} {k : Key} (l : List En) (h : parseU x.at_ = .inr v) (hk : keyU v ≠ k) : (actN l x).filter (mine k) = l.filter (mine k) := by
  rcases act_is l x with h1 | ⟨u, c, h1, h2, h3⟩
  · rw [h1]
  · rw [h] at h1; cases h1
    rw [h3]
    rcases setN_or l v c x.now with h4 | h4
    · rw [h4]
    · rw [h4]; exact set_other l v c x.now k hk
theorem act_same {x : Ax} {v : U} {k : Key} {l m : List En} (h : parseU x.at_ = .inr v) (hk : keyU v = k) (he : l.filter (mine k) = m.filter (mine k)) : (actN l x).filter (mine k) = (actN m x).filter (mine k) := by
  subst hk
  cases h2 : parseC x.set with
  | inl e => rw [act_no (.inr ⟨e, h2⟩), act_no (.inr ⟨e, h2⟩)]; exact he
  | inr c =>
    rw [act_yes h h2, act_yes h h2]
    unfold setN
    split
    · rw [set_mine, set_mine, he]
    · exact he
theorem act_few {l : List En} {x : Ax} (h : ∀ k, lenJ k l ≤ 8) : ∀ k, lenJ k (actN l x) ≤ 8 := by
  rcases act_is l x with h1 | ⟨u, c, h1, h2, h3⟩
  · rw [h1]; exact h
  · rw [h3]
    rcases setN_or l u c x.now with h4 | h4
    · rw [h4]; exact h
    · rw [h4]; exact set_few l u c x.now h
end Go.Proofs.YtniehbjoogaccaaGreatDoor.Jar
