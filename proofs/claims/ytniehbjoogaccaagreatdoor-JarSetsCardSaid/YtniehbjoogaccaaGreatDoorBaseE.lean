/- The texts that these laws rest on, put together, part 5. Conditions: as each says. -/
import Derived.Test.YtniehbjoogaccaaGreatDoorBaseD
import Derived.Deep.AppendLies
import Derived.Room.AppendUpon
import Derived.Stop.Looks
import Derived.Deep.LoopGhost
import Derived.Test.YtniehbjoogaccaaGreatDoorSortShelf
namespace Go.Proofs.YtniehbjoogaccaaGreatDoor.Ck
open Go.RowKit Go.Shelf Url Hdr
attribute [local go_sem] Oper.semAt_some
set_option linter.unusedVariables false
theorem CB.put {B : Nat} {X : World} {a0 a1 a2 a3 a4 a5 : Value} (h : CB B #[a0, a1, a2, a3, a4, a5] X) (v0 v1 v2 v3 v4 v5 : Value) :
    ∃ Y, (((((X.setCell ⟨B, 0, none⟩ v0).setCell ⟨B, 1, none⟩ v1).setCell ⟨B, 2, none⟩ v2).setCell ⟨B, 3, none⟩ v3).setCell ⟨B, 4, none⟩ v4).setCell ⟨B, 5, none⟩ v5 = Y ∧ CB B #[v0, v1, v2, v3, v4, v5] Y ∧ (∀ S : Nat → Prop, ¬ S B → Keep S X Y) ∧ ∀ M, M ≤ B → Below M X Y := by
  have h8 := (((((h.set 0 v0).set 1 v1).set 2 v2).set 3 v3).set 4 v4).set 5 v5
  simp only [List.setIfInBounds_toArray, List.set_cons_zero, List.set_cons_succ] at h8
  refine ⟨_, rfl, h8, fun S hS => ?_, fun M hM => ?_⟩
  · exact (((((Keep.setCell _ _ _ hS).trans (Keep.setCell _ _ _ hS)).trans (Keep.setCell _ _ _ hS)).trans (Keep.setCell _ _ _ hS)).trans (Keep.setCell _ _ _ hS)).trans (Keep.setCell _ _ _ hS)
  · exact (((((((Below.refl M X).setCell (p := ⟨B, 0, none⟩) hM v0).setCell (p := ⟨B, 1, none⟩) hM v1).setCell (p := ⟨B, 2, none⟩) hM v2).setCell (p := ⟨B, 3, none⟩) hM v3).setCell (p := ⟨B, 4, none⟩) hM v4).setCell (p := ⟨B, 5, none⟩) hM v5)
theorem CB.keep {b : Nat} {cs : Array Value} {S : Nat → Prop} {X Y : World} (h : CB b cs X) (hk : Keep S X Y) (hS : S b) : CB b cs Y := hk.heap hS h
theorem size_ck : (Tryz.prog.info? 42).map (·.size) = some 6 := by kernel_rfl
theorem results_cc {fn : Func} {p u : Tmp} {ty ty2 : TypeId} (h : fn.results = #[.cell p ty, .cell u ty2]) (tmps : Array Value) (P : Program) (w : World) :
    (results fn tmps).run P w =
      ((asAddr (tmps.getD p undef)).run P w).andThen fun a w₁ => ((loadVar ty a).run P w₁).andThen fun v w₂ => ((asAddr (tmps.getD u undef)).run P w₂).andThen fun b w₃ => ((loadVar ty2 b).run P w₃).andThen fun x w₄ => .ok (.tuple #[v, x]) w₄ := by
  simp only [results, h]
  simp [Sem.run_bind, Result.andThen]
theorem ret_ck2 {fn : Func} {p u : Tmp} (h : fn.results = #[.cell p 42, .cell u 4]) (tmps : Array Value) (w : World) (B Be : Nat) (cs : Array Value) (x : Value) (hp : tmps.getD p undef = .pointer (some ⟨B, 0, none⟩)) (hu : tmps.getD u undef = .pointer (some ⟨Be, 0, none⟩)) (hU : CB B cs w) (hs : cs.size = 6) (hE : w.cell? ⟨Be, 0, none⟩ = some x) :
    (results fn tmps).run Tryz.prog w = .ok (.tuple #[.agg cs, x]) w := by
  rw [results_cc h, hp, hu]
  have ha : ∀ w', (isAgg 4).run Tryz.prog w' = .ok false w' := Tryz.isAgg4
  have h2 : (loadVar 4 ⟨Be, 0, none⟩).run Tryz.prog w = .ok x w := by simp [loadVar, ha, hE]
  simp [asAddr, Result.andThen, run_loadVar_row w B 42 _ cs (0, 0) _ hU Tryz.underlying42 rfl (by rw [size_ck, hs]), h2]
theorem head_at (p : List UInt8) : headC p = if (atOk 61 p && tokL (trimB (atFst 61 p)) && (trimB (atSnd 61 p)).all valB) = true then some ⟨trimB (atFst 61 p), trimB (atSnd 61 p), [], [], -1, false⟩ else none := by
  obtain ⟨h1, h2⟩ := txt_at p
  unfold headC
  rw [h1, h2, ok_mem]
  simp only [Bool.and_eq_true, decide_eq_true_eq, and_assoc]
def CoOut (r : Option Ck) (w : World) (e : Ending) (w' : World) : Prop := ∃ v, e = .returned (.tuple #[v, .bool r.isSome]) ∧ CkIs w' v (r.getD zeroC) ∧ Below w.heap.size w w'
theorem zero_is (w : World) : CkIs w (.agg #[.slice none 0 0, .slice none 0 0, .slice none 0 0, .string ⟨#[]⟩, .int .i64 0, .bool false]) zeroC := ⟨_, _, _, _, _, _, _, _, _, rfl, by_nil _, by_nil _, by_nil _⟩
theorem by_bool {w : World} {k : Nat} {z : Bool} (hE : Boxed w k 4 (.bool z)) {q : Option Addr} {n c : Nat} {l : List UInt8} (h : By w (.slice q n c) l) : ∀ a, q = some a → 0 < n → a.block ≠ k := by
  intro a ha h0 e
  obtain ⟨b', o, he, hc⟩ := h.at.2.2.2.2.at h0
  rw [ha] at he
  cases he
  have e : b' = k := e
  subst e
  have h1 := hc 0 h0
  simp only [World.cell?, show w.heap[b']? = _ from hE] at h1
  rcases o with _ | o
  all_goals simp at h1
theorem by_lt {w : World} {q : Option Addr} {n c : Nat} {l : List UInt8} (h : By w (.slice q n c) l) : ∀ a, q = some a → 0 < n → a.block < w.heap.size := fun a ha h0 => bytes_lt h.at.2.2.2.2 a ha h0
theorem CX.keep {b : Nat} {q1 : Option Addr} {n1 c1 : Nat} {q2 : Option Addr} {n2 c2 : Nat} {q3 : Option Addr} {n3 c3 : Nat} {c : Ck} {S : Nat → Prop} {X Y : World} (h : CX b q1 n1 c1 q2 n2 c2 q3 n3 c3 c X) (hk : Keep S X Y) (hb : S b) (h1 : ∀ a, q1 = some a → 0 < n1 → S a.block) (h2 : ∀ a, q2 = some a → 0 < n2 → S a.block) (h3 : ∀ a, q3 = some a → 0 < n3 → S a.block) : CX b q1 n1 c1 q2 n2 c2 q3 n3 c3 c Y := by
  obtain ⟨_, _, _, _, _, _, _, _, _, hv, i1, i2, i3⟩ := id h.2
  cases hv
  exact ⟨h.1.keep hk hb, _, _, _, _, _, _, _, _, _, rfl, by_keep i1 hk h1, by_keep i2 hk h2, by_keep i3 hk h3⟩
theorem CX.parts {b : Nat} {q1 : Option Addr} {n1 c1 : Nat} {q2 : Option Addr} {n2 c2 : Nat} {q3 : Option Addr} {n3 c3 : Nat} {c : Ck} {X : World} (h : CX b q1 n1 c1 q2 n2 c2 q3 n3 c3 c X) : By X (.slice q1 n1 c1) c.name ∧ By X (.slice q2 n2 c2) c.value ∧ By X (.slice q3 n3 c3) c.path := by
  obtain ⟨_, _, _, _, _, _, _, _, _, hv, i1, i2, i3⟩ := id h.2
  cases hv
  exact ⟨i1, i2, i3⟩
structure AtI (b0 : Nat) (q1 : Option Addr) (n1 c1 : Nat) (q2 : Option Addr) (n2 c2 : Nat) (c0 : Ck) (W5 : World) (pre : List (Nat × List UInt8)) (Pv : Nat → Prop) (W : World) (q : Option Addr) (n c : Nat) (d : Ck) : Prop where
  box : CX b0 q1 n1 c1 q2 n2 c2 q n c d W
  got : attrs c0 (pre.map Prod.snd) = some d
  off : ∀ a, q = some a → 0 < n → ¬ Pv a.block
  new : ∀ b, Pv b → W5.heap.size ≤ b
  kept : Keep (fun b => b < W5.heap.size ∧ b ≠ b0) W5 W
def AtJ (b0 : Nat) (q1 : Option Addr) (n1 c1 : Nat) (q2 : Option Addr) (n2 c2 : Nat) (c0 : Ck) (W5 : World) (pre : List (Nat × List UInt8)) (Pv : Nat → Prop) (W : World) : Prop := ∃ q n c d, AtI b0 q1 n1 c1 q2 n2 c2 c0 W5 pre Pv W q n c d
theorem AtI.to {b0 : Nat} {q1 : Option Addr} {n1 c1 : Nat} {q2 : Option Addr} {n2 c2 : Nat} {c0 : Ck} {W5 : World} (hb0 : b0 < W5.heap.size) (h1 : ∀ a, q1 = some a → 0 < n1 → a.block < W5.heap.size) (h2 : ∀ a, q2 = some a → 0 < n2 → a.block < W5.heap.size) {pre : List (Nat × List UInt8)} {Pv Pv' : Nat → Prop} {A B : World} {q : Option Addr} {n c : Nat} {d : Ck} (h : AtI b0 q1 n1 c1 q2 n2 c2 c0 W5 pre Pv A q n c d) (hk : Keep (fun b => ¬ Pv b) A B) (hp : ∀ b, Pv' b → (Pv b ∨ A.heap.size ≤ b)) : AtI b0 q1 n1 c1 q2 n2 c2 c0 W5 pre Pv' B q n c d := by
  have hnP : ∀ k, k < W5.heap.size → ¬ Pv k := fun k hk hP => by have := h.new k hP; omega
  refine ⟨h.box.keep hk (hnP _ hb0) (fun a ha h0 => hnP _ (h1 a ha h0)) (fun a ha h0 => hnP _ (h2 a ha h0)) h.off, h.got, fun a ha h0 hP => ?_, fun b hb => ?_, h.kept.trans (hk.mono fun b _ hb => hnP b hb.1)⟩
  · rcases hp _ hP with h' | h'
    · exact h.off a ha h0 h'
    · have := by_lt h.box.parts.2.2 a ha h0
      omega
  · rcases hp b hb with h' | h'
    · exact h.new b h'
    · have := h.kept.size
      omega
theorem AtJ_abide {b0 : Nat} {q1 : Option Addr} {n1 c1 : Nat} {q2 : Option Addr} {n2 c2 : Nat} {c0 : Ck} {W5 : World} (hb0 : b0 < W5.heap.size) (h1 : ∀ a, q1 = some a → 0 < n1 → a.block < W5.heap.size) (h2 : ∀ a, q2 = some a → 0 < n2 → a.block < W5.heap.size) : Abide (AtJ b0 q1 n1 c1 q2 n2 c2 c0 W5) := by
  rintro s Pv Pv' A B ⟨q, n, c, d, h⟩ hk hp
  exact ⟨q, n, c, d, h.to hb0 h1 h2 hk (fun b hb => (hp b hb).1)⟩
structure AtX (w : World) (c0 : Ck) (xs : List (Nat × List UInt8)) (W5 : World) (c : Code) (Pv : Nat → Prop) (W : World) : Prop where
  ret : c = .ret
  zero : CB w.heap.size #[.slice none 0 0, .slice none 0 0, .slice none 0 0, .string ⟨#[]⟩, .int .i64 0, .bool false] W
  flag : Boxed W (w.heap.size + 1) 4 (.bool false)
  none : attrs c0 (xs.map Prod.snd) = none
  bel : Below w.heap.size w W
  new : ∀ b, Pv b → W5.heap.size ≤ b
  big : W5.heap.size ≤ W.heap.size
theorem AtX_abide {w : World} {c0 : Ck} {xs : List (Nat × List UInt8)} {W5 : World} (h0 : w.heap.size + 2 ≤ W5.heap.size) (c : Code) : Abide (fun (_ : List (Nat × List UInt8)) Pv W => AtX w c0 xs W5 c Pv W) := by
  rintro s Pv Pv' A B h hk hp
  have hnP : ∀ k, k < W5.heap.size → ¬ Pv k := fun k hk hP => by have := h.new k hP; omega
  refine ⟨h.ret, h.zero.keep hk (hnP _ (by omega)), hk.boxed h.flag (hnP _ (by omega)), h.none, h.bel.trans ((hk.mono fun b _ hb => hnP b (by omega)).below h.bel.size), fun b hb => ?_, Nat.le_trans h.big hk.size⟩
  rcases (hp b hb).1 with h' | h'
  · exact h.new b h'
  · have := h.big
    omega
theorem attrs_one (c0 d : Ck) (pre : List (Nat × List UInt8)) (xi : Nat) (x : List UInt8) (rest : List (Nat × List UInt8)) (h : attrs c0 (pre.map Prod.snd) = some d) : (attr d x = none → attrs c0 ((pre ++ (xi, x) :: rest).map Prod.snd) = none) ∧ ∀ e, attr d x = some e → attrs c0 ((pre ++ [(xi, x)]).map Prod.snd) = some e := by
  rw [List.map_append, List.map_append, attrs_app _ _ _ _ h, attrs_app _ _ _ _ h]
  refine ⟨fun hn => ?_, fun e he => ?_⟩
  · simp only [List.map_cons, attrs, hn]
  · simp only [List.map_cons, List.map_nil, attrs, he]
theorem attr_at (d : Ck) (x : List UInt8) : attr d x = attrK d (Ref.lowL (trimB (atFst 61 x))) (trimB (atSnd 61 x)) := by
  obtain ⟨h1, h2⟩ := txt_at x
  rw [attr_is, h1]
  unfold keyL
  rw [h2]
set_option maxRecDepth 100000 in
set_option maxHeartbeats 16000000 in
theorem cookieOf_any (q : Option Addr) (n c : Nat) (t : List UInt8) (w : World) (hby : By w (.slice q n c) t) (hn : n ≤ 1048576) :
    Calls Tryz.prog 45 #[.slice q n c] w (CoOut (cookieL t) w) := by
  have hl := hby.at.1
  obtain ⟨W1, hW1⟩ : ∃ W1, (w.alloc (.cells #[.slice none 0 0, .slice none 0 0, .slice none 0 0, .string ⟨#[]⟩, .int .i64 0, .bool false] 42)).alloc (.cells #[.bool false] 4) = W1 := ⟨_, rfl⟩
  have A1 : Below w.heap.size w W1 := hW1 ▸ ((Below.refl _ w).alloc (Nat.le_refl _) _).alloc (by simp) _
  have bR : CB w.heap.size #[.slice none 0 0, .slice none 0 0, .slice none 0 0, .string ⟨#[]⟩, .int .i64 0, .bool false] W1 := hW1 ▸ (CB.new w _).on (below_alloc _)
  have bE : Boxed W1 (w.heap.size + 1) 4 (.bool false) := by
    have := Boxed.new (w.alloc (.cells #[.slice none 0 0, .slice none 0 0, .slice none 0 0, .string ⟨#[]⟩, .int .i64 0, .bool false] 42)) 4 (.bool false)
    rw [World.size_alloc] at this
    exact hW1 ▸ this
  have hs1 : W1.heap.size = w.heap.size + 2 := by rw [← hW1]; simp
  have HW1 := Lib.hid hW1
  clear hW1
  refine (callsIn_wide (n := 1)).1 ?_
  refine callsIn_of_wp_marks Tryz.func45 rfl trivial ?_ rfl
  simp only [Tryz.ntmps45, List.size_toArray, List.length_cons, List.length_nil, Nat.reduceAdd, Nat.reduceSub, Array.replicate_succ, Array.replicate_zero, List.push_toArray, List.append_toArray, List.nil_append, List.cons_append]
  have con := At_by q n c t 59 W1 (hby.on A1) (by omega)
  have HC := Lib.hid (cookie_go t)
  obtain ⟨k1, k2⟩ := at_lens 59 t
  have HK := Lib.hid (show (atFst 59 t).length ≤ 1048576 ∧ (atSnd 59 t).length ≤ 1048576 by omega)
  generalize cookieL t = R at *
  generalize atFst 59 t = p at *
  generalize atSnd 59 t = u at *
  generalize atOk 59 t = ok at *
  clear hby hl hn k1 k2
  gi_wp2_with fail
  rw [HW1.out]
  gi_wp2_with fail
  refine ⟨trivial, (callsIn_wide.2 con).mono ?_⟩
  rintro e W2 ⟨q1, n1, c1, q2, n2, c2, rfl, y1, y2, hb⟩
  have con := pair_any q1 n1 c1 p W2 y1.1 (by have := y1.1.at.1; have := HK.out.1; omega)
  have A2 := A1.trans (hb.mono A1.size)
  replace bR := bR.on hb
  replace bE := (Keep.of_below hb).boxed bE bE.lt
  have y2' := y2.1
  have HH := Lib.hid (head_at p)
  obtain ⟨l1, l2⟩ := at_lens 61 p
  have HL1 := Lib.hid (show (trimB (atFst 61 p)).length ≤ 1048576 ∧ (trimB (atSnd 61 p)).length ≤ 1048576 by
    have h1 := trim_le (atFst 61 p)
    have h2 := trim_le (atSnd 61 p)
    have := HK.out.1
    omega)
  generalize trimB (atFst 61 p) = NM at *
  generalize trimB (atSnd 61 p) = VL at *
  generalize atOk 61 p = f at *
  clear y1 y2 hb l1 l2
  gi_wp2_with fail
  refine ⟨trivial, (callsIn_wide.2 con).mono ?_⟩
  rintro e W3 ⟨q3, n3, c3, q4, n4, c4, rfl, y3, y4, hb⟩
  have A3 := A2.trans (hb.mono A2.size)
  replace bR := bR.on hb
  replace bE := (Keep.of_below hb).boxed bE bE.lt
  replace y2' := y2'.on hb
  have conT := Token_any q3 n3 c3 NM W3 y3.1.at.1 (by have := y3.1.at.1; have := HL1.out.1; omega) y3.1.at.2.2.2.2
  have conV := isValue_any q4 n4 c4 VL W3 y4.1.at.1 (by have := y4.1.at.1; have := HL1.out.2; omega) y4.1.at.2.2.2.2
  clear hb con
  generalize tokL NM = tk at *
  generalize VL.all valB = va at *
  obtain ⟨g, hg⟩ : ∃ g, (f && tk && va) = g := ⟨_, rfl⟩
  rw [hg] at HH
  have HG := Lib.hid hg
  clear hg
  cases g with
  | false =>
    have HE := Lib.hid (show R = none by rw [HC.out, HH.out, if_neg (by simp)])
    have z0 := bR.box 0 _ rfl
    have z1 := bR.box 1 _ rfl
    have z2 := bR.box 2 _ rfl
    have z3 := bR.box 3 _ rfl
    have z4 := bR.box 4 _ rfl
    have z5 := bR.box 5 _ rfl
    have f0 := bR.frozen 0
    have f1 := bR.frozen 1
    have f2 := bR.frozen 2
    have f3 := bR.frozen 3
    have f4 := bR.frozen 4
    have f5 := bR.frozen 5
    obtain ⟨Y, hY, bY, hkY, hBY⟩ := bR.put (.slice none 0 0) (.slice none 0 0) (.slice none 0 0) (.string ⟨#[]⟩) (.int .i64 0) (.bool false)
    have eY := (hkY (fun b => b = w.heap.size + 1) (by omega)).boxed bE rfl
    have bZ := (Keep.setCell (S := fun b => b = w.heap.size) Y ⟨w.heap.size + 1, 0, none⟩ (.bool false) (by simp)).heap rfl bY
    have eZ := (eY.set (.bool false)).cell
    have AZ := (A3.trans ((hBY w.heap.size (Nat.le_refl _)))).setCell (p := ⟨w.heap.size + 1, 0, none⟩) (by simp) (.bool false)
    have ec : ((((((W3.setCell ⟨w.heap.size, 0, none⟩ (.slice none 0 0)).setCell ⟨w.heap.size, 1, none⟩ (.slice none 0 0)).setCell ⟨w.heap.size, 2, none⟩ (.slice none 0 0)).setCell ⟨w.heap.size, 3, none⟩ (.string ⟨#[]⟩)).setCell ⟨w.heap.size, 4, none⟩ (.int .i64 0)).setCell ⟨w.heap.size, 5, none⟩ (.bool false)).cell? ⟨w.heap.size + 1, 0, none⟩ = some (.bool false) := by rw [hY]; exact eY.cell
    have ef : ((((((W3.setCell ⟨w.heap.size, 0, none⟩ (.slice none 0 0)).setCell ⟨w.heap.size, 1, none⟩ (.slice none 0 0)).setCell ⟨w.heap.size, 2, none⟩ (.slice none 0 0)).setCell ⟨w.heap.size, 3, none⟩ (.string ⟨#[]⟩)).setCell ⟨w.heap.size, 4, none⟩ (.int .i64 0)).setCell ⟨w.heap.size, 5, none⟩ (.bool false)).frozen? ⟨w.heap.size + 1, 0, none⟩ = false := by rw [hY]; exact eY.frozen
    have HY := Lib.hid hY
    clear hY hkY hBY bY eY bR bE y2' y3 y4 HC HH HK HL1
    have KE : ∀ (Z : World), Z = Y.setCell ⟨w.heap.size + 1, 0, none⟩ (.bool false) → CoOut R w (.returned (.tuple #[.agg #[.slice none 0 0, .slice none 0 0, .slice none 0 0, .string ⟨#[]⟩, .int .i64 0, .bool false], .bool false])) Z := fun Z hZ => by
      rw [HE.out, hZ]
      exact ⟨_, rfl, zero_is _, AZ⟩
    cases f with
    | false =>
      clear conT conV HG
      gi_wp2_with fail
      refine ⟨trivial, ?_⟩
      gi_wp2_with fail
      refine ⟨trivial, ?_⟩
      gi_wp2
      rw [HY.out]
      exact ⟨_, ret_ck2 rfl _ _ w.heap.size (w.heap.size + 1) _ _ rfl rfl bZ rfl eZ, KE _ rfl⟩
    | true =>
      cases tk with
      | false =>
        clear conV HG
        gi_wp2_with fail
        refine ⟨trivial, (callsIn_wide.2 conT).mono ?_⟩
        rintro e w' ⟨rfl, rfl⟩
        gi_wp2_with fail
        refine ⟨trivial, ?_⟩
        gi_wp2
        rw [HY.out]
        exact ⟨_, ret_ck2 rfl _ _ w.heap.size (w.heap.size + 1) _ _ rfl rfl bZ rfl eZ, KE _ rfl⟩
      | true =>
        obtain rfl : va = false := HG.out
        clear HG
        gi_wp2_with fail
        refine ⟨trivial, (callsIn_wide.2 conT).mono ?_⟩
        rintro e w' ⟨rfl, rfl⟩
        gi_wp2_with fail
        refine ⟨trivial, (callsIn_wide.2 conV).mono ?_⟩
        rintro e w' ⟨rfl, rfl⟩
        gi_wp2
        rw [HY.out]
        exact ⟨_, ret_ck2 rfl _ _ w.heap.size (w.heap.size + 1) _ _ rfl rfl bZ rfl eZ, KE _ rfl⟩
  | true =>
    obtain ⟨⟨rfl, rfl⟩, rfl⟩ : (f = true ∧ tk = true) ∧ va = true := by
      have h := HG.out
      simp only [Bool.and_eq_true] at h
      exact h
    have HE := Lib.hid (show R = attrs ⟨NM, VL, [], [], -1, false⟩ (Ref.splitL 59 u) by rw [HC.out, HH.out, if_pos rfl])
    clear HC HH HG
    gi_wp2_with fail
    refine ⟨trivial, (callsIn_wide.2 conT).mono ?_⟩
    rintro e w' ⟨rfl, rfl⟩
    gi_wp2_with fail
    refine ⟨trivial, (callsIn_wide.2 conV).mono ?_⟩
    rintro e w' ⟨rfl, rfl⟩
    clear conT conV
    -- the loop
    have hb0 : CkIs W3 (.agg #[.slice q3 n3 c3, .slice q4 n4 c4, .slice none 0 0, .string ⟨([] : List UInt8).toArray⟩, .int .i64 (-1), .bool false]) ⟨NM, VL, [], [], -1, false⟩ := ⟨_, _, _, _, _, _, _, _, _, rfl, y3.1, y4.1, by_nil _⟩
    have hs3 : w.heap.size + 2 ≤ W3.heap.size := by have := bE.lt; omega
    have X0 := CX.new (c := ⟨NM, VL, [], [], -1, false⟩) hb0
    obtain ⟨W4, hW4⟩ : ∃ Z, W3.alloc (.cells #[.slice q3 n3 c3, .slice q4 n4 c4, .slice none 0 0, .string ⟨#[]⟩, .int .i64 (-1), .bool false] 42) = Z := ⟨_, rfl⟩
    have hB4 : Below W3.heap.size W3 W4 := hW4 ▸ below_alloc _
    have hs4 : W4.heap.size = W3.heap.size + 1 := by rw [← hW4]; simp
    replace X0 : CX W3.heap.size q3 n3 c3 q4 n4 c4 none 0 0 ⟨NM, VL, [], [], -1, false⟩ W4 := by rw [← hW4]; exact X0
    have HL3 := Lib.hid (by_lt y3.1)
    have HL4 := Lib.hid (by_lt y4.1)
    have y24 := y2'.on hB4
    have con := Split_any q2 n2 c2 59 u W4 y24.at.1 (by have := y24.at.1; have := HK.out.2; omega) y24.at.2.2.2.2
    have HU := Lib.hid (show u.length = n2 from y24.at.1)
    have HUB := Lib.hid HK.out.2
    have HW4 := Lib.hid hW4
    replace bR := bR.on hB4
    replace bE := (Keep.of_below hB4).boxed bE bE.lt
    have A4 := A3.trans (hB4.mono A3.size)
    clear hW4 hb0 y3 y4 y2' y24 hB4 HK HL1 A1 A2
    gi_wp2_with fail
    rw [HW4.out]
    refine ⟨trivial, (callsIn_wide.2 con).mono ?_⟩
    rintro e W5 ⟨B, v', rfl, hB, hBc, hrow, hBl, hbel⟩
    have hsm := splitX_small 59 u n2 HU.out
    have hit := Split_iter (by have := HUB.out; have := HU.out; omega) hB hBc hrow
    have hRl0 : ∀ b, (b = B ∨ b = W4.heap.size ∨ v'.ownBlock = some b) → W3.heap.size + 1 ≤ b ∧ b < W5.heap.size := fun b hb => by
      rcases hb with rfl | rfl | hb
      · exact ⟨by omega, hB.lt⟩
      · exact ⟨by omega, hBc.lt⟩
      · have := hrow.lt b hb; exact ⟨by omega, this.2⟩
    obtain ⟨RB, hRB⟩ : ∃ RB : Nat → Prop, RB = fun b => b = B ∨ b = W4.heap.size ∨ v'.ownBlock = some b := ⟨_, rfl⟩
    rw [← hRB] at hit
    have hRl : ∀ b, RB b → W3.heap.size + 1 ≤ b ∧ b < W5.heap.size := fun b hb => hRl0 b (by rw [hRB] at hb; exact hb)
    clear hRB hRl0
    have X5 := X0.on hbel
    replace bR := bR.on hbel
    replace bE := (Keep.of_below hbel).boxed bE bE.lt
    have A5 := A4.trans (hbel.mono A4.size)
    have hs5 : W3.heap.size + 1 ≤ W5.heap.size := by have := hbel.size; omega
    have hsU : Ref.splitL 59 u = (splitX 59 u).map Prod.snd := (Host.splitX_snd 59 u).symm
    have HE2 := Lib.hid (show R = attrs ⟨NM, VL, [], [], -1, false⟩ ((splitX 59 u).map Prod.snd) by rw [HE.out, hsU])
    clear con hB hBc hrow hBl hbel HW4 X0 A4 A3 hsU HE
    generalize splitX 59 u = xs at *
    obtain ⟨c0, hc0⟩ : ∃ c0 : Ck, ⟨NM, VL, [], [], -1, false⟩ = c0 := ⟨_, rfl⟩
    rw [hc0] at HE2 X5
    clear hc0
    have hl1 : ∀ a, q3 = some a → 0 < n3 → a.block < W5.heap.size := fun a ha h0 => by have := HL3.out a ha h0; omega
    have hl2 : ∀ a, q4 = some a → 0 < n4 → a.block < W5.heap.size := fun a ha h0 => by have := HL4.out a ha h0; omega
    have HN2 := Lib.hid (show n2 ≤ 1048576 by have := HUB.out; have := HU.out; omega)
    clear HL3 HL4 HU HUB hs4
    gi_wp2
    refine rf_law (gf := 146) (lb := #[.pointer (some ⟨B, 0, none⟩), .pointer (some ⟨W4.heap.size, 0, none⟩)]) rfl (enters_of Tryz.func146 (by kernel_rfl) rfl)
      hit (Keep.refl _ _) (fun b hb => (hRl b hb).2) (fun x args G W h => by obtain ⟨v, rfl, _⟩ := h; rfl)
      (AtJ W3.heap.size q3 n3 c3 q4 n4 c4 c0 W5) (fun cc _ Pv W => AtX w c0 xs W5 cc Pv W) (AtJ_abide (by omega) hl1 hl2) (AtX_abide (by omega))
      ⟨none, 0, 0, c0, X5, rfl, (fun _ h => by cases h), (fun _ h => h.elim), Keep.refl _ _⟩ ?round ?done ?stop
    case round =>
      rintro ll pre ⟨xi, x⟩ rest Pv G args Wr hll hxs ⟨qp, np, cp, d, hI⟩ hPl hGl hPb hGP ⟨p, rfl, hp, rfl⟩
      have hxl : x.length ≤ 1048576 := by
        have := hsm (xi, x) (by rw [hxs]; simp)
        have := HN2.out
        simp only at *
        omega
      simp only at hp
      obtain ⟨qx, cx, rfl, _, hnc, hcm, hbs, hblk⟩ := row_open hp
      have hbyx : By Wr (.slice qx x.length cx) x := By.row hp
      have HXS := Lib.hid hxs
      clear hxs
      gi_wp2
      refine ⟨Keep.refl _ _, fun W6 hk6 hs6 r hr => ?_⟩
      have hk6' : Keep (fun b => ¬ Pv b) Wr W6 := hk6.mono fun b _ hb h => hb (h ▸ hPl)
      replace hI := hI.to (Pv' := Pv) (by omega) hl1 hl2 hk6' (fun b hb => .inl hb)
      have gx : Keep (fun b => (Value.slice qx x.length cx).ownBlock = some b) Wr W6 := hk6.mono fun b _ hb h => hGl (h ▸ hb)
      have hby6 : By W6 (.slice qx x.length cx) x := by_keep hbyx gx (fun a ha _ => (hblk a ha).2.2)
      have hPb6 : ∀ b, Pv b → b < W6.heap.size := fun b hb => by rw [hs6]; exact hPb b hb
      have con := pair_any qx x.length cx x W6 hby6 (by omega)
      have HAT := Lib.hid (attr_at d x)
      have HA1 := Lib.hid (attrs_one c0 d pre xi x rest hI.got)
      obtain ⟨l1, l2⟩ := at_lens 61 x
      have HLX := Lib.hid (show (trimB (atFst 61 x)).length ≤ 1048576 ∧ (trimB (atSnd 61 x)).length ≤ 1048576 by
        have h1 := trim_le (atFst 61 x)
        have h2 := trim_le (atSnd 61 x)
        omega)
      have hnP : ∀ b, b < W5.heap.size → ¬ Pv b := fun b hb h => by have := hI.new b h; omega
      have hsz6 : W5.heap.size ≤ W6.heap.size := hI.kept.size
      generalize trimB (atFst 61 x) = kn at *
      generalize trimB (atSnd 61 x) = tx at *
      generalize atOk 61 x = fd at *
      clear hr hk6 hk6' hs6 hbs hp hbyx hblk gx hby6 l1 l2 hxl hPb hnc hcm
      gi_wp2_with fail
      refine ⟨trivial, rfl, (CallsIn.inRound ll (callsIn_wide.2 con)).mono ?_⟩
      rintro e W7 ⟨qa, na, ca, qt, nt, ct, rfl, ya, yt, hb7⟩
      have X7 := hI.box.on hb7
      have con := take_any W3.heap.size q3 n3 c3 q4 n4 c4 qp np cp d qa na ca kn qt nt ct tx W7 X7 ya.1 yt.1 (by have := ya.1.at.1; have := HLX.out.1; omega) (by have := yt.1.at.1; have := HLX.out.2; omega)
      rw [← HAT.out] at con
      have HYT := Lib.hid yt.2
      have HI := Lib.hid hI
      have kb7 : Keep (fun b => b < W6.heap.size) W6 W7 := Keep.of_below hb7
      clear X7 ya yt hb7 HLX HAT hI
      gi_wp2_with fail
      refine ⟨trivial, rfl, (CallsIn.inRound ll (callsIn_wide.2 con)).mono ?_⟩
      rintro e W8 ⟨ok, rfl, hk8, hcase⟩
      have k68 : ∀ S : Nat → Prop, (∀ b, S b → b < W6.heap.size ∧ b ≠ W3.heap.size) → Keep S W6 W8 := fun S hS => (kb7.mono fun b _ h => (hS b h).1).trans (hk8.mono fun b _ h => (hS b h).2)
      have hS0 : ∀ b, (RB b ∨ (Pv b ∧ ¬ (Value.slice qx x.length cx).ownBlock = some b)) → b < W6.heap.size ∧ b ≠ W3.heap.size := fun b hb => by
        rcases hb with h | h
        · have := hRl b h; omega
        · have := hPb6 b h.1
          exact ⟨this, fun e => hnP b (by omega) h.1⟩
      have k58 : Keep (fun b => b < W5.heap.size ∧ b ≠ W3.heap.size) W5 W8 := HI.out.kept.trans (k68 _ fun b hb => ⟨by omega, hb.2⟩)
      rcases hcase with ⟨rfl, hno⟩ | ⟨rfl, q9, n9, c9, d', hyes, X8, hP8⟩
      · have HNO := Lib.hid (show attrs c0 (xs.map Prod.snd) = none by rw [HXS.out]; exact HA1.out.1 hno)
        have bR8 := bR.keep k58 ⟨by omega, by omega⟩
        have bE8 := k58.boxed bE ⟨by omega, by omega⟩
        have A8 : Below w.heap.size w W8 := A5.trans ((k58.mono fun b _ h => ⟨by omega, by omega⟩).below A5.size)
        have z0 := bR8.box 0 _ rfl
        have z1 := bR8.box 1 _ rfl
        have z2 := bR8.box 2 _ rfl
        have z3 := bR8.box 3 _ rfl
        have z4 := bR8.box 4 _ rfl
        have z5 := bR8.box 5 _ rfl
        have f0 := bR8.frozen 0
        have f1 := bR8.frozen 1
        have f2 := bR8.frozen 2
        have f3 := bR8.frozen 3
        have f4 := bR8.frozen 4
        have f5 := bR8.frozen 5
        obtain ⟨Y, hY, bY, hkY, hBY⟩ := bR8.put (.slice none 0 0) (.slice none 0 0) (.slice none 0 0) (.string ⟨#[]⟩) (.int .i64 0) (.bool false)
        have eY := (hkY (fun b => b = w.heap.size + 1) (by omega)).boxed bE8 rfl
        have ec : ((((((W8.setCell ⟨w.heap.size, 0, none⟩ (.slice none 0 0)).setCell ⟨w.heap.size, 1, none⟩ (.slice none 0 0)).setCell ⟨w.heap.size, 2, none⟩ (.slice none 0 0)).setCell ⟨w.heap.size, 3, none⟩ (.string ⟨#[]⟩)).setCell ⟨w.heap.size, 4, none⟩ (.int .i64 0)).setCell ⟨w.heap.size, 5, none⟩ (.bool false)).cell? ⟨w.heap.size + 1, 0, none⟩ = some (.bool false) := by rw [hY]; exact eY.cell
        have ef : ((((((W8.setCell ⟨w.heap.size, 0, none⟩ (.slice none 0 0)).setCell ⟨w.heap.size, 1, none⟩ (.slice none 0 0)).setCell ⟨w.heap.size, 2, none⟩ (.slice none 0 0)).setCell ⟨w.heap.size, 3, none⟩ (.string ⟨#[]⟩)).setCell ⟨w.heap.size, 4, none⟩ (.int .i64 0)).setCell ⟨w.heap.size, 5, none⟩ (.bool false)).frozen? ⟨w.heap.size + 1, 0, none⟩ = false := by rw [hY]; exact eY.frozen
        have bZ := (Keep.setCell (S := fun b => b = w.heap.size) Y ⟨w.heap.size + 1, 0, none⟩ (.bool false) (by simp)).heap rfl bY
        have eZ := eY.set (.bool false)
        have AZ := (A8.trans ((hBY w.heap.size (Nat.le_refl _)))).setCell (p := ⟨w.heap.size + 1, 0, none⟩) (by simp) (.bool false)
        have kZ : ∀ S : Nat → Prop, ¬ S w.heap.size → ¬ S (w.heap.size + 1) → Keep S W8 (Y.setCell ⟨w.heap.size + 1, 0, none⟩ (.bool false)) := fun S h1 h2 => (hkY S h1).trans (Keep.setCell _ _ _ h2)
        have HY := Lib.hid hY
        have HW := Lib.hid (show w.heap.size ≤ w.heap.size ∧ ∀ b, (RB b ∨ (Pv b ∧ ¬ (Value.slice qx x.length cx).ownBlock = some b)) → b ≠ w.heap.size ∧ b ≠ w.heap.size + 1 from ⟨Nat.le_refl _, fun b hb => by
          rcases hb with h | h
          · have := hRl b h; omega
          · exact ⟨fun e => hnP b (by omega) h.1, fun e => hnP b (by omega) h.1⟩⟩)
        clear hY hkY hBY bY eY bR8 bE8 con
        gi_wp2
        rw [HY.out]
        have kF := (k68 _ hS0).trans (kZ _ (fun h => (HW.out.2 _ h).1 rfl) (fun h => (HW.out.2 _ h).2 rfl))
        exact ⟨kF, rfl, bZ, eZ, HNO.out, AZ, fun b hb => HI.out.new b hb.1, Nat.le_trans hsz6 kF.size⟩
      · have HYES := Lib.hid (HA1.out.2 d' hyes)
        have kF := k68 _ hS0
        clear con
        gi_wp2
        exact ⟨kF, q9, n9, c9, d', X8, HYES.out, hP8 (fun b => ¬ (Pv b ∧ ¬ (Value.slice qx x.length cx).ownBlock = some b)) (fun a ha h0 h => HI.out.off a ha h0 h.1) (fun a ha h0 h => by have h1 := HYT.out a ha; have h2 := hPb6 _ h.1; omega), fun b hb => HI.out.new b hb.1, k58⟩
    case done =>
      rintro D Pv Wd hD hPD hPl ⟨qp, np, cp, d, hI⟩ hK
      have HR := Lib.hid (show R = some d from HE2.out.trans hI.got)
      have hDg : W5.heap.size ≤ D := hI.new D hPD
      have bRd := bR.keep hI.kept ⟨by omega, by omega⟩
      have bEd := hI.kept.boxed bE ⟨by omega, by omega⟩
      have A8 : Below w.heap.size w Wd := A5.trans ((hI.kept.mono fun b _ h => ⟨by omega, by omega⟩).below A5.size)
      obtain ⟨i1, i2, i3⟩ := hI.box.parts
      have z0 := bRd.box 0 _ rfl
      have z1 := bRd.box 1 _ rfl
      have z2 := bRd.box 2 _ rfl
      have z3 := bRd.box 3 _ rfl
      have z4 := bRd.box 4 _ rfl
      have z5 := bRd.box 5 _ rfl
      have f0 := bRd.frozen 0
      have f1 := bRd.frozen 1
      have f2 := bRd.frozen 2
      have f3 := bRd.frozen 3
      have f4 := bRd.frozen 4
      have f5 := bRd.frozen 5
      have x0 := hI.box.1.box 0 _ rfl
      have x1 := hI.box.1.box 1 _ rfl
      have x2 := hI.box.1.box 2 _ rfl
      have x3 := hI.box.1.box 3 _ rfl
      have x4 := hI.box.1.box 4 _ rfl
      have x5 := hI.box.1.box 5 _ rfl
      obtain ⟨Y, hY, bY, hkY, hBY⟩ := bRd.put (.slice q3 n3 c3) (.slice q4 n4 c4) (.slice qp np cp) (.string ⟨d.dom.toArray⟩) (.int .i64 d.age) (.bool d.secure)
      have eY := (hkY (fun b => b = w.heap.size + 1) (by omega)).boxed bEd rfl
      have ec : ((((((Wd.setCell ⟨w.heap.size, 0, none⟩ (.slice q3 n3 c3)).setCell ⟨w.heap.size, 1, none⟩ (.slice q4 n4 c4)).setCell ⟨w.heap.size, 2, none⟩ (.slice qp np cp)).setCell ⟨w.heap.size, 3, none⟩ (.string ⟨d.dom.toArray⟩)).setCell ⟨w.heap.size, 4, none⟩ (.int .i64 d.age)).setCell ⟨w.heap.size, 5, none⟩ (.bool d.secure)).cell? ⟨w.heap.size + 1, 0, none⟩ = some (.bool false) := by rw [hY]; exact eY.cell
      have ef : ((((((Wd.setCell ⟨w.heap.size, 0, none⟩ (.slice q3 n3 c3)).setCell ⟨w.heap.size, 1, none⟩ (.slice q4 n4 c4)).setCell ⟨w.heap.size, 2, none⟩ (.slice qp np cp)).setCell ⟨w.heap.size, 3, none⟩ (.string ⟨d.dom.toArray⟩)).setCell ⟨w.heap.size, 4, none⟩ (.int .i64 d.age)).setCell ⟨w.heap.size, 5, none⟩ (.bool d.secure)).frozen? ⟨w.heap.size + 1, 0, none⟩ = false := by rw [hY]; exact eY.frozen
      have kS : ∀ S : Nat → Prop, ¬ S w.heap.size → ¬ S (w.heap.size + 1) → ¬ S D → Keep S Wd ((Y.setCell ⟨w.heap.size + 1, 0, none⟩ (.bool true)).putObj D (.deferred none)) := fun S h1 h2 h3 => ((hkY S h1).trans (Keep.setCell _ _ _ h2)).trans (Keep.putObj _ D (.deferred none) h3)
      have hDP := ((hkY (fun b => b = D) (by omega)).trans (Keep.setCell (S := fun b => b = D) Y ⟨w.heap.size + 1, 0, none⟩ (.bool true) (by simp; omega))).heap rfl hK
      have bZ : CB w.heap.size #[.slice q3 n3 c3, .slice q4 n4 c4, .slice qp np cp, .string ⟨d.dom.toArray⟩, .int .i64 d.age, .bool d.secure] ((Y.setCell ⟨w.heap.size + 1, 0, none⟩ (.bool true)).putObj D (.deferred none)) := ((Keep.setCell (S := fun b => b = w.heap.size) Y ⟨w.heap.size + 1, 0, none⟩ (.bool true) (by simp)).trans (Keep.putObj _ D (.deferred none) (by omega))).heap rfl bY
      have eZ := ((Keep.putObj (S := fun b => b = w.heap.size + 1) (Y.setCell ⟨w.heap.size + 1, 0, none⟩ (.bool true)) D (.deferred none) (by omega)).boxed (eY.set (.bool true)) rfl).cell
      have AZ := A8.trans ((kS (fun b => b < w.heap.size) (by omega) (by omega) (by omega)).below A8.size)
      have ofD : ∀ (q : Option Addr) (n : Nat), (∀ a, q = some a → 0 < n → a.block < W5.heap.size) → ∀ a, q = some a → 0 < n → a.block ≠ D := fun q n h a ha h0 => by have := h a ha h0; omega
      have j1 := by_keep i1 (kS (fun b => b ≠ w.heap.size ∧ b ≠ w.heap.size + 1 ∧ b ≠ D) (by simp) (by simp) (by simp)) (fun a ha h0 => ⟨by_off bRd i1 a ha h0, by_bool bEd i1 a ha h0, ofD _ _ hl1 a ha h0⟩)
      have j2 := by_keep i2 (kS (fun b => b ≠ w.heap.size ∧ b ≠ w.heap.size + 1 ∧ b ≠ D) (by simp) (by simp) (by simp)) (fun a ha h0 => ⟨by_off bRd i2 a ha h0, by_bool bEd i2 a ha h0, ofD _ _ hl2 a ha h0⟩)
      have j3 := by_keep i3 (kS (fun b => b ≠ w.heap.size ∧ b ≠ w.heap.size + 1 ∧ b ≠ D) (by simp) (by simp) (by simp)) (fun a ha h0 => ⟨by_off bRd i3 a ha h0, by_bool bEd i3 a ha h0, fun e => hI.off a ha h0 (e ▸ hPD)⟩)
      have HY := Lib.hid hY
      clear hY hkY hBY bY eY bRd bEd i1 i2 i3 hI kS ofD hit
      gi_wp2
      rw [HY.out]
      refine ⟨by simp, .inl ⟨_, _, rfl, run_takeDeferred hDP, ?_⟩⟩
      refine ⟨_, ret_ck2 rfl _ _ w.heap.size (w.heap.size + 1) _ _ rfl rfl bZ rfl eZ, ?_⟩
      rw [HR.out]
      exact ⟨_, rfl, ⟨_, _, _, _, _, _, _, _, _, rfl, j1, j2, j3⟩, AZ⟩
    case stop =>
      rintro D cc pre rest Pv Wd hD hPD hPl hxs hX hK
      obtain ⟨rfl, bZ, eZ, hno, hbel, hge, hsz⟩ := hX
      have hDg : W5.heap.size ≤ D := hge D hPD
      have HR := Lib.hid (show R = none from HE2.out.trans hno)
      clear hxs
      gi_wp2
      refine ⟨by simp, .inl ⟨_, _, rfl, run_takeDeferred hK, ?_⟩⟩
      have kp : ∀ (S : Nat → Prop), ¬ S D → Keep S Wd (Wd.putObj D (.deferred none)) := fun S h => Keep.putObj _ _ _ h
      refine ⟨_, ret_ck2 rfl _ _ w.heap.size (w.heap.size + 1) _ _ rfl rfl ((kp (fun b => b = w.heap.size) (by omega)).heap rfl bZ) rfl ((kp (fun b => b = w.heap.size + 1) (by omega)).boxed eZ rfl).cell, ?_⟩
      rw [HR.out]
      exact ⟨_, rfl, zero_is _, hbel.trans ((kp (fun b => b < w.heap.size) (by omega)).below hbel.size)⟩
end Go.Proofs.YtniehbjoogaccaaGreatDoor.Ck
namespace Go.Proofs.YtniehbjoogaccaaGreatDoor.Jar
open Go.RowKit Go.Shelf Url
set_option linter.unusedVariables false
theorem append_str_lies {P : Program} {w w' : World} {t u ty e : TypeId} {i : TypeInfo} (ht : P.underlying t = some (.slice e)) (hu : P.underlying u = some .string) (hi : P.info? e = some i)
    {q : Option Addr} {n c : Nat} {s : ByteArray} {v' : Value} (h63 : n + s.size ≤ maxLen) (hfit : (n + s.size) * i.bytes ≤ 140737488355328)
    (hr : (Builtin.append_ #[t, u] ty #[.slice q n c, .string s]).run P w = .ok v' w') : v'.ownBlock = (Value.slice q n c).ownBlock ∨ v'.ownBlock = some w.heap.size := by
  by_cases hroom : n + s.size ≤ c
  · simp [Builtin.append_, run_underlying ht, run_underlying hu, sizeOf, typeInfo, hi, Builtin.lenOf, hroom] at hr
    cases q with
    | none =>
      left
      obtain ⟨_, _, _, h2⟩ := Result.andThen_eq_ok hr
      simp at h2
      rw [← h2.1]
      rfl
    | some a =>
      left
      obtain ⟨_, _, _, h2⟩ := Result.andThen_eq_ok hr
      simp only [map_eq_pure_bind, Sem.run_bind] at h2
      obtain ⟨_, _, _, h3⟩ := Result.andThen_eq_ok h2
      simp at h3
      rw [← h3.1]
      rfl
  · have h63' : ¬ (9223372036854775807 < ((n : Int) + (s.size : Int))) := by unfold maxLen at h63; omega
    have h48' : ¬ (281474976710656 < Builtin.nextslicecap (n + s.size) c * i.bytes) := by have := growslice_fits (show c < n + s.size by omega) hfit; omega
    have hq : (Question.appendCap (n + s.size) c e).forced = false := rfl
    right
    simp [Builtin.append_, run_underlying ht, run_underlying hu, sizeOf, typeInfo, hi, Builtin.lenOf, hroom, h63', h48', hq] at hr
    obtain ⟨a1, w1, r1, h2⟩ := Result.andThen_eq_ok hr
    obtain ⟨a2, w2, r2, h3⟩ := Result.andThen_eq_ok h2
    obtain ⟨a3, w3, r3, h4⟩ := Result.andThen_eq_ok h3
    obtain ⟨a4, w4, r4, h5⟩ := Result.andThen_eq_ok h4
    simp at h5
    have e1 : w1 = w.drew := by
      cases q with
      | none => exact (pure_looks _).ok (by simpa only [Builtin.firstCells] using r1)
      | some a => exact (loadCells_looks _ _).ok (by simpa only [Builtin.firstCells] using r1)
    have e2 : w2 = w1 := (pure_looks _).ok (by simpa only [Builtin.firstCells] using r2)
    have e3 : w3 = w2 := (show (zeroValue e).Looks from by unfold zeroValue; exact Sem.Looks.bind (typeInfo_looks e) (fun i => by cases i.zero <;> trivial)).ok r3
    subst e3 e2 e1
    rw [← h5.1]
    unfold newRow at r4
    simp at r4
    rw [← r4.1]
    rfl
theorem run_append_str_at (ty : TypeId) (base : Nat) (v : Value) (n : Nat) (xs : List Value) (w : World) (hown : w.ownsRow base 5 1 v n xs) (l : List UInt8) (h47 : n + l.length ≤ 140737488355328) (hbase : base ≤ w.heap.size) :
    ∃ v' w', (Builtin.append_ #[29, 9] ty #[v, .string ⟨l.toArray⟩]).run Tryz.prog w = .ok v' w' ∧ w'.ownsRow base 5 1 v' (n + l.length) (xs ++ byV l) ∧ w.grownBy w' v.ownBlock ∧ (v'.ownBlock = v.ownBlock ∨ v'.ownBlock = some w.heap.size) := by
  obtain ⟨i0, hi0, hz0, hz1, hz2⟩ := info_parts info_u8
  obtain ⟨v', w', hr, h2, h3⟩ := Ck.run_append_str ty base v n xs w hown l h47 hbase
  refine ⟨v', w', hr, h2, h3, ?_⟩
  have hf : ∃ q c, v = .slice q n c := by
    rcases hown.2 with ⟨rfl, rfl⟩ | ⟨g, cap, cur, rfl, -⟩
    · exact ⟨none, 0, rfl⟩
    · exact ⟨_, cap, rfl⟩
  obtain ⟨q, c, rfl⟩ := hf
  exact append_str_lies Tryz.underlying29 Tryz.underlying9 hi0 (by unfold maxLen; show n + l.length ≤ _; omega) (by rw [hz2, Nat.mul_one]; exact h47) hr
theorem run_append_by_at (ty : TypeId) (base : Nat) (v : Value) (n : Nat) (xs : List Value) (w : World) (hown : w.ownsRow base 5 1 v n xs) (vx : Value) (bs : List UInt8) (hb : By w vx bs) (h47 : n + bs.length ≤ 140737488355328) (hbase : base ≤ w.heap.size) :
    ∃ v' w', (Builtin.append_ #[29, 29] ty #[v, vx]).run Tryz.prog w = .ok v' w' ∧ w'.ownsRow base 5 1 v' (n + bs.length) (xs ++ byV bs) ∧ w.grownBy w' v.ownBlock ∧ (v'.ownBlock = v.ownBlock ∨ v'.ownBlock = some w.heap.size) := by
  obtain ⟨i0, hi0, hz0, hz1, hz2⟩ := info_parts info_u8
  obtain ⟨q, c, rfl, h1, h2, h3, h4⟩ := hb
  cases q with
  | none =>
    have hc : c = 0 := h3 rfl
    subst hc
    obtain rfl : bs = [] := List.eq_nil_of_length_eq_zero (by omega)
    exact ⟨v, w, run_append_owned_none (P := Tryz.prog) (w := w) base 29 ty 5 i0 1 Tryz.underlying29 hi0 v n xs hown, by simpa [byV, Lib.numsL] using hown, ⟨rfl, rfl, rfl, Nat.le_refl _, fun _ _ _ => rfl⟩, .inl rfl⟩
  | some ad =>
    have hlen : (byV bs).length = bs.length * 1 := by simp [byV, Lib.numsL]
    obtain ⟨v', w', hr, h5, h6, _, h7⟩ := run_append_own_at (P := Tryz.prog) w base 29 ty 5 i0 (.int .u8 0) 1 1 Tryz.underlying29 hi0 hz0 hz1 hz2 rfl (by decide) v n xs hown ad bs.length c (byV bs) hlen (fun j u hj => by
      rcases Nat.lt_or_ge j bs.length with h' | h'
      · obtain ⟨b, o, he, hcc⟩ := h4.at (by omega)
        cases he
        have hj' : j < (Lib.numsL bs).length := by rw [Lib.numsL_length]; omega
        unfold byV at hj
        rw [Go.WideShapes.add_plain, hcc j h']
        rw [List.getElem?_map, List.getElem?_eq_getElem hj'] at hj
        simp only [Option.map_some, Option.some.injEq] at hj
        rw [← hj, List.getD, List.getElem?_eq_getElem hj']
        rfl
      · rw [List.getElem?_eq_none (by omega)] at hj
        cases hj) (by simp [byV, Lib.numsL, Value.oneCell']) (by unfold maxLen; omega) (by omega) hbase
    exact ⟨v', w', hr, h5, h6, h7⟩
theorem wpListIn_str {F : Fence} {nF : Nat} {ops : Array Oper} {rest : List Oper} {o : Oper} {a : Act} {w : World} {Q : Exit → Act → World → Prop} (hgd : o.guard = none) (s x : Operand)
    (ho : o.op = .call { callee := .builtin .append, args := #[s, x], argTypes := #[29, 9] })
    (base : Nat) (v : Value) (n : Nat) (xs : List Value) (hs : a.eval s = v) (hown : w.ownsRow base 5 1 v n xs) (l : List UInt8) (hx : a.eval x = .string ⟨l.toArray⟩) (h47 : n + l.length ≤ 140737488355328) (hbase : base ≤ w.heap.size)
    (h : ∀ v' w', w'.ownsRow base 5 1 v' (n + l.length) (xs ++ byV l) → w.grownBy w' v.ownBlock → (v'.ownBlock = v.ownBlock ∨ v'.ownBlock = some w.heap.size) → wpListIn F nF Tryz.prog ops Q rest (a.put o.dst v') w') : wpListIn F nF Tryz.prog ops Q (o :: rest) a w := by
  refine wpListIn_plain hgd fun K hK => ?_
  obtain ⟨v', w', hr, h1, h2, h3⟩ := run_append_str_at o.type base v n xs w hown l h47 hbase
  unfold Oper.wpIn
  refine ⟨by simp [Oper.about, ho, resolve, Target.leads, Sem.run_pure], ?_⟩
  rw [Oper.semAt_plain F _ _ (by rw [ho]; intro c hc'; cases hc')]
  simp [execOp, ho, resolve, invoke, builtin, hs, hx, hr, Result.andThen]
  exact hK _ _ (h v' w' h1 h2 h3)
theorem wpListIn_by {F : Fence} {nF : Nat} {ops : Array Oper} {rest : List Oper} {o : Oper} {a : Act} {w : World} {Q : Exit → Act → World → Prop} (hgd : o.guard = none) (s x : Operand)
    (ho : o.op = .call { callee := .builtin .append, args := #[s, x], argTypes := #[29, 29] })
    (base : Nat) (v : Value) (n : Nat) (xs : List Value) (hs : a.eval s = v) (hown : w.ownsRow base 5 1 v n xs) (vx : Value) (bs : List UInt8) (hx : a.eval x = vx) (hb : By w vx bs) (h47 : n + bs.length ≤ 140737488355328) (hbase : base ≤ w.heap.size)
    (h : ∀ v' w', w'.ownsRow base 5 1 v' (n + bs.length) (xs ++ byV bs) → w.grownBy w' v.ownBlock → (v'.ownBlock = v.ownBlock ∨ v'.ownBlock = some w.heap.size) → wpListIn F nF Tryz.prog ops Q rest (a.put o.dst v') w') : wpListIn F nF Tryz.prog ops Q (o :: rest) a w := by
  refine wpListIn_plain hgd fun K hK => ?_
  obtain ⟨v', w', hr, h1, h2, h3⟩ := run_append_by_at o.type base v n xs w hown vx bs hb h47 hbase
  unfold Oper.wpIn
  refine ⟨by simp [Oper.about, ho, resolve, Target.leads, Sem.run_pure], ?_⟩
  rw [Oper.semAt_plain F _ _ (by rw [ho]; intro c hc'; cases hc')]
  simp [execOp, ho, resolve, invoke, builtin, hs, hx, hr, Result.andThen]
  exact hK _ _ (h v' w' h1 h2 h3)
end Go.Proofs.YtniehbjoogaccaaGreatDoor.Jar
namespace Go.Proofs.YtniehbjoogaccaaGreatDoor.Ck
open Go.RowKit Go.Shelf Url
attribute [local go_sem] Oper.semAt_some
set_option linter.unusedVariables false
theorem ret_ckt {fn : Func} {p u : Tmp} (h : fn.results = #[.cell p 42, .tmp u]) (tmps : Array Value) (w : World) (B : Nat) (cs : Array Value) (hp : tmps.getD p undef = .pointer (some ⟨B, 0, none⟩)) (hU : CB B cs w) (hs : cs.size = 6) :
    (results fn tmps).run Tryz.prog w = .ok (.tuple #[.agg cs, tmps.getD u undef]) w := by
  rw [results_cell_tmp h, hp]
  simp [asAddr, Result.andThen, run_loadVar_row w B 42 _ cs (0, 0) _ hU Tryz.underlying42 rfl (by rw [size_ck, hs])]
set_option maxRecDepth 100000 in
set_option maxHeartbeats 8000000 in
theorem Parse_any (q : Option Addr) (n c : Nat) (t : List UInt8) (w : World) (hby : By w (.slice q n c) t) (hn : n ≤ 1048576) (hG : Gl w) :
    Calls Tryz.prog 12 #[.slice q n c] w (PkOut (parseC t) w) := by
  have hl := hby.at.1
  obtain ⟨W1, hW1⟩ : ∃ W1, w.alloc (.cells #[.slice none 0 0, .slice none 0 0, .slice none 0 0, .string ⟨#[]⟩, .int .i64 0, .bool false] 42) = W1 := ⟨_, rfl⟩
  have A1 : Below w.heap.size w W1 := hW1 ▸ below_alloc _
  have bR : CB w.heap.size #[.slice none 0 0, .slice none 0 0, .slice none 0 0, .string ⟨#[]⟩, .int .i64 0, .bool false] W1 := hW1 ▸ CB.new w _
  have HW1 := Lib.hid hW1
  have HG := Lib.hid hG
  clear hW1 hG
  by_cases hbig : 4096 < n
  · have HE := Lib.hid (show parseC t = .inl 3 by unfold parseC; rw [if_pos (by omega)])
    have d1 : decide ((4096 : Int) < (n : Int)) = true := by simp; omega
    have z0 := bR.box 0 _ rfl
    have z1 := bR.box 1 _ rfl
    have z2 := bR.box 2 _ rfl
    have z3 := bR.box 3 _ rfl
    have z4 := bR.box 4 _ rfl
    have z5 := bR.box 5 _ rfl
    have f0 := bR.frozen 0
    have f1 := bR.frozen 1
    have f2 := bR.frozen 2
    have f3 := bR.frozen 3
    have f4 := bR.frozen 4
    have f5 := bR.frozen 5
    obtain ⟨Y, hY, bY, hkY, hBY⟩ := bR.put (.slice none 0 0) (.slice none 0 0) (.slice none 0 0) (.string ⟨#[]⟩) (.int .i64 0) (.bool false)
    have AY := A1.trans (hBY _ (Nat.le_refl _))
    have HY := Lib.hid hY
    clear hY hkY hBY bR hby hl hbig hn A1
    go_enter Tryz.func12, Tryz.ntmps12
    go_upto_region 1 with fail
    rw [HW1.out]
    go_wp2
    rw [HY.out]
    refine bodyPost_ret (ret_ckt rfl _ _ w.heap.size _ rfl bY rfl) rfl ?_
    rw [HE.out]
    exact ⟨_, rfl, zero_is _, AY⟩
  have d1 : decide ((4096 : Int) < (n : Int)) = false := by simp; omega
  have con := cookieOf_any q n c t W1 (hby.on A1) hn
  have HP := Lib.hid (show parseC t = (match cookieL t with | none => .inl 2 | some d => if 4096 < (textC d).length then .inl 3 else .inr d) by unfold parseC; rw [if_neg (by omega)]; cases cookieL t <;> rfl)
  have HO := Lib.hid (fun d h => (show Ok d ∧ Small 4096 d from ⟨cookie_ok t d h, by
    obtain ⟨s1, s2, s3, s4⟩ := cookie_small t d h
    exact ⟨by omega, by omega, by omega, by omega⟩⟩))
  generalize parseC t = R at *
  clear hby hl hbig hn
  go_enter Tryz.func12, Tryz.ntmps12
  go_upto_region 1 with fail
  rw [HW1.out]
  go_wp2_with fail
  refine con.mono ?_
  rintro e W2 ⟨v, rfl, hC, hb⟩
  have A2 := A1.trans (hb.mono A1.size)
  replace bR := bR.on hb
  have hs0 : w.heap.size < W2.heap.size := bR.lt
  clear con hb A1 HW1
  cases hck : cookieL t with
  | none =>
    rw [hck] at HP hC
    have HE := Lib.hid (show R = .inl 2 from HP.out)
    simp only [Option.isSome_none]
    obtain ⟨q1, n1, c1, q2, n2, c2, q3, n3, c3, rfl, h1, h2, h3⟩ := hC
    obtain ⟨W3, hW3⟩ : ∃ Z, W2.alloc (.cells #[.slice q1 n1 c1, .slice q2 n2 c2, .slice q3 n3 c3, .string ⟨#[]⟩, .int .i64 0, .bool false] 42) = Z := ⟨_, rfl⟩
    have hbl : Below W2.heap.size W2 W3 := hW3 ▸ below_alloc _
    have HW3 := Lib.hid hW3
    clear hW3
    have A3 := A2.trans (hbl.mono A2.size)
    replace bR := bR.on hbl
    have z0 := bR.box 0 _ rfl
    have z1 := bR.box 1 _ rfl
    have z2 := bR.box 2 _ rfl
    have z3 := bR.box 3 _ rfl
    have z4 := bR.box 4 _ rfl
    have z5 := bR.box 5 _ rfl
    have f0 := bR.frozen 0
    have f1 := bR.frozen 1
    have f2 := bR.frozen 2
    have f3 := bR.frozen 3
    have f4 := bR.frozen 4
    have f5 := bR.frozen 5
    obtain ⟨Y, hY, bY, hkY, hBY⟩ := bR.put (.slice none 0 0) (.slice none 0 0) (.slice none 0 0) (.string ⟨#[]⟩) (.int .i64 0) (.bool false)
    have AY := A3.trans (hBY _ (Nat.le_refl _))
    have HY := Lib.hid hY
    clear hY hkY hBY bR hck HP HO A2 A3 hbl h1 h2 h3 HG
    simp only [Option.getD_none, zeroC]
    go_upto_region 4 with fail
    rw [HW3.out]
    go_wp2
    rw [HY.out]
    refine bodyPost_ret (ret_ckt rfl _ _ w.heap.size _ rfl bY rfl) rfl ?_
    rw [HE.out]
    exact ⟨_, rfl, zero_is _, AY⟩
  | some d =>
    rw [hck] at HP hC
    obtain ⟨hok, hsm⟩ := HO.out d hck
    simp only [Option.isSome_some]
    obtain ⟨q1, n1, c1, q2, n2, c2, q3, n3, c3, rfl, h1, h2, h3⟩ := hC
    simp only [Option.getD_some] at h1 h2 h3 ⊢
    have hv : CkIs W2 (.agg #[.slice q1 n1 c1, .slice q2 n2 c2, .slice q3 n3 c3, .string ⟨d.dom.toArray⟩, .int .i64 d.age, .bool d.secure]) d := ⟨_, _, _, _, _, _, _, _, _, rfl, h1, h2, h3⟩
    have X3 := CX.new hv
    have hbl : Below W2.heap.size W2 (W2.alloc (.cells #[.slice q1 n1 c1, .slice q2 n2 c2, .slice q3 n3 c3, .string ⟨d.dom.toArray⟩, .int .i64 d.age, .bool d.secure] 42)) := below_alloc _
    obtain ⟨W3, hW3⟩ : ∃ Z, W2.alloc (.cells #[.slice q1 n1 c1, .slice q2 n2 c2, .slice q3 n3 c3, .string ⟨d.dom.toArray⟩, .int .i64 d.age, .bool d.secure] 42) = Z := ⟨_, rfl⟩
    rw [hW3] at X3 hbl
    have A3 := A2.trans (hbl.mono A2.size)
    replace bR := bR.on hbl
    have con := Text_any _ d W3 X3.2 hok hsm (HG.out.on A3)
    have x0 := X3.1.box 0 _ rfl
    have x1 := X3.1.box 1 _ rfl
    have x2 := X3.1.box 2 _ rfl
    have x3 := X3.1.box 3 _ rfl
    have x4 := X3.1.box 4 _ rfl
    have x5 := X3.1.box 5 _ rfl
    have HW3 := Lib.hid hW3
    clear hW3 hck HO hv h1 h2 h3 hok hsm hbl A2 HG
    go_wp2_with fail
    rw [HW3.out]
    go_wp2_with fail
    refine con.mono ?_
    rintro e W4 ⟨qt, nt, ct, rfl, ht, hb⟩
    have htl := ht.at.1
    have A4 := A3.trans (hb.mono A3.size)
    replace bR := bR.on hb
    have X4 := X3.on hb
    clear con hb A3 HW3 x0 x1 x2 x3 x4 x5
    have z0 := bR.box 0 _ rfl
    have z1 := bR.box 1 _ rfl
    have z2 := bR.box 2 _ rfl
    have z3 := bR.box 3 _ rfl
    have z4 := bR.box 4 _ rfl
    have z5 := bR.box 5 _ rfl
    have f0 := bR.frozen 0
    have f1 := bR.frozen 1
    have f2 := bR.frozen 2
    have f3 := bR.frozen 3
    have f4 := bR.frozen 4
    have f5 := bR.frozen 5
    by_cases hlong : 4096 < nt
    · have HE := Lib.hid (show R = .inl 3 from HP.out.trans (if_pos (by omega)))
      have d2 : decide ((4096 : Int) < (nt : Int)) = true := by simp; omega
      obtain ⟨Y, hY, bY, hkY, hBY⟩ := bR.put (.slice none 0 0) (.slice none 0 0) (.slice none 0 0) (.string ⟨#[]⟩) (.int .i64 0) (.bool false)
      have AY := A4.trans (hBY _ (Nat.le_refl _))
      have HY := Lib.hid hY
      clear hY hkY hBY bR HP hlong htl ht X3 X4 A4
      go_wp2
      rw [HY.out]
      refine bodyPost_ret (ret_ckt rfl _ _ w.heap.size _ rfl bY rfl) rfl ?_
      rw [HE.out]
      exact ⟨_, rfl, zero_is _, AY⟩
    · have HE := Lib.hid (show R = .inr d from HP.out.trans (if_neg (by omega)))
      have d2 : decide ((4096 : Int) < (nt : Int)) = false := by simp; omega
      have x0 := X4.1.box 0 _ rfl
      have x1 := X4.1.box 1 _ rfl
      have x2 := X4.1.box 2 _ rfl
      have x3 := X4.1.box 3 _ rfl
      have x4 := X4.1.box 4 _ rfl
      have x5 := X4.1.box 5 _ rfl
      obtain ⟨Y, hY, bY, hkY, hBY⟩ := bR.put (.slice q1 n1 c1) (.slice q2 n2 c2) (.slice q3 n3 c3) (.string ⟨d.dom.toArray⟩) (.int .i64 d.age) (.bool d.secure)
      have AY := A4.trans (hBY _ (Nat.le_refl _))
      obtain ⟨i1, i2, i3⟩ := X4.parts
      have j1 := by_keep i1 (hkY (fun b => b ≠ w.heap.size) (by simp)) (by_off bR i1)
      have j2 := by_keep i2 (hkY (fun b => b ≠ w.heap.size) (by simp)) (by_off bR i2)
      have j3 := by_keep i3 (hkY (fun b => b ≠ w.heap.size) (by simp)) (by_off bR i3)
      have HY := Lib.hid hY
      clear hY hkY hBY bR HP hlong htl ht X3 X4 A4 i1 i2 i3
      go_wp2
      rw [HY.out]
      refine bodyPost_ret (ret_ckt rfl _ _ w.heap.size _ rfl bY rfl) rfl ?_
      rw [HE.out]
      exact ⟨_, rfl, ⟨_, _, _, _, _, _, _, _, _, rfl, j1, j2, j3⟩, AY⟩
theorem url_lens (u : U) (h : (textU u).length ≤ 4096) : u.host.length ≤ 4096 ∧ u.path.length ≤ 4096 := by
  have e : (textU u).length = (u.scheme ++ sepS ++ u.host ++ portT u).length + u.path.length + (queryT u).length + (fragT u).length := by
    rw [text_server]
    unfold serverT
    simp only [List.length_append]
  simp only [List.length_append] at e
  omega
theorem May_any (v a : Value) (c : Ck) (u : U) (w : World) (h : CkIs w v c) (hs : Small 4096 c) (ha : UrlIn w a u) (hl : (textU u).length ≤ 4096) (hG : Gl w) :
    Calls Tryz.prog 50 #[v, a] w fun e w' => e = .returned (.int .i64 (if mayB c u.host u.scheme = true then 0 else 17)) ∧ Below w.heap.size w w' :=
  May_by v a c u w h (by have := hs.2.2.2; omega) ha (by have := (url_lens u hl).1; omega)
theorem Home_any (v a : Value) (c : Ck) (u : U) (w : World) (h : CkIs w v c) (hs : Small 4096 c) (ha : UrlIn w a u) (hk : Url.Ok u) (hl : (textU u).length ≤ 4096) (hG : Gl w) :
    Calls Tryz.prog 116 #[v, a] w (BysOut (homeL c u.path) w) :=
  Home_by v a c u w h ha (by have := hs.2.2.1; omega) (by have := (url_lens u hl).2; omega)
end Go.Proofs.YtniehbjoogaccaaGreatDoor.Ck
namespace Go.Proofs.YtniehbjoogaccaaGreatDoor.Ck
open Go.RowKit Go.Shelf Url
attribute [local go_sem] Oper.semAt_some
set_option linter.unusedVariables false
theorem canonOk : CanonOk := fun q n c t w h1 h2 h3 => canonOf_any q n c t w h1 h2 h3
theorem parse_err (t : List UInt8) (e : Int) (hl : t.length ≤ 1000) (h : parseC t = .inl e) : e = 2 := parse_form t e hl h
theorem small_le {M K : Nat} {c : Ck} (h : Small M c) (hk : M ≤ K) : Small K c := ⟨by have := h.1; omega, by have := h.2.1; omega, by have := h.2.2.1; omega, by have := h.2.2.2; omega⟩
end Go.Proofs.YtniehbjoogaccaaGreatDoor.Ck
namespace Go.Proofs.YtniehbjoogaccaaGreatDoor.Jar
open Go.RowKit Go.Shelf Url Ck
attribute [local go_sem] Oper.semAt_some
set_option linter.unusedVariables false
theorem ret_ck1 {fn : Func} {p : Tmp} (h : fn.results = #[.cell p 42]) (tmps : Array Value) (w : World) (B : Nat) (cs : Array Value) (hp : tmps.getD p undef = .pointer (some ⟨B, 0, none⟩)) (hU : CB B cs w) (hs : cs.size = 6) :
    (results fn tmps).run Tryz.prog w = .ok (.agg cs) w :=
  results_cell_row h tmps w B 42 cs (0, 0) _ hp hU Tryz.underlying42 rfl (by rw [size_ck, hs])
theorem blk_row {W : World} {base n : Nat} {v : Value} {l : List UInt8} (h : W.ownsRow base 5 1 v n ((Lib.numsL l).map (Value.int .u8))) : ∃ z : C3, v = vC z ∧ By W (vC z) l ∧ ∀ b, blk z b → base ≤ b ∧ b < W.heap.size := by
  obtain ⟨q, c, rfl, -, -, -, -, hq⟩ := row_open h
  refine ⟨(q, n, c), rfl, By.row h, ?_⟩
  rintro b ⟨a, ha, -, rfl⟩
  exact ⟨(hq a ha).2.1, (hq a ha).1⟩
theorem ck_two (w : World) (cs us : Array Value) : ∃ W, (w.alloc (.cells cs 42)).alloc (.cells us 42) = W ∧ CB w.heap.size cs W ∧ CB (w.heap.size + 1) us W ∧ Below w.heap.size w W ∧ W.heap.size = w.heap.size + 2 := by
  refine ⟨_, rfl, (CB.new w cs).on (below_alloc _), ?_, ((Below.refl _ w).alloc (Nat.le_refl _) _).alloc (by simp) _, by simp⟩
  have := CB.new (w.alloc (.cells cs 42)) us
  rw [World.size_alloc] at this
  exact this
def ApOut (c : Ck) (w : World) (e : Ending) (w' : World) : Prop := ∃ z : CZ, e = .returned (.agg (ckRow z).toArray) ∧ z.2 = c ∧ CAt w' z ∧ (∀ b, blkZ z b → w.heap.size ≤ b) ∧ Below w.heap.size w w'
set_option maxRecDepth 100000 in
set_option maxHeartbeats 16000000 in
theorem apart_any (z : CZ) (w : World) (hz : CAt w z) (hs : Small 4096 z.2) : Calls Tryz.prog 51 #[.agg (ckRow z).toArray] w (ApOut z.2 w) := by
  obtain ⟨⟨⟨⟨q1, n1, c1⟩, ⟨q2, n2, c2⟩⟩, ⟨q3, n3, c3⟩⟩, ⟨l1, l2, l3, l4, age, sec⟩⟩ := z
  simp only [ckRow, vC] at *
  obtain ⟨h1, h2, h3⟩ := hz
  simp only [vC] at h1 h2 h3
  obtain ⟨s1, s2, s3, -⟩ := hs
  simp only at s1 s2 s3
  obtain ⟨W, hW, bC, bR, A1, hsz⟩ := ck_two w #[.slice q1 n1 c1, .slice q2 n2 c2, .slice q3 n3 c3, .string ⟨l4.toArray⟩, .int .i64 age, .bool sec] #[.slice none 0 0, .slice none 0 0, .slice none 0 0, .string ⟨#[]⟩, .int .i64 0, .bool false]
  have HW := Lib.hid hW
  have A0 := Lib.hid A1
  clear hW
  go_enter Tryz.func51, Tryz.ntmps51
  go_wp2_with fail
  rw [HW.out]
  have hBd : Below w.heap.size w W.drew := A1.drew
  have bCd : CB w.heap.size #[.slice q1 n1 c1, .slice q2 n2 c2, .slice q3 n3 c3, .string ⟨l4.toArray⟩, .int .i64 age, .bool sec] W.drew := bC
  have bRd : CB (w.heap.size + 1) #[.slice none 0 0, .slice none 0 0, .slice none 0 0, .string ⟨#[]⟩, .int .i64 0, .bool false] W.drew := bR
  have hsd : w.heap.size + 2 ≤ W.drew.heap.size := Nat.le_of_eq hsz.symm
  refine region_anyQ (fun j => decide (j < 10)) (fun X => Box w.heap.size #[.slice q1 n1 c1, .slice q2 n2 c2, .slice q3 n3 c3, .string ⟨l4.toArray⟩, .int .i64 age, .bool sec] X) (by kernel_rfl) ?_
  clear bC bR A1 hsz HW
  generalize W.drew = X0 at *
  replace bC := bCd
  replace bR := bRd
  clear bCd bRd
  refine anyQ_take 0 (v := (.pointer (some ⟨w.heap.size, 0, none⟩))) rfl (by kernel_rfl) (by kernel_rfl) (by kernel_rfl) (by kernel_rfl) (fun _ _ _ h => h) (.inl ⟨by kernel_rfl, ?_⟩) bC.box ?_
  · rintro w hb; go_simp
  refine anyQ_list #[true, false, false, false, false, false, false, false, false, false, false, false, false, false, false] (by kernel_rfl) ?_
  refine anyQ_take 1 (v := (.slice q1 n1 c1)) rfl (by kernel_rfl) (by kernel_rfl) (by kernel_rfl) (by kernel_rfl) (fun _ _ _ h => h) (.inl ⟨by kernel_rfl, ?_⟩) bC.box ?_
  · rintro w hb; have x0 := hb 0 _ rfl; go_simp
  refine anyQ_list #[true, true, false, false, false, false, false, false, false, false, false, false, false, false, false] (by kernel_rfl) ?_
  refine anyQ_take 3 (v := (.pointer (some ⟨w.heap.size, 1, none⟩))) rfl (by kernel_rfl) (by kernel_rfl) (by kernel_rfl) (by kernel_rfl) (fun _ _ _ h => h) (.inl ⟨by kernel_rfl, ?_⟩) bC.box ?_
  · rintro w hb; go_simp
  refine anyQ_list #[true, true, false, true, false, false, false, false, false, false, false, false, false, false, false] (by kernel_rfl) ?_
  refine anyQ_take 4 (v := (.slice q2 n2 c2)) rfl (by kernel_rfl) (by kernel_rfl) (by kernel_rfl) (by kernel_rfl) (fun _ _ _ h => h) (.inl ⟨by kernel_rfl, ?_⟩) bC.box ?_
  · rintro w hb; have x0 := hb 1 _ rfl; go_simp
  refine anyQ_list #[true, true, false, true, true, false, false, false, false, false, false, false, false, false, false] (by kernel_rfl) ?_
  refine anyQ_take 6 (v := (.pointer (some ⟨w.heap.size, 2, none⟩))) rfl (by kernel_rfl) (by kernel_rfl) (by kernel_rfl) (by kernel_rfl) (fun _ _ _ h => h) (.inl ⟨by kernel_rfl, ?_⟩) bC.box ?_
  · rintro w hb; go_simp
  refine anyQ_list #[true, true, false, true, true, false, true, false, false, false, false, false, false, false, false] (by kernel_rfl) ?_
  refine anyQ_take 7 (v := (.slice q3 n3 c3)) rfl (by kernel_rfl) (by kernel_rfl) (by kernel_rfl) (by kernel_rfl) (fun _ _ _ h => h) (.inl ⟨by kernel_rfl, ?_⟩) bC.box ?_
  · rintro w hb; have x0 := hb 2 _ rfl; go_simp
  refine anyQ_list #[true, true, false, true, true, false, true, true, false, false, false, false, false, false, false] (by kernel_rfl) ?_
  have con := Clone_any q1 n1 c1 l1 _ (h1.on hBd).at.1 (by have := (h1.on hBd).at.1; omega) (h1.on hBd).at.2.2.2.2
  refine anyQ_one 2 (by kernel_rfl) rfl fun K hK => ?_
  go_simp
  refine con.mono ?_
  rintro e w2 ⟨v1, rfl, hr, hb⟩
  obtain ⟨⟨p1, k1, d1⟩, rfl, g1, o1⟩ := blk_row (row_base hr hsd)
  simp only [vC] at g1 ⊢
  replace hBd := hBd.trans (hb.mono hBd.size)
  replace bC := bC.on hb
  replace bR := bR.on hb
  replace hsd := Nat.le_trans hsd hb.size
  clear con hr hb
  refine hK _ _ (fun h => bC.box) ?_
  clear hK K
  refine anyQ_list #[true, true, true, true, true, false, true, true, false, false, false, false, false, false, false] (by kernel_rfl) ?_
  refine anyQ_take 9 (v := (.pointer (some ⟨w.heap.size, 0, none⟩))) rfl (by kernel_rfl) (by kernel_rfl) (by kernel_rfl) (by kernel_rfl) (fun _ _ _ h => h) (.inl ⟨by kernel_rfl, ?_⟩) bC.box ?_
  · rintro w hb; go_simp
  refine anyQ_list #[true, true, true, true, true, false, true, true, false, true, false, false, false, false, false] (by kernel_rfl) ?_
  have con := Clone_any q2 n2 c2 l2 _ (h2.on hBd).at.1 (by have := (h2.on hBd).at.1; omega) (h2.on hBd).at.2.2.2.2
  refine anyQ_one 5 (by kernel_rfl) rfl fun K hK => ?_
  go_simp
  refine con.mono ?_
  rintro e w5 ⟨v2, rfl, hr, hb⟩
  obtain ⟨⟨p2, k2, d2⟩, rfl, g2, o2⟩ := blk_row (row_base hr hsd)
  replace g1 := g1.on hb
  simp only [vC] at g2 ⊢
  replace hBd := hBd.trans (hb.mono hBd.size)
  replace bC := bC.on hb
  replace bR := bR.on hb
  replace hsd := Nat.le_trans hsd hb.size
  clear con hr hb
  refine hK _ _ (fun h => bC.box) ?_
  clear hK K
  refine anyQ_list #[true, true, true, true, true, true, true, true, false, true, false, false, false, false, false] (by kernel_rfl) ?_
  have con := Clone_any q3 n3 c3 l3 _ (h3.on hBd).at.1 (by have := (h3.on hBd).at.1; omega) (h3.on hBd).at.2.2.2.2
  refine anyQ_one 8 (by kernel_rfl) rfl fun K hK => ?_
  go_simp
  refine con.mono ?_
  rintro e w8 ⟨v3, rfl, hr, hb⟩
  obtain ⟨⟨p3, k3, d3⟩, rfl, g3, o3⟩ := blk_row (row_base hr hsd)
  replace g1 := g1.on hb
  replace g2 := g2.on hb
  simp only [vC] at g3 ⊢
  replace hBd := hBd.trans (hb.mono hBd.size)
  replace bC := bC.on hb
  replace bR := bR.on hb
  replace hsd := Nat.le_trans hsd hb.size
  clear con hr hb
  refine hK _ _ (fun h => bC.box) ?_
  clear hK K
  refine anyQ_list #[true, true, true, true, true, true, true, true, true, true, false, false, false, false, false] (by kernel_rfl) ?_
  have x0 := bC.box 0 _ rfl
  have x1 := bC.box 1 _ rfl
  have x2 := bC.box 2 _ rfl
  have x3 := bC.box 3 _ rfl
  have x4 := bC.box 4 _ rfl
  have x5 := bC.box 5 _ rfl
  have f0 := bC.frozen 0
  refine anyQ_one 10 (by kernel_rfl) rfl fun K hK => ?_
  go_simp
  refine hK _ _ (fun h => absurd h (by decide)) ?_
  replace bC := bC.set 0 (.slice p1 k1 d1)
  simp only [List.setIfInBounds_toArray, List.set_cons_zero] at bC
  clear hK K x0 x1 x2 x3 x4 x5 f0
  refine anyQ_list #[true, true, true, true, true, true, true, true, true, true, true, false, false, false, false] (by kernel_rfl) ?_
  refine anyQ_one 11 (by kernel_rfl) rfl fun K hK => ?_
  go_simp
  refine hK _ _ (fun h => absurd h (by decide)) ?_
  clear hK K
  refine anyQ_list #[true, true, true, true, true, true, true, true, true, true, true, true, false, false, false] (by kernel_rfl) ?_
  have x0 := bC.box 0 _ rfl
  have x1 := bC.box 1 _ rfl
  have x2 := bC.box 2 _ rfl
  have x3 := bC.box 3 _ rfl
  have x4 := bC.box 4 _ rfl
  have x5 := bC.box 5 _ rfl
  have f1 := bC.frozen 1
  refine anyQ_one 12 (by kernel_rfl) rfl fun K hK => ?_
  go_simp
  refine hK _ _ (fun h => absurd h (by decide)) ?_
  replace bC := bC.set 1 (.slice p2 k2 d2)
  simp only [List.setIfInBounds_toArray, List.set_cons_zero, List.set_cons_succ] at bC
  clear hK K x0 x1 x2 x3 x4 x5 f1
  refine anyQ_list #[true, true, true, true, true, true, true, true, true, true, true, true, true, false, false] (by kernel_rfl) ?_
  refine anyQ_one 13 (by kernel_rfl) rfl fun K hK => ?_
  go_simp
  refine hK _ _ (fun h => absurd h (by decide)) ?_
  clear hK K
  refine anyQ_list #[true, true, true, true, true, true, true, true, true, true, true, true, true, true, false] (by kernel_rfl) ?_
  have x0 := bC.box 0 _ rfl
  have x1 := bC.box 1 _ rfl
  have x2 := bC.box 2 _ rfl
  have x3 := bC.box 3 _ rfl
  have x4 := bC.box 4 _ rfl
  have x5 := bC.box 5 _ rfl
  have f2 := bC.frozen 2
  refine anyQ_one 14 (by kernel_rfl) rfl fun K hK => ?_
  go_simp
  refine hK _ _ (fun h => absurd h (by decide)) ?_
  replace bC := bC.set 2 (.slice p3 k3 d3)
  simp only [List.setIfInBounds_toArray, List.set_cons_zero, List.set_cons_succ] at bC
  clear hK K x0 x1 x2 x3 x4 x5 f2
  refine anyQ_done (by kernel_rfl) ?_ _
  obtain ⟨Y, hY⟩ : ∃ Y, ((w8.setCell { block := w.heap.size, off := 0 } (Value.slice p1 k1 d1)).setCell { block := w.heap.size, off := 1 } (Value.slice p2 k2 d2)).setCell { block := w.heap.size, off := 2 } (Value.slice p3 k3 d3) = Y := ⟨_, rfl⟩
  have kY : ∀ S : Nat → Prop, ¬ S w.heap.size → Keep S w8 Y := fun S hS => by rw [← hY]; exact ((Keep.setCell _ _ _ hS).trans (Keep.setCell _ _ _ hS)).trans (Keep.setCell _ _ _ hS)
  rw [hY] at bC ⊢
  replace bR : CB (w.heap.size + 1) #[.slice none 0 0, .slice none 0 0, .slice none 0 0, .string ⟨#[]⟩, .int .i64 0, .bool false] Y := bR.keep (kY (fun b => b ≠ w.heap.size) (fun h => h rfl)) (by omega)
  have bY : Below w.heap.size w Y := hBd.trans ((kY (· < w.heap.size) (by omega)).below hBd.size)
  have GK := Lib.hid (fun b (h : w.heap.size + 2 ≤ b) => (show b ≠ w.heap.size by omega))
  have HK := Lib.hid kY
  clear hY hBd kY
  have HG := Lib.hid (And.intro g1 (And.intro g2 g3))
  clear g1 g2 g3 h1 h2 h3
  have x0 := bC.box 0 _ rfl
  have x1 := bC.box 1 _ rfl
  have x2 := bC.box 2 _ rfl
  have x3 := bC.box 3 _ rfl
  have x4 := bC.box 4 _ rfl
  have x5 := bC.box 5 _ rfl
  have y0 := bR.box 0 _ rfl
  have y1 := bR.box 1 _ rfl
  have y2 := bR.box 2 _ rfl
  have y3 := bR.box 3 _ rfl
  have y4 := bR.box 4 _ rfl
  have y5 := bR.box 5 _ rfl
  have f0 := bR.frozen 0
  have f1 := bR.frozen 1
  have f2 := bR.frozen 2
  have f3 := bR.frozen 3
  have f4 := bR.frozen 4
  have f5 := bR.frozen 5
  go_wp2
  obtain ⟨V, hV, hU, hkV, hbV⟩ := bR.put (.slice p1 k1 d1) (.slice p2 k2 d2) (.slice p3 k3 d3) (.string ⟨l4.toArray⟩) (.int .i64 age) (.bool sec)
  rw [hV]
  (try simp only [Exit.inBlock, Exit.then])
  refine bodyPost_ret (ret_ck1 rfl _ _ (w.heap.size + 1) _ rfl hU rfl) rfl ?_
  have kk : Keep (fun b => w.heap.size + 2 ≤ b) w8 V := (HK.out _ (by omega)).trans (hkV _ (by omega))
  obtain ⟨g1, g2, g3⟩ := HG.out
  refine ⟨((((p1, k1, d1), (p2, k2, d2)), (p3, k3, d3)), ⟨l1, l2, l3, l4, age, sec⟩), rfl, rfl, ⟨by_keepB g1 kk (fun b hb => (o1 b hb).1), by_keepB g2 kk (fun b hb => (o2 b hb).1), by_keepB g3 kk (fun b hb => (o3 b hb).1)⟩, ?_, bY.trans (hbV _ (Nat.le_succ w.heap.size))⟩
  rintro b (hb | hb | hb)
  · have := (o1 b hb).1; omega
  · have := (o2 b hb).1; omega
  · have := (o3 b hb).1; omega
theorem url_two (w : World) (cs us : Array Value) : ∃ W, (w.alloc (.cells cs 33)).alloc (.cells us 33) = W ∧ UB w.heap.size cs W ∧ UB (w.heap.size + 1) us W ∧ Below w.heap.size w W ∧ W.heap.size = w.heap.size + 2 := by
  refine ⟨_, rfl, (UB.new w cs).on (below_alloc _), ?_, ((Below.refl _ w).alloc (Nat.le_refl _) _).alloc (by simp) _, by simp⟩
  have := UB.new (w.alloc (.cells cs 33)) us
  rw [World.size_alloc] at this
  exact this
theorem UB.keep {b : Nat} {cs : Array Value} {S : Nat → Prop} {X Y : World} (h : UB b cs X) (hk : Keep S X Y) (hS : S b) : UB b cs Y := hk.heap hS h
theorem ub_off {b : Nat} {cs : Array Value} {X : World} (h : UB b cs X) (hc : cs.all (fun v => match v with | .int .u8 _ => false | _ => true) = true) : ∀ i z, X.cell? ⟨b, i, none⟩ ≠ some (.int .u8 z) := fun i z hz => by
  simp only [World.cell?, show X.heap[b]? = _ from h] at hz
  have hz : cs[i]? = some (.int .u8 z) := by simpa using hz
  have := (Array.all_eq_true'.1 hc) _ (Array.mem_of_getElem? hz)
  simp at this
set_option maxRecDepth 100000 in
set_option maxHeartbeats 16000000 in
theorem server_any (v : Value) (u : U) (w : World) (h : UrlIn w v u) (hok : Url.Ok u) (hlen : (textU u).length ≤ 4096) :
    Calls Tryz.prog 52 #[v] w fun e w' => ∃ v', e = .returned v' ∧ UrlIn w' v' (srvU u) ∧ Below w.heap.size w w' := by
  obtain ⟨p0, m0, d0, p1, m1, d1, p3, m3, d3, p4, m4, d4, p5, m5, d5, rfl, h0, h1, h3, h4, h5⟩ := h
  obtain ⟨W, hW, bU, bR, A1, hsz⟩ := url_two w #[.slice p0 m0 d0, .slice p1 m1 d1, .int .i64 u.port, .slice p3 m3 d3, .slice p4 m4 d4, .slice p5 m5 d5, .bool u.hq, .bool u.hf] #[.slice none 0 0, .slice none 0 0, .int .i64 0, .slice none 0 0, .slice none 0 0, .slice none 0 0, .bool false, .bool false]
  have con := Bare_any u _ W ⟨_, _, _, _, _, _, _, _, _, _, _, _, _, _, _, rfl, h0.on A1, h1.on A1, h3.on A1, h4.on A1, h5.on A1⟩ hok (by omega)
  have HW := Lib.hid hW
  have A0 := Lib.hid A1
  have HP := Lib.hid (show srvU u = ⟨u.scheme, u.host, u.port, u.path, [], [], false, false⟩ from rfl)
  have BU := Lib.hid bU
  have BR := Lib.hid bR
  have x0 := bU.box 0 _ rfl
  have x1 := bU.box 1 _ rfl
  have x2 := bU.box 2 _ rfl
  have x3 := bU.box 3 _ rfl
  have x4 := bU.box 4 _ rfl
  have x5 := bU.box 5 _ rfl
  have x6 := bU.box 6 _ rfl
  have x7 := bU.box 7 _ rfl
  clear hW h0 h1 h3 h4 h5 bU bR A1 hok hlen
  go_enter Tryz.func52, Tryz.ntmps52
  go_upto_region 1 with fail
  rw [HW.out]
  go_wp2_with fail
  refine con.mono ?_
  rintro e X ⟨v', rfl, ⟨r0, k0, e0, r1, k1, e1, r3, k3, e3, r4, k4, e4, r5, k5, e5, rfl, g0, g1, g3, g4, g5⟩, hb⟩
  have bU := BU.out.on hb
  have bR := BR.out.on hb
  have hXs : w.heap.size + 2 ≤ X.heap.size := by have := hb.size; omega
  have AX := Lib.hid (A0.out.trans (hb.mono A0.out.size))
  clear con x0 x1 x2 x3 x4 x5 x6 x7 BU BR hb hsz HW A0
  have x0 := bU.box 0 _ rfl
  have x1 := bU.box 1 _ rfl
  have x2 := bU.box 2 _ rfl
  have x3 := bU.box 3 _ rfl
  have x4 := bU.box 4 _ rfl
  have x5 := bU.box 5 _ rfl
  have x6 := bU.box 6 _ rfl
  have x7 := bU.box 7 _ rfl
  have f0 := bU.frozen 0
  have f1 := bU.frozen 1
  have f2 := bU.frozen 2
  have f3 := bU.frozen 3
  have f4 := bU.frozen 4
  have f5 := bU.frozen 5
  have f6 := bU.frozen 6
  have f7 := bU.frozen 7
  have HG := Lib.hid (And.intro g0 (And.intro g1 (And.intro g3 (And.intro g4 g5))))
  clear g0 g1 g3 g4 g5
  go_upto_region 2 with fail
  have NU := Lib.hid (And.intro (ub_off bU (by simp)) (ub_off bR (by simp)))
  obtain ⟨Y, hY, uY, kY, bY⟩ := bU.put (.slice r0 k0 e0) (.slice r1 k1 e1) (.int .i64 (bareU u).port) (.slice r3 k3 e3) (.slice r4 k4 e4) (.slice r5 k5 e5) (.bool (bareU u).hq) (.bool (bareU u).hf)
  rw [hY]
  replace bR := UB.keep bR (kY (fun b => b ≠ w.heap.size) (fun h => h rfl)) (by omega)
  have KY := Lib.hid (And.intro kY bY)
  clear x0 x1 x2 x3 x4 x5 x6 x7 f0 f1 f2 f3 f4 f5 f6 f7
  clear hY kY bY bU
  have x0 := uY.box 0 _ rfl
  have x1 := uY.box 1 _ rfl
  have x2 := uY.box 2 _ rfl
  have x3 := uY.box 3 _ rfl
  have x4 := uY.box 4 _ rfl
  have x5 := uY.box 5 _ rfl
  have x6 := uY.box 6 _ rfl
  have x7 := uY.box 7 _ rfl
  have f0 := uY.frozen 0
  have f1 := uY.frozen 1
  have f2 := uY.frozen 2
  have f3 := uY.frozen 3
  have f4 := uY.frozen 4
  have f5 := uY.frozen 5
  have f6 := uY.frozen 6
  have f7 := uY.frozen 7
  go_upto_region 3 with fail
  obtain ⟨Z, hZ⟩ : ∃ Z, (Y.setCell { block := w.heap.size, off := 4 } (Value.slice none 0 0)).setCell { block := w.heap.size, off := 6 } (Value.bool false) = Z := ⟨_, rfl⟩
  have kZ : ∀ S : Nat → Prop, ¬ S w.heap.size → Keep S Y Z := fun S hS => by rw [← hZ]; exact (Keep.setCell _ _ _ hS).trans (Keep.setCell _ _ _ hS)
  have uZ := (uY.set 4 (.slice none 0 0)).set 6 (.bool false)
  simp only [List.setIfInBounds_toArray, List.set_cons_zero, List.set_cons_succ] at uZ
  rw [hZ] at uZ ⊢
  replace bR := UB.keep bR (kZ (fun b => b ≠ w.heap.size) (fun h => h rfl)) (by omega)
  have KZ := Lib.hid kZ
  clear x0 x1 x2 x3 x4 x5 x6 x7 f0 f1 f2 f3 f4 f5 f6 f7
  clear hZ kZ uY
  have x0 := uZ.box 0 _ rfl
  have x1 := uZ.box 1 _ rfl
  have x2 := uZ.box 2 _ rfl
  have x3 := uZ.box 3 _ rfl
  have x4 := uZ.box 4 _ rfl
  have x5 := uZ.box 5 _ rfl
  have x6 := uZ.box 6 _ rfl
  have x7 := uZ.box 7 _ rfl
  have f0 := uZ.frozen 0
  have f1 := uZ.frozen 1
  have f2 := uZ.frozen 2
  have f3 := uZ.frozen 3
  have f4 := uZ.frozen 4
  have f5 := uZ.frozen 5
  have f6 := uZ.frozen 6
  have f7 := uZ.frozen 7
  have y0 := bR.box 0 _ rfl
  have y1 := bR.box 1 _ rfl
  have y2 := bR.box 2 _ rfl
  have y3 := bR.box 3 _ rfl
  have y4 := bR.box 4 _ rfl
  have y5 := bR.box 5 _ rfl
  have y6 := bR.box 6 _ rfl
  have y7 := bR.box 7 _ rfl
  have g0 := bR.frozen 0
  have g1 := bR.frozen 1
  have g2 := bR.frozen 2
  have g3 := bR.frozen 3
  have g4 := bR.frozen 4
  have g5 := bR.frozen 5
  have g6 := bR.frozen 6
  have g7 := bR.frozen 7
  go_wp2
  obtain ⟨V, hV, hU, hkV, hbV⟩ := bR.put (.slice r0 k0 e0) (.slice r1 k1 e1) (.int .i64 (bareU u).port) (.slice r3 k3 e3) (.slice none 0 0) (.slice r5 k5 e5) (.bool false) (.bool (bareU u).hf)
  rw [hV]
  (try simp only [Exit.inBlock, Exit.then])
  refine bodyPost_ret (ret_url rfl _ _ (w.heap.size + 1) _ rfl hU rfl) rfl ?_
  obtain ⟨kY, bY⟩ := KY.out
  obtain ⟨g0, g1, g3, g4, g5⟩ := HG.out
  have kS : ∀ S : Nat → Prop, ¬ S w.heap.size → ¬ S (w.heap.size + 1) → Keep S X V := fun S h1 h2 => ((kY S h1).trans (KZ.out S h1)).trans (hkV S h2)
  have kk := kS (fun b => ¬ (b = w.heap.size ∨ b = w.heap.size + 1)) (fun h => h (.inl rfl)) (fun h => h (.inr rfl))
  have soft := by_off (M := fun b => b = w.heap.size ∨ b = w.heap.size + 1) (fun b hb => by rcases hb with rfl | rfl; exact NU.out.1; exact NU.out.2) kk
  refine ⟨_, rfl, ⟨r0, k0, e0, r1, k1, e1, r3, k3, e3, none, 0, 0, r5, k5, e5, rfl, soft _ _ g0, soft _ _ g1, soft _ _ g3, by_nil _, soft _ _ g5⟩, ?_⟩
  exact AX.out.trans ((kS (· < w.heap.size) (by omega) (by omega)).below AX.out.size)
end Go.Proofs.YtniehbjoogaccaaGreatDoor.Jar
namespace Go.Proofs.YtniehbjoogaccaaGreatDoor.Jar
open Go.RowKit Go.Shelf Url Ck
attribute [local go_sem] Oper.semAt_some
set_option linter.unusedVariables false
set_option maxRecDepth 100000 in
set_option maxHeartbeats 8000000 in
theorem over_any (z : PZ) (now : Int) (w : World) (h1 : -1 ≤ z.1.2.age) (h2 : z.1.2.age ≤ 1073741824) (h3 : 0 ≤ z.2.2) (h4 : z.2.2 ≤ 1099511627776) (hn : -9223372036854775808 ≤ now ∧ now ≤ 9223372036854775807) :
    Calls Tryz.prog 55 #[plV z, .int .i64 now] w fun e w' => e = .returned (.bool (overE now (enZ z))) ∧ Below w.heap.size w w' := by
  obtain ⟨⟨⟨⟨⟨q1, n1, c1⟩, ⟨q2, n2, c2⟩⟩, ⟨q3, n3, c3⟩⟩, ⟨l1, l2, l3, l4, age, sec⟩⟩, ⟨⟨⟨q4, n4, c4⟩, ⟨q5, n5, c5⟩, ⟨q6, n6, c6⟩, ⟨q7, n7, c7⟩, ⟨q8, n8, c8⟩⟩, u⟩, m⟩ := z
  simp only at h1 h2 h3 h4
  have HR := Lib.hid (show overE now (enZ ((((((q1, n1, c1), (q2, n2, c2)), (q3, n3, c3)), (⟨l1, l2, l3, l4, age, sec⟩ : Ck)), (((q4, n4, c4), (q5, n5, c5), (q6, n6, c6), (q7, n7, c7), (q8, n8, c8)), u), m) : PZ)) = (decide (0 ≤ age) && decide (m + age ≤ now)) from rfl)
  have HB := fun cs : Array Value => Lib.hid (below_alloc (w := w) (.cells cs 105))
  simp only [plV, plRow, vC]
  by_cases ha : age = -1
  · subst ha
    rw [HR.out]
    clear h1 h2 HR
    go_enter Tryz.func55, Tryz.ntmps55
    go_wp2
    go_ret
    exact ⟨rfl, (HB _).out⟩
  · have d1 : decide (age < 0) = false := by simp; omega
    by_cases hm : m ≤ now
    · have d2 : decide (m ≤ now) = true := by simp; omega
      have e1 : wrap64 (now - m) = now - m := by unfold wrap64; omega
      by_cases ho : m + age ≤ now
      · have d3 : decide (age ≤ now - m) = true := by simp; omega
        rw [HR.out, decide_eq_true (p := 0 ≤ age) (by omega), decide_eq_true ho]
        clear ho hm ha h1 h2 h3 h4 HR hn
        go_enter Tryz.func55, Tryz.ntmps55
        go_wp2
        go_ret
        exact ⟨rfl, (HB _).out⟩
      · have d3 : decide (age ≤ now - m) = false := by simp; omega
        rw [HR.out, decide_eq_false ho, Bool.and_false]
        clear ho hm ha h1 h2 h3 h4 HR hn
        go_enter Tryz.func55, Tryz.ntmps55
        go_wp2
        go_ret
        exact ⟨rfl, (HB _).out⟩
    · have d2 : decide (m ≤ now) = false := by simp; omega
      rw [HR.out, decide_eq_false (p := m + age ≤ now) (by omega), Bool.and_false]
      clear hm ha h1 h2 h3 h4 HR hn
      go_enter Tryz.func55, Tryz.ntmps55
      go_wp2
      go_ret
      exact ⟨rfl, (HB _).out⟩
set_option maxRecDepth 100000 in
set_option maxHeartbeats 8000000 in
theorem home_any (z : PZ) (w : World) (hz : PAt w z) (hk : EOk (enZ z)) (hG : Gl w) :
    Calls Tryz.prog 72 #[plV z] w (BysOut (homeL z.1.2 z.2.1.2.path) w) := by
  have A1 := below_alloc (w := w) (.cells (plRow z).toArray 105)
  have con := Home_any _ _ z.1.2 z.2.1.2 _ (hz.on A1).1.is hk.small (hz.on A1).2.is hk.url hk.len (hG.on A1)
  clear hz hk hG
  obtain ⟨⟨⟨⟨⟨q1, n1, c1⟩, ⟨q2, n2, c2⟩⟩, ⟨q3, n3, c3⟩⟩, ⟨l1, l2, l3, l4, age, sec⟩⟩, ⟨⟨⟨q4, n4, c4⟩, ⟨q5, n5, c5⟩, ⟨q6, n6, c6⟩, ⟨q7, n7, c7⟩, ⟨q8, n8, c8⟩⟩, ⟨s1, s2, s3, s4, s5, s6, s7, s8⟩⟩, m⟩ := z
  simp only [plV, plRow, vC, ckRow, urlRow] at con A1 ⊢
  generalize homeL _ _ = L at con ⊢
  have HB := Lib.hid A1
  clear A1
  go_enter Tryz.func72, Tryz.ntmps72
  go_wp2_with fail
  refine con.mono ?_
  rintro e W ⟨q, n, c, rfl, hby, hb⟩
  clear con
  go_wp2
  go_ret
  exact ⟨q, n, c, rfl, hby, HB.out.trans (hb.mono HB.out.size)⟩
theorem same_is (e d : En) : sameE d.at_ d.c e = (decide (e.c.name = d.c.name) && (decide (e.c.dom = d.c.dom) && decide (homeL e.c e.at_.path = homeL d.c d.at_.path))) := by
  unfold sameE
  rw [Bool.and_assoc]
theorem two_box (w : World) (cs us : Array Value) : ∃ W, (w.alloc (.cells cs 105)).alloc (.cells us 105) = W ∧ Box w.heap.size cs W ∧ Box (w.heap.size + 1) us W ∧ Below w.heap.size w W ∧ w.heap.size + 1 < W.heap.size := by
  refine ⟨_, rfl, (Box.new w cs _).on (below_alloc _), ?_, ((Below.refl _ w).alloc (Nat.le_refl _) _).alloc (by simp) _, by simp⟩
  have := Box.new (w.alloc (.cells cs 105)) us 105
  rw [World.size_alloc] at this
  exact this
set_option maxRecDepth 100000 in
set_option maxHeartbeats 16000000 in
theorem same_any (z y : PZ) (w : World) (hz : PAt w z) (hk : EOk (enZ z)) (hy : PAt w y) (hj : EOk (enZ y)) (hG : Gl w) :
    Calls Tryz.prog 56 #[plV z, plV y] w fun e w' => e = .returned (.bool (sameE y.2.1.2 y.1.2 (enZ z))) ∧ Below w.heap.size w w' := by
  obtain ⟨W, hW, bZ, bY, A1, hlt⟩ := two_box w (plRow z).toArray (plRow y).toArray
  obtain ⟨H1, hH1⟩ : ∃ H, homeL z.1.2 z.2.1.2.path = H := ⟨_, rfl⟩
  obtain ⟨H2, hH2⟩ : ∃ H, homeL y.1.2 y.2.1.2.path = H := ⟨_, rfl⟩
  have HS := Lib.hid (show sameE y.2.1.2 y.1.2 (enZ z) = (decide (z.1.2.name = y.1.2.name) && (decide (z.1.2.dom = y.1.2.dom) && decide (H1 = H2))) by rw [← hH1, ← hH2]; exact same_is (enZ z) (enZ y))
  have h1 := (hz.on A1).1.1
  have g1 := (hy.on A1).1.1
  have HZ := Lib.hid (fun X (hb : Below W.heap.size W X) => show Calls Tryz.prog 72 #[plV z] X (BysOut H1 X) by rw [← hH1]; exact home_any z X ((hz.on A1).on hb) hk ((hG.on A1).on hb))
  have HY := Lib.hid (fun X (hb : Below W.heap.size W X) => show Calls Tryz.prog 72 #[plV y] X (BysOut H2 X) by rw [← hH2]; exact home_any y X ((hy.on A1).on hb) hj ((hG.on A1).on hb))
  generalize sameE _ _ _ = R at HS ⊢
  clear hH1 hH2
  clear hz hk hy hj hG
  obtain ⟨⟨⟨⟨⟨zq1, zn1, zc1⟩, ⟨zq2, zn2, zc2⟩⟩, ⟨zq3, zn3, zc3⟩⟩, ⟨zl1, zl2, zl3, zl4, zage, zsec⟩⟩, ⟨⟨⟨zq4, zn4, zc4⟩, ⟨zq5, zn5, zc5⟩, ⟨zq6, zn6, zc6⟩, ⟨zq7, zn7, zc7⟩, ⟨zq8, zn8, zc8⟩⟩, ⟨zs1, zs2, zs3, zs4, zs5, zs6, zs7, zs8⟩⟩, zm⟩ := z
  obtain ⟨⟨⟨⟨⟨yq1, yn1, yc1⟩, ⟨yq2, yn2, yc2⟩⟩, ⟨yq3, yn3, yc3⟩⟩, ⟨yl1, yl2, yl3, yl4, yage, ysec⟩⟩, ⟨⟨⟨yq4, yn4, yc4⟩, ⟨yq5, yn5, yc5⟩, ⟨yq6, yn6, yc6⟩, ⟨yq7, yn7, yc7⟩, ⟨yq8, yn8, yc8⟩⟩, ⟨ys1, ys2, ys3, ys4, ys5, ys6, ys7, ys8⟩⟩, ym⟩ := y
  simp only [plV, plRow, vC] at *
  obtain ⟨en, hen⟩ : ∃ b, decide (zl1 = yl1) = b := ⟨_, rfl⟩
  obtain ⟨ed, hed⟩ : ∃ b, decide (zl4 = yl4) = b := ⟨_, rfl⟩
  rw [hen, hed] at HS
  have HE := Lib.hid (fun X (hb : Below W.heap.size W X) => show Calls Tryz.prog 112 #[.slice zq1 zn1 zc1, .slice yq1 yn1 yc1] X (fun e w' => e = .returned (.bool en) ∧ w' = X) by
    have hz1 := h1.on hb
    have hy1 := g1.on hb
    have conE := Tryz.bytes_Equal_all zq1 yq1 zn1 zc1 yn1 yc1 (Lib.numsL zl1) (Lib.numsL yl1) X (by rw [Lib.numsL_length]; exact hz1.at.1) (by rw [Lib.numsL_length]; exact hy1.at.1) hz1.at.2.2.2.2 hy1.at.2.2.2.2
    rw [bytesOf_numsL, bytesOf_numsL, list_eqD, hen] at conE
    exact conE)
  have HED := Lib.hid hed
  clear hen hed
  have HW := Lib.hid hW
  have HLT := Lib.hid hlt
  clear hW hlt h1 g1
  go_enter Tryz.func56, Tryz.ntmps56
  go_wp2_with fail
  rw [HW.out]
  generalize hB : w.heap.size = B at *
  have A0 := Lib.hid A1
  have HB0 := Lib.hid hB
  clear HW hB
  have hS0 : Box B #[.slice zq1 zn1 zc1, .slice zq2 zn2 zc2, .slice zq3 zn3 zc3, .string ⟨zl4.toArray⟩, .int .i64 zage, .bool zsec, .slice zq4 zn4 zc4, .slice zq5 zn5 zc5, .int .i64 zs3, .slice zq6 zn6 zc6, .slice zq7 zn7 zc7, .slice zq8 zn8 zc8, .bool zs7, .bool zs8, .int .i64 zm] W.drew ∧ Box (B + 1) #[.slice yq1 yn1 yc1, .slice yq2 yn2 yc2, .slice yq3 yn3 yc3, .string ⟨yl4.toArray⟩, .int .i64 yage, .bool ysec, .slice yq4 yn4 yc4, .slice yq5 yn5 yc5, .int .i64 ys3, .slice yq6 yn6 yc6, .slice yq7 yn7 yc7, .slice yq8 yn8 yc8, .bool ys7, .bool ys8, .int .i64 ym] W.drew := ⟨bZ, bY⟩
  refine pregion_any (fun X => Box B #[.slice zq1 zn1 zc1, .slice zq2 zn2 zc2, .slice zq3 zn3 zc3, .string ⟨zl4.toArray⟩, .int .i64 zage, .bool zsec, .slice zq4 zn4 zc4, .slice zq5 zn5 zc5, .int .i64 zs3, .slice zq6 zn6 zc6, .slice zq7 zn7 zc7, .slice zq8 zn8 zc8, .bool zs7, .bool zs8, .int .i64 zm] X ∧ Box (B + 1) #[.slice yq1 yn1 yc1, .slice yq2 yn2 yc2, .slice yq3 yn3 yc3, .string ⟨yl4.toArray⟩, .int .i64 yage, .bool ysec, .slice yq4 yn4 yc4, .slice yq5 yn5 yc5, .int .i64 ys3, .slice yq6 yn6 yc6, .slice yq7 yn7 yc7, .slice yq8 yn8 yc8, .bool ys7, .bool ys8, .int .i64 ym] X) (by kernel_rfl) ?_
  have hBd : Below W.heap.size W W.drew := (Below.refl _ _).drew
  obtain ⟨X1, hX1⟩ : ∃ X, W.drew = X := ⟨_, rfl⟩
  rw [hX1] at hBd hS0 ⊢
  obtain ⟨bZ, bY⟩ := hS0
  clear hX1 A1
  refine wpAnyH_take (i := 0) (v := (.pointer (some ⟨B, 0, none⟩))) rfl (by kernel_rfl) (by kernel_rfl) (by kernel_rfl) (fun _ _ _ h => h) (.inl ⟨by kernel_rfl, ?_⟩) ⟨bZ, bY⟩ ?_
  · rintro w ⟨hz, hy⟩; go_simp
  refine plist #[true, false, false, false, false, false, false, false, false, false, false, false, false, false, false, false, false, false, false, false, false, false, false, false] (by kernel_rfl) ?_
  refine wpAnyH_take (i := 1) (v := (.pointer (some ⟨B, 0, none⟩))) rfl (by kernel_rfl) (by kernel_rfl) (by kernel_rfl) (fun _ _ _ h => h) (.inl ⟨by kernel_rfl, ?_⟩) ⟨bZ, bY⟩ ?_
  · rintro w ⟨hz, hy⟩; go_simp
  refine plist #[true, true, false, false, false, false, false, false, false, false, false, false, false, false, false, false, false, false, false, false, false, false, false, false] (by kernel_rfl) ?_
  refine wpAnyH_take (i := 2) (v := (.slice zq1 zn1 zc1)) rfl (by kernel_rfl) (by kernel_rfl) (by kernel_rfl) (fun _ _ _ h => h) (.inl ⟨by kernel_rfl, ?_⟩) ⟨bZ, bY⟩ ?_
  · rintro w ⟨hz, hy⟩; have x0 := hz 0 _ rfl; go_simp
  refine plist #[true, true, true, false, false, false, false, false, false, false, false, false, false, false, false, false, false, false, false, false, false, false, false, false] (by kernel_rfl) ?_
  refine wpAnyH_take (i := 3) (v := (.pointer (some ⟨B + 1, 0, none⟩))) rfl (by kernel_rfl) (by kernel_rfl) (by kernel_rfl) (fun _ _ _ h => h) (.inl ⟨by kernel_rfl, ?_⟩) ⟨bZ, bY⟩ ?_
  · rintro w ⟨hz, hy⟩; go_simp
  refine plist #[true, true, true, true, false, false, false, false, false, false, false, false, false, false, false, false, false, false, false, false, false, false, false, false] (by kernel_rfl) ?_
  refine wpAnyH_take (i := 4) (v := (.pointer (some ⟨B + 1, 0, none⟩))) rfl (by kernel_rfl) (by kernel_rfl) (by kernel_rfl) (fun _ _ _ h => h) (.inl ⟨by kernel_rfl, ?_⟩) ⟨bZ, bY⟩ ?_
  · rintro w ⟨hz, hy⟩; go_simp
  refine plist #[true, true, true, true, true, false, false, false, false, false, false, false, false, false, false, false, false, false, false, false, false, false, false, false] (by kernel_rfl) ?_
  refine wpAnyH_take (i := 5) (v := (.slice yq1 yn1 yc1)) rfl (by kernel_rfl) (by kernel_rfl) (by kernel_rfl) (fun _ _ _ h => h) (.inl ⟨by kernel_rfl, ?_⟩) ⟨bZ, bY⟩ ?_
  · rintro w ⟨hz, hy⟩; have x0 := hy 0 _ rfl; go_simp
  refine plist #[true, true, true, true, true, true, false, false, false, false, false, false, false, false, false, false, false, false, false, false, false, false, false, false] (by kernel_rfl) ?_
  have con := HE.out _ hBd
  refine pone 6 (by kernel_rfl) rfl fun K hK => ?_
  go_simp
  refine con.mono ?_
  rintro e w6 ⟨rfl, rfl⟩
  clear con
  refine hK _ _ ⟨bZ, bY⟩ ?_
  clear hK K
  refine plist #[true, true, true, true, true, true, true, false, false, false, false, false, false, false, false, false, false, false, false, false, false, false, false, false] (by kernel_rfl) ?_
  refine wpAnyH_take (i := 7) (v := (.bool en)) rfl (by kernel_rfl) (by kernel_rfl) (by kernel_rfl) (fun _ _ _ h => h) (.inl ⟨by kernel_rfl, ?_⟩) ⟨bZ, bY⟩ ?_
  · rintro w ⟨hz, hy⟩; go_simp
  cases en with
  | false =>
    refine plist #[true, true, true, true, true, true, true, true, false, false, false, false, false, false, false, false, false, false, false, false, false, false, false, false] (by kernel_rfl) ?_
    refine wpAnyH_take (i := 8) (v := (undef)) rfl (by kernel_rfl) (by kernel_rfl) (by kernel_rfl) (fun _ _ _ h => h) (.inr ⟨by kernel_rfl, rfl⟩) ⟨bZ, bY⟩ ?_
    refine plist #[true, true, true, true, true, true, true, true, true, false, false, false, false, false, false, false, false, false, false, false, false, false, false, false] (by kernel_rfl) ?_
    refine wpAnyH_take (i := 9) (v := (undef)) rfl (by kernel_rfl) (by kernel_rfl) (by kernel_rfl) (fun _ _ _ h => h) (.inr ⟨by kernel_rfl, rfl⟩) ⟨bZ, bY⟩ ?_
    refine plist #[true, true, true, true, true, true, true, true, true, true, false, false, false, false, false, false, false, false, false, false, false, false, false, false] (by kernel_rfl) ?_
    refine wpAnyH_take (i := 10) (v := (undef)) rfl (by kernel_rfl) (by kernel_rfl) (by kernel_rfl) (fun _ _ _ h => h) (.inr ⟨by kernel_rfl, rfl⟩) ⟨bZ, bY⟩ ?_
    refine plist #[true, true, true, true, true, true, true, true, true, true, true, false, false, false, false, false, false, false, false, false, false, false, false, false] (by kernel_rfl) ?_
    refine wpAnyH_take (i := 11) (v := (undef)) rfl (by kernel_rfl) (by kernel_rfl) (by kernel_rfl) (fun _ _ _ h => h) (.inr ⟨by kernel_rfl, rfl⟩) ⟨bZ, bY⟩ ?_
    refine plist #[true, true, true, true, true, true, true, true, true, true, true, true, false, false, false, false, false, false, false, false, false, false, false, false] (by kernel_rfl) ?_
    refine wpAnyH_take (i := 12) (v := (undef)) rfl (by kernel_rfl) (by kernel_rfl) (by kernel_rfl) (fun _ _ _ h => h) (.inr ⟨by kernel_rfl, rfl⟩) ⟨bZ, bY⟩ ?_
    refine plist #[true, true, true, true, true, true, true, true, true, true, true, true, true, false, false, false, false, false, false, false, false, false, false, false] (by kernel_rfl) ?_
    refine wpAnyH_take (i := 13) (v := (undef)) rfl (by kernel_rfl) (by kernel_rfl) (by kernel_rfl) (fun _ _ _ h => h) (.inr ⟨by kernel_rfl, rfl⟩) ⟨bZ, bY⟩ ?_
    refine plist #[true, true, true, true, true, true, true, true, true, true, true, true, true, true, false, false, false, false, false, false, false, false, false, false] (by kernel_rfl) ?_
    refine wpAnyH_take (i := 14) (v := (undef)) rfl (by kernel_rfl) (by kernel_rfl) (by kernel_rfl) (fun _ _ _ h => h) (.inr ⟨by kernel_rfl, rfl⟩) ⟨bZ, bY⟩ ?_
    refine plist #[true, true, true, true, true, true, true, true, true, true, true, true, true, true, true, false, false, false, false, false, false, false, false, false] (by kernel_rfl) ?_
    refine wpAnyH_take (i := 15) (v := (.bool false)) rfl (by kernel_rfl) (by kernel_rfl) (by kernel_rfl) (fun _ _ _ h => h) (.inl ⟨by kernel_rfl, ?_⟩) ⟨bZ, bY⟩ ?_
    · rintro w ⟨hz, hy⟩; go_simp
    refine plist #[true, true, true, true, true, true, true, true, true, true, true, true, true, true, true, true, false, false, false, false, false, false, false, false] (by kernel_rfl) ?_
    refine wpAnyH_take (i := 16) (v := (.bool false)) rfl (by kernel_rfl) (by kernel_rfl) (by kernel_rfl) (fun _ _ _ h => h) (.inl ⟨by kernel_rfl, ?_⟩) ⟨bZ, bY⟩ ?_
    · rintro w ⟨hz, hy⟩; go_simp
    refine plist #[true, true, true, true, true, true, true, true, true, true, true, true, true, true, true, true, true, false, false, false, false, false, false, false] (by kernel_rfl) ?_
    refine wpAnyH_take (i := 17) (v := (undef)) rfl (by kernel_rfl) (by kernel_rfl) (by kernel_rfl) (fun _ _ _ h => h) (.inr ⟨by kernel_rfl, rfl⟩) ⟨bZ, bY⟩ ?_
    refine plist #[true, true, true, true, true, true, true, true, true, true, true, true, true, true, true, true, true, true, false, false, false, false, false, false] (by kernel_rfl) ?_
    refine wpAnyH_take (i := 18) (v := (undef)) rfl (by kernel_rfl) (by kernel_rfl) (by kernel_rfl) (fun _ _ _ h => h) (.inr ⟨by kernel_rfl, rfl⟩) ⟨bZ, bY⟩ ?_
    refine plist #[true, true, true, true, true, true, true, true, true, true, true, true, true, true, true, true, true, true, true, false, false, false, false, false] (by kernel_rfl) ?_
    refine wpAnyH_take (i := 19) (v := (undef)) rfl (by kernel_rfl) (by kernel_rfl) (by kernel_rfl) (fun _ _ _ h => h) (.inr ⟨by kernel_rfl, rfl⟩) ⟨bZ, bY⟩ ?_
    refine plist #[true, true, true, true, true, true, true, true, true, true, true, true, true, true, true, true, true, true, true, true, false, false, false, false] (by kernel_rfl) ?_
    refine wpAnyH_take (i := 20) (v := (undef)) rfl (by kernel_rfl) (by kernel_rfl) (by kernel_rfl) (fun _ _ _ h => h) (.inr ⟨by kernel_rfl, rfl⟩) ⟨bZ, bY⟩ ?_
    refine plist #[true, true, true, true, true, true, true, true, true, true, true, true, true, true, true, true, true, true, true, true, true, false, false, false] (by kernel_rfl) ?_
    refine wpAnyH_take (i := 21) (v := (undef)) rfl (by kernel_rfl) (by kernel_rfl) (by kernel_rfl) (fun _ _ _ h => h) (.inr ⟨by kernel_rfl, rfl⟩) ⟨bZ, bY⟩ ?_
    refine plist #[true, true, true, true, true, true, true, true, true, true, true, true, true, true, true, true, true, true, true, true, true, true, false, false] (by kernel_rfl) ?_
    refine wpAnyH_take (i := 22) (v := (.bool false)) rfl (by kernel_rfl) (by kernel_rfl) (by kernel_rfl) (fun _ _ _ h => h) (.inl ⟨by kernel_rfl, ?_⟩) ⟨bZ, bY⟩ ?_
    · rintro w ⟨hz, hy⟩; go_simp
    refine plist #[true, true, true, true, true, true, true, true, true, true, true, true, true, true, true, true, true, true, true, true, true, true, true, false] (by kernel_rfl) ?_
    refine pone 23 (by kernel_rfl) rfl fun K hK => ?_
    go_simp
    refine hK _ _ ⟨bZ, bY⟩ ?_
    clear hK K
    refine pdone (by kernel_rfl) ?_ _
    go_wp2
    go_ret
    have hB := HB0.out; subst hB; exact ⟨by rw [HS.out]; rfl, A0.out.trans (hBd.mono A0.out.size)⟩
  | true =>
    refine plist #[true, true, true, true, true, true, true, true, false, false, false, false, false, false, false, false, false, false, false, false, false, false, false, false] (by kernel_rfl) ?_
    refine wpAnyH_take (i := 8) (v := (.pointer (some ⟨B, 0, none⟩))) rfl (by kernel_rfl) (by kernel_rfl) (by kernel_rfl) (fun _ _ _ h => h) (.inl ⟨by kernel_rfl, ?_⟩) ⟨bZ, bY⟩ ?_
    · rintro w ⟨hz, hy⟩; go_simp
    refine plist #[true, true, true, true, true, true, true, true, true, false, false, false, false, false, false, false, false, false, false, false, false, false, false, false] (by kernel_rfl) ?_
    refine wpAnyH_take (i := 9) (v := (.pointer (some ⟨B, 3, none⟩))) rfl (by kernel_rfl) (by kernel_rfl) (by kernel_rfl) (fun _ _ _ h => h) (.inl ⟨by kernel_rfl, ?_⟩) ⟨bZ, bY⟩ ?_
    · rintro w ⟨hz, hy⟩; go_simp
    refine plist #[true, true, true, true, true, true, true, true, true, true, false, false, false, false, false, false, false, false, false, false, false, false, false, false] (by kernel_rfl) ?_
    refine wpAnyH_take (i := 10) (v := (.string ⟨zl4.toArray⟩)) rfl (by kernel_rfl) (by kernel_rfl) (by kernel_rfl) (fun _ _ _ h => h) (.inl ⟨by kernel_rfl, ?_⟩) ⟨bZ, bY⟩ ?_
    · rintro w ⟨hz, hy⟩; have x0 := hz 3 _ rfl; go_simp
    refine plist #[true, true, true, true, true, true, true, true, true, true, true, false, false, false, false, false, false, false, false, false, false, false, false, false] (by kernel_rfl) ?_
    refine wpAnyH_take (i := 11) (v := (.pointer (some ⟨B + 1, 0, none⟩))) rfl (by kernel_rfl) (by kernel_rfl) (by kernel_rfl) (fun _ _ _ h => h) (.inl ⟨by kernel_rfl, ?_⟩) ⟨bZ, bY⟩ ?_
    · rintro w ⟨hz, hy⟩; go_simp
    refine plist #[true, true, true, true, true, true, true, true, true, true, true, true, false, false, false, false, false, false, false, false, false, false, false, false] (by kernel_rfl) ?_
    refine wpAnyH_take (i := 12) (v := (.pointer (some ⟨B + 1, 3, none⟩))) rfl (by kernel_rfl) (by kernel_rfl) (by kernel_rfl) (fun _ _ _ h => h) (.inl ⟨by kernel_rfl, ?_⟩) ⟨bZ, bY⟩ ?_
    · rintro w ⟨hz, hy⟩; go_simp
    refine plist #[true, true, true, true, true, true, true, true, true, true, true, true, true, false, false, false, false, false, false, false, false, false, false, false] (by kernel_rfl) ?_
    refine wpAnyH_take (i := 13) (v := (.string ⟨yl4.toArray⟩)) rfl (by kernel_rfl) (by kernel_rfl) (by kernel_rfl) (fun _ _ _ h => h) (.inl ⟨by kernel_rfl, ?_⟩) ⟨bZ, bY⟩ ?_
    · rintro w ⟨hz, hy⟩; have x0 := hy 3 _ rfl; go_simp
    refine plist #[true, true, true, true, true, true, true, true, true, true, true, true, true, true, false, false, false, false, false, false, false, false, false, false] (by kernel_rfl) ?_
    refine wpAnyH_take (i := 14) (v := (.bool ed)) rfl (by kernel_rfl) (by kernel_rfl) (by kernel_rfl) (fun _ _ _ h => h) (.inl ⟨by kernel_rfl, ?_⟩) ⟨bZ, bY⟩ ?_
    · rintro w ⟨hz, hy⟩; go_simp; rw [list_eqD]; exact HED.out
    refine plist #[true, true, true, true, true, true, true, true, true, true, true, true, true, true, true, false, false, false, false, false, false, false, false, false] (by kernel_rfl) ?_
    refine wpAnyH_take (i := 15) (v := (.bool ed)) rfl (by kernel_rfl) (by kernel_rfl) (by kernel_rfl) (fun _ _ _ h => h) (.inl ⟨by kernel_rfl, ?_⟩) ⟨bZ, bY⟩ ?_
    · rintro w ⟨hz, hy⟩; go_simp
    refine plist #[true, true, true, true, true, true, true, true, true, true, true, true, true, true, true, true, false, false, false, false, false, false, false, false] (by kernel_rfl) ?_
    refine wpAnyH_take (i := 16) (v := (.bool ed)) rfl (by kernel_rfl) (by kernel_rfl) (by kernel_rfl) (fun _ _ _ h => h) (.inl ⟨by kernel_rfl, ?_⟩) ⟨bZ, bY⟩ ?_
    · rintro w ⟨hz, hy⟩; go_simp
    cases ed with
    | false =>
      refine plist #[true, true, true, true, true, true, true, true, true, true, true, true, true, true, true, true, true, false, false, false, false, false, false, false] (by kernel_rfl) ?_
      refine wpAnyH_take (i := 17) (v := (undef)) rfl (by kernel_rfl) (by kernel_rfl) (by kernel_rfl) (fun _ _ _ h => h) (.inr ⟨by kernel_rfl, rfl⟩) ⟨bZ, bY⟩ ?_
      refine plist #[true, true, true, true, true, true, true, true, true, true, true, true, true, true, true, true, true, true, false, false, false, false, false, false] (by kernel_rfl) ?_
      refine wpAnyH_take (i := 18) (v := (undef)) rfl (by kernel_rfl) (by kernel_rfl) (by kernel_rfl) (fun _ _ _ h => h) (.inr ⟨by kernel_rfl, rfl⟩) ⟨bZ, bY⟩ ?_
      refine plist #[true, true, true, true, true, true, true, true, true, true, true, true, true, true, true, true, true, true, true, false, false, false, false, false] (by kernel_rfl) ?_
      refine wpAnyH_take (i := 19) (v := (undef)) rfl (by kernel_rfl) (by kernel_rfl) (by kernel_rfl) (fun _ _ _ h => h) (.inr ⟨by kernel_rfl, rfl⟩) ⟨bZ, bY⟩ ?_
      refine plist #[true, true, true, true, true, true, true, true, true, true, true, true, true, true, true, true, true, true, true, true, false, false, false, false] (by kernel_rfl) ?_
      refine wpAnyH_take (i := 20) (v := (undef)) rfl (by kernel_rfl) (by kernel_rfl) (by kernel_rfl) (fun _ _ _ h => h) (.inr ⟨by kernel_rfl, rfl⟩) ⟨bZ, bY⟩ ?_
      refine plist #[true, true, true, true, true, true, true, true, true, true, true, true, true, true, true, true, true, true, true, true, true, false, false, false] (by kernel_rfl) ?_
      refine wpAnyH_take (i := 21) (v := (undef)) rfl (by kernel_rfl) (by kernel_rfl) (by kernel_rfl) (fun _ _ _ h => h) (.inr ⟨by kernel_rfl, rfl⟩) ⟨bZ, bY⟩ ?_
      refine plist #[true, true, true, true, true, true, true, true, true, true, true, true, true, true, true, true, true, true, true, true, true, true, false, false] (by kernel_rfl) ?_
      refine wpAnyH_take (i := 22) (v := (.bool false)) rfl (by kernel_rfl) (by kernel_rfl) (by kernel_rfl) (fun _ _ _ h => h) (.inl ⟨by kernel_rfl, ?_⟩) ⟨bZ, bY⟩ ?_
      · rintro w ⟨hz, hy⟩; go_simp
      refine plist #[true, true, true, true, true, true, true, true, true, true, true, true, true, true, true, true, true, true, true, true, true, true, true, false] (by kernel_rfl) ?_
      refine pone 23 (by kernel_rfl) rfl fun K hK => ?_
      go_simp
      refine hK _ _ ⟨bZ, bY⟩ ?_
      clear hK K
      refine pdone (by kernel_rfl) ?_ _
      go_wp2
      go_ret
      have hB := HB0.out; subst hB; exact ⟨by rw [HS.out]; rfl, A0.out.trans (hBd.mono A0.out.size)⟩
    | true =>
      refine plist #[true, true, true, true, true, true, true, true, true, true, true, true, true, true, true, true, true, false, false, false, false, false, false, false] (by kernel_rfl) ?_
      refine wpAnyH_take (i := 17) (v := (.agg #[.slice zq1 zn1 zc1, .slice zq2 zn2 zc2, .slice zq3 zn3 zc3, .string ⟨zl4.toArray⟩, .int .i64 zage, .bool zsec, .slice zq4 zn4 zc4, .slice zq5 zn5 zc5, .int .i64 zs3, .slice zq6 zn6 zc6, .slice zq7 zn7 zc7, .slice zq8 zn8 zc8, .bool zs7, .bool zs8, .int .i64 zm])) rfl (by kernel_rfl) (by kernel_rfl) (by kernel_rfl) (fun _ _ _ h => h) (.inl ⟨by kernel_rfl, ?_⟩) ⟨bZ, bY⟩ ?_
      · rintro w ⟨hz, hy⟩; have x0 := hz 0 _ rfl; have x1 := hz 1 _ rfl; have x2 := hz 2 _ rfl; have x3 := hz 3 _ rfl; have x4 := hz 4 _ rfl; have x5 := hz 5 _ rfl; have x6 := hz 6 _ rfl; have x7 := hz 7 _ rfl; have x8 := hz 8 _ rfl; have x9 := hz 9 _ rfl; have x10 := hz 10 _ rfl; have x11 := hz 11 _ rfl; have x12 := hz 12 _ rfl; have x13 := hz 13 _ rfl; have x14 := hz 14 _ rfl; go_simp
      refine plist #[true, true, true, true, true, true, true, true, true, true, true, true, true, true, true, true, true, true, false, false, false, false, false, false] (by kernel_rfl) ?_
      refine wpAnyH_take (i := 19) (v := (.agg #[.slice yq1 yn1 yc1, .slice yq2 yn2 yc2, .slice yq3 yn3 yc3, .string ⟨yl4.toArray⟩, .int .i64 yage, .bool ysec, .slice yq4 yn4 yc4, .slice yq5 yn5 yc5, .int .i64 ys3, .slice yq6 yn6 yc6, .slice yq7 yn7 yc7, .slice yq8 yn8 yc8, .bool ys7, .bool ys8, .int .i64 ym])) rfl (by kernel_rfl) (by kernel_rfl) (by kernel_rfl) (fun _ _ _ h => h) (.inl ⟨by kernel_rfl, ?_⟩) ⟨bZ, bY⟩ ?_
      · rintro w ⟨hz, hy⟩; have x0 := hy 0 _ rfl; have x1 := hy 1 _ rfl; have x2 := hy 2 _ rfl; have x3 := hy 3 _ rfl; have x4 := hy 4 _ rfl; have x5 := hy 5 _ rfl; have x6 := hy 6 _ rfl; have x7 := hy 7 _ rfl; have x8 := hy 8 _ rfl; have x9 := hy 9 _ rfl; have x10 := hy 10 _ rfl; have x11 := hy 11 _ rfl; have x12 := hy 12 _ rfl; have x13 := hy 13 _ rfl; have x14 := hy 14 _ rfl; go_simp
      refine plist #[true, true, true, true, true, true, true, true, true, true, true, true, true, true, true, true, true, true, false, true, false, false, false, false] (by kernel_rfl) ?_
      have con := HZ.out _ hBd
      refine pone 18 (by kernel_rfl) rfl fun K hK => ?_
      go_simp
      refine con.mono ?_
      rintro e w18 ⟨qa, na, ca, rfl, ha, hb⟩
      replace hBd := hBd.trans (hb.mono hBd.size)
      replace bZ := Box.on bZ hb
      replace bY := Box.on bY hb
      clear con hb 
      refine hK _ _ ⟨bZ, bY⟩ ?_
      clear hK K
      refine plist #[true, true, true, true, true, true, true, true, true, true, true, true, true, true, true, true, true, true, true, true, false, false, false, false] (by kernel_rfl) ?_
      have con := HY.out _ hBd
      refine pone 20 (by kernel_rfl) rfl fun K hK => ?_
      go_simp
      refine con.mono ?_
      rintro e w20 ⟨qb, nb, cb, rfl, hc, hb⟩
      replace hBd := hBd.trans (hb.mono hBd.size)
      replace bZ := Box.on bZ hb
      replace bY := Box.on bY hb
      replace ha := ha.on hb
      clear con hb 
      refine hK _ _ ⟨bZ, bY⟩ ?_
      clear hK K
      refine plist #[true, true, true, true, true, true, true, true, true, true, true, true, true, true, true, true, true, true, true, true, true, false, false, false] (by kernel_rfl) ?_
      have con := Tryz.bytes_Equal_all qa qb na ca nb cb (Lib.numsL H1) (Lib.numsL H2) _ (by rw [Lib.numsL_length]; exact ha.at.1) (by rw [Lib.numsL_length]; exact hc.at.1) ha.at.2.2.2.2 hc.at.2.2.2.2
      rw [bytesOf_numsL, bytesOf_numsL, list_eqD] at con
      refine pone 21 (by kernel_rfl) rfl fun K hK => ?_
      go_simp
      refine con.mono ?_
      rintro e w21 ⟨rfl, rfl⟩
      clear con
      refine hK _ _ ⟨bZ, bY⟩ ?_
      clear hK K
      refine plist #[true, true, true, true, true, true, true, true, true, true, true, true, true, true, true, true, true, true, true, true, true, true, false, false] (by kernel_rfl) ?_
      refine wpAnyH_take (i := 22) (v := (.bool (decide (H1 = H2)))) rfl (by kernel_rfl) (by kernel_rfl) (by kernel_rfl) (fun _ _ _ h => h) (.inl ⟨by kernel_rfl, ?_⟩) ⟨bZ, bY⟩ ?_
      · rintro w ⟨hz, hy⟩; go_simp
      refine plist #[true, true, true, true, true, true, true, true, true, true, true, true, true, true, true, true, true, true, true, true, true, true, true, false] (by kernel_rfl) ?_
      refine pone 23 (by kernel_rfl) rfl fun K hK => ?_
      go_simp
      refine hK _ _ ⟨bZ, bY⟩ ?_
      clear hK K
      refine pdone (by kernel_rfl) ?_ _
      go_wp2
      go_ret
      have hB := HB0.out; subst hB; exact ⟨by rw [HS.out]; rfl, A0.out.trans (hBd.mono A0.out.size)⟩
end Go.Proofs.YtniehbjoogaccaaGreatDoor.Jar
namespace Go.Proofs.YtniehbjoogaccaaGreatDoor.Jar
open Go.RowKit Go.Shelf Url Ck
attribute [local go_sem] Oper.semAt_some
set_option linter.unusedVariables false
theorem one_cells (z : PZ) : ∀ u ∈ plRow z, u.oneCell' = true := fun u hu => by
  obtain ⟨⟨⟨⟨⟨aq1, an1, ac1⟩, ⟨aq2, an2, ac2⟩⟩, ⟨aq3, an3, ac3⟩⟩, ⟨al1, al2, al3, al4, aage, asec⟩⟩, ⟨⟨⟨aq4, an4, ac4⟩, ⟨aq5, an5, ac5⟩, ⟨aq6, an6, ac6⟩, ⟨aq7, an7, ac7⟩, ⟨aq8, an8, ac8⟩⟩, ⟨as1, as2, as3, as4, as5, as6, as7, as8⟩⟩, am⟩ := z
  simp only [plRow, vC, List.mem_cons, List.not_mem_nil, or_false] at hu
  rcases hu with rfl | rfl | rfl | rfl | rfl | rfl | rfl | rfl | rfl | rfl | rfl | rfl | rfl | rfl | rfl <;> rfl
theorem ones_cells (zs : List PZ) : ∀ u ∈ zs.flatMap plRow, u.oneCell' = true := fun u hu => by
  obtain ⟨z, -, hz⟩ := List.mem_flatMap.1 hu
  exact one_cells z u hz
theorem plrows_back : ∀ (zs : List PZ) (k : Nat) (u : Value), (zs.flatMap plRow)[k]? = some u → ∃ z, zs[k / 15]? = some z ∧ (plRow z)[k % 15]? = some u := fun zs k u h => by
  have hk : k < zs.length * 15 := by rw [← plrows_len]; exact (List.getElem?_eq_some_iff.1 h).1
  obtain ⟨z, hz⟩ : ∃ z, zs[k / 15]? = some z := ⟨_, List.getElem?_eq_getElem (by omega)⟩
  obtain ⟨v, hv⟩ : ∃ v, (plRow z)[k % 15]? = some v := ⟨_, List.getElem?_eq_getElem (by rw [pl_len]; omega)⟩
  have := plrows_get zs (k / 15) z hz (k % 15) v hv
  rw [show k / 15 * 15 + k % 15 = k by omega, h] at this
  cases this
  exact ⟨z, hz, hv⟩
set_option maxRecDepth 100000 in
set_option maxHeartbeats 8000000 in
theorem Clone_pl (v : Value) (zs : List PZ) (w : World) (h : PlV w v zs) (hn : zs.length ≤ 1048576) :
    Calls Tryz.prog 111 #[v] w fun e w' => ∃ v', e = .returned v' ∧ w'.ownsRow w.heap.size 105 15 v' zs.length (zs.flatMap plRow) ∧ (zs = [] → v' = .slice none 0 0) ∧ Below w.heap.size w w' := by
  have q24 : ∀ (w : World) (a : Option Addr) (n c n' c' : Nat), (binOp .eql 106 (.slice a n c) (.slice none n' c')).run Tryz.prog w = .ok (.bool a.isNone) w := fun w a n c n' c' => Lib.run_eql_slice_nil w _ _ a n c n' c' Tryz.underlying106
  rcases h with ⟨rfl, rfl⟩ | ⟨hz, g, o, c, rfl, h1, h2, h3, h4, h5⟩
  · clear hn
    go_enter Tryz.func111, Tryz.ntmps111
    go_wp2
    go_ret
    exact ⟨_, rfl, World.ownsRow_nil _ _ _ _, fun _ => rfl, Below.refl _ _⟩
  · obtain ⟨i0, hi0, hz0, hz1, hz2⟩ := info_parts info_pl
    have hc : ∀ j u, (zs.flatMap plRow)[j]? = some u → w.cell? ((⟨g, o, none⟩ : Addr).add j) = some u := fun j u hu => by
      obtain ⟨z, hz, hv⟩ := plrows_back zs j u hu
      have := h4 _ z hz _ u hv
      rw [Go.WideShapes.add_plain]
      rw [← this]
      congr 2
      omega
    have HC := Lib.hid hc
    have HL := Lib.hid (plrows_len zs)
    have H1 := Lib.hid (ones_cells zs)
    clear h4 h5 hc
    go_enter Tryz.func111, Tryz.ntmps111
    go_wp2_with (at_builtin; go_must (refine wpList_append_own _ rfl _ _ 106 rfl w.heap.size 105 i0 (.agg #[.slice none 0 0, .slice none 0 0, .slice none 0 0, .string ⟨#[]⟩, .int .i64 0, .bool false, .slice none 0 0, .slice none 0 0, .int .i64 0, .slice none 0 0, .slice none 0 0, .slice none 0 0, .bool false, .bool false, .int .i64 0]) 15 248 Tryz.underlying106 hi0 hz0 hz1 hz2 rfl (by decide) _ _ _ rfl (World.ownsRow_made w #[] 0 (Nat.le_refl _) (Nat.zero_le _) (by simp)) ⟨g, o, none⟩ zs.length c (zs.flatMap plRow) rfl ?qc1 ?qc2 ?qc3 ?qc4 ?qc5 ?qc6 ?_))
    case qc1 => exact HL.out
    case qc2 =>
      intro j u hj
      exact Lib.cell?_alloc_some _ (HC.out j u hj)
    case qc3 => exact H1.out
    case qc4 => unfold maxLen; omega
    case qc5 => omega
    case qc6 => simp
    intro v' w1 hown hgrow hnil
    go_wp2
    go_ret
    refine ⟨v', rfl, by simpa using hown, fun h0 => absurd h0 hz, ((Below.refl _ w).alloc (Nat.le_refl _) _).grown hgrow (by simp) (by intro k hk; simp [Value.ownBlock] at hk; omega)⟩
def PredZ (w : World) (g : Nat) (lb : Array Value) (p : PZ → Bool) (zs : List PZ) : Prop :=
  ∀ z ∈ zs, ∀ W, Below w.heap.size w W → Calls Tryz.prog g (#[plV z] ++ lb) W fun e w' => e = .returned (.bool (p z)) ∧ Below W.heap.size W w'
set_option maxRecDepth 100000 in
set_option maxHeartbeats 8000000 in
theorem Index_pl (w0 : World) (g : Nat) (lb : Array Value) (p : PZ → Bool) (R n cap : Nat) (zs : List PZ) (w : World) (eg : ∀ args w, (callFunc g args).run Tryz.prog w = .ok (.enter g args) w)
    (hp : PredZ w0 g lb p zs) (hB : Below w0.heap.size w0 w) (hr : PRow w R n cap zs) (hn : n ≤ 1048576) :
    Calls Tryz.prog 151 #[.slice (some ⟨R, 0, none⟩) n cap, .func (.func g) #[] lb] w fun e w' => ∃ i : Int, e = .returned (.int .i64 i) ∧ Below w.heap.size w w' ∧
      ((i = -1 ∧ ∀ z ∈ zs, p z = false) ∨ ∃ k : Nat, i = k ∧ k < n ∧ (∀ j z, j < k → zs[j]? = some z → p z = false) ∧ ∃ z, zs[k]? = some z ∧ p z = true) := by
  have hl : zs.length = n := by obtain ⟨_, _, _, h, _⟩ := hr; exact h
  have HR := Lib.hid hr
  have HP := Lib.hid hp
  have HB := Lib.hid hB
  have HL := Lib.hid hl
  clear hr hp hB hl
  go_enter Tryz.func151, Tryz.ntmps151
  go_wp2
  go_loopw [8] (fun i wr => ∃ k : Nat, k ≤ n ∧ i = .int .i64 k ∧ Hid (Below w.heap.size w wr) ∧ Hid (∀ j z, j < k → zs[j]? = some z → p z = false)) (fun i _ => n - (intOf i).toNat)
  case atStart => exact ⟨0, Nat.zero_le _, rfl, Lib.hid (Below.refl _ _), Lib.hid (fun j z hj => absurd hj (Nat.not_lt_zero _))⟩
  case round =>
    obtain ⟨k, hk, rfl, HW, HA⟩ := hrel
    by_cases hlt : k < n
    · obtain ⟨z, hz⟩ : ∃ z, zs[k]? = some z := ⟨_, List.getElem?_eq_getElem (by rw [HL.out]; exact hlt)⟩
      have hc := (HR.out.keep (Keep.of_below HW.out) HR.out.lt).cells hz
      have con := HP.out z (List.mem_of_getElem? hz) _ (HB.out.trans (HW.out.mono HB.out.size))
      have HZ := Lib.hid hz
      clear hz
      obtain ⟨b, hb⟩ : ∃ b, p z = b := ⟨_, rfl⟩
      have HPZ := Lib.hid hb
      rw [hb] at con
      clear hb
      obtain ⟨⟨⟨⟨⟨zq1, zn1, zc1⟩, ⟨zq2, zn2, zc2⟩⟩, ⟨zq3, zn3, zc3⟩⟩, ⟨zl1, zl2, zl3, zl4, zage, zsec⟩⟩, ⟨⟨⟨zq4, zn4, zc4⟩, ⟨zq5, zn5, zc5⟩, ⟨zq6, zn6, zc6⟩, ⟨zq7, zn7, zc7⟩, ⟨zq8, zn8, zc8⟩⟩, ⟨zs1, zs2, zs3, zs4, zs5, zs6, zs7, zs8⟩⟩, zm⟩ := z
      simp only [plV, plRow, vC] at con
      have c0 : wr.cell? ⟨R, k * 15, none⟩ = some (.slice zq1 zn1 zc1) := hc 0 _ rfl
      have c1 : wr.cell? ⟨R, k * 15 + 1, none⟩ = some (.slice zq2 zn2 zc2) := hc 1 _ rfl
      have c2 : wr.cell? ⟨R, k * 15 + 2, none⟩ = some (.slice zq3 zn3 zc3) := hc 2 _ rfl
      have c3 : wr.cell? ⟨R, k * 15 + 3, none⟩ = some (.string ⟨zl4.toArray⟩) := hc 3 _ rfl
      have c4 : wr.cell? ⟨R, k * 15 + 4, none⟩ = some (.int .i64 zage) := hc 4 _ rfl
      have c5 : wr.cell? ⟨R, k * 15 + 5, none⟩ = some (.bool zsec) := hc 5 _ rfl
      have c6 : wr.cell? ⟨R, k * 15 + 6, none⟩ = some (.slice zq4 zn4 zc4) := hc 6 _ rfl
      have c7 : wr.cell? ⟨R, k * 15 + 7, none⟩ = some (.slice zq5 zn5 zc5) := hc 7 _ rfl
      have c8 : wr.cell? ⟨R, k * 15 + 8, none⟩ = some (.int .i64 zs3) := hc 8 _ rfl
      have c9 : wr.cell? ⟨R, k * 15 + 9, none⟩ = some (.slice zq6 zn6 zc6) := hc 9 _ rfl
      have c10 : wr.cell? ⟨R, k * 15 + 10, none⟩ = some (.slice zq7 zn7 zc7) := hc 10 _ rfl
      have c11 : wr.cell? ⟨R, k * 15 + 11, none⟩ = some (.slice zq8 zn8 zc8) := hc 11 _ rfl
      have c12 : wr.cell? ⟨R, k * 15 + 12, none⟩ = some (.bool zs7) := hc 12 _ rfl
      have c13 : wr.cell? ⟨R, k * 15 + 13, none⟩ = some (.bool zs8) := hc 13 _ rfl
      have c14 : wr.cell? ⟨R, k * 15 + 14, none⟩ = some (.int .i64 zm) := hc 14 _ rfl
      clear hc
      cases b with
      | true =>
        go_wp2_with fail
        refine con.mono ?_
        rintro e w2 ⟨rfl, hb2⟩
        clear con c0 c1 c2 c3 c4 c5 c6 c7 c8 c9 c10 c11 c12 c13 c14
        go_wp2
        go_ret
        exact ⟨k, rfl, HW.out.trans (hb2.mono HW.out.size), .inr ⟨k, rfl, hlt, HA.out, _, HZ.out, HPZ.out⟩⟩
      | false =>
        go_wp2_with fail
        refine con.mono ?_
        rintro e w2 ⟨rfl, hb2⟩
        clear con c0 c1 c2 c3 c4 c5 c6 c7 c8 c9 c10 c11 c12 c13 c14
        go_wp2
        go_roundw
        case rel =>
          refine ⟨k + 1, by omega, by go_num, Lib.hid (HW.out.trans (hb2.mono HW.out.size)), Lib.hid (fun j y hj hy => ?_)⟩
          by_cases hjk : j = k
          · subst hjk
            rw [HZ.out] at hy
            cases hy
            exact HPZ.out
          · exact HA.out j y (by omega) hy
        case measure => simp [intOf]; omega
    · obtain rfl : k = n := by omega
      go_wp2
      go_ret
      refine ⟨-1, rfl, HW.out, .inl ⟨rfl, fun z hz => ?_⟩⟩
      obtain ⟨j, hj, rfl⟩ := List.getElem_of_mem hz
      exact HA.out j _ (by rw [← HL.out]; exact hj) (List.getElem?_eq_getElem hj)
def zPl : Array Value := #[.slice none 0 0, .slice none 0 0, .slice none 0 0, .string ⟨#[]⟩, .int .i64 0, .bool false, .slice none 0 0, .slice none 0 0, .int .i64 0, .slice none 0 0, .slice none 0 0, .slice none 0 0, .bool false, .bool false, .int .i64 0]
theorem zPl_at (i : Nat) (h : i < 15) : (zPl[i]!).oneCell' = true := by
  match i, h with
  | 0, _ | 1, _ | 2, _ | 3, _ | 4, _ | 5, _ | 6, _ | 7, _ | 8, _ | 9, _ | 10, _ | 11, _ | 12, _ | 13, _ | 14, _ => rfl
theorem size_setC (R : Nat) : ∀ (vs : List Value) (o : Nat) (w : World), (w.setCells R o vs).heap.size = w.heap.size
  | [], _, _ => rfl
  | v :: r, o, w => (size_setC R r (o + 1) _).trans (by simp [World.setCell])
theorem clear_pl {w : World} {R n cap : Nat} {xs : List PZ} (h : PRow w R n cap xs) {i : Nat} (hi : i ≤ n) : ∃ w', (∀ ty c, (Builtin.clear_ #[106] ty #[.slice (some ⟨R, i * 15, none⟩) (n - i) c]).run Tryz.prog w = .ok (.tuple #[]) w') ∧ PRow w' R i cap (xs.take i) ∧ (∀ S : Nat → Prop, ¬ S R → Keep S w w') ∧ w'.heap.size = w.heap.size := by
  have hT := Tryz.underlying106
  rcases Nat.eq_zero_or_pos (n - i) with h0 | h0
  · refine ⟨w, fun ty c => ?_, h.cut hi, fun S _ => Keep.refl _ _, rfl⟩
    rw [h0]
    simp [Builtin.clear_, run_underlying hT]
  · have hcap : n ≤ cap := by obtain ⟨_, _, _, _, h, _⟩ := h; exact h
    have hz : (Value.agg zPl).cells = zPl := rfl
    have hl : (Builtin.zeroCells zPl (n - i)).toList.length = (n - i) * 15 := by simp [Builtin.zeroCells, zPl]
    have h1 : ∀ v ∈ (Builtin.zeroCells zPl (n - i)).toList, v.oneCell' = true := fun v hv => by
      simp only [Builtin.zeroCells, Array.toList_map, List.mem_map] at hv
      obtain ⟨k, -, rfl⟩ := hv
      exact zPl_at _ (Nat.mod_lt _ (by decide))
    refine ⟨_, fun ty c => ?_, h.over hi (Builtin.zeroCells zPl (n - i)).toList, fun S hS => keep_setCells S R hS _ _ _, size_setC _ _ _ _⟩
    have hst := run_storeCells_cells (P := Tryz.prog) R (i * 15) (Builtin.zeroCells zPl (n - i)).toList 0 w (fun j hj => by rw [hl] at hj; obtain ⟨v, hv⟩ := (h.room (j := i * 15 + 0 + j) (by omega)).1; rw [hv]; rfl) (fun j hj => by rw [hl] at hj; exact (h.room (by omega)).2) h1
    rw [Nat.add_zero] at hst
    obtain ⟨m, hm⟩ : ∃ m, n - i = m + 1 := ⟨n - i - 1, by omega⟩
    rw [hm] at hst ⊢
    simp [Builtin.clear_, run_underlying hT]
    rw [show (Value.agg #[.slice none 0 0, .slice none 0 0, .slice none 0 0, .string ⟨#[]⟩, .int .i64 0, .bool false, .slice none 0 0, .slice none 0 0, .int .i64 0, .slice none 0 0, .slice none 0 0, .slice none 0 0, .bool false, .bool false, .int .i64 0]).cells = zPl from rfl, hst]
    rfl
theorem chain15 (w : World) (R o : Nat) (v0 v1 v2 v3 v4 v5 v6 v7 v8 v9 v10 v11 v12 v13 v14 : Value) : (((((((((((((((w.setCell ⟨R, o, none⟩ v0).setCell ⟨R, o + 1, none⟩ v1).setCell ⟨R, o + 2, none⟩ v2).setCell ⟨R, o + 3, none⟩ v3).setCell ⟨R, o + 4, none⟩ v4).setCell ⟨R, o + 5, none⟩ v5).setCell ⟨R, o + 6, none⟩ v6).setCell ⟨R, o + 7, none⟩ v7).setCell ⟨R, o + 8, none⟩ v8).setCell ⟨R, o + 9, none⟩ v9).setCell ⟨R, o + 10, none⟩ v10).setCell ⟨R, o + 11, none⟩ v11).setCell ⟨R, o + 12, none⟩ v12).setCell ⟨R, o + 13, none⟩ v13).setCell ⟨R, o + 14, none⟩ v14) = w.setCells R o [v0, v1, v2, v3, v4, v5, v6, v7, v8, v9, v10, v11, v12, v13, v14] := rfl
theorem filter_step {p : PZ → Bool} {zs : List PZ} {j : Nat} {z : PZ} (hz : zs[j]? = some z) : (zs.take (j + 1)).filter (fun z => !p z) = (zs.take j).filter (fun z => !p z) ++ (if p z = true then [] else [z]) := by
  rw [take_snocA zs j z hz, List.filter_append]
  cases hp : p z <;> simp [hp]
theorem take_set_snoc {xs : List PZ} {i : Nat} (h : i < xs.length) (z : PZ) : (xs.set i z).take (i + 1) = xs.take i ++ [z] := by
  rw [take_snocA _ i z (by rw [List.getElem?_set_self h]), List.take_set_of_le (Nat.le_refl i)]
theorem drop_set_late {xs : List PZ} {i j : Nat} (h : i < j) (z : PZ) : (xs.set i z).drop j = xs.drop j := by
  apply List.ext_getElem?
  intro k
  rw [List.getElem?_drop, List.getElem?_drop, List.getElem?_set_ne (by omega)]
set_option maxRecDepth 100000 in
set_option maxHeartbeats 16000000 in
theorem Delete_pl (w0 : World) (g : Nat) (lb : Array Value) (p : PZ → Bool) (R n cap : Nat) (zs : List PZ) (w : World) (eg : ∀ args w, (callFunc g args).run Tryz.prog w = .ok (.enter g args) w)
    (hp : PredZ w0 g lb p zs) (hB : Below w0.heap.size w0 w) (hr : PRow w R n cap zs) (hn : n ≤ 1048576) (hR : w0.heap.size ≤ R) :
    Calls Tryz.prog 110 #[.slice (some ⟨R, 0, none⟩) n cap, .func (.func g) #[] lb] w fun e w' => ∃ m, e = .returned (.slice (some ⟨R, 0, none⟩) m cap) ∧ PRow w' R m cap (zs.filter fun z => !p z) ∧ Keep (fun b => b < w.heap.size ∧ b ≠ R) w w' := by
  have hl : zs.length = n := by obtain ⟨_, _, _, h, _⟩ := hr; exact h
  have hcap : n ≤ cap := by obtain ⟨_, _, _, _, h, _⟩ := hr; exact h
  have con := Index_pl w0 g lb p R n cap zs w eg hp hB hr hn
  have HR := Lib.hid hr
  have HP := Lib.hid hp
  have HB := Lib.hid hB
  have HL := Lib.hid hl
  have HRW := Lib.hid hR
  clear hr hp hB hl hR
  go_enter Tryz.func110, Tryz.ntmps110
  go_wp2_with fail
  refine con.mono ?_
  rintro e w1 ⟨i0, rfl, hb1, hi0⟩
  clear con
  have hr1 := HR.out.keep (Keep.of_below hb1) HR.out.lt
  have k1 : Keep (fun b => b < w.heap.size ∧ b ≠ R) w w1 := (Keep.of_below hb1).mono fun b _ h => h.1
  rcases hi0 with ⟨rfl, hall⟩ | ⟨k0, rfl, hk0, hlo, z0, hz0, hpz⟩
  · have HF := Lib.hid (show (zs.filter fun z => !p z) = zs from List.filter_eq_self.2 (fun z hz => by rw [hall z hz]; rfl))
    clear hall
    go_wp2
    go_ret
    exact ⟨n, rfl, by rw [HF.out]; exact hr1, k1⟩
  · have hne : ¬ ((k0 : Int) = -1) := by omega
    have HF0 := Lib.hid (show (zs.take (k0 + 1)).filter (fun z => !p z) = zs.take k0 by
      rw [filter_step hz0, hpz, if_pos rfl, List.append_nil, List.filter_eq_self]
      intro y hy
      obtain ⟨j, hj, rfl⟩ := List.getElem_of_mem hy
      rw [List.length_take] at hj
      rw [hlo j _ (by omega) (by rw [List.getElem_take, List.getElem?_eq_getElem (by omega)])]
      rfl)
    have HRr := Lib.hid hr1
    have HK := Lib.hid k1
    have HS1 := Lib.hid hb1.size
    clear hlo hz0 hpz hr1 k1 hb1 z0
    go_wp2
    go_loopw [5, 6] (fun s5 s6 wr => ∃ (i j : Nat) (xs : List PZ), s5 = .int .i64 i ∧ s6 = .int .i64 j ∧ i < j ∧ j ≤ n ∧ Hid (PRow wr R n cap xs) ∧ Hid (xs.take i = (zs.take j).filter fun z => !p z) ∧ Hid (xs.drop j = zs.drop j) ∧ Hid (Keep (fun b => b < w.heap.size ∧ b ≠ R) w wr)) (fun _ s6 _ => n - (intOf s6).toNat)
    case atStart => exact ⟨k0, k0 + 1, zs, rfl, by go_num, by omega, by omega, HRr, Lib.hid HF0.out.symm, Lib.hid rfl, HK⟩
    case round =>
      obtain ⟨i, j, xs, rfl, rfl, hij, hjn, HX, HT, HD, HKW⟩ := hrel
      by_cases hlt : j < n
      · have hxl : xs.length = n := by obtain ⟨_, _, _, h, _⟩ := HX.out; exact h
        obtain ⟨z, hz⟩ : ∃ z, zs[j]? = some z := ⟨_, List.getElem?_eq_getElem (by rw [HL.out]; exact hlt)⟩
        have hxz : xs[j]? = some z := by
          have h1 := congrArg (fun l => l[0]?) HD.out
          simp only [List.getElem?_drop, Nat.add_zero] at h1
          rw [h1, hz]
        obtain ⟨y, hy⟩ : ∃ y, xs[i]? = some y := ⟨_, List.getElem?_eq_getElem (by omega)⟩
        have hc := HX.out.cells hxz
        obtain ⟨pb, hpb⟩ : ∃ b, p z = b := ⟨_, rfl⟩
        have HPB := Lib.hid hpb
        have hsw := HKW.out.size
        have hRlt : R < w.heap.size := HR.out.lt
        have hRx := HX.out.lt
        have conF := fun (X : World) (hb : Below wr.heap.size wr X) => HP.out z (List.mem_of_getElem? hz) X (HB.out.trans (((HKW.out.mono (fun b _ hb => ⟨by have := HB.out.size; omega, by have := HRW.out; omega⟩)).below HB.out.size).trans (hb.mono (by have := HB.out.size; omega))))
        rw [hpb] at conF
        have con := conF _ (below_alloc (w := wr) (.cells (plRow z).toArray 105))
        have HZ := Lib.hid hz
        have HXL := Lib.hid hxl
        have HY := Lib.hid hy
        clear conF hz hxz hpb hy hxl
        have HZR := Lib.hid (rfl : z = z)
        obtain ⟨zz, hzz⟩ : ∃ zz, zz = z := ⟨_, rfl⟩
        rw [← hzz] at HZ HPB
        have HZZ := Lib.hid hzz
        obtain ⟨⟨⟨⟨⟨zq1, zn1, zc1⟩, ⟨zq2, zn2, zc2⟩⟩, ⟨zq3, zn3, zc3⟩⟩, ⟨zl1, zl2, zl3, zl4, zage, zsec⟩⟩, ⟨⟨⟨zq4, zn4, zc4⟩, ⟨zq5, zn5, zc5⟩, ⟨zq6, zn6, zc6⟩, ⟨zq7, zn7, zc7⟩, ⟨zq8, zn8, zc8⟩⟩, ⟨zs1, zs2, zs3, zs4, zs5, zs6, zs7, zs8⟩⟩, zm⟩ := z
        simp only [plV, plRow, vC] at con
        have c0 : wr.cell? ⟨R, j * 15, none⟩ = some (.slice zq1 zn1 zc1) := hc 0 _ rfl
        have c1 : wr.cell? ⟨R, j * 15 + 1, none⟩ = some (.slice zq2 zn2 zc2) := hc 1 _ rfl
        have c2 : wr.cell? ⟨R, j * 15 + 2, none⟩ = some (.slice zq3 zn3 zc3) := hc 2 _ rfl
        have c3 : wr.cell? ⟨R, j * 15 + 3, none⟩ = some (.string ⟨zl4.toArray⟩) := hc 3 _ rfl
        have c4 : wr.cell? ⟨R, j * 15 + 4, none⟩ = some (.int .i64 zage) := hc 4 _ rfl
        have c5 : wr.cell? ⟨R, j * 15 + 5, none⟩ = some (.bool zsec) := hc 5 _ rfl
        have c6 : wr.cell? ⟨R, j * 15 + 6, none⟩ = some (.slice zq4 zn4 zc4) := hc 6 _ rfl
        have c7 : wr.cell? ⟨R, j * 15 + 7, none⟩ = some (.slice zq5 zn5 zc5) := hc 7 _ rfl
        have c8 : wr.cell? ⟨R, j * 15 + 8, none⟩ = some (.int .i64 zs3) := hc 8 _ rfl
        have c9 : wr.cell? ⟨R, j * 15 + 9, none⟩ = some (.slice zq6 zn6 zc6) := hc 9 _ rfl
        have c10 : wr.cell? ⟨R, j * 15 + 10, none⟩ = some (.slice zq7 zn7 zc7) := hc 10 _ rfl
        have c11 : wr.cell? ⟨R, j * 15 + 11, none⟩ = some (.slice zq8 zn8 zc8) := hc 11 _ rfl
        have c12 : wr.cell? ⟨R, j * 15 + 12, none⟩ = some (.bool zs7) := hc 12 _ rfl
        have c13 : wr.cell? ⟨R, j * 15 + 13, none⟩ = some (.bool zs8) := hc 13 _ rfl
        have c14 : wr.cell? ⟨R, j * 15 + 14, none⟩ = some (.int .i64 zm) := hc 14 _ rfl
        clear hc hzz HZR
        cases pb with
        | true =>
          go_wp2_with fail
          refine con.mono ?_
          rintro e w2 ⟨rfl, hb2⟩
          have hb2' : Below wr.heap.size wr w2 := (below_alloc _).trans (hb2.mono (by simp))
          clear con c0 c1 c2 c3 c4 c5 c6 c7 c8 c9 c10 c11 c12 c13 c14 hb2
          go_wp2
          go_roundw
          case rel =>
            (repeat apply Exists.intro)
            refine ⟨?r, rfl⟩
            refine ⟨i, j + 1, xs, rfl, by go_num, by omega, by omega, Lib.hid (HX.out.keep (Keep.of_below hb2') hRx), Lib.hid ?_, Lib.hid ?_, Lib.hid (HKW.out.trans ((Keep.of_below hb2').mono fun b hb _ => hb))⟩
            · rw [filter_step HZ.out, HPB.out, if_pos rfl, List.append_nil]
              exact HT.out
            · rw [← List.drop_drop, ← List.drop_drop, HD.out]
          case measure => simp [intOf]; omega
        | false =>
          have hyc := HX.out.cells HY.out
          have hro := fun t (ht : t < 15) => (HX.out.room (j := i * 15 + t) (by omega)).2
          obtain ⟨⟨⟨⟨⟨yq1, yn1, yc1⟩, ⟨yq2, yn2, yc2⟩⟩, ⟨yq3, yn3, yc3⟩⟩, ⟨yl1, yl2, yl3, yl4, yage, ysec⟩⟩, ⟨⟨⟨yq4, yn4, yc4⟩, ⟨yq5, yn5, yc5⟩, ⟨yq6, yn6, yc6⟩, ⟨yq7, yn7, yc7⟩, ⟨yq8, yn8, yc8⟩⟩, ⟨ys1, ys2, ys3, ys4, ys5, ys6, ys7, ys8⟩⟩, ym⟩ := y
          have HW2 := Lib.hid (And.intro hyc hro)
          clear hyc hro
          go_wp2_with fail
          refine con.mono ?_
          rintro e w2 ⟨rfl, hb2⟩
          have hb2' : Below wr.heap.size wr w2 := (below_alloc _).trans (hb2.mono (by simp))
          have kb2 := Keep.of_below hb2'
          have hX2 := HX.out.keep kb2 hRx
          have hbx : Box wr.heap.size #[.slice zq1 zn1 zc1, .slice zq2 zn2 zc2, .slice zq3 zn3 zc3, .string ⟨zl4.toArray⟩, .int .i64 zage, .bool zsec, .slice zq4 zn4 zc4, .slice zq5 zn5 zc5, .int .i64 zs3, .slice zq6 zn6 zc6, .slice zq7 zn7 zc7, .slice zq8 zn8 zc8, .bool zs7, .bool zs8, .int .i64 zm] w2 := (Box.new wr _ _).on hb2
          clear con c0 c1 c2 c3 c4 c5 c6 c7 c8 c9 c10 c11 c12 c13 c14
          have hyc := hX2.cells HY.out
          have hro := fun t (ht : t < 15) => (hX2.room (j := i * 15 + t) (by omega)).2
          have y0 : w2.cell? ⟨R, i * 15, none⟩ = some (.slice yq1 yn1 yc1) := hyc 0 _ rfl
          have y1 : w2.cell? ⟨R, i * 15 + 1, none⟩ = some (.slice yq2 yn2 yc2) := hyc 1 _ rfl
          have y2 : w2.cell? ⟨R, i * 15 + 2, none⟩ = some (.slice yq3 yn3 yc3) := hyc 2 _ rfl
          have y3 : w2.cell? ⟨R, i * 15 + 3, none⟩ = some (.string ⟨yl4.toArray⟩) := hyc 3 _ rfl
          have y4 : w2.cell? ⟨R, i * 15 + 4, none⟩ = some (.int .i64 yage) := hyc 4 _ rfl
          have y5 : w2.cell? ⟨R, i * 15 + 5, none⟩ = some (.bool ysec) := hyc 5 _ rfl
          have y6 : w2.cell? ⟨R, i * 15 + 6, none⟩ = some (.slice yq4 yn4 yc4) := hyc 6 _ rfl
          have y7 : w2.cell? ⟨R, i * 15 + 7, none⟩ = some (.slice yq5 yn5 yc5) := hyc 7 _ rfl
          have y8 : w2.cell? ⟨R, i * 15 + 8, none⟩ = some (.int .i64 ys3) := hyc 8 _ rfl
          have y9 : w2.cell? ⟨R, i * 15 + 9, none⟩ = some (.slice yq6 yn6 yc6) := hyc 9 _ rfl
          have y10 : w2.cell? ⟨R, i * 15 + 10, none⟩ = some (.slice yq7 yn7 yc7) := hyc 10 _ rfl
          have y11 : w2.cell? ⟨R, i * 15 + 11, none⟩ = some (.slice yq8 yn8 yc8) := hyc 11 _ rfl
          have y12 : w2.cell? ⟨R, i * 15 + 12, none⟩ = some (.bool ys7) := hyc 12 _ rfl
          have y13 : w2.cell? ⟨R, i * 15 + 13, none⟩ = some (.bool ys8) := hyc 13 _ rfl
          have y14 : w2.cell? ⟨R, i * 15 + 14, none⟩ = some (.int .i64 ym) := hyc 14 _ rfl
          have b0 := hbx 0 _ rfl
          have b1 := hbx 1 _ rfl
          have b2 := hbx 2 _ rfl
          have b3 := hbx 3 _ rfl
          have b4 := hbx 4 _ rfl
          have b5 := hbx 5 _ rfl
          have b6 := hbx 6 _ rfl
          have b7 := hbx 7 _ rfl
          have b8 := hbx 8 _ rfl
          have b9 := hbx 9 _ rfl
          have b10 := hbx 10 _ rfl
          have b11 := hbx 11 _ rfl
          have b12 := hbx 12 _ rfl
          have b13 := hbx 13 _ rfl
          have b14 := hbx 14 _ rfl
          have f0 : w2.frozen? ⟨R, i * 15, none⟩ = false := hro 0 (by decide)
          have f1 : w2.frozen? ⟨R, i * 15 + 1, none⟩ = false := hro 1 (by decide)
          have f2 : w2.frozen? ⟨R, i * 15 + 2, none⟩ = false := hro 2 (by decide)
          have f3 : w2.frozen? ⟨R, i * 15 + 3, none⟩ = false := hro 3 (by decide)
          have f4 : w2.frozen? ⟨R, i * 15 + 4, none⟩ = false := hro 4 (by decide)
          have f5 : w2.frozen? ⟨R, i * 15 + 5, none⟩ = false := hro 5 (by decide)
          have f6 : w2.frozen? ⟨R, i * 15 + 6, none⟩ = false := hro 6 (by decide)
          have f7 : w2.frozen? ⟨R, i * 15 + 7, none⟩ = false := hro 7 (by decide)
          have f8 : w2.frozen? ⟨R, i * 15 + 8, none⟩ = false := hro 8 (by decide)
          have f9 : w2.frozen? ⟨R, i * 15 + 9, none⟩ = false := hro 9 (by decide)
          have f10 : w2.frozen? ⟨R, i * 15 + 10, none⟩ = false := hro 10 (by decide)
          have f11 : w2.frozen? ⟨R, i * 15 + 11, none⟩ = false := hro 11 (by decide)
          have f12 : w2.frozen? ⟨R, i * 15 + 12, none⟩ = false := hro 12 (by decide)
          have f13 : w2.frozen? ⟨R, i * 15 + 13, none⟩ = false := hro 13 (by decide)
          have f14 : w2.frozen? ⟨R, i * 15 + 14, none⟩ = false := hro 14 (by decide)
          have HX2 := Lib.hid hX2
          have HB2 := Lib.hid hb2'
          clear hyc hro hbx hX2 hb2' hb2 kb2 HW2
          go_upto_region 10 with fail
          rw [chain15]
          have hset := HX2.out.set (show i < n by omega) zz
          have hkp : Keep (fun b => b < w.heap.size ∧ b ≠ R) w2 (w2.setCells R (i * 15) (plRow zz)) := keep_setCells (fun b => b < w.heap.size ∧ b ≠ R) R (fun h => h.2 rfl) (plRow zz) (i * 15) w2
          rw [HZZ.out] at hset hkp
          simp only [plRow, vC] at hset hkp
          obtain ⟨W3, hW3⟩ : ∃ W, w2.setCells R (i * 15) [.slice zq1 zn1 zc1, .slice zq2 zn2 zc2, .slice zq3 zn3 zc3, .string ⟨zl4.toArray⟩, .int .i64 zage, .bool zsec, .slice zq4 zn4 zc4, .slice zq5 zn5 zc5, .int .i64 zs3, .slice zq6 zn6 zc6, .slice zq7 zn7 zc7, .slice zq8 zn8 zc8, .bool zs7, .bool zs8, .int .i64 zm] = W := ⟨_, rfl⟩
          rw [hW3] at hset hkp ⊢
          have HST := Lib.hid hset
          have HKP := Lib.hid hkp
          clear hset hkp hW3 y0 y1 y2 y3 y4 y5 y6 y7 y8 y9 y10 y11 y12 y13 y14 b0 b1 b2 b3 b4 b5 b6 b7 b8 b9 b10 b11 b12 b13 b14 f0 f1 f2 f3 f4 f5 f6 f7 f8 f9 f10 f11 f12 f13 f14
          go_wp2
          go_roundw
          case rel =>
            (repeat apply Exists.intro)
            refine ⟨?r2, rfl⟩
            refine ⟨i + 1, j + 1, xs.set i zz, by go_num, by go_num, by omega, by omega, Lib.hid ?_, Lib.hid ?_, Lib.hid ?_, Lib.hid ?_⟩
            · rw [HZZ.out]
              exact HST.out
            · rw [take_set_snoc (by have := HXL.out; omega), filter_step HZ.out, HPB.out, HT.out]
              rfl
            · rw [drop_set_late (by omega), ← List.drop_drop, ← List.drop_drop, HD.out]
            · exact HKW.out.trans (((Keep.of_below HB2.out).mono fun b hb _ => hb).trans HKP.out)
          case measure => simp [intOf]; omega
      · obtain rfl : j = n := by omega
        obtain ⟨W, hcl, hW, kW, -⟩ := clear_pl HX.out (show i ≤ j by omega)
        have hcl := fun ty => hcl ty (cap - i)
        have HWW := Lib.hid hW
        have HKK := Lib.hid (HKW.out.trans (kW _ (fun h => h.2 rfl)))
        have HTT := Lib.hid (show xs.take i = zs.filter fun z => !p z by rw [HT.out, List.take_of_length_le (Nat.le_of_eq HL.out)])
        clear hW kW
        have hji : j - i ≤ cap - i := by omega
        go_wp2
        go_ret
        exact ⟨i, rfl, by rw [← HTT.out]; exact HWW.out, HKK.out⟩
end Go.Proofs.YtniehbjoogaccaaGreatDoor.Jar
namespace Go.Proofs.YtniehbjoogaccaaGreatDoor.Jar
open Go.RowKit Go.Shelf Url Ck
attribute [local go_sem] Oper.semAt_some
set_option linter.unusedVariables false
set_option maxRecDepth 100000 in
theorem Index_plnil (g : Nat) (lb : Array Value) (w : World) :
    Calls Tryz.prog 151 #[.slice none 0 0, .func (.func g) #[] lb] w fun e w' => e = .returned (.int .i64 (-1)) ∧ w' = w := by
  go_enter Tryz.func151, Tryz.ntmps151
  go_wp2
  go_loop [8] (fun i => i = .int .i64 0) (fun i => 0)
  case atStart => rfl
  case round =>
    subst hrel
    go_wp2
    go_ret
    exact ⟨rfl, rfl⟩
set_option maxRecDepth 100000 in
theorem Delete_plnil (g : Nat) (lb : Array Value) (w : World) :
    Calls Tryz.prog 110 #[.slice none 0 0, .func (.func g) #[] lb] w fun e w' => e = .returned (.slice none 0 0) ∧ w' = w := by
  have con := Index_plnil g lb w
  go_enter Tryz.func110, Tryz.ntmps110
  go_wp2_with fail
  refine con.mono ?_
  rintro e w' ⟨rfl, rfl⟩
  clear con
  go_wp2
  go_ret
  exact ⟨rfl, rfl⟩
set_option maxRecDepth 100000 in
set_option maxHeartbeats 4000000 in
theorem without_any (g : Nat) (lb : Array Value) (p : PZ → Bool) (v : Value) (zs : List PZ) (w : World) (eg : ∀ args w, (callFunc g args).run Tryz.prog w = .ok (.enter g args) w)
    (hp : PredZ w g lb p zs) (h : PlV w v zs) (hn : zs.length ≤ 1048576) :
    Calls Tryz.prog 53 #[v, .func (.func g) #[] lb] w fun e w' => ∃ v' n, e = .returned v' ∧ w'.ownsRow w.heap.size 105 15 v' n ((zs.filter fun z => !p z).flatMap plRow) ∧ Below w.heap.size w w' := by
  have con := Clone_pl v zs w h hn
  obtain ⟨q, c, rfl⟩ := h.form
  have HP := Lib.hid hp
  have HN := Lib.hid hn
  clear hp h hn
  go_enter Tryz.func53, Tryz.ntmps53
  go_wp2_with fail
  refine con.mono ?_
  rintro e w1 ⟨v1, rfl, hr, hnil, hb⟩
  clear con
  rcases prow_of hr with ⟨rfl, -, rfl⟩ | ⟨R, cap, rfl, hbase, hrow⟩
  · have con2 := Delete_plnil g lb w1
    have HB := Lib.hid hb
    clear hb hr hnil
    go_wp2_with fail
    refine con2.mono ?_
    rintro e w2 ⟨rfl, rfl⟩
    clear con2
    go_wp2
    go_ret
    exact ⟨_, 0, rfl, World.ownsRow_nil _ _ _ _, HB.out⟩
  · have con2 := Delete_pl w g lb p R zs.length cap zs w1 eg HP.out hb hrow HN.out hbase
    have HB := Lib.hid hb
    have HBS := Lib.hid hbase
    clear hb hr hnil hrow
    go_wp2_with fail
    refine con2.mono ?_
    rintro e w2 ⟨m, rfl, hrow2, hk⟩
    clear con2
    have HR2 := Lib.hid hrow2
    have HK2 := Lib.hid hk
    clear hrow2 hk
    go_wp2
    go_ret
    have hs := HB.out.size
    exact ⟨_, m, rfl, HR2.out.own hbase, HB.out.trans ((HK2.out.mono fun b _ hb => ⟨by omega, by omega⟩).below hs)⟩
theorem step_append {P : Program} {ops : Array Oper} {o : Oper} {a : Act} {w : World} {K : Act → World → Prop} {Q : Exit → Act → World → Prop} {E : Prop}
    (hg : o.guard = none) (d x : Operand) (T : TypeId) (hop : o.op = Op.call { callee := Callee.builtin Builtin.append, args := #[d, x], argTypes := #[T, T] })
    (v y r : Value) (W : World) (hd : a.eval d = v) (hx : a.eval x = y) (hrun : (Builtin.append_ #[T, T] o.type #[v, y]).run P w = .ok r W)
    (hK : K (a.put o.dst r) W) : if Region.wanted o (yielded ops a.tmps) = true then Oper.wp P o a w K Q else E := by
  have hw : Region.wanted o (yielded ops a.tmps) = true := by simp [Region.wanted, hg]
  rw [if_pos hw]
  unfold Oper.wp
  simp [execOp, hop, resolve, invoke, builtin, hd, hx, hrun, Result.andThen]
  exact hK
theorem PRow.drew {w : World} {R n cap : Nat} {xs : List PZ} (h : PRow w R n cap xs) : PRow w.drew R n cap xs := h
set_option maxRecDepth 100000 in
theorem append_pl {w : World} {R n cap : Nat} {xs : List PZ} (h : PRow w R n cap xs) (h0 : 0 < n) : ∃ w', (∀ ty, (Builtin.append_ #[106, 106] ty #[.slice (some ⟨R, 0, none⟩) 0 cap, .slice (some ⟨R, 15, none⟩) (n - 1) (cap - 1)]).run Tryz.prog w = .ok (.slice (some ⟨R, 0, none⟩) (n - 1) cap) w') ∧
    PRow w' R n cap (xs.drop 1 ++ xs.drop (n - 1)) ∧ ∀ S : Nat → Prop, ¬ S R → Keep S w w' := by
  have hcell := fun i z (hi : xs[i]? = some z) => h.cells hi
  obtain ⟨cur, h1, h2, h3, h4, h5, h6⟩ := h
  obtain ⟨i0, hi0, hz0, hz1, hz2⟩ := info_parts info_pl
  have hl : ((xs.drop 1).flatMap plRow).length = (n - 1) * i0.size := by rw [plrows_len, List.length_drop, hz1, h3]
  have hnews : ∀ j u, ((xs.drop 1).flatMap plRow)[j]? = some u → w.cell? ((⟨R, 15, none⟩ : Addr).add j) = some u := fun j u hu => by
    obtain ⟨z, hz, hv⟩ := plrows_back _ j u hu
    rw [List.getElem?_drop] at hz
    have := hcell _ z hz _ u hv
    rw [Go.WideShapes.add_plain, ← this]
    congr 2
    omega
  have hlt := (Array.getElem?_eq_some_iff.1 h1).1
  have hn15 : ((xs.drop 1).flatMap plRow).length = (n - 1) * 15 := by rw [hl, hz1]
  refine ⟨w.setRow R (cur.toList.take (0 * i0.size) ++ ((xs.drop 1).flatMap plRow) ++ cur.toList.drop (0 * i0.size + ((xs.drop 1).flatMap plRow).length)).toArray, fun ty => ?_, ?_, ?_⟩
  · have := run_append_room (P := Tryz.prog) w 106 ty 105 i0 Tryz.underlying106 hi0 R 0 cap cur h1 ⟨R, 15, none⟩ (n - 1) (cap - 1) _ hl hnews (ones_cells _) (by omega) (by rw [hn15]; omega)
    rw [Nat.zero_add] at this
    exact this
  · refine ⟨(cur.toList.take (0 * i0.size) ++ ((xs.drop 1).flatMap plRow) ++ cur.toList.drop (0 * i0.size + ((xs.drop 1).flatMap plRow).length)).toArray, ?_, ?_, ?_, h4, h5, ?_⟩
    · exact setRow_heap w R cur _ _ _ h1
    · simp only [List.size_toArray, List.length_append, List.length_take, List.length_drop, Nat.zero_mul, Nat.zero_add, hn15, Array.length_toList]
      omega
    · rw [List.length_append, List.length_drop, List.length_drop]; omega
    · rw [Nat.zero_mul, List.take_zero, List.nil_append, Nat.zero_add, hn15, List.flatMap_append]
      rw [show (List.flatMap plRow (xs.drop 1) ++ cur.toList.drop ((n - 1) * 15)).toArray.toList = List.flatMap plRow (xs.drop 1) ++ cur.toList.drop ((n - 1) * 15) from rfl]
      rw [List.take_append, List.take_of_length_le (by rw [hn15]; omega), hn15]
      congr 1
      have e : (List.flatMap plRow xs).drop ((n - 1) * 15) = List.flatMap plRow (xs.drop (n - 1)) := by
        conv => lhs; rw [← List.take_append_drop (n - 1) xs, List.flatMap_append]
        rw [List.drop_append, List.drop_of_length_le (by rw [plrows_len, List.length_take]; omega), plrows_len, List.length_take, List.nil_append, Nat.min_eq_left (by omega), Nat.sub_self, List.drop_zero]
      rw [← e, ← h6, List.drop_take]
  · intro S hS
    exact ⟨rfl, rfl, rfl, by simp, fun k _ hk => setRow_other w R k _ (fun e => hS (e ▸ hk))⟩
set_option maxRecDepth 100000 in
set_option maxHeartbeats 4000000 in
theorem Delete0_any (q : Option Addr) (n c : Nat) (w : World) (hc : n ≤ c) (hm : c ≤ maxLen) (hq : q = none → n = 0 ∧ c = 0) :
    Calls Tryz.prog 113 #[.slice q n c, .int .i64 0, .int .i64 0] w fun e w' => e = .returned (.slice q n c) ∧ w' = w := by
  have h0 : ((0 : Nat) : Int) ≤ (n : Int) := by omega
  cases q with
  | none =>
    obtain ⟨rfl, rfl⟩ := hq rfl
    go_enter Tryz.func113, Tryz.ntmps113
    go_wp2
    go_ret
    exact ⟨rfl, rfl⟩
  | some a =>
    clear hq
    go_enter Tryz.func113, Tryz.ntmps113
    go_wp2
    go_ret
    exact ⟨rfl, rfl⟩
set_option maxRecDepth 100000 in
set_option maxHeartbeats 8000000 in
theorem Delete1_any (R n cap : Nat) (xs : List PZ) (w : World) (h : PRow w R n cap xs) (h1n : 1 < n) :
    Calls Tryz.prog 113 #[.slice (some ⟨R, 0, none⟩) n cap, .int .i64 0, .int .i64 1] w fun e w' => e = .returned (.slice (some ⟨R, 0, none⟩) (n - 1) cap) ∧ PRow w' R (n - 1) cap (xs.drop 1) ∧ Keep (fun b => b ≠ R) w w' := by
  have h0 : 0 < n := by omega
  have hcap : n ≤ cap := by obtain ⟨_, _, _, _, h, _⟩ := h; exact h
  have hmax : cap ≤ maxLen := by obtain ⟨_, _, _, _, _, h, _⟩ := h; exact h
  have hxl : xs.length = n := by obtain ⟨_, _, _, h, _⟩ := h; exact h
  have HH := Lib.hid h
  clear h
  go_enter Tryz.func113, Tryz.ntmps113
  go_upto_region 5 with fail
  refine pregion_any (fun X => True) (by kernel_rfl) ?_
  obtain ⟨X1, hX1⟩ : ∃ X, w.drew = X := ⟨_, rfl⟩
  rw [hX1]
  refine wpAnyH_take (i := 0) (v := (.slice (some ⟨R, 0, none⟩) n cap)) rfl (by kernel_rfl) (by kernel_rfl) (by kernel_rfl) (fun _ _ _ h => h) (.inl ⟨by kernel_rfl, ?_⟩) trivial ?_
  · rintro w -; go_simp
  refine plist #[true, false, false, false, false, false, false, false] (by kernel_rfl) ?_
  refine wpAnyH_take (i := 1) (v := (.int .i64 0)) rfl (by kernel_rfl) (by kernel_rfl) (by kernel_rfl) (fun _ _ _ h => h) (.inl ⟨by kernel_rfl, ?_⟩) trivial ?_
  · rintro w -; go_simp
  refine plist #[true, true, false, false, false, false, false, false] (by kernel_rfl) ?_
  refine wpAnyH_take (i := 2) (v := (.slice (some ⟨R, 0, none⟩) 0 cap)) rfl (by kernel_rfl) (by kernel_rfl) (by kernel_rfl) (fun _ _ _ h => h) (.inl ⟨by kernel_rfl, ?_⟩) trivial ?_
  · rintro w -; go_simp
  refine plist #[true, true, true, false, false, false, false, false] (by kernel_rfl) ?_
  refine wpAnyH_take (i := 3) (v := (.slice (some ⟨R, 0, none⟩) n cap)) rfl (by kernel_rfl) (by kernel_rfl) (by kernel_rfl) (fun _ _ _ h => h) (.inl ⟨by kernel_rfl, ?_⟩) trivial ?_
  · rintro w -; go_simp
  refine plist #[true, true, true, true, false, false, false, false] (by kernel_rfl) ?_
  refine wpAnyH_take (i := 4) (v := (.int .i64 1)) rfl (by kernel_rfl) (by kernel_rfl) (by kernel_rfl) (fun _ _ _ h => h) (.inl ⟨by kernel_rfl, ?_⟩) trivial ?_
  · rintro w -; go_simp
  refine plist #[true, true, true, true, true, false, false, false] (by kernel_rfl) ?_
  refine wpAnyH_take (i := 5) (v := (.slice (some ⟨R, 15, none⟩) (n - 1) (cap - 1))) rfl (by kernel_rfl) (by kernel_rfl) (by kernel_rfl) (fun _ _ _ h => h) (.inl ⟨by kernel_rfl, ?_⟩) trivial ?_
  · rintro w -; go_simp; rw [if_pos (by omega), if_neg (by omega)]
  refine plist #[true, true, true, true, true, true, false, false] (by kernel_rfl) ?_
  obtain ⟨W, happ, hPW, kW⟩ := append_pl (w := X1) (by rw [← hX1]; exact HH.out.drew) h0
  refine pone 6 (by kernel_rfl) rfl fun K hK => ?_
  refine step_append rfl _ _ _ rfl _ _ _ _ rfl rfl (happ _) ?_
  refine hK _ _ trivial ?_
  clear hK K
  refine plist #[true, true, true, true, true, true, true, false] (by kernel_rfl) ?_
  refine pone 7 (by kernel_rfl) rfl fun K hK => ?_
  go_simp
  refine hK _ _ trivial ?_
  clear hK K
  refine pdone (by kernel_rfl) ?_ _
  obtain ⟨V, hcl, hV, kV, -⟩ := clear_pl hPW (show n - 1 ≤ n by omega)
  have HC := Lib.hid (hcl 0 (cap - (n - 1)))
  have hcl := fun ty => hcl ty (cap - (n - 1))
  have HF := Lib.hid (show (xs.drop 1 ++ xs.drop (n - 1)).take (n - 1) = xs.drop 1 by rw [List.take_append, List.take_of_length_le (by rw [List.length_drop]; omega), List.length_drop, hxl, Nat.sub_self, List.take_zero, List.append_nil])
  have HV := Lib.hid hV
  have HK := Lib.hid ((kW _ (fun h => h rfl)).trans (kV (fun b => b ≠ R) (fun h => h rfl)))
  have HX := Lib.hid hX1
  clear hV kV kW hPW happ hX1 HC
  go_wp2
  go_ret
  refine ⟨rfl, by rw [← HF.out]; exact HV.out, ?_⟩
  have hk := HK.out
  rw [← HX.out] at hk
  exact (Keep.drew _ w).trans hk
end Go.Proofs.YtniehbjoogaccaaGreatDoor.Jar
namespace Go.Proofs.YtniehbjoogaccaaGreatDoor.Jar
open Go.RowKit Go.Shelf Url Ck
attribute [local go_sem] Oper.semAt_some
set_option linter.unusedVariables false
theorem EOk.age {z : PZ} (h : EOk (enZ z)) : -1 ≤ z.1.2.age ∧ z.1.2.age ≤ 1073741824 := ⟨h.ok.age1, h.ok.age2⟩
set_option maxRecDepth 100000 in
set_option maxHeartbeats 8000000 in
theorem pred_set (w0 : World) (Bn Bp : Nat) (now : Int) (y : PZ) (zs : List PZ) (hn : -9223372036854775808 ≤ now ∧ now ≤ 9223372036854775807) (hbn : w0.cell? ⟨Bn, 0, none⟩ = some (.int .i64 now)) (hbp : Box Bp (plRow y).toArray w0)
    (hy : PAt w0 y) (hj : EOk (enZ y)) (hz : ∀ z ∈ zs, PAt w0 z ∧ EOk (enZ z)) (hG : Gl w0) :
    PredZ w0 54 #[.pointer (some ⟨Bn, 0, none⟩), .pointer (some ⟨Bp, 0, none⟩)] (fun z => overE now (enZ z) || sameE y.2.1.2 y.1.2 (enZ z)) zs := by
  intro z hzm W hB
  dsimp only
  obtain ⟨hpz, hkz⟩ := hz z hzm
  obtain ⟨X, hX⟩ : ∃ X, W.alloc (.cells (plRow z).toArray 105) = X := ⟨_, rfl⟩
  have A1 : Below W.heap.size W X := by rw [← hX]; exact below_alloc _
  have A2 := hB.trans (A1.mono hB.size)
  have bx : Box W.heap.size (plRow z).toArray X := by rw [← hX]; exact Box.new W _ _
  have cn : X.cell? ⟨Bn, 0, none⟩ = some (.int .i64 now) := cell_on hbn A2
  have con := over_any z now X hkz.age.1 hkz.age.2 hkz.set1 hkz.set2 hn
  have HS := Lib.hid (fun X2 (hb : Below X.heap.size X X2) => same_any z y X2 (hpz.on (A2.trans (hb.mono A2.size))) hkz (hy.on (A2.trans (hb.mono A2.size))) hj (hG.on (A2.trans (hb.mono A2.size))))
  have HP := Lib.hid (Box.on hbp A2)
  have HX := Lib.hid hX
  have A0 := Lib.hid A1
  clear hpz hkz hz hzm hX A1 A2 hB hy hj hG hbn hbp
  generalize overE now (enZ z) = ov at *
  generalize sameE y.2.1.2 y.1.2 (enZ z) = sm at *
  obtain ⟨⟨⟨⟨⟨zq1, zn1, zc1⟩, ⟨zq2, zn2, zc2⟩⟩, ⟨zq3, zn3, zc3⟩⟩, ⟨zl1, zl2, zl3, zl4, zage, zsec⟩⟩, ⟨⟨⟨zq4, zn4, zc4⟩, ⟨zq5, zn5, zc5⟩, ⟨zq6, zn6, zc6⟩, ⟨zq7, zn7, zc7⟩, ⟨zq8, zn8, zc8⟩⟩, ⟨zs1, zs2, zs3, zs4, zs5, zs6, zs7, zs8⟩⟩, zm⟩ := z
  obtain ⟨⟨⟨⟨⟨yq1, yn1, yc1⟩, ⟨yq2, yn2, yc2⟩⟩, ⟨yq3, yn3, yc3⟩⟩, ⟨yl1, yl2, yl3, yl4, yage, ysec⟩⟩, ⟨⟨⟨yq4, yn4, yc4⟩, ⟨yq5, yn5, yc5⟩, ⟨yq6, yn6, yc6⟩, ⟨yq7, yn7, yc7⟩, ⟨yq8, yn8, yc8⟩⟩, ⟨ys1, ys2, ys3, ys4, ys5, ys6, ys7, ys8⟩⟩, ym⟩ := y
  simp only [plV, plRow, vC, List.append_toArray, List.cons_append, List.nil_append] at *
  have HBX := Lib.hid bx
  have x0 := bx 0 _ rfl
  have x1 := bx 1 _ rfl
  have x2 := bx 2 _ rfl
  have x3 := bx 3 _ rfl
  have x4 := bx 4 _ rfl
  have x5 := bx 5 _ rfl
  have x6 := bx 6 _ rfl
  have x7 := bx 7 _ rfl
  have x8 := bx 8 _ rfl
  have x9 := bx 9 _ rfl
  have x10 := bx 10 _ rfl
  have x11 := bx 11 _ rfl
  have x12 := bx 12 _ rfl
  have x13 := bx 13 _ rfl
  have x14 := bx 14 _ rfl
  clear bx
  go_enter Tryz.func54, Tryz.ntmps54
  go_upto_region 1 with fail
  rw [HX.out]
  cases ov with
  | true =>
    go_wp2_with fail
    refine con.mono ?_
    rintro e w2 ⟨rfl, hb⟩
    clear con cn x0 x1 x2 x3 x4 x5 x6 x7 x8 x9 x10 x11 x12 x13 x14
    go_wp2
    go_ret
    exact ⟨rfl, A0.out.trans (hb.mono A0.out.size)⟩
  | false =>
    go_wp2_with fail
    refine con.mono ?_
    rintro e w2 ⟨rfl, hb⟩
    have con2 := HS.out w2 hb
    have bx := Box.on HBX.out hb
    have bp := Box.on HP.out hb
    clear con cn x0 x1 x2 x3 x4 x5 x6 x7 x8 x9 x10 x11 x12 x13 x14
    have x0 := bx 0 _ rfl
    have x1 := bx 1 _ rfl
    have x2 := bx 2 _ rfl
    have x3 := bx 3 _ rfl
    have x4 := bx 4 _ rfl
    have x5 := bx 5 _ rfl
    have x6 := bx 6 _ rfl
    have x7 := bx 7 _ rfl
    have x8 := bx 8 _ rfl
    have x9 := bx 9 _ rfl
    have x10 := bx 10 _ rfl
    have x11 := bx 11 _ rfl
    have x12 := bx 12 _ rfl
    have x13 := bx 13 _ rfl
    have x14 := bx 14 _ rfl
    have y0 := bp 0 _ rfl
    have y1 := bp 1 _ rfl
    have y2 := bp 2 _ rfl
    have y3 := bp 3 _ rfl
    have y4 := bp 4 _ rfl
    have y5 := bp 5 _ rfl
    have y6 := bp 6 _ rfl
    have y7 := bp 7 _ rfl
    have y8 := bp 8 _ rfl
    have y9 := bp 9 _ rfl
    have y10 := bp 10 _ rfl
    have y11 := bp 11 _ rfl
    have y12 := bp 12 _ rfl
    have y13 := bp 13 _ rfl
    have y14 := bp 14 _ rfl
    clear bx bp
    go_wp2_with fail
    refine con2.mono ?_
    rintro e w3 ⟨rfl, hb3⟩
    clear con2 x0 x1 x2 x3 x4 x5 x6 x7 x8 x9 x10 x11 x12 x13 x14 y0 y1 y2 y3 y4 y5 y6 y7 y8 y9 y10 y11 y12 y13 y14
    go_wp2
    go_ret
    exact ⟨rfl, A0.out.trans ((hb.trans (hb3.mono hb.size)).mono A0.out.size)⟩
set_option maxRecDepth 100000 in
set_option maxHeartbeats 8000000 in
theorem pred_for (w0 : World) (Bn Bu : Nat) (now : Int) (a : Value) (v : U) (zs : List PZ) (cs : Array Value) (hn : -9223372036854775808 ≤ now ∧ now ≤ 9223372036854775807) (hbn : w0.cell? ⟨Bn, 0, none⟩ = some (.int .i64 now)) (ha : a = .agg cs) (hbu : Box Bu cs w0)
    (hv : UrlIn w0 a v) (hvl : v.host.length ≤ 1099511627775) (hz : ∀ z ∈ zs, PAt w0 z ∧ EOk (enZ z)) :
    PredZ w0 67 #[.pointer (some ⟨Bn, 0, none⟩), .pointer (some ⟨Bu, 0, none⟩)] (fun z => overE now (enZ z) || !meantE v (enZ z)) zs := by
  intro z hzm W hB
  dsimp only
  subst ha
  obtain ⟨hpz, hkz⟩ := hz z hzm
  obtain ⟨X, hX⟩ : ∃ X, W.alloc (.cells (plRow z).toArray 105) = X := ⟨_, rfl⟩
  have A1 : Below W.heap.size W X := by rw [← hX]; exact below_alloc _
  have A2 := hB.trans (A1.mono hB.size)
  have bx : Box W.heap.size (plRow z).toArray X := by rw [← hX]; exact Box.new W _ _
  have cn : X.cell? ⟨Bn, 0, none⟩ = some (.int .i64 now) := cell_on hbn A2
  have con := over_any z now X hkz.age.1 hkz.age.2 hkz.set1 hkz.set2 hn
  have HS := Lib.hid (fun X2 (hb : Below X.heap.size X X2) => Meant_by _ _ _ z.1.2 z.2.1.2 v X2 (hpz.on (A2.trans (hb.mono A2.size))).1.is ⟨by have := hkz.small.2.2.2; simp only [enZ] at this; omega, by have := hkz.small.2.2.1; simp only [enZ] at this; omega⟩ (hpz.on (A2.trans (hb.mono A2.size))).2.is (by have h1 := (url_lens _ hkz.len).2; simp only [enZ] at h1; omega) (hv.on (A2.trans (hb.mono A2.size))) hvl)
  have HP := Lib.hid (Box.on hbu A2)
  have HX := Lib.hid hX
  have A0 := Lib.hid A1
  rw [show meantE v (enZ z) = meantB z.1.2 z.2.1.2.host z.2.1.2.path v.host v.path v.scheme from rfl]
  obtain ⟨r0, m0, k0, r1, m1, k1, r3, m3, k3, r4, m4, k4, r5, m5, k5, he, -⟩ := hv
  cases he
  clear hpz hkz hz hzm hX A1 A2 hB hbn hbu
  generalize overE now (enZ z) = ov at *
  generalize meantB z.1.2 z.2.1.2.host z.2.1.2.path v.host v.path v.scheme = sm at *
  obtain ⟨⟨⟨⟨⟨zq1, zn1, zc1⟩, ⟨zq2, zn2, zc2⟩⟩, ⟨zq3, zn3, zc3⟩⟩, ⟨zl1, zl2, zl3, zl4, zage, zsec⟩⟩, ⟨⟨⟨zq4, zn4, zc4⟩, ⟨zq5, zn5, zc5⟩, ⟨zq6, zn6, zc6⟩, ⟨zq7, zn7, zc7⟩, ⟨zq8, zn8, zc8⟩⟩, ⟨zs1, zs2, zs3, zs4, zs5, zs6, zs7, zs8⟩⟩, zm⟩ := z
  simp only [plV, plRow, vC, ckRow, urlRow, List.append_toArray, List.cons_append, List.nil_append] at *
  have HBX := Lib.hid bx
  have x0 := bx 0 _ rfl
  have x1 := bx 1 _ rfl
  have x2 := bx 2 _ rfl
  have x3 := bx 3 _ rfl
  have x4 := bx 4 _ rfl
  have x5 := bx 5 _ rfl
  have x6 := bx 6 _ rfl
  have x7 := bx 7 _ rfl
  have x8 := bx 8 _ rfl
  have x9 := bx 9 _ rfl
  have x10 := bx 10 _ rfl
  have x11 := bx 11 _ rfl
  have x12 := bx 12 _ rfl
  have x13 := bx 13 _ rfl
  have x14 := bx 14 _ rfl
  clear bx
  go_enter Tryz.func67, Tryz.ntmps67
  go_upto_region 1 with fail
  rw [HX.out]
  cases ov with
  | true =>
    go_wp2_with fail
    refine con.mono ?_
    rintro e w2 ⟨rfl, hb⟩
    clear con cn x0 x1 x2 x3 x4 x5 x6 x7 x8 x9 x10 x11 x12 x13 x14
    go_wp2
    go_ret
    exact ⟨rfl, A0.out.trans (hb.mono A0.out.size)⟩
  | false =>
    go_wp2_with fail
    refine con.mono ?_
    rintro e w2 ⟨rfl, hb⟩
    have con2 := HS.out w2 hb
    have bx := Box.on HBX.out hb
    have bp := Box.on HP.out hb
    clear con cn x0 x1 x2 x3 x4 x5 x6 x7 x8 x9 x10 x11 x12 x13 x14
    have x0 := bx 0 _ rfl
    have x1 := bx 1 _ rfl
    have x2 := bx 2 _ rfl
    have x3 := bx 3 _ rfl
    have x4 := bx 4 _ rfl
    have x5 := bx 5 _ rfl
    have x6 := bx 6 _ rfl
    have x7 := bx 7 _ rfl
    have x8 := bx 8 _ rfl
    have x9 := bx 9 _ rfl
    have x10 := bx 10 _ rfl
    have x11 := bx 11 _ rfl
    have x12 := bx 12 _ rfl
    have x13 := bx 13 _ rfl
    have x14 := bx 14 _ rfl
    have y0 := bp 0 _ rfl
    have y1 := bp 1 _ rfl
    have y2 := bp 2 _ rfl
    have y3 := bp 3 _ rfl
    have y4 := bp 4 _ rfl
    have y5 := bp 5 _ rfl
    have y6 := bp 6 _ rfl
    have y7 := bp 7 _ rfl
    clear bx bp
    go_wp2_with fail
    refine con2.mono ?_
    rintro e w3 ⟨rfl, hb3⟩
    clear con2 x0 x1 x2 x3 x4 x5 x6 x7 x8 x9 x10 x11 x12 x13 x14 y0 y1 y2 y3 y4 y5 y6 y7
    go_wp2
    go_ret
    exact ⟨rfl, A0.out.trans ((hb.trans (hb3.mono hb.size)).mono A0.out.size)⟩
set_option maxRecDepth 100000 in
set_option maxHeartbeats 8000000 in
theorem pred_sweep (w0 : World) (Bn : Nat) (now : Int) (zs : List PZ) (hn : -9223372036854775808 ≤ now ∧ now ≤ 9223372036854775807) (hbn : w0.cell? ⟨Bn, 0, none⟩ = some (.int .i64 now)) (hz : ∀ z ∈ zs, EOk (enZ z)) :
    PredZ w0 75 #[.pointer (some ⟨Bn, 0, none⟩)] (fun z => overE now (enZ z)) zs := by
  intro z hzm W hB
  dsimp only
  have hkz := hz z hzm
  obtain ⟨X, hX⟩ : ∃ X, W.alloc (.cells (plRow z).toArray 105) = X := ⟨_, rfl⟩
  have A1 : Below W.heap.size W X := by rw [← hX]; exact below_alloc _
  have bx : Box W.heap.size (plRow z).toArray X := by rw [← hX]; exact Box.new W _ _
  have cn : X.cell? ⟨Bn, 0, none⟩ = some (.int .i64 now) := cell_on hbn (hB.trans (A1.mono hB.size))
  have con := over_any z now X hkz.age.1 hkz.age.2 hkz.set1 hkz.set2 hn
  have HX := Lib.hid hX
  have A0 := Lib.hid A1
  clear hkz hz hzm hX A1 hB hbn
  generalize overE now (enZ z) = ov at *
  obtain ⟨⟨⟨⟨⟨zq1, zn1, zc1⟩, ⟨zq2, zn2, zc2⟩⟩, ⟨zq3, zn3, zc3⟩⟩, ⟨zl1, zl2, zl3, zl4, zage, zsec⟩⟩, ⟨⟨⟨zq4, zn4, zc4⟩, ⟨zq5, zn5, zc5⟩, ⟨zq6, zn6, zc6⟩, ⟨zq7, zn7, zc7⟩, ⟨zq8, zn8, zc8⟩⟩, ⟨zs1, zs2, zs3, zs4, zs5, zs6, zs7, zs8⟩⟩, zm⟩ := z
  simp only [plV, plRow, vC, List.append_toArray, List.cons_append, List.nil_append] at *
  have x0 := bx 0 _ rfl
  have x1 := bx 1 _ rfl
  have x2 := bx 2 _ rfl
  have x3 := bx 3 _ rfl
  have x4 := bx 4 _ rfl
  have x5 := bx 5 _ rfl
  have x6 := bx 6 _ rfl
  have x7 := bx 7 _ rfl
  have x8 := bx 8 _ rfl
  have x9 := bx 9 _ rfl
  have x10 := bx 10 _ rfl
  have x11 := bx 11 _ rfl
  have x12 := bx 12 _ rfl
  have x13 := bx 13 _ rfl
  have x14 := bx 14 _ rfl
  clear bx
  go_enter Tryz.func75, Tryz.ntmps75
  go_upto_region 1 with fail
  rw [HX.out]
  go_wp2_with fail
  refine con.mono ?_
  rintro e w2 ⟨rfl, hb⟩
  clear con cn x0 x1 x2 x3 x4 x5 x6 x7 x8 x9 x10 x11 x12 x13 x14
  go_wp2
  go_ret
  exact ⟨rfl, A0.out.trans (hb.mono A0.out.size)⟩
end Go.Proofs.YtniehbjoogaccaaGreatDoor.Jar
namespace Go.Proofs.YtniehbjoogaccaaGreatDoor.Jar
open Go.RowKit Go.Shelf Url Ck Go.Sort
attribute [local go_sem] Oper.semAt_some
set_option linter.unusedVariables false
theorem cmpInt (x y : Int) (w : World) : Calls Tryz.prog 71 #[.int .i64 x, .int .i64 y] w fun e w' => e = .returned (.int .i64 (Lib.compareInt x y)) ∧ w' = w :=
  AnyG.cmp_Compare_int Tryz.cmpLays x y w
def hz (z : PZ) : Nat := homeE (enZ z)
set_option maxRecDepth 100000 in
set_option maxHeartbeats 16000000 in
theorem cmp_for (z y : PZ) (w : World) (hz : PAt w z) (hk : EOk (enZ z)) (hy : PAt w y) (hj : EOk (enZ y)) (hG : Gl w) :
    Calls Tryz.prog 70 #[plV z, plV y] w fun e w' => e = .returned (.int .i64 (Lib.compareInt (Jar.hz y) (Jar.hz z))) ∧ Below w.heap.size w w' := by
  obtain ⟨W, hW, bZ, bY, A1, hlt⟩ := two_box w (plRow z).toArray (plRow y).toArray
  obtain ⟨H1, hH1⟩ : ∃ H, homeL z.1.2 z.2.1.2.path = H := ⟨_, rfl⟩
  obtain ⟨H2, hH2⟩ : ∃ H, homeL y.1.2 y.2.1.2.path = H := ⟨_, rfl⟩
  have HZ := Lib.hid (fun X (hb : Below W.heap.size W X) => show Calls Tryz.prog 72 #[plV z] X (BysOut H1 X) by rw [← hH1]; exact home_any z X ((hz.on A1).on hb) hk ((hG.on A1).on hb))
  have HY := Lib.hid (fun X (hb : Below W.heap.size W X) => show Calls Tryz.prog 72 #[plV y] X (BysOut H2 X) by rw [← hH2]; exact home_any y X ((hy.on A1).on hb) hj ((hG.on A1).on hb))
  have L1 : Jar.hz z = H1.length := by rw [← hH1]; rfl
  have L2 : Jar.hz y = H2.length := by rw [← hH2]; rfl
  rw [L1, L2]
  clear hz hk hy hj hG hH1 hH2 L1 L2
  obtain ⟨⟨⟨⟨⟨zq1, zn1, zc1⟩, ⟨zq2, zn2, zc2⟩⟩, ⟨zq3, zn3, zc3⟩⟩, ⟨zl1, zl2, zl3, zl4, zage, zsec⟩⟩, ⟨⟨⟨zq4, zn4, zc4⟩, ⟨zq5, zn5, zc5⟩, ⟨zq6, zn6, zc6⟩, ⟨zq7, zn7, zc7⟩, ⟨zq8, zn8, zc8⟩⟩, ⟨zs1, zs2, zs3, zs4, zs5, zs6, zs7, zs8⟩⟩, zm⟩ := z
  obtain ⟨⟨⟨⟨⟨yq1, yn1, yc1⟩, ⟨yq2, yn2, yc2⟩⟩, ⟨yq3, yn3, yc3⟩⟩, ⟨yl1, yl2, yl3, yl4, yage, ysec⟩⟩, ⟨⟨⟨yq4, yn4, yc4⟩, ⟨yq5, yn5, yc5⟩, ⟨yq6, yn6, yc6⟩, ⟨yq7, yn7, yc7⟩, ⟨yq8, yn8, yc8⟩⟩, ⟨ys1, ys2, ys3, ys4, ys5, ys6, ys7, ys8⟩⟩, ym⟩ := y
  simp only [plV, plRow, vC] at *
  have HW := Lib.hid hW
  have A0 := Lib.hid A1
  clear hW hlt
  go_enter Tryz.func70, Tryz.ntmps70
  go_wp2_with fail
  rw [HW.out]
  refine pregion_any (fun X => Box w.heap.size #[.slice zq1 zn1 zc1, .slice zq2 zn2 zc2, .slice zq3 zn3 zc3, .string ⟨zl4.toArray⟩, .int .i64 zage, .bool zsec, .slice zq4 zn4 zc4, .slice zq5 zn5 zc5, .int .i64 zs3, .slice zq6 zn6 zc6, .slice zq7 zn7 zc7, .slice zq8 zn8 zc8, .bool zs7, .bool zs8, .int .i64 zm] X ∧ Box (w.heap.size + 1) #[.slice yq1 yn1 yc1, .slice yq2 yn2 yc2, .slice yq3 yn3 yc3, .string ⟨yl4.toArray⟩, .int .i64 yage, .bool ysec, .slice yq4 yn4 yc4, .slice yq5 yn5 yc5, .int .i64 ys3, .slice yq6 yn6 yc6, .slice yq7 yn7 yc7, .slice yq8 yn8 yc8, .bool ys7, .bool ys8, .int .i64 ym] X) (by kernel_rfl) ?_
  have hBd : Below W.heap.size W W.drew := (Below.refl _ _).drew
  replace bZ : Box w.heap.size #[.slice zq1 zn1 zc1, .slice zq2 zn2 zc2, .slice zq3 zn3 zc3, .string ⟨zl4.toArray⟩, .int .i64 zage, .bool zsec, .slice zq4 zn4 zc4, .slice zq5 zn5 zc5, .int .i64 zs3, .slice zq6 zn6 zc6, .slice zq7 zn7 zc7, .slice zq8 zn8 zc8, .bool zs7, .bool zs8, .int .i64 zm] W.drew := bZ
  replace bY : Box (w.heap.size + 1) #[.slice yq1 yn1 yc1, .slice yq2 yn2 yc2, .slice yq3 yn3 yc3, .string ⟨yl4.toArray⟩, .int .i64 yage, .bool ysec, .slice yq4 yn4 yc4, .slice yq5 yn5 yc5, .int .i64 ys3, .slice yq6 yn6 yc6, .slice yq7 yn7 yc7, .slice yq8 yn8 yc8, .bool ys7, .bool ys8, .int .i64 ym] W.drew := bY
  clear A1 HW
  generalize W.drew = X1 at *
  refine wpAnyH_take (i := 0) (v := (.agg #[.slice yq1 yn1 yc1, .slice yq2 yn2 yc2, .slice yq3 yn3 yc3, .string ⟨yl4.toArray⟩, .int .i64 yage, .bool ysec, .slice yq4 yn4 yc4, .slice yq5 yn5 yc5, .int .i64 ys3, .slice yq6 yn6 yc6, .slice yq7 yn7 yc7, .slice yq8 yn8 yc8, .bool ys7, .bool ys8, .int .i64 ym])) rfl (by kernel_rfl) (by kernel_rfl) (by kernel_rfl) (fun _ _ _ h => h) (.inl ⟨by kernel_rfl, ?_⟩) ⟨bZ, bY⟩ ?_
  · rintro w ⟨hz, hy⟩; have x0 := hy 0 _ rfl; have x1 := hy 1 _ rfl; have x2 := hy 2 _ rfl; have x3 := hy 3 _ rfl; have x4 := hy 4 _ rfl; have x5 := hy 5 _ rfl; have x6 := hy 6 _ rfl; have x7 := hy 7 _ rfl; have x8 := hy 8 _ rfl; have x9 := hy 9 _ rfl; have x10 := hy 10 _ rfl; have x11 := hy 11 _ rfl; have x12 := hy 12 _ rfl; have x13 := hy 13 _ rfl; have x14 := hy 14 _ rfl; go_simp
  refine plist #[true, false, false, false, false, false, false, false] (by kernel_rfl) ?_
  refine wpAnyH_take (i := 3) (v := (.agg #[.slice zq1 zn1 zc1, .slice zq2 zn2 zc2, .slice zq3 zn3 zc3, .string ⟨zl4.toArray⟩, .int .i64 zage, .bool zsec, .slice zq4 zn4 zc4, .slice zq5 zn5 zc5, .int .i64 zs3, .slice zq6 zn6 zc6, .slice zq7 zn7 zc7, .slice zq8 zn8 zc8, .bool zs7, .bool zs8, .int .i64 zm])) rfl (by kernel_rfl) (by kernel_rfl) (by kernel_rfl) (fun _ _ _ h => h) (.inl ⟨by kernel_rfl, ?_⟩) ⟨bZ, bY⟩ ?_
  · rintro w ⟨hz, hy⟩; have x0 := hz 0 _ rfl; have x1 := hz 1 _ rfl; have x2 := hz 2 _ rfl; have x3 := hz 3 _ rfl; have x4 := hz 4 _ rfl; have x5 := hz 5 _ rfl; have x6 := hz 6 _ rfl; have x7 := hz 7 _ rfl; have x8 := hz 8 _ rfl; have x9 := hz 9 _ rfl; have x10 := hz 10 _ rfl; have x11 := hz 11 _ rfl; have x12 := hz 12 _ rfl; have x13 := hz 13 _ rfl; have x14 := hz 14 _ rfl; go_simp
  refine plist #[true, false, false, true, false, false, false, false] (by kernel_rfl) ?_
  have con := HY.out _ hBd
  refine pone 1 (by kernel_rfl) rfl fun K hK => ?_
  go_simp
  refine con.mono ?_
  rintro e w1 ⟨qa, na, ca, rfl, ha, hb⟩
  replace hBd := hBd.trans (hb.mono hBd.size)
  replace bZ := Box.on bZ hb
  replace bY := Box.on bY hb
  have e1 := ha.at.1
  clear con hb ha
  refine hK _ _ ⟨bZ, bY⟩ ?_
  clear hK K
  refine plist #[true, true, false, true, false, false, false, false] (by kernel_rfl) ?_
  refine wpAnyH_take (i := 2) (v := (.int .i64 na)) rfl (by kernel_rfl) (by kernel_rfl) (by kernel_rfl) (fun _ _ _ h => h) (.inl ⟨by kernel_rfl, ?_⟩) ⟨bZ, bY⟩ ?_
  · rintro w ⟨hz, hy⟩; go_simp
  refine plist #[true, true, true, true, false, false, false, false] (by kernel_rfl) ?_
  have con := HZ.out _ hBd
  refine pone 4 (by kernel_rfl) rfl fun K hK => ?_
  go_simp
  refine con.mono ?_
  rintro e w4 ⟨qb, nb, cb, rfl, ha, hb⟩
  replace hBd := hBd.trans (hb.mono hBd.size)
  replace bZ := Box.on bZ hb
  replace bY := Box.on bY hb
  have e2 := ha.at.1
  clear con hb ha
  refine hK _ _ ⟨bZ, bY⟩ ?_
  clear hK K
  refine plist #[true, true, true, true, true, false, false, false] (by kernel_rfl) ?_
  refine wpAnyH_take (i := 5) (v := (.int .i64 nb)) rfl (by kernel_rfl) (by kernel_rfl) (by kernel_rfl) (fun _ _ _ h => h) (.inl ⟨by kernel_rfl, ?_⟩) ⟨bZ, bY⟩ ?_
  · rintro w ⟨hz, hy⟩; go_simp
  refine plist #[true, true, true, true, true, true, false, false] (by kernel_rfl) ?_
  have con := cmpInt na nb w4
  refine pone 6 (by kernel_rfl) rfl fun K hK => ?_
  go_simp
  refine con.mono ?_
  rintro e w6 ⟨rfl, rfl⟩
  clear con
  refine hK _ _ ⟨bZ, bY⟩ ?_
  clear hK K
  refine plist #[true, true, true, true, true, true, true, false] (by kernel_rfl) ?_
  refine pone 7 (by kernel_rfl) rfl fun K hK => ?_
  go_simp
  refine hK _ _ ⟨bZ, bY⟩ ?_
  clear hK K
  refine pdone (by kernel_rfl) ?_ _
  go_wp2
  go_ret
  exact ⟨by rw [e1, e2]; rfl, A0.out.trans (hBd.mono A0.out.size)⟩
abbrev PS (w0 : World) := {z : PZ // PAt w0 z ∧ EOk (enZ z)}
theorem cmp_neg (x y : Nat) : (Lib.compareInt (x : Int) (y : Int) < 0) = (x < y) := by
  unfold Lib.compareInt
  by_cases h1 : x < y
  · simp [h1]
  · by_cases h2 : y < x <;> simp [h1, h2]
set_option maxRecDepth 100000 in
set_option maxHeartbeats 8000000 in
theorem ins_any (w0 : World) (R n cap : Nat) (zs : List PZ) (w : World) (hr : PRow w R n cap zs) (hz : ∀ z ∈ zs, PAt w0 z ∧ EOk (enZ z)) (hb0 : RowKit.Below w0.heap.size w0 w) (hR : w0.heap.size ≤ R) (hn : n ≤ 1048576) (h0 : 0 < n) (hG : Gl w0) (M : Nat) (hM : ∀ z ∈ zs, Jar.hz z ≤ M) :
    Calls Tryz.prog 156 #[.slice (some ⟨R, 0, none⟩) n cap, .int .i64 0, .int .i64 n, .func (.func 70) #[] #[]] w fun e w' => e = .returned (.tuple #[]) ∧ PRow w' R n cap (descBy Jar.hz M zs) ∧ Keep (fun b => b < w.heap.size ∧ b ≠ R) w w' := by
  have hRl := hr.lt
  obtain ⟨cur, c1, c2, c3, c4, c5, c6⟩ := hr
  haveI : Inhabited (PS w0) := ⟨⟨zs[0]'(by omega), hz _ (List.getElem_mem _)⟩⟩
  obtain ⟨d, hd⟩ : ∃ d : Array (PS w0), d = (zs.attach.map fun z => (⟨z.1, hz z.1 z.2⟩ : PS w0)).toArray := ⟨_, rfl⟩
  have hds : d.size = n := by rw [hd]; simp [c3]
  have hdl : d.toList.map Subtype.val = zs := by
    rw [hd]
    simp only [List.map_map]
    have : (Subtype.val ∘ fun z : {x // x ∈ zs} => (⟨z.1, hz z.1 z.2⟩ : PS w0)) = Subtype.val := rfl
    rw [this, List.attach_map_subtype_val]
  have hfl : ∀ l : List (PS w0), l.flatMap (fun x => plRow x.1) = (l.map Subtype.val).flatMap plRow := fun l => by rw [List.flatMap_map]
  have hk : ∀ x : PS w0, (plRow x.1).length = 15 := fun x => rfl
  have hK : HoldsK (fun x : PS w0 => plRow x.1) 15 w R 0 d := SorK.holds_row hk (by decide) c1 (by rw [hds, c6, hfl, hdl])
  have hcmp : CmpLays Tryz.prog 70 #[] (fun x : PS w0 => plRow x.1) 15 (fun x y => Lib.compareInt (Jar.hz y.1) (Jar.hz x.1)) R 0 d.size w := fun m os dk _ x y => by
    have hk : RowKit.Below w0.heap.size w0 (sortWorldK (fun x : PS w0 => plRow x.1) 15 w R 0 m dk os) := hb0.trans ((SorK.keep_sort (· < w0.heap.size) w R 0 m dk os (by omega)).below hb0.size)
    exact Drawn.calls_grown (cmp_for x.1 y.1 _ (x.2.1.on hk) x.2.2 (y.2.1.on hk) y.2.2 (hG.on hk))
  have con := AnyQ.insertionSortCmpFunc Tryz.insLays 15 Tryz.isAgg105 Tryz.sizeOf105 (fun x : PS w0 => plRow x.1) hk (fun x => one_cells x.1) (fun x y => Lib.compareInt (Jar.hz y.1) (Jar.hz x.1)) 70 #[] R 0 cap 0 d.size d w (enters_of Tryz.func70 (by kernel_rfl) rfl) hcmp hK hRl (Nat.zero_le _) (Nat.le_refl _) (by omega)
  rw [hds] at con
  refine con.mono ?_
  rintro e w' ⟨rfl, m, os, rfl⟩
  have hlt : ∀ x y : PS w0, ltOf (fun x y : PS w0 => Lib.compareInt (Jar.hz y.1) (Jar.hz x.1)) x y = decide (Jar.hz y.1 < Jar.hz x.1) := fun x y => by
    unfold ltOf
    exact decide_eq_decide.2 (by rw [cmp_neg])
  have hins := ins_desc (fun x : PS w0 => Jar.hz x.1) hlt d M (fun x hx => hM x.1 (by rw [← hdl]; exact List.mem_map.2 ⟨x, hx, rfl⟩))
  rw [hds] at hins
  have hperm := (insertionSort_holds (lt := ltOf fun x y : PS w0 => Lib.compareInt (Jar.hz y.1) (Jar.hz x.1)) ⟨fun x => by rw [hlt]; simp, fun x y z h1 h2 => by rw [hlt] at *; simp at *; omega, fun x y z h1 h2 => by rw [hlt] at *; simp at *; omega⟩ d 0 n (Nat.zero_le _) (Nat.le_of_eq hds.symm)).1
  generalize insertionSort (ltOf fun x y : PS w0 => Lib.compareInt (Jar.hz y.1) (Jar.hz x.1)) d 0 n = d' at hins hperm
  have hs' : d'.size = n := hperm.1.trans hds
  obtain ⟨cur', g1, g2, g3⟩ := SorK.row_sorted hk (by decide) (n := m) (os := os) d' c1 (by rw [hs', c2]; exact Nat.mul_le_mul_right _ c4)
  refine ⟨rfl, ⟨cur', g1, g2.trans c2, ?_, c4, c5, ?_⟩, SorK.keep_sort _ w R 0 m d' os (fun h => h.2 rfl)⟩
  · rw [← hdl, ← desc_map Subtype.val Jar.hz M, ← hins, List.length_map, Array.length_toList, hs']
  · rw [hs'] at g3
    rw [g3, hfl, hins, desc_map Subtype.val Jar.hz M, hdl]
set_option maxRecDepth 100000 in
theorem ins_zero (v fv : Value) (w : World) : Calls Tryz.prog 156 #[v, .int .i64 0, .int .i64 0, fv] w fun e w' => e = .returned (.tuple #[]) ∧ w' = w := by
  go_enter Tryz.func156, Tryz.ntmps156
  go_wp2
  go_loop [8] (fun i => i = .int .i64 1) (fun i => 0)
  case atStart => rfl
  case round =>
    subst hrel
    go_wp2
    refine bodyPost_end (results_none rfl _ _ _) rfl ?_
    exact ⟨rfl, rfl⟩
set_option maxRecDepth 100000 in
set_option maxHeartbeats 8000000 in
theorem stable_of (v fv : Value) (n : Nat) (w : World) (Q : World → Prop) (hn : n ≤ 19) (con : Calls Tryz.prog 156 #[v, .int .i64 0, .int .i64 n, fv] w fun e w' => e = .returned (.tuple #[]) ∧ Q w') :
    Calls Tryz.prog 117 #[v, .int .i64 n, fv] w fun e w' => e = .returned (.tuple #[]) ∧ Q w' := by
  have d1 : decide ((20 : Int) ≤ (n : Int)) = false := by simp; omega
  have d2 : decide ((20 : Int) < (n : Int)) = false := by simp; omega
  go_enter Tryz.func117, Tryz.ntmps117
  go_wp2
  go_loop [7, 8] (fun a b => a = .int .i64 0 ∧ b = .int .i64 20) (fun _ _ => 0)
  case atStart => exact ⟨rfl, rfl⟩
  case round =>
    obtain ⟨rfl, rfl⟩ := hrel
    go_wp2_with fail
    refine con.mono ?_
    rintro e w' ⟨rfl, hq⟩
    clear con d1
    have HQ := Lib.hid hq
    clear hq
    go_wp2
    go_loop [6] (fun b => b = .int .i64 20) (fun _ => 0)
    case atStart => rfl
    case round =>
      subst hrel
      go_wp2
      refine bodyPost_end (results_none rfl _ _ _) rfl ?_
      exact ⟨rfl, HQ.out⟩
def rowB (v : Value) (b : Nat) : Prop := ∃ o n c, v = .slice (some ⟨b, o, none⟩) n c
set_option maxRecDepth 100000 in
set_option maxHeartbeats 8000000 in
theorem sort_any (w0 : World) (v : Value) (n : Nat) (zs : List PZ) (w : World) (h : w.ownsRow w0.heap.size 105 15 v n (zs.flatMap plRow)) (hz : ∀ z ∈ zs, PAt w0 z ∧ EOk (enZ z)) (hb0 : RowKit.Below w0.heap.size w0 w) (hn : n ≤ 19) (hG : Gl w0) (M : Nat) (hM : ∀ z ∈ zs, Jar.hz z ≤ M) :
    Calls Tryz.prog 69 #[v, .func (.func 70) #[] #[]] w fun e w' => e = .returned (.tuple #[]) ∧ w'.ownsRow w0.heap.size 105 15 v n ((descBy Jar.hz M zs).flatMap plRow) ∧ Keep (fun b => b < w.heap.size ∧ ¬ rowB v b) w w' := by
  have key : ∃ q c, v = .slice q n c ∧ Calls Tryz.prog 156 #[v, .int .i64 0, .int .i64 n, .func (.func 70) #[] #[]] w fun e w' => e = .returned (.tuple #[]) ∧ w'.ownsRow w0.heap.size 105 15 v n ((descBy Jar.hz M zs).flatMap plRow) ∧ Keep (fun b => b < w.heap.size ∧ ¬ rowB v b) w w' := by
    rcases Nat.eq_zero_or_pos n with h0 | h0
    · subst h0
      have hzs : zs = [] := by have := h.1; rw [plrows_len] at this; exact List.eq_nil_of_length_eq_zero (by omega)
      subst hzs
      have hv : ∃ q c, v = .slice q 0 c := by
        rcases h.2 with ⟨rfl, -⟩ | ⟨g, cap, cur, rfl, -⟩
        · exact ⟨_, _, rfl⟩
        · exact ⟨_, _, rfl⟩
      obtain ⟨q, c, rfl⟩ := hv
      have hd : descBy Jar.hz M ([] : List PZ) = [] := by unfold descBy; simp
      refine ⟨q, c, rfl, (ins_zero _ _ w).mono ?_⟩
      rintro e w' ⟨rfl, rfl⟩
      rw [hd]
      exact ⟨rfl, h, Keep.refl _ _⟩
    · rcases prow_of h with ⟨-, e0, -⟩ | ⟨R, cap, rfl, hb, hp⟩
      · omega
      · refine ⟨_, cap, rfl, (ins_any w0 R n cap zs w hp hz hb0 hb (by omega) h0 hG M hM).mono ?_⟩
        rintro e w' ⟨rfl, hp', hk⟩
        have := hb0.size
        exact ⟨rfl, hp'.own hb, hk.mono fun b hb' h => ⟨hb', fun e => h.2 ⟨0, n, cap, by rw [e]⟩⟩⟩
  obtain ⟨q, c, rfl, key⟩ := key
  have con := stable_of _ _ n w _ hn key
  clear h hz hb0 hG hM key
  go_enter Tryz.func69, Tryz.ntmps69
  go_wp2_with fail
  refine con.mono ?_
  rintro e w' ⟨rfl, hr, hk⟩
  clear con
  have HR := Lib.hid hr
  have HK := Lib.hid hk
  clear hr hk
  go_wp2
  refine bodyPost_end (results_none rfl _ _ _) rfl ?_
  exact ⟨rfl, HR.out, HK.out⟩
end Go.Proofs.YtniehbjoogaccaaGreatDoor.Jar
namespace Go.Proofs.YtniehbjoogaccaaGreatDoor.Jar
open Go.RowKit Go.Shelf Url Ck
attribute [local go_sem] Oper.semAt_some
set_option linter.unusedVariables false
set_option maxRecDepth 100000 in
theorem kit : MapO.KeyKit Tryz.prog 62 where
  und := ⟨_, Tryz.underlying62⟩
  chk := fun e k w => by
    have u1 := Tryz.underlying62
    have u3 := Tryz.underlying3
    have u9 := Tryz.underlying9
    have a3 := Tryz.isAgg3
    have a9 := Tryz.isAgg9
    have step : ∀ n, (Instr.checkKey e (n + 2) 62 (MapO.keyV k)).run Tryz.prog w = .ok () w := fun n => by
      simp only [MapO.keyV, Org.orgV]
      simp [Instr.checkKey, run_underlying u1, run_underlying u3, run_underlying u9, part, a3, a9, Result.andThen]
    exact step 9998
  eql := fun a b w => by
    have h := eq_org4 a.1 b.1 a.2.1 b.2.1 a.2.2 b.2.2 0 0 w
    show (Op.equalIn 10000 62 (MapO.keyV a) (MapO.keyV b)).run Tryz.prog w = _
    unfold MapO.keyV Org.orgV
    refine h.trans ?_
    congr 1
    obtain ⟨a1, a2, a3⟩ := a
    obtain ⟨b1, b2, b3⟩ := b
    by_cases h1 : a1 = b1 <;> by_cases h2 : a2 = b2 <;> by_cases h3 : a3 = b3 <;> simp [h1, h2, h3] <;> omega
  bits := fun k => by
    have step : ∀ n, Instr.sameBits (n + 2) (MapO.keyV k) (MapO.keyV k) = true := fun n => by
      unfold MapO.keyV Org.orgV
      simp [Instr.sameBits, (Go.MapKept.bytes_beq _ _).2]
    exact step 9998
theorem step_lookup {P : Program} {ops : Array Oper} {o : Oper} {a : Act} {w : World} {K : Act → World → Prop} {Q : Exit → Act → World → Prop} {E : Prop}
    (hg : o.guard = none) (d x : Operand) (T : TypeId) (hop : o.op = Op.lookup T d x false)
    (v y r : Value) (W : World) (hd : a.eval d = v) (hx : a.eval x = y) (hrun : (Instr.lookup T v y false).run P w = .ok r W)
    (hK : K (a.put o.dst r) W) : if Region.wanted o (yielded ops a.tmps) = true then Oper.wp P o a w K Q else E := by
  have hw : Region.wanted o (yielded ops a.tmps) = true := by simp [Region.wanted, hg]
  rw [if_pos hw]
  unfold Oper.wp
  simp [execOp, hop, hd, hx, hrun, Result.andThen]
  exact hK
def lookV (ks : List Key) (f : Key → Value) (k : Key) : Value := if k ∈ ks then f k else .slice none 0 0
def MapV (w : World) (pb : Nat) (mv : Option Nat) (ks : List Key) (f : Key → Value) : Prop := match mv with
  | none => ks = []
  | some mb => mb ≠ pb ∧ MapO.MapAt w mb ks f
def JarIn (M : Nat → Prop) (v : Value) (l : List En) (w : World) : Prop :=
  ∃ (pb : Nat) (mv : Option Nat) (ks : List Key) (f : Key → Value), v = .pointer (some ⟨pb, 0, none⟩) ∧ Boxed w pb 85 (.map mv) ∧ (∀ b, M b ↔ b = pb ∨ mv = some b) ∧ MapV w pb mv ks f ∧
    (∀ k, k ∈ ks ↔ ∃ e ∈ l, keyU e.at_ = k) ∧ (∀ k ∈ ks, ∃ zs, PlV w (f k) zs ∧ zs.map enZ = (l.filter (mine k)).map srvE) ∧ (∀ e ∈ l, EOk e) ∧ ∀ k, lenJ k l ≤ 8
theorem MapV.keep {w w' : World} {pb : Nat} {mv : Option Nat} {ks : List Key} {f : Key → Value} {S : Nat → Prop} (h : MapV w pb mv ks f) (hk : Keep S w w') (hS : ∀ b, mv = some b → S b) : MapV w' pb mv ks f := by
  cases mv with
  | none => exact h
  | some mb => exact ⟨h.1, h.2.keep hk (hS mb rfl)⟩
theorem JarIn.keep {M : Nat → Prop} {v : Value} {l : List En} {w w' : World} (h : JarIn M v l w) (hk : Keep M w w') (hs : Soft w w') : JarIn M v l w' := by
  obtain ⟨pb, mv, ks, f, rfl, h1, h2, h3, h4, h5, h6⟩ := h
  refine ⟨pb, mv, ks, f, rfl, hk.boxed h1 ((h2 pb).2 (.inl rfl)), h2, h3.keep hk (fun b hb => (h2 b).2 (.inr hb)), h4, fun k hk' => ?_, h6⟩
  obtain ⟨zs, g1, g2⟩ := h5 k hk'
  exact ⟨zs, g1.soft hs, g2⟩
theorem JarIn.off {M : Nat → Prop} {v : Value} {l : List En} {w : World} (h : JarIn M v l w) : Off M w := by
  obtain ⟨pb, mv, ks, f, rfl, h1, h2, h3, h4, h5, h6⟩ := h
  intro b hb
  rcases (h2 b).1 hb with rfl | rfl
  · have hh : w.heap[b]? = some (.cells #[.map mv] 85 (0, 0)) := h1
    refine ⟨h1.lt, fun i z hz => ?_, fun i q n c hz => ?_⟩ <;>
    · simp only [World.cell?, hh] at hz
      rcases i with _ | i <;> simp at hz
  · have hm := h3.2
    obtain ⟨es, clock, hb', -⟩ := id hm
    refine ⟨hm.lt, fun i z hz => ?_, fun i q n c hz => ?_⟩ <;> simp [World.cell?, hb'] at hz
def JarOut (l : List En) (w : World) (e : Ending) (w' : World) : Prop := ∃ (M : Nat → Prop) (a : Addr), e = .returned (.pointer (some a)) ∧ JarIn M (.pointer (some a)) l w' ∧ (∀ b, M b → w.heap.size ≤ b) ∧ Below w.heap.size w w'
theorem New_any (w : World) : Calls Tryz.prog 9 #[] w (JarOut [] w) := by
  go_enter Tryz.func9, Tryz.ntmps9
  go_wp2
  go_ret
  refine ⟨fun b => b = w.heap.size, ⟨w.heap.size, 0, none⟩, rfl, ⟨w.heap.size, none, [], fun _ => .slice none 0 0, rfl, Boxed.new w _ _, fun b => ⟨.inl, fun h => h.elim id (fun h => by cases h)⟩, rfl, fun k => ?_, (fun k h => by cases h), (fun e h => by cases h), fun k => Nat.zero_le _⟩, fun b hb => Nat.le_of_eq hb.symm, below_alloc _⟩
  simp
set_option maxRecDepth 100000 in
set_option maxHeartbeats 8000000 in
theorem of_any (M : Nat → Prop) (p : Addr) (l : List En) (k : Key) (w : World) (h : JarIn M (.pointer (some p)) l w) :
    Calls Tryz.prog 66 #[.pointer (some p), MapO.keyV k] w fun e w' => ∃ v zs, e = .returned v ∧ PlV w' v zs ∧ zs.map enZ = (l.filter (mine k)).map srvE ∧ Below w.heap.size w w' := by
  obtain ⟨pb, mv, ks, f, hp, h1, h2, h3, h4, h5, h6, h7⟩ := h
  cases hp
  have key : ∃ zs, PlV w (lookV ks f k) zs ∧ zs.map enZ = (l.filter (mine k)).map srvE := by
    unfold lookV
    by_cases hk : k ∈ ks
    · rw [if_pos hk]
      exact h5 k hk
    · rw [if_neg hk]
      refine ⟨[], PlV.nil w, ?_⟩
      have e : l.filter (mine k) = [] := List.filter_eq_nil_iff.2 (fun e he hm => hk ((h4 k).2 ⟨e, he, of_decide_eq_true hm⟩))
      rw [e]
      rfl
  obtain ⟨zs, hz1, hz2⟩ := key
  have hlook : ∀ X, MapV X pb mv ks f → (Instr.lookup 83 (.map mv) (MapO.keyV k) false).run Tryz.prog X = .ok (lookV ks f k) X := fun X hX => by
    cases mv with
    | none =>
      rw [MapO.look_nil Tryz.underlying83 kit (Tryz.zeroValue106 X) k]
      unfold lookV
      rw [show ks = [] from hX, if_neg (by simp)]
    | some mb => exact MapO.look hX.2 Tryz.underlying83 kit (Tryz.zeroValue106 X) k
  obtain ⟨W, hW⟩ : ∃ W, w.alloc (.cells #[.string ⟨k.1.toArray⟩, .string ⟨k.2.1.toArray⟩, .int .i64 k.2.2, .int .i64 0] 62) = W := ⟨_, rfl⟩
  have A1 : Below w.heap.size w W := by rw [← hW]; exact below_alloc _
  have BK : Box w.heap.size #[.string ⟨k.1.toArray⟩, .string ⟨k.2.1.toArray⟩, .int .i64 k.2.2, .int .i64 0] W := by rw [← hW]; exact Box.new w _ _
  have BJ : Boxed W pb 85 (.map mv) := (Keep.of_below A1).boxed h1 h1.lt
  have hJM : MapV W pb mv ks f := h3.keep (Keep.of_below A1) (fun b hb => by subst hb; exact h3.2.lt)
  have HZ := Lib.hid (And.intro hz1 hz2)
  have A0 := Lib.hid A1
  have HW := Lib.hid hW
  unfold MapO.keyV Org.orgV at hlook ⊢
  generalize lookV ks f k = lv at *
  clear h1 h2 h3 h4 h5 h6 h7 hz1 hz2 A1 hW
  go_enter Tryz.func66, Tryz.ntmps66
  go_wp2_with fail
  rw [HW.out]
  refine pregion_any (fun X => Boxed X pb 85 (.map mv) ∧ Box w.heap.size #[.string ⟨k.1.toArray⟩, .string ⟨k.2.1.toArray⟩, .int .i64 k.2.2, .int .i64 0] X) (by kernel_rfl) ?_
  replace BJ : Boxed W.drew pb 85 (.map mv) := BJ
  replace BK : Box w.heap.size #[.string ⟨k.1.toArray⟩, .string ⟨k.2.1.toArray⟩, .int .i64 k.2.2, .int .i64 0] W.drew := BK
  replace hJM : MapV W.drew pb mv ks f := by cases mv; exact hJM; exact hJM
  have HD := Lib.hid ((Below.refl W.heap.size W).drew)
  generalize W.drew = X at *
  refine wpAnyH_take (i := 0) (v := (.pointer (some ⟨pb, 0, none⟩))) rfl (by kernel_rfl) (by kernel_rfl) (by kernel_rfl) (fun _ _ _ h => h) (.inl ⟨by kernel_rfl, ?_⟩) ⟨BJ, BK⟩ ?_
  · rintro w ⟨hj, hk⟩; go_simp
  refine plist #[true, false, false, false, false, false, false] (by kernel_rfl) ?_
  refine wpAnyH_take (i := 1) (v := (.pointer (some ⟨pb, 0, none⟩))) rfl (by kernel_rfl) (by kernel_rfl) (by kernel_rfl) (fun _ _ _ h => h) (.inl ⟨by kernel_rfl, ?_⟩) ⟨BJ, BK⟩ ?_
  · rintro w ⟨hj, hk⟩; go_simp
  refine plist #[true, true, false, false, false, false, false] (by kernel_rfl) ?_
  refine wpAnyH_take (i := 2) (v := (.pointer (some ⟨pb, 0, none⟩))) rfl (by kernel_rfl) (by kernel_rfl) (by kernel_rfl) (fun _ _ _ h => h) (.inl ⟨by kernel_rfl, ?_⟩) ⟨BJ, BK⟩ ?_
  · rintro w ⟨hj, hk⟩; go_simp
  refine plist #[true, true, true, false, false, false, false] (by kernel_rfl) ?_
  refine wpAnyH_take (i := 3) (v := (.map mv)) rfl (by kernel_rfl) (by kernel_rfl) (by kernel_rfl) (fun _ _ _ h => h) (.inl ⟨by kernel_rfl, ?_⟩) ⟨BJ, BK⟩ ?_
  · rintro w ⟨hj, hk⟩; have x0 := hj.cell; go_simp
  refine plist #[true, true, true, true, false, false, false] (by kernel_rfl) ?_
  refine wpAnyH_take (i := 4) (v := (.agg #[.string ⟨k.1.toArray⟩, .string ⟨k.2.1.toArray⟩, .int .i64 k.2.2, .int .i64 0])) rfl (by kernel_rfl) (by kernel_rfl) (by kernel_rfl) (fun _ _ _ h => h) (.inl ⟨by kernel_rfl, ?_⟩) ⟨BJ, BK⟩ ?_
  · rintro w ⟨hj, hk⟩; have x0 := hk 0 _ rfl; have x1 := hk 1 _ rfl; have x2 := hk 2 _ rfl; have x3 := hk 3 _ rfl; go_simp
  refine plist #[true, true, true, true, true, false, false] (by kernel_rfl) ?_
  refine pone 5 (by kernel_rfl) rfl fun K hK => ?_
  refine step_lookup rfl _ _ _ rfl _ _ _ _ rfl rfl (hlook _ hJM) ?_
  refine hK _ _ ⟨BJ, BK⟩ ?_
  clear hK K
  refine plist #[true, true, true, true, true, true, false] (by kernel_rfl) ?_
  refine pone 6 (by kernel_rfl) rfl fun K hK => ?_
  go_simp
  refine hK _ _ ⟨BJ, BK⟩ ?_
  clear hK K
  refine pdone (by kernel_rfl) ?_ _
  go_wp2
  go_ret
  exact ⟨lv, zs, rfl, HZ.out.1.soft (Soft.of_below (A0.out.trans (HD.out.mono A0.out.size))), HZ.out.2, A0.out.trans (HD.out.mono A0.out.size)⟩
set_option maxRecDepth 100000 in
set_option maxHeartbeats 4000000 in
theorem Len_key (M : Nat → Prop) (p : Addr) (l : List En) (k : Key) (w : World) (h : JarIn M (.pointer (some p)) l w) :
    Calls Tryz.prog 30 #[.pointer (some p), MapO.keyV k] w fun e w' => e = .returned (.int .i64 (lenJ k l)) ∧ Below w.heap.size w w' := by
  obtain ⟨W, hW⟩ : ∃ W, w.alloc (.cells #[.string ⟨k.1.toArray⟩, .string ⟨k.2.1.toArray⟩, .int .i64 k.2.2, .int .i64 0] 62) = W := ⟨_, rfl⟩
  have A1 : Below w.heap.size w W := by rw [← hW]; exact below_alloc _
  have BK : Box w.heap.size #[.string ⟨k.1.toArray⟩, .string ⟨k.2.1.toArray⟩, .int .i64 k.2.2, .int .i64 0] W := by rw [← hW]; exact Box.new w _ _
  have con := of_any M p l k W (h.keep ((Keep.of_below A1).mono fun b hb _ => hb) (Soft.of_below A1))
  have A0 := Lib.hid A1
  have HW := Lib.hid hW
  have HL := Lib.hid (fun (zs : List PZ) (hz : zs.map enZ = (l.filter (mine k)).map srvE) => (show zs.length = lenJ k l by have := congrArg List.length hz; simpa [lenJ] using this))
  unfold MapO.keyV Org.orgV at con ⊢
  have x0 := BK 0 _ rfl
  have x1 := BK 1 _ rfl
  have x2 := BK 2 _ rfl
  have x3 := BK 3 _ rfl
  generalize lenJ k l = L at *
  clear h A1 hW BK
  go_enter Tryz.func30, Tryz.ntmps30
  go_upto_region 1 with fail
  rw [HW.out]
  go_wp2_with fail
  refine con.mono ?_
  rintro e w2 ⟨v, zs, rfl, hv, hz, hb⟩
  obtain ⟨q, c, rfl⟩ := hv.form
  have hl := HL.out zs hz
  clear con hv hz HL x0 x1 x2 x3
  rw [hl]
  go_wp2
  go_ret
  exact ⟨rfl, A0.out.trans (hb.mono A0.out.size)⟩
theorem Len_any (M : Nat → Prop) (p : Addr) (l : List En) (o : U) (w : World) (h : JarIn M (.pointer (some p)) l w) :
    Calls Tryz.prog 30 #[.pointer (some p), Org.orgV o.scheme o.host o.port 0] w fun e w' => e = .returned (.int .i64 (lenJ (keyU o) l)) ∧ Below w.heap.size w w' :=
  Len_key M p l (keyU o) w h
end Go.Proofs.YtniehbjoogaccaaGreatDoor.Jar
namespace Go.Proofs.YtniehbjoogaccaaGreatDoor.Jar
open Go.RowKit Go.Shelf Url Ck
attribute [local go_sem] Oper.semAt_some
set_option linter.unusedVariables false
theorem step_delete {P : Program} {ops : Array Oper} {o : Oper} {a : Act} {w : World} {K : Act → World → Prop} {Q : Exit → Act → World → Prop} {E : Prop}
    (hg : o.guard = none) (d x : Operand) (T U : TypeId) (hop : o.op = Op.call { callee := Callee.builtin Builtin.delete, args := #[d, x], argTypes := #[T, U] })
    (v y r : Value) (W : World) (hd : a.eval d = v) (hx : a.eval x = y) (hrun : (Builtin.delete_ #[T, U] o.type #[v, y]).run P w = .ok r W)
    (hK : K (a.put o.dst r) W) : if Region.wanted o (yielded ops a.tmps) = true then Oper.wp P o a w K Q else E := by
  have hw : Region.wanted o (yielded ops a.tmps) = true := by simp [Region.wanted, hg]
  rw [if_pos hw]
  unfold Oper.wp
  simp [execOp, hop, resolve, invoke, builtin, hd, hx, hrun, Result.andThen]
  exact hK
theorem step_put {P : Program} {ops : Array Oper} {o : Oper} {a : Act} {w : World} {K : Act → World → Prop} {Q : Exit → Act → World → Prop} {E : Prop}
    (hg : o.guard = none) (d x z : Operand) (T : TypeId) (hop : o.op = Op.mapUpdate T d x z)
    (v y u : Value) (W : World) (hd : a.eval d = v) (hx : a.eval x = y) (hz : a.eval z = u) (hrun : (Instr.mapUpdate T v y u).run P w = .ok () W)
    (hK : K (a.put o.dst undef) W) : if Region.wanted o (yielded ops a.tmps) = true then Oper.wp P o a w K Q else E := by
  have hw : Region.wanted o (yielded ops a.tmps) = true := by simp [Region.wanted, hg]
  rw [if_pos hw]
  unfold Oper.wp
  simp [execOp, hop, hd, hx, hz, hrun, Result.andThen]
  exact hK
theorem run_eql_map_nil {P : Program} (w : World) (t K E : TypeId) (a : Option Nat) (h : P.underlying t = some (.map K E)) : (binOp .eql t (.map a) (.map none)).run P w = .ok (.bool a.isNone) w := by
  have step : ∀ d, (Op.equalIn (d + 1) t (.map a) (.map none)).run P w = .ok a.isNone w := fun d => by
    cases a <;> simp [Op.equalIn, run_underlying h]
  simp only [binOp]
  simp [Op.equal, Op.maxDepth, step 9999]
theorem del_nil {P : Program} {T K E : TypeId} (hT : P.underlying T = some (.map K E)) (kk : MapO.KeyKit P K) (ty : TypeId) (k : Key) (X : World) :
    (Builtin.delete_ #[T, K] ty #[.map none, MapO.keyV k]).run P X = .ok (.tuple #[]) X := by
  simp [Builtin.delete_, run_underlying hT, kk.chk, Result.andThen]
theorem mem_key (l : List En) (k : Key) : (∃ e ∈ l, keyU e.at_ = k) ↔ l.filter (mine k) ≠ [] := by
  constructor
  · rintro ⟨e, he, hk⟩ h
    have := List.filter_eq_nil_iff.1 h e he
    exact this (decide_eq_true hk)
  · intro h
    obtain ⟨e, he⟩ := List.exists_mem_of_ne_nil _ h
    obtain ⟨h1, h2⟩ := List.mem_filter.1 he
    exact ⟨e, h1, of_decide_eq_true h2⟩
structure KeepK (l l' : List En) (k : Key) (zs : List PZ) : Prop where
  own : zs.map enZ = (l'.filter (mine k)).map srvE
  other : ∀ k', k' ≠ k → l'.filter (mine k') = l.filter (mine k')
  ok : ∀ e ∈ l', EOk e
  few : ∀ k, lenJ k l' ≤ 8
theorem KeepK.nil {l l' : List En} {k : Key} (h : KeepK l l' k []) : l'.filter (mine k) = [] := by
  have := congrArg List.length h.own
  exact List.eq_nil_of_length_eq_zero (by simpa using this.symm)
theorem KeepK.cons {l l' : List En} {k : Key} {zs : List PZ} (h : KeepK l l' k zs) (hz : zs ≠ []) : l'.filter (mine k) ≠ [] := fun h0 => by
  have := congrArg List.length h.own
  rw [h0] at this
  exact hz (List.eq_nil_of_length_eq_zero (by simpa using this))
theorem jar_del {w w' : World} {pb : Nat} {mv : Option Nat} {ks : List Key} {f : Key → Value} {l l' : List En} {k : Key} (h : KeepK l l' k [])
    (hb : Boxed w' pb 85 (.map mv)) (hm : MapV w' pb mv (ks.filter fun x => decide (x ≠ k)) f) (h4 : ∀ k, k ∈ ks ↔ ∃ e ∈ l, keyU e.at_ = k)
    (h5 : ∀ k ∈ ks, ∃ zs, PlV w' (f k) zs ∧ zs.map enZ = (l.filter (mine k)).map srvE) : JarIn (fun b => b = pb ∨ mv = some b) (.pointer (some ⟨pb, 0, none⟩)) l' w' := by
  refine ⟨pb, mv, _, f, rfl, hb, fun b => Iff.rfl, hm, fun k' => ?_, fun k' hk' => ?_, h.ok, h.few⟩
  · rw [mem_key, List.mem_filter]
    by_cases hk : k' = k
    · subst hk
      simp [h.nil]
    · rw [h.other k' hk, ← mem_key, ← h4]
      simp [hk]
  · obtain ⟨h1, h2⟩ := List.mem_filter.1 hk'
    obtain ⟨zs, g1, g2⟩ := h5 k' h1
    exact ⟨zs, g1, by rw [h.other k' (by simpa using h2)]; exact g2⟩
theorem jar_put {w' : World} {pb mb : Nat} {ks : List Key} {f : Key → Value} {l l' : List En} {k : Key} {zs : List PZ} {v : Value} (h : KeepK l l' k zs) (hz : zs ≠ []) (hv : PlV w' v zs)
    (hb : Boxed w' pb 85 (.map (some mb))) (hne : mb ≠ pb) (hm : MapO.MapAt w' mb (if k ∈ ks then ks else ks ++ [k]) (fun x => if x = k then v else f x)) (h4 : ∀ k, k ∈ ks ↔ ∃ e ∈ l, keyU e.at_ = k)
    (h5 : ∀ k ∈ ks, ∃ zs, PlV w' (f k) zs ∧ zs.map enZ = (l.filter (mine k)).map srvE) : JarIn (fun b => b = pb ∨ some mb = some b) (.pointer (some ⟨pb, 0, none⟩)) l' w' := by
  have hmem : ∀ k', k' ∈ (if k ∈ ks then ks else ks ++ [k]) ↔ k' ∈ ks ∨ k' = k := fun k' => by
    by_cases hk : k ∈ ks
    · rw [if_pos hk]
      exact ⟨.inl, fun h => h.elim id (fun h => h ▸ hk)⟩
    · rw [if_neg hk]
      simp
  refine ⟨pb, some mb, _, _, rfl, hb, fun b => Iff.rfl, ⟨hne, hm⟩, fun k' => ?_, fun k' hk' => ?_, h.ok, h.few⟩
  · rw [hmem, mem_key]
    by_cases hk : k' = k
    · subst hk
      simp [h.cons hz]
    · rw [h.other k' hk, ← mem_key, ← h4]
      simp [hk]
  · by_cases hk : k' = k
    · subst hk
      exact ⟨zs, by rw [if_pos rfl]; exact hv, h.own⟩
    · obtain ⟨zs', g1, g2⟩ := h5 k' (((hmem k').1 hk').resolve_right hk)
      exact ⟨zs', by rw [if_neg hk]; exact g1, by rw [h.other k' hk]; exact g2⟩
def Wrote (M : Nat → Prop) (v : Value) (l : List En) (w w' : World) : Prop := ∃ M' : Nat → Prop, JarIn M' v l w' ∧ (∀ b, M' b → M b ∨ w.heap.size ≤ b) ∧ Keep (fun b => ¬ M b) w w'
set_option maxRecDepth 100000 in
set_option maxHeartbeats 16000000 in
theorem keep_any (M : Nat → Prop) (p : Addr) (l l' : List En) (k : Key) (q : Option Addr) (n c : Nat) (zs : List PZ) (w : World) (h : JarIn M (.pointer (some p)) l w) (hn : n = zs.length) (hv : zs ≠ [] → PlV w (.slice q n c) zs) (hk : KeepK l l' k zs) :
    Calls Tryz.prog 58 #[.pointer (some p), MapO.keyV k, .slice q n c] w fun e w' => e = .returned (.tuple #[]) ∧ Wrote M (.pointer (some p)) l' w w' := by
  have hoff := h.off
  obtain ⟨pb, mv, ks, f, hp, h1, h2, h3, h4, h5, h6, h7⟩ := h
  cases hp
  obtain ⟨W, hW⟩ : ∃ W, w.alloc (.cells #[.string ⟨k.1.toArray⟩, .string ⟨k.2.1.toArray⟩, .int .i64 k.2.2, .int .i64 0] 62) = W := ⟨_, rfl⟩
  have A1 : Below w.heap.size w W := by rw [← hW]; exact below_alloc _
  have hsz : W.heap.size = w.heap.size + 1 := by rw [← hW]; simp
  have BK : Box w.heap.size #[.string ⟨k.1.toArray⟩, .string ⟨k.2.1.toArray⟩, .int .i64 k.2.2, .int .i64 0] W := by rw [← hW]; exact Box.new w _ _
  have BJ : Boxed W pb 85 (.map mv) := (Keep.of_below A1).boxed h1 h1.lt
  have hJM : MapV W pb mv ks f := h3.keep (Keep.of_below A1) (fun b hb => by subst hb; exact h3.2.lt)
  have hpl := h1.lt
  have H5 := Lib.hid (fun (X : World) (hX : Keep (fun b => ¬ M b) w X) k (hk : k ∈ ks) => (show ∃ zs, PlV X (f k) zs ∧ zs.map enZ = (l.filter (mine k)).map srvE by
    obtain ⟨zs, g1, g2⟩ := h5 k hk
    exact ⟨zs, g1.soft (hoff.soft hX), g2⟩))
  have HV := Lib.hid (fun (X : World) (hX : Keep (fun b => ¬ M b) w X) (hz : zs ≠ []) => (hv hz).soft (hoff.soft hX))
  have H2 := Lib.hid h2
  have H4 := Lib.hid h4
  have HKK := Lib.hid hk
  have A0 := Lib.hid A1
  have HW := Lib.hid hW
  have HLT := Lib.hid (fun mb (e : mv = some mb) => (show mb < w.heap.size by subst e; exact h3.2.lt))
  have q83 : ∀ (w : World) (a : Option Nat), (binOp .eql 83 (.map a) (.map none)).run Tryz.prog w = .ok (.bool a.isNone) w := fun w a => run_eql_map_nil w _ _ _ a Tryz.underlying83
  unfold MapO.keyV Org.orgV
  by_cases hz : zs = []
  · subst hz
    obtain rfl : n = 0 := hn
    have hdel : ∀ X, MapV X pb mv ks f → ∃ X', (∀ ty, (Builtin.delete_ #[83, 62] ty #[.map mv, .agg #[.string ⟨k.1.toArray⟩, .string ⟨k.2.1.toArray⟩, .int .i64 k.2.2, .int .i64 0]]).run Tryz.prog X = .ok (.tuple #[]) X') ∧ MapV X' pb mv (ks.filter fun x => decide (x ≠ k)) f ∧ ∀ S : Nat → Prop, (∀ b, mv = some b → ¬ S b) → Keep S X X' := fun X hX => by
      cases mv with
      | none =>
        refine ⟨X, fun ty => ?_, by rw [show ks = [] from hX]; rfl, fun S _ => Keep.refl _ _⟩
        exact del_nil Tryz.underlying83 kit ty k X
      | some mb =>
        obtain ⟨X', g1, g2, g3, g4⟩ := MapO.del hX.2 Tryz.underlying83 kit 0 k
        refine ⟨X', fun ty => ?_, ⟨hX.1, g2⟩, fun S hS => g3 S (hS mb rfl)⟩
        exact g1
    clear hv h1 h2 h3 h4 h5 h6 h7 hk A1 hW HV hoff
    go_enter Tryz.func58, Tryz.ntmps58
    go_upto_region 2 with fail
    rw [HW.out]
    refine pregion_any (fun X => Boxed X pb 85 (.map mv) ∧ Box w.heap.size #[.string ⟨k.1.toArray⟩, .string ⟨k.2.1.toArray⟩, .int .i64 k.2.2, .int .i64 0] X) (by kernel_rfl) ?_
    replace BJ : Boxed W.drew pb 85 (.map mv) := BJ
    replace BK : Box w.heap.size #[.string ⟨k.1.toArray⟩, .string ⟨k.2.1.toArray⟩, .int .i64 k.2.2, .int .i64 0] W.drew := BK
    replace hJM : MapV W.drew pb mv ks f := by cases mv; exact hJM; exact hJM
    have HD := Lib.hid (Keep.drew (fun b => ¬ M b) W)
    have HDs := Lib.hid (show W.drew.heap.size = w.heap.size + 1 from hsz)
    clear hsz
    generalize W.drew = X at *
    obtain ⟨X', hdel, hMX, hkX⟩ := hdel X hJM
    have BJ2 : Boxed X' pb 85 (.map mv) := (hkX (fun b => mv ≠ some b) (fun b hb h => h hb)).boxed BJ (by cases mv with | none => simp | some mb => intro e; exact hJM.1 (Option.some.inj e))
    have BK2 : Box w.heap.size #[.string ⟨k.1.toArray⟩, .string ⟨k.2.1.toArray⟩, .int .i64 k.2.2, .int .i64 0] X' := fun i x hx => (World.cell?_of_block ((hkX (fun b => mv ≠ some b) (fun b hb h => h hb)).block w.heap.size (by have := HDs.out; omega) (fun e => by have := HLT.out _ e; omega))).trans (BK i x hx)
    have hS2 := And.intro BJ2 BK2
    have HKX := Lib.hid (hkX (fun b => ¬ M b) (fun b hb h => h ((H2.out b).2 (.inr hb))))
    have HMX := Lib.hid hMX
    clear hMX hkX BJ2 BK2
    refine wpAnyH_take (i := 0) (v := (.pointer (some ⟨pb, 0, none⟩))) rfl (by kernel_rfl) (by kernel_rfl) (by kernel_rfl) (fun _ _ _ h => h) (.inl ⟨by kernel_rfl, ?_⟩) ⟨BJ, BK⟩ ?_
    · rintro w ⟨hj, hk⟩; go_simp
    refine plist #[true, false, false, false, false, false] (by kernel_rfl) ?_
    refine wpAnyH_take (i := 1) (v := (.pointer (some ⟨pb, 0, none⟩))) rfl (by kernel_rfl) (by kernel_rfl) (by kernel_rfl) (fun _ _ _ h => h) (.inl ⟨by kernel_rfl, ?_⟩) ⟨BJ, BK⟩ ?_
    · rintro w ⟨hj, hk⟩; go_simp
    refine plist #[true, true, false, false, false, false] (by kernel_rfl) ?_
    refine wpAnyH_take (i := 2) (v := (.pointer (some ⟨pb, 0, none⟩))) rfl (by kernel_rfl) (by kernel_rfl) (by kernel_rfl) (fun _ _ _ h => h) (.inl ⟨by kernel_rfl, ?_⟩) ⟨BJ, BK⟩ ?_
    · rintro w ⟨hj, hk⟩; go_simp
    refine plist #[true, true, true, false, false, false] (by kernel_rfl) ?_
    refine wpAnyH_take (i := 3) (v := (.map mv)) rfl (by kernel_rfl) (by kernel_rfl) (by kernel_rfl) (fun _ _ _ h => h) (.inl ⟨by kernel_rfl, ?_⟩) ⟨BJ, BK⟩ ?_
    · rintro w ⟨hj, hk⟩; have x0 := hj.cell; go_simp
    refine plist #[true, true, true, true, false, false] (by kernel_rfl) ?_
    refine wpAnyH_take (i := 4) (v := (.agg #[.string ⟨k.1.toArray⟩, .string ⟨k.2.1.toArray⟩, .int .i64 k.2.2, .int .i64 0])) rfl (by kernel_rfl) (by kernel_rfl) (by kernel_rfl) (fun _ _ _ h => h) (.inl ⟨by kernel_rfl, ?_⟩) ⟨BJ, BK⟩ ?_
    · rintro w ⟨hj, hk⟩; have x0 := hk 0 _ rfl; have x1 := hk 1 _ rfl; have x2 := hk 2 _ rfl; have x3 := hk 3 _ rfl; go_simp
    refine plist #[true, true, true, true, true, false] (by kernel_rfl) ?_
    refine pone 5 (by kernel_rfl) rfl fun K hK => ?_
    refine step_delete rfl _ _ _ _ rfl _ _ _ _ rfl rfl (hdel _) ?_
    refine hK _ _ hS2 ?_
    clear hK K
    refine pdone (by kernel_rfl) ?_ _
    go_wp2
    refine bodyPost_ret (results_none rfl _ _ _) rfl ?_
    have kk : Keep (fun b => ¬ M b) w X' := ((Keep.of_below A0.out).mono fun b hb _ => hb).trans (HD.out.trans HKX.out)
    exact ⟨rfl, _, jar_del (w := w) HKK.out hS2.1 HMX.out H4.out (H5.out _ kk), fun b hb => .inl ((H2.out b).2 hb), kk⟩
  · have hn0 : ¬ n = 0 := by rw [hn]; intro e; exact hz (List.eq_nil_of_length_eq_zero e)
    have d1 : decide ((n : Int) = 0) = false := by simp; exact hn0
    cases mv with
    | none =>
      have hks : ks = [] := hJM
      have HKS := Lib.hid hks
      have HMU := Lib.hid (fun b => H2.out b)
      clear hv h1 h2 h3 h4 h5 h6 h7 hk hn A1 hW hoff hJM hks
      have x0 := BJ.cell
      have f0 := BJ.frozen
      have HBK := Lib.hid BK
      clear BK
      have hmk : ∀ X : World, (Instr.makeMap 83 none).run Tryz.prog X = .ok (.map (some X.heap.size)) (X.alloc (.map #[] 0)) := fun X => rfl
      have x1 : (W.alloc (.map #[] 0)).cell? ⟨pb, 0, none⟩ = some (.map none) := (BJ.alloc (.map #[] 0)).cell
      have f1 : (W.alloc (.map #[] 0)).frozen? ⟨pb, 0, none⟩ = false := (BJ.alloc (.map #[] 0)).frozen
      have HBJ := Lib.hid BJ
      clear BJ
      go_enter Tryz.func58, Tryz.ntmps58
      go_upto_region 3 with fail
      rw [HW.out]
      go_upto_region 5 with fail
      obtain ⟨V, hV⟩ : ∃ V, (W.setCell ⟨pb, 0, none⟩ (.map (some (w.heap.size + 1)))).alloc (.map #[] 0) = V := ⟨_, rfl⟩
      rw [hV]
      have BJ : Boxed V pb 85 (.map (some (w.heap.size + 1))) := by rw [← hV]; exact (HBJ.out.set _).alloc _
      have kV : ∀ S : Nat → Prop, ¬ S pb → Keep S W V := fun S hS => by rw [← hV]; exact (Keep.setCell _ ⟨pb, 0, none⟩ _ hS).trans (Keep.alloc S _ _)
      have BK : Box w.heap.size #[.string ⟨k.1.toArray⟩, .string ⟨k.2.1.toArray⟩, .int .i64 k.2.2, .int .i64 0] V := fun i x hx => (World.cell?_of_block ((kV (fun b => b ≠ pb) (fun h => h rfl)).block w.heap.size (by omega) (by omega))).trans (HBK.out i x hx)
      have hMV : MapO.MapAt V (w.heap.size + 1) [] f := by
        have h0 := MapO.MapAt.new (W.setCell ⟨pb, 0, none⟩ (.map (some (w.heap.size + 1)))) f
        rw [show (W.setCell ⟨pb, 0, none⟩ (.map (some (w.heap.size + 1)))).heap.size = w.heap.size + 1 by rw [← hsz]; simp [World.setCell]] at h0
        rw [← hV]
        exact h0
      have HKV := Lib.hid (kV (fun b => ¬ M b) (fun h => h ((H2.out pb).2 (.inl rfl))))
      clear hV kV x0 x1 f0 f1 hmk HBK HBJ
      obtain ⟨mb, hmb⟩ : ∃ mb, w.heap.size + 1 = mb := ⟨_, rfl⟩
      rw [hmb] at BJ hMV
      refine pregion_any (fun X => Boxed X pb 85 (.map (some mb)) ∧ Box w.heap.size #[.string ⟨k.1.toArray⟩, .string ⟨k.2.1.toArray⟩, .int .i64 k.2.2, .int .i64 0] X) (by kernel_rfl) ?_
      replace BJ : Boxed V.drew pb 85 (.map (some mb)) := BJ
      replace BK : Box w.heap.size #[.string ⟨k.1.toArray⟩, .string ⟨k.2.1.toArray⟩, .int .i64 k.2.2, .int .i64 0] V.drew := BK
      replace hMV : MapO.MapAt V.drew mb [] f := hMV
      have HD := Lib.hid (HKV.out.trans (Keep.drew (fun b => ¬ M b) V))
      have HMB := Lib.hid hmb
      have hlt : mb = w.heap.size + 1 := by omega
      clear hsz hmb HKV
      generalize V.drew = X at *
      obtain ⟨X', hput, hMX, hkX, hsX⟩ := MapO.put hMV Tryz.underlying83 kit k (.slice q n c)
      have BJ2 : Boxed X' pb 85 (.map (some mb)) := (hkX (fun b => b ≠ mb) (fun h => h rfl)).boxed BJ (by omega)
      have BK2 : Box w.heap.size #[.string ⟨k.1.toArray⟩, .string ⟨k.2.1.toArray⟩, .int .i64 k.2.2, .int .i64 0] X' := fun i x hx => (World.cell?_of_block ((hkX (fun b => b ≠ mb) (fun h => h rfl)).block w.heap.size (World.block_lt_of_cell? X _ (BK 0 _ rfl)) (by omega))).trans (BK i x hx)
      have hS2 := And.intro BJ2 BK2
      have HKX := Lib.hid (hkX (fun b => b < w.heap.size ∧ ¬ M b) (fun h => by omega))
      have HMX := Lib.hid hMX
      have HNE := Lib.hid (show mb ≠ pb by omega)
      have HLM := Lib.hid (show w.heap.size ≤ mb by omega)
      clear hMX hkX BJ2 BK2 hsX hMV hlt
      refine wpAnyH_take (i := 0) (v := (.pointer (some ⟨pb, 0, none⟩))) rfl (by kernel_rfl) (by kernel_rfl) (by kernel_rfl) (fun _ _ _ h => h) (.inl ⟨by kernel_rfl, ?_⟩) ⟨BJ, BK⟩ ?_
      · rintro w ⟨hj, hk⟩; go_simp
      refine plist #[true, false, false, false, false, false, false] (by kernel_rfl) ?_
      refine wpAnyH_take (i := 1) (v := (.pointer (some ⟨pb, 0, none⟩))) rfl (by kernel_rfl) (by kernel_rfl) (by kernel_rfl) (fun _ _ _ h => h) (.inl ⟨by kernel_rfl, ?_⟩) ⟨BJ, BK⟩ ?_
      · rintro w ⟨hj, hk⟩; go_simp
      refine plist #[true, true, false, false, false, false, false] (by kernel_rfl) ?_
      refine wpAnyH_take (i := 2) (v := (.pointer (some ⟨pb, 0, none⟩))) rfl (by kernel_rfl) (by kernel_rfl) (by kernel_rfl) (fun _ _ _ h => h) (.inl ⟨by kernel_rfl, ?_⟩) ⟨BJ, BK⟩ ?_
      · rintro w ⟨hj, hk⟩; go_simp
      refine plist #[true, true, true, false, false, false, false] (by kernel_rfl) ?_
      refine wpAnyH_take (i := 3) (v := (.map (some mb))) rfl (by kernel_rfl) (by kernel_rfl) (by kernel_rfl) (fun _ _ _ h => h) (.inl ⟨by kernel_rfl, ?_⟩) ⟨BJ, BK⟩ ?_
      · rintro w ⟨hj, hk⟩; have x0 := hj.cell; go_simp
      refine plist #[true, true, true, true, false, false, false] (by kernel_rfl) ?_
      refine wpAnyH_take (i := 4) (v := (.agg #[.string ⟨k.1.toArray⟩, .string ⟨k.2.1.toArray⟩, .int .i64 k.2.2, .int .i64 0])) rfl (by kernel_rfl) (by kernel_rfl) (by kernel_rfl) (fun _ _ _ h => h) (.inl ⟨by kernel_rfl, ?_⟩) ⟨BJ, BK⟩ ?_
      · rintro w ⟨hj, hk⟩; have x0 := hk 0 _ rfl; have x1 := hk 1 _ rfl; have x2 := hk 2 _ rfl; have x3 := hk 3 _ rfl; go_simp
      refine plist #[true, true, true, true, true, false, false] (by kernel_rfl) ?_
      refine wpAnyH_take (i := 5) (v := (.slice q n c)) rfl (by kernel_rfl) (by kernel_rfl) (by kernel_rfl) (fun _ _ _ h => h) (.inl ⟨by kernel_rfl, ?_⟩) ⟨BJ, BK⟩ ?_
      · rintro w ⟨hj, hk⟩; go_simp
      refine plist #[true, true, true, true, true, true, false] (by kernel_rfl) ?_
      refine pone 6 (by kernel_rfl) rfl fun K hK => ?_
      refine step_put rfl _ _ _ _ rfl _ _ _ _ rfl rfl rfl hput ?_
      refine hK _ _ hS2 ?_
      clear hK K
      refine pdone (by kernel_rfl) ?_ _
      go_wp2
      refine bodyPost_end (results_none rfl _ _ _) rfl ?_
      have kk : Keep (fun b => ¬ M b) w X' := by
        have k1 := ((Keep.of_below A0.out).mono fun b hb _ => hb : Keep (fun b => ¬ M b) w W).trans HD.out
        have k2 : Keep (fun b => b < w.heap.size ∧ ¬ M b) w X' := (k1.mono fun b _ h => h.2).trans HKX.out
        exact k2.mono fun b hb h => ⟨hb, h⟩
      have hks : ks = [] := HKS.out
      subst hks
      exact ⟨rfl, _, jar_put HKK.out hz (HV.out _ kk hz) hS2.1 HNE.out HMX.out H4.out (H5.out _ kk), fun b hb => by
        rcases hb with hb | hb
        · exact .inl ((H2.out b).2 (.inl hb))
        · cases hb; exact .inr HLM.out, kk⟩
    | some mb =>
      clear hv h1 h2 h3 h4 h5 h6 h7 hk hn A1 hW hoff
      have x0 := BJ.cell
      have HBK := Lib.hid BK
      have HBJ := Lib.hid BJ
      clear BK
      go_enter Tryz.func58, Tryz.ntmps58
      go_upto_region 3 with fail
      rw [HW.out]
      go_upto_region 5 with fail
      clear x0
      have BK := HBK.out
      have BJ := HBJ.out
      refine pregion_any (fun X => Boxed X pb 85 (.map (some mb)) ∧ Box w.heap.size #[.string ⟨k.1.toArray⟩, .string ⟨k.2.1.toArray⟩, .int .i64 k.2.2, .int .i64 0] X) (by kernel_rfl) ?_
      replace BJ : Boxed W.drew pb 85 (.map (some mb)) := BJ
      replace BK : Box w.heap.size #[.string ⟨k.1.toArray⟩, .string ⟨k.2.1.toArray⟩, .int .i64 k.2.2, .int .i64 0] W.drew := BK
      replace hJM : MapV W.drew pb (some mb) ks f := hJM
      have HD := Lib.hid (Keep.drew (fun b => ¬ M b) W)
      have HDs := Lib.hid (show W.drew.heap.size = w.heap.size + 1 from hsz)
      clear hsz HBK HBJ
      generalize W.drew = X at *
      obtain ⟨X', hput, hMX, hkX, hsX⟩ := MapO.put hJM.2 Tryz.underlying83 kit k (.slice q n c)
      have BJ2 : Boxed X' pb 85 (.map (some mb)) := (hkX (fun b => b ≠ mb) (fun h => h rfl)).boxed BJ (fun e => hJM.1 e.symm)
      have BK2 : Box w.heap.size #[.string ⟨k.1.toArray⟩, .string ⟨k.2.1.toArray⟩, .int .i64 k.2.2, .int .i64 0] X' := fun i x hx => (World.cell?_of_block ((hkX (fun b => b ≠ mb) (fun h => h rfl)).block w.heap.size (by have := HDs.out; omega) (fun e => by have := HLT.out mb rfl; omega))).trans (BK i x hx)
      have hS2 := And.intro BJ2 BK2
      have HKX := Lib.hid (hkX (fun b => ¬ M b) (fun h => h ((H2.out mb).2 (.inr rfl))))
      have HMX := Lib.hid hMX
      have HNE := Lib.hid hJM.1
      clear hMX hkX BJ2 BK2 hsX hJM
      refine wpAnyH_take (i := 0) (v := (.pointer (some ⟨pb, 0, none⟩))) rfl (by kernel_rfl) (by kernel_rfl) (by kernel_rfl) (fun _ _ _ h => h) (.inl ⟨by kernel_rfl, ?_⟩) ⟨BJ, BK⟩ ?_
      · rintro w ⟨hj, hk⟩; go_simp
      refine plist #[true, false, false, false, false, false, false] (by kernel_rfl) ?_
      refine wpAnyH_take (i := 1) (v := (.pointer (some ⟨pb, 0, none⟩))) rfl (by kernel_rfl) (by kernel_rfl) (by kernel_rfl) (fun _ _ _ h => h) (.inl ⟨by kernel_rfl, ?_⟩) ⟨BJ, BK⟩ ?_
      · rintro w ⟨hj, hk⟩; go_simp
      refine plist #[true, true, false, false, false, false, false] (by kernel_rfl) ?_
      refine wpAnyH_take (i := 2) (v := (.pointer (some ⟨pb, 0, none⟩))) rfl (by kernel_rfl) (by kernel_rfl) (by kernel_rfl) (fun _ _ _ h => h) (.inl ⟨by kernel_rfl, ?_⟩) ⟨BJ, BK⟩ ?_
      · rintro w ⟨hj, hk⟩; go_simp
      refine plist #[true, true, true, false, false, false, false] (by kernel_rfl) ?_
      refine wpAnyH_take (i := 3) (v := (.map (some mb))) rfl (by kernel_rfl) (by kernel_rfl) (by kernel_rfl) (fun _ _ _ h => h) (.inl ⟨by kernel_rfl, ?_⟩) ⟨BJ, BK⟩ ?_
      · rintro w ⟨hj, hk⟩; have x0 := hj.cell; go_simp
      refine plist #[true, true, true, true, false, false, false] (by kernel_rfl) ?_
      refine wpAnyH_take (i := 4) (v := (.agg #[.string ⟨k.1.toArray⟩, .string ⟨k.2.1.toArray⟩, .int .i64 k.2.2, .int .i64 0])) rfl (by kernel_rfl) (by kernel_rfl) (by kernel_rfl) (fun _ _ _ h => h) (.inl ⟨by kernel_rfl, ?_⟩) ⟨BJ, BK⟩ ?_
      · rintro w ⟨hj, hk⟩; have x0 := hk 0 _ rfl; have x1 := hk 1 _ rfl; have x2 := hk 2 _ rfl; have x3 := hk 3 _ rfl; go_simp
      refine plist #[true, true, true, true, true, false, false] (by kernel_rfl) ?_
      refine wpAnyH_take (i := 5) (v := (.slice q n c)) rfl (by kernel_rfl) (by kernel_rfl) (by kernel_rfl) (fun _ _ _ h => h) (.inl ⟨by kernel_rfl, ?_⟩) ⟨BJ, BK⟩ ?_
      · rintro w ⟨hj, hk⟩; go_simp
      refine plist #[true, true, true, true, true, true, false] (by kernel_rfl) ?_
      refine pone 6 (by kernel_rfl) rfl fun K hK => ?_
      refine step_put rfl _ _ _ _ rfl _ _ _ _ rfl rfl rfl hput ?_
      refine hK _ _ hS2 ?_
      clear hK K
      refine pdone (by kernel_rfl) ?_ _
      go_wp2
      refine bodyPost_end (results_none rfl _ _ _) rfl ?_
      have kk : Keep (fun b => ¬ M b) w X' := ((Keep.of_below A0.out).mono fun b hb _ => hb).trans (HD.out.trans HKX.out)
      exact ⟨rfl, _, jar_put HKK.out hz (HV.out _ kk hz) hS2.1 HNE.out HMX.out H4.out (H5.out _ kk), fun b hb => .inl ((H2.out b).2 hb), kk⟩
end Go.Proofs.YtniehbjoogaccaaGreatDoor.Jar
namespace Go.Proofs.YtniehbjoogaccaaGreatDoor.Jar
open Go.RowKit Go.Shelf Url Ck
attribute [local go_sem] Oper.semAt_some
set_option linter.unusedVariables false
set_option maxRecDepth 100000 in
set_option maxHeartbeats 4000000 in
theorem latest_row (base : Nat) (v : Value) (n : Nat) (xs : List PZ) (w : World) (h : w.ownsRow base 105 15 v n (xs.flatMap plRow)) (hn : n ≤ 8) :
    Calls Tryz.prog 57 #[v, .int .i64 7] w fun e w' => ∃ v' m, e = .returned v' ∧ w'.ownsRow base 105 15 v' m ((xs.drop (xs.length - 7)).flatMap plRow) ∧ m ≤ 7 ∧ Keep (fun b => b < w.heap.size ∧ ¬ rowB v b) w w' := by
  have hxl : xs.length = n := by have := h.1; rw [plrows_len] at this; omega
  by_cases h7 : n ≤ 7
  · have HD := Lib.hid (show xs.drop (xs.length - 7) = xs by rw [show xs.length - 7 = 0 by omega]; rfl)
    have hw : wrap64 ((n : Int) - 7) = (n : Int) - 7 := by unfold wrap64; omega
    have hx : max (0 : Int) ((n : Int) - 7) = 0 := by omega
    have key : ∃ q c, v = .slice q n c ∧ n ≤ c ∧ c ≤ maxLen ∧ (q = none → n = 0 ∧ c = 0) := by
      rcases prow_of h with ⟨rfl, rfl, rfl⟩ | ⟨R, cap, rfl, hb, hp⟩
      · exact ⟨none, 0, rfl, Nat.le_refl _, Nat.zero_le _, fun _ => ⟨rfl, rfl⟩⟩
      · obtain ⟨_, _, _, _, h4, h5, _⟩ := hp
        exact ⟨_, cap, rfl, h4, h5, fun h => by cases h⟩
    obtain ⟨q, c, rfl, k1, k2, k3⟩ := key
    have con := Delete0_any q n c w k1 k2 k3
    have HH := Lib.hid h
    clear h k1 k2 k3 hxl
    go_enter Tryz.func57, Tryz.ntmps57
    go_wp2_with fail
    refine con.mono ?_
    rintro e w' ⟨rfl, rfl⟩
    clear con hw hx
    go_wp2
    go_ret
    exact ⟨_, n, rfl, by rw [HD.out]; exact HH.out, h7, Keep.refl _ _⟩
  · obtain rfl : n = 8 := by omega
    rcases prow_of h with ⟨-, h8, -⟩ | ⟨R, cap, rfl, hb, hp⟩
    · exact absurd h8 (by decide)
    · have con := Delete1_any R 8 cap xs w hp (by decide)
      have HD := Lib.hid (show xs.drop (xs.length - 7) = xs.drop 1 by rw [hxl])
      have hx : max (0 : Int) 1 = 1 := by omega
      clear h hp hn h7 hxl
      go_enter Tryz.func57, Tryz.ntmps57
      go_wp2_with fail
      refine con.mono ?_
      rintro e w' ⟨rfl, hp, hk⟩
      have HP := Lib.hid hp
      have HK := Lib.hid hk
      clear con hx hp hk
      go_wp2
      go_ret
      exact ⟨_, 7, rfl, by rw [HD.out]; exact HP.out.own hb, Nat.le_refl _, HK.out.mono fun b _ hb' e => hb'.2 ⟨0, 8, cap, by rw [e]⟩⟩
theorem ptwo {P : Program} {ops : Array Oper} {Q : Exit → Act → World → Prop} {md : Region.Mode} {S : World → Prop} (i j : Nat) {fuel : Nat} {listed : Array Bool} {a : Act} {w : World} {o q : Oper} (hr : Region.ready md ops listed = [i, j]) (ho : ops[i]? = some o) (hq : ops[j]? = some q)
    (h : ∀ K : Act → World → Prop, (∀ a' w', S w' → wpAnyH P md ops Q S fuel (listed.setIfInBounds i true) a' w' → K a' w') →
      if Region.wanted o (yielded ops a.tmps) = true then Oper.wp P o a w K Q else K (a.put o.dst undef) w)
    (h2 : ∀ K : Act → World → Prop, (∀ a' w', S w' → wpAnyH P md ops Q S fuel (listed.setIfInBounds j true) a' w' → K a' w') →
      if Region.wanted q (yielded ops a.tmps) = true then Oper.wp P q a w K Q else K (a.put q.dst undef) w) : wpAnyH P md ops Q S (fuel + 1) listed a w :=
  wpAnyH_all hr (by simp) (AllReadyH.cons ho (fun K hK => h K fun a' w' hs ha => hK.out a' w' hs fun _ => ha) (AllReadyH.cons hq (fun K hK => h2 K fun a' w' hs ha => hK.out a' w' hs fun _ => ha) AllReadyH.nil))
theorem oft4 {α β γ δ : Type} {X : Prop} (C : α → β → γ → δ → Prop) {G : α → β → γ → δ → Prop} (h1 : (∀ a b c d, C a b c d → G a b c d) → X) (h2 : ∀ a b c d, C a b c d → G a b c d) : X := h1 h2
theorem left_zs {l : List En} {u : U} {zs : List PZ} (y : PZ) (c : Ck) (now : Int) (hy1 : y.2.1.2 = srvU u) (hy2 : y.1.2 = c) (hz : zs.map enZ = (l.filter (mine (keyU u))).map srvE) :
    (zs.filter fun z => !(overE now (enZ z) || sameE y.2.1.2 y.1.2 (enZ z))).map enZ = ((l.filter (keepE u c now)).filter (mine (keyU u))).map srvE := by
  have e1 : (zs.filter fun z => !(overE now (enZ z) || sameE y.2.1.2 y.1.2 (enZ z))).map enZ = (zs.map enZ).filter fun e => !(overE now e || sameE y.2.1.2 y.1.2 e) := by
    rw [List.filter_map]; rfl
  rw [e1, hz, List.filter_map, filter_comm, hy1, hy2]
  congr 1
  rw [List.filter_filter, List.filter_filter]
  refine List.filter_congr fun e _ => ?_
  show (mine (keyU u) e && !(overE now (srvE e) || sameE (srvU u) c (srvE e))) = (mine (keyU u) e && keepE u c now e)
  rw [over_srv, same_srv]
  unfold keepE
  cases overE now e <;> cases sameE u c e <;> cases mine (keyU u) e <;> rfl
theorem left_few {l : List En} (u : U) (c : Ck) (now : Int) (h : ∀ k, lenJ k l ≤ 8) : ((l.filter (keepE u c now)).filter (mine (keyU u))).length ≤ 8 := by
  rw [filter_comm]
  exact Nat.le_trans (List.length_filter_le _ _) (h (keyU u))
theorem gone_mine {l : List En} (u : U) (c : Ck) (now : Int) (hm : mayB c u.host u.scheme = true) (h0 : c.age = 0) : (setJ l u c now).filter (mine (keyU u)) = (l.filter (keepE u c now)).filter (mine (keyU u)) := by
  unfold setJ putJ
  rw [if_pos hm, if_pos h0]
theorem put_mine {l : List En} (u : U) (c : Ck) (now : Int) (hm : mayB c u.host u.scheme = true) (h0 : c.age ≠ 0) (hf : ((l.filter (keepE u c now)).filter (mine (keyU u))).length ≤ 8) :
    (setJ l u c now).filter (mine (keyU u)) = ((l.filter (keepE u c now)).filter (mine (keyU u))).drop (((l.filter (keepE u c now)).filter (mine (keyU u))).length - 7) ++ [⟨u, c, now⟩] := by
  have hx : mine (keyU u) ⟨u, c, now⟩ = true := decide_eq_true rfl
  unfold setJ putJ
  rw [if_pos hm, if_neg h0, List.filter_append, List.filter_cons_of_pos hx, List.filter_nil]
  congr 1
  split
  · rename_i h8
    rw [show ((l.filter (keepE u c now)).filter (mine (keyU u))).length - 7 = 0 by omega]
    rfl
  · rename_i h8
    rw [erase_mine]
    rw [show ((l.filter (keepE u c now)).filter (mine (keyU u))).length - 7 = 1 by omega]
    have hall : ∀ e ∈ (l.filter (keepE u c now)).filter (mine (keyU u)), mine (keyU u) e = true := fun e he => (List.mem_filter.1 he).2
    generalize (l.filter (keepE u c now)).filter (mine (keyU u)) = F at *
    cases F with
    | nil => rfl
    | cons e r =>
      rw [List.eraseP_cons_of_pos (hall e (by simp))]
      rfl
theorem put_zs {l : List En} {u : U} {c : Ck} {now : Int} {ws : List PZ} {y : PZ} (hw : ws.map enZ = ((l.filter (keepE u c now)).filter (mine (keyU u))).map srvE) (hy : enZ y = srvE ⟨u, c, now⟩) (hm : mayB c u.host u.scheme = true) (h0 : c.age ≠ 0) (hf : ((l.filter (keepE u c now)).filter (mine (keyU u))).length ≤ 8) :
    (ws.drop (ws.length - 7) ++ [y]).map enZ = ((setJ l u c now).filter (mine (keyU u))).map srvE := by
  have hl : ws.length = ((l.filter (keepE u c now)).filter (mine (keyU u))).length := by have := congrArg List.length hw; simpa only [List.length_map] using this
  rw [put_mine u c now hm h0 hf, List.map_append, List.map_append, List.map_drop, hw, hl, ← List.map_drop]
  simp only [List.map_cons, List.map_nil, hy]
theorem set_ok {l : List En} {u : U} {c : Ck} {now : Int} (h : ∀ e ∈ l, EOk e) (hn : EOk ⟨u, c, now⟩) : ∀ e ∈ setJ l u c now, EOk e := fun e he => by
  rcases mem_set l u c now e he with he | rfl
  · exact h e he
  · exact hn
theorem JarIn.all {M : Nat → Prop} {v : Value} {l : List En} {w : World} (h : JarIn M v l w) : (∀ e ∈ l, EOk e) ∧ ∀ k, lenJ k l ≤ 8 := by
  obtain ⟨pb, mv, ks, f, rfl, h1, h2, h3, h4, h5, h6⟩ := h
  exact h6
theorem set_keepK {l : List En} {u : U} {c : Ck} {now : Int} {zs : List PZ} (h : ∀ e ∈ l, EOk e) (hf : ∀ k, lenJ k l ≤ 8) (hn : EOk ⟨u, c, now⟩) (hz : zs.map enZ = ((setJ l u c now).filter (mine (keyU u))).map srvE) : KeepK l (setJ l u c now) (keyU u) zs :=
  ⟨hz, fun k' hk => set_other l u c now k' (fun e => hk e.symm), set_ok h hn, set_few l u c now hf⟩
theorem chain0 (w : World) (B : Nat) (v0 v1 v2 v3 v4 v5 v6 v7 v8 v9 v10 v11 v12 v13 v14 : Value) : (((((((((((((((w.setCell ⟨B, 0, none⟩ v0).setCell ⟨B, 1, none⟩ v1).setCell ⟨B, 2, none⟩ v2).setCell ⟨B, 3, none⟩ v3).setCell ⟨B, 4, none⟩ v4).setCell ⟨B, 5, none⟩ v5).setCell ⟨B, 6, none⟩ v6).setCell ⟨B, 7, none⟩ v7).setCell ⟨B, 8, none⟩ v8).setCell ⟨B, 9, none⟩ v9).setCell ⟨B, 10, none⟩ v10).setCell ⟨B, 11, none⟩ v11).setCell ⟨B, 12, none⟩ v12).setCell ⟨B, 13, none⟩ v13).setCell ⟨B, 14, none⟩ v14) = w.setCells B 0 [v0, v1, v2, v3, v4, v5, v6, v7, v8, v9, v10, v11, v12, v13, v14] := rfl
theorem Box.keepB {b : Nat} {cs : Array Value} {w w' : World} {S : Nat → Prop} (h : Box b cs w) (hk : Keep S w w') (hS : S b) : Box b cs w' := fun i x hx => by
  have h1 := h i x hx
  exact (World.cell?_of_block (hk.block b (World.block_lt_of_cell? w _ h1) hS)).trans h1
def zZ : PZ := ((((((none, 0, 0), (none, 0, 0)), (none, 0, 0)), ⟨[], [], [], [], 0, false⟩) : CZ), (((none, 0, 0), (none, 0, 0), (none, 0, 0), (none, 0, 0), (none, 0, 0)), ⟨[], [], 0, [], [], [], false, false⟩), 0)
theorem prow_new (w : World) (z : PZ) : PRow (w.alloc (.cells (plRow z).toArray 105)) w.heap.size 1 1 [z] :=
  ⟨(plRow z).toArray, World.alloc_heap_new w _, rfl, rfl, Nat.le_refl _, by decide, by rw [List.flatMap_cons, List.flatMap_nil, List.append_nil]; rfl⟩
theorem pl_nou8 {z : PZ} {v : Value} (h : v ∈ plRow z) (n : Int) : v ≠ .int .u8 n := by
  unfold plRow vC at h
  simp only [List.mem_cons, List.not_mem_nil, or_false] at h
  rcases h with rfl | rfl | rfl | rfl | rfl | rfl | rfl | rfl | rfl | rfl | rfl | rfl | rfl | rfl | rfl <;> intro h <;> cases h
theorem PRow.nou8 {w : World} {R n : Nat} {xs : List PZ} (h : PRow w R n n xs) (i : Nat) (z : Int) : w.cell? ⟨R, i, none⟩ ≠ some (.int .u8 z) := by
  obtain ⟨cur, h1, h2, h3, h4, h5, h6⟩ := h
  rw [List.take_of_length_le (by simp [h2])] at h6
  intro hc
  simp only [World.cell?, h1] at hc
  have hm : Value.int .u8 z ∈ xs.flatMap plRow := by
    rw [← h6]
    have hc' : cur[i]? = some (Value.int .u8 z) := by simpa using hc
    exact Array.mem_toList_iff.2 (Array.mem_of_getElem? hc')
  obtain ⟨y, -, hy⟩ := List.mem_flatMap.1 hm
  exact pl_nou8 hy z rfl
theorem PAt.by {w w' : World} {z : PZ} (h : PAt w z) (hb : ∀ v l, By w v l → By w' v l) : PAt w' z :=
  ⟨⟨hb _ _ h.1.1, hb _ _ h.1.2.1, hb _ _ h.1.2.2⟩, hb _ _ h.2.1, hb _ _ h.2.2.1, hb _ _ h.2.2.2.1, hb _ _ h.2.2.2.2.1, hb _ _ h.2.2.2.2.2⟩
theorem PRow.box {w : World} {B : Nat} {z : PZ} (h : PRow w B 1 1 [z]) : Box B (plRow z).toArray w := fun i x hx => by
  have := h.cells (i := 0) (z := z) rfl i x (by simpa using hx)
  rw [Nat.zero_mul, Nat.zero_add] at this
  exact this
theorem rowB_own {w : World} {base n : Nat} {v : Value} {xs : List PZ} {b : Nat} (h : w.ownsRow base 105 15 v n (xs.flatMap plRow)) (hb : v.ownBlock = some b) : rowB v b := by
  rcases prow_of h with ⟨rfl, -, -⟩ | ⟨R, cap, rfl, -, -⟩
  · cases hb
  · cases hb
    exact ⟨_, _, _, rfl⟩
theorem append_row {w : World} {base n Bb : Nat} {v : Value} {xs : List PZ} {y : PZ} (h : w.ownsRow base 105 15 v n (xs.flatMap plRow)) (hb : Box Bb (plRow y).toArray w) (hn : n ≤ 7) (hB : base ≤ w.heap.size) :
    ∃ v' w', (∀ ty, (Builtin.append_ #[106, 106] ty #[v, .slice (some ⟨Bb, 0, none⟩) 1 1]).run Tryz.prog w = .ok v' w') ∧ w'.ownsRow base 105 15 v' (n + 1) ((xs ++ [y]).flatMap plRow) ∧ Keep (fun b => b < w.heap.size ∧ ¬ rowB v b) w w' := by
  obtain ⟨i0, hi0, hz0, hz1, hz2⟩ := info_parts info_pl
  have key : ∀ ty, ∃ v' w', (Builtin.append_ #[106, 106] ty #[v, .slice (some ⟨Bb, 0, none⟩) 1 1]).run Tryz.prog w = .ok v' w' ∧ w'.ownsRow base 105 15 v' (n + 1) (xs.flatMap plRow ++ plRow y) ∧ w.grownBy w' v.ownBlock ∧ _ ∧ _ := fun ty =>
    run_append_own_at (P := Tryz.prog) w base 106 ty 105 i0 _ 15 248 Tryz.underlying106 hi0 hz0 hz1 hz2 rfl (by decide) v n _ h ⟨Bb, 0, none⟩ 1 1 (plRow y) rfl (fun j u hu => by
      rw [Go.WideShapes.add_plain, Nat.zero_add]
      exact hb j u (by simpa using hu)) (one_cells y) (by have : maxLen = 9223372036854775807 := rfl; omega) (by omega) hB
  obtain ⟨v', w', h1, h2, h3, -⟩ := key 0
  refine ⟨v', w', fun ty => ?_, ?_, (Keep.of_grownBy (S := fun b => b < w.heap.size ∧ ¬ rowB v b) h3 (fun r hr h' => h'.2 (rowB_own h hr)))⟩
  · exact h1
  · rw [List.flatMap_append, List.flatMap_cons, List.flatMap_nil, List.append_nil]
    exact h2
set_option maxHeartbeats 4000000 in
theorem JarIn.look {M : Nat → Prop} {p : Addr} {l : List En} {w : World} (h : JarIn M (.pointer (some p)) l w) (k : Key) : ∃ pb mv lv zs, p = ⟨pb, 0, none⟩ ∧ Boxed w pb 85 (.map mv) ∧ PlV w lv zs ∧ zs.map enZ = (l.filter (mine k)).map srvE ∧
    ∀ X, Below w.heap.size w X → (Instr.lookup 83 (.map mv) (MapO.keyV k) false).run Tryz.prog X = .ok lv X := by
  obtain ⟨pb, mv, ks, f, hp, h1, h2, h3, h4, h5, h6, h7⟩ := h
  cases hp
  have key : ∃ zs, PlV w (lookV ks f k) zs ∧ zs.map enZ = (l.filter (mine k)).map srvE := by
    unfold lookV
    by_cases hk : k ∈ ks
    · rw [if_pos hk]
      exact h5 k hk
    · rw [if_neg hk]
      refine ⟨[], PlV.nil w, ?_⟩
      have e : l.filter (mine k) = [] := List.filter_eq_nil_iff.2 (fun e he hm => hk ((h4 k).2 ⟨e, he, of_decide_eq_true hm⟩))
      rw [e]
      rfl
  obtain ⟨zs, hz1, hz2⟩ := key
  refine ⟨pb, mv, _, zs, rfl, h1, hz1, hz2, fun X hX => ?_⟩
  have hJM : MapV X pb mv ks f := h3.keep (Keep.of_below hX) (fun b hb => by subst hb; exact h3.2.lt)
  cases mv with
  | none =>
    rw [MapO.look_nil Tryz.underlying83 kit (Tryz.zeroValue106 X) k]
    unfold lookV
    rw [show ks = [] from hJM, if_neg (by simp)]
  | some mb => exact MapO.look hJM.2 Tryz.underlying83 kit (Tryz.zeroValue106 X) k
end Go.Proofs.YtniehbjoogaccaaGreatDoor.Jar
namespace Go.Proofs.YtniehbjoogaccaaGreatDoor.Jar
open Go.RowKit Go.Shelf Url Ck Yld
attribute [local go_sem] Oper.semAt_some
set_option linter.unusedVariables false
theorem drop_getElemZ {α : Type} (l : List α) (k : Nat) (h : k < l.length) : ∃ x, l[k]? = some x ∧ l.drop k = x :: l.drop (k + 1) :=
  ⟨l[k], List.getElem?_eq_getElem h, List.drop_eq_getElem_cons h⟩
set_option maxRecDepth 100000 in
set_option maxHeartbeats 8000000 in
theorem For3_iter (B9 : Nat) (q : Option Addr) (n c : Nat) (zs : List PZ) (RB : Nat → Prop) (w0 : World) (hb : Boxed w0 B9 106 (.slice q n c)) (hR9 : RB B9) (hRs : ∀ b, RB b → b < w0.heap.size)
    (hrow : 0 < n → ∃ R, q = some ⟨R, 0, none⟩ ∧ PRow w0 R n c zs ∧ RB R) (hl : zs.length = n) (hz : ∀ z ∈ zs, CAt w0 z.1 ∧ Small 4096 z.1.2 ∧ ∀ b, blkZ z.1 b → RB b) (hn : n ≤ 1048576) :
    IterC Tryz.prog 73 #[.pointer (some ⟨B9, 0, none⟩)] (CkArg RB) (zs.map fun z => z.1.2) RB w0 := by
  intro l' J Jx W hW hJ hJx hY h0
  refine (callsIn_wide (n := 1)).1 ?_
  refine callsIn_of_wp Tryz.func73 rfl trivial ?_ rfl
  simp only [Tryz.ntmps73, List.size_toArray, List.length_cons, List.length_nil, Nat.reduceAdd, Nat.reduceSub, Array.replicate_succ, Array.replicate_zero, List.push_toArray, List.append_toArray, List.nil_append, List.cons_append]
  have k1 := (hW.boxed hb hR9).cell
  have HRow := Lib.hid hrow
  have HZ := Lib.hid hz
  have HL := Lib.hid hl
  have HW0 := Lib.hid hW
  have HRs := Lib.hid hRs
  clear hb hrow hz hl hRs
  gi_wp2
  gi_loopw [7] (fun i wr => ∃ k : Nat, ∃ Q : Nat → Prop, k ≤ n ∧ i = .int .i64 k ∧ Hid (Keep RB W wr) ∧ J ((zs.take k).map fun z => z.1.2) Q wr ∧ Hid (∀ b, Q b → b < wr.heap.size)) (fun i _ => n - (intOf i).toNat)
  case atStart => exact ⟨0, fun _ => False, Nat.zero_le _, rfl, Lib.hid (Keep.refl _ _), h0, Lib.hid (fun _ h => h.elim)⟩
  case round =>
    obtain ⟨k, Q, hk, rfl, HK, hJr, HQ⟩ := hrel
    by_cases hlt : k < n
    · obtain ⟨R, rfl, hp, hRR⟩ := HRow.out (by omega)
      have kw : Keep RB w0 wr := HW0.out.trans HK.out
      have hc0 := hp.keep kw hRR
      obtain ⟨z, hzk, hd⟩ := drop_getElemZ zs k (by rw [HL.out]; exact hlt)
      have hc := hc0.cells hzk
      obtain ⟨hzc, hzs, hzb⟩ := HZ.out z (List.mem_of_getElem? hzk)
      obtain ⟨X, hX⟩ : ∃ X, wr.alloc (.cells (plRow z).toArray 105) = X := ⟨_, rfl⟩
      have A1 : Below wr.heap.size wr X := by rw [← hX]; exact below_alloc _
      have hcX : CAt X z.1 := (hzc.keep kw hzb).soft (Soft.of_below A1)
      have con := apart_any z.1 X hcX hzs
      have hXsz : X.heap.size = wr.heap.size + 1 := by rw [← hX]; simp
      have HT := Lib.hid (take_snocA zs k z hzk)
      have HA1 := Lib.hid A1
      have HC := Lib.hid (show z.1.2 = z.1.2 from rfl)
      have HE := Lib.hid (show (zs.map fun z => z.1.2) = ((zs.take k).map fun z => z.1.2) ++ z.1.2 :: ((zs.drop (k + 1)).map fun z => z.1.2) by
        conv => lhs; rw [← List.take_append_drop k zs, hd, List.map_append, List.map_cons])
      have HTK := Lib.hid (show ((zs.take (k + 1)).map fun z => z.1.2) = ((zs.take k).map fun z => z.1.2) ++ [z.1.2] by rw [HT.out, List.map_append]; rfl)
      clear hp hc0 hzk hd hzc hzs hzb hcX HC HT kw
      obtain ⟨ck, hck⟩ : ∃ ck, z.1.2 = ck := ⟨_, rfl⟩
      rw [hck] at HE HTK con
      clear hck
      obtain ⟨⟨⟨⟨⟨zq1, zn1, zc1⟩, ⟨zq2, zn2, zc2⟩⟩, ⟨zq3, zn3, zc3⟩⟩, ⟨zl1, zl2, zl3, zl4, zage, zsec⟩⟩, ⟨⟨⟨zq4, zn4, zc4⟩, ⟨zq5, zn5, zc5⟩, ⟨zq6, zn6, zc6⟩, ⟨zq7, zn7, zc7⟩, ⟨zq8, zn8, zc8⟩⟩, ⟨zs1, zs2, zs3, zs4, zs5, zs6, zs7, zs8⟩⟩, zm⟩ := z
      simp only [plRow, vC, ckRow] at con hX
      have c0 : wr.cell? ⟨R, k * 15, none⟩ = some (.slice zq1 zn1 zc1) := hc 0 _ rfl
      have c1 : wr.cell? ⟨R, k * 15 + 1, none⟩ = some (.slice zq2 zn2 zc2) := hc 1 _ rfl
      have c2 : wr.cell? ⟨R, k * 15 + 2, none⟩ = some (.slice zq3 zn3 zc3) := hc 2 _ rfl
      have c3 : wr.cell? ⟨R, k * 15 + 3, none⟩ = some (.string ⟨zl4.toArray⟩) := hc 3 _ rfl
      have c4 : wr.cell? ⟨R, k * 15 + 4, none⟩ = some (.int .i64 zage) := hc 4 _ rfl
      have c5 : wr.cell? ⟨R, k * 15 + 5, none⟩ = some (.bool zsec) := hc 5 _ rfl
      have c6 : wr.cell? ⟨R, k * 15 + 6, none⟩ = some (.slice zq4 zn4 zc4) := hc 6 _ rfl
      have c7 : wr.cell? ⟨R, k * 15 + 7, none⟩ = some (.slice zq5 zn5 zc5) := hc 7 _ rfl
      have c8 : wr.cell? ⟨R, k * 15 + 8, none⟩ = some (.int .i64 zs3) := hc 8 _ rfl
      have c9 : wr.cell? ⟨R, k * 15 + 9, none⟩ = some (.slice zq6 zn6 zc6) := hc 9 _ rfl
      have c10 : wr.cell? ⟨R, k * 15 + 10, none⟩ = some (.slice zq7 zn7 zc7) := hc 10 _ rfl
      have c11 : wr.cell? ⟨R, k * 15 + 11, none⟩ = some (.slice zq8 zn8 zc8) := hc 11 _ rfl
      have c12 : wr.cell? ⟨R, k * 15 + 12, none⟩ = some (.bool zs7) := hc 12 _ rfl
      have c13 : wr.cell? ⟨R, k * 15 + 13, none⟩ = some (.bool zs8) := hc 13 _ rfl
      have c14 : wr.cell? ⟨R, k * 15 + 14, none⟩ = some (.int .i64 zm) := hc 14 _ rfl
      have HXX := Lib.hid hX
      clear hc hX A1
      gi_wp2_with fail
      rw [HXX.out]
      refine ⟨trivial, (callsIn_wide.2 con).mono ?_⟩
      rintro e w3 ⟨zz, rfl, hzz, hcz, hbz, hb3⟩
      have hb4 : Below wr.heap.size wr w3 := HA1.out.trans (hb3.mono HA1.out.size)
      have hs3 := hb3.size
      obtain ⟨fn, tmps, assign, body, hy, hR⟩ := yield_argG (W2 := wr) (w4 := w3) (G := blkZ zz) (args := #[.agg (ckRow zz).toArray]) hJ hY HE.out hJr HQ.out hb4 (fun b h => by
        have h1 := hbz b h
        have h2 := hcz.lt b h
        omega) ⟨zz, hzz, rfl, hcz, fun b h => .inl h⟩
      clear con c0 c1 c2 c3 c4 c5 c6 c7 c8 c9 c10 c11 c12 c13 c14 k1 hcz hbz hb3 hb4 hs3 hY
      gi_wp2_with fail
      refine hR.mono ?_
      rintro e W5 ⟨ok, rfl, hkp, Q', hQQ, hQl', hpost⟩
      have hk5 : Keep RB W W5 := HK.out.trans (hkp.mono fun b _ h => .inl h)
      clear hR hy hkp
      cases ok with
      | false =>
        have hj5 := (hpost.resolve_left (by simp)).2
        clear hpost
        gi_wp2
        refine bodyPost_ret (results_none rfl _ _ _) rfl ?_
        exact ⟨⟨_, rfl⟩, Q', hQl', .inr ⟨((zs.take k).map fun z => z.1.2) ++ [ck], _, by rw [List.append_assoc]; exact HE.out, hj5⟩⟩
      | true =>
        have hj5 := (hpost.resolve_right (by simp)).2
        clear hpost
        gi_wp2
        go_roundw
        case rel => exact ⟨k + 1, Q', by omega, by go_num, Lib.hid hk5, by rw [HTK.out]; exact hj5, Lib.hid hQl'⟩
        case measure => simp [intOf]; omega
    · have HX2 := Lib.hid (show zs.take k = zs from List.take_of_length_le (by rw [HL.out]; omega))
      clear hY
      gi_wp2
      refine bodyPost_end (results_none rfl _ _ _) rfl ?_
      exact ⟨⟨_, rfl⟩, Q, HQ.out, .inl (by have h := hJr; rw [HX2.out] at h; exact h)⟩
end Go.Proofs.YtniehbjoogaccaaGreatDoor.Jar
namespace Go.Proofs.YtniehbjoogaccaaGreatDoor.Jar
open Go.RowKit Go.Shelf Url Ck
attribute [local go_sem] Oper.semAt_some
set_option linter.unusedVariables false
def OkZ (u : U) : Prop := u = ⟨[], [], 0, [], [], [], false, false⟩ ∨ (Url.Ok u ∧ (textU u).length ≤ 4096)
def ItOut {α : Type} (Arg : (Nat → Prop) → α → Array Value → (Nat → Prop) → World → Prop) (xs : List α) (w : World) (e : Ending) (w' : World) : Prop :=
  ∃ (gf : Nat) (lb : Array Value) (RB : Nat → Prop), e = .returned (.func (.func gf) #[] lb) ∧ (∀ args w, (callFunc gf args).run Tryz.prog w = .ok (.enter gf args) w) ∧ IterC Tryz.prog gf lb (Arg RB) xs RB w' ∧ (∀ b, RB b → b < w'.heap.size) ∧ Below w.heap.size w w'
def ForOut (xs : List Ck) (w : World) (e : Ending) (w' : World) : Prop :=
  ∃ (gf : Nat) (lb : Array Value) (RB : Nat → Prop), e = .returned (.func (.func gf) #[] lb) ∧ (∀ args w, (callFunc gf args).run Tryz.prog w = .ok (.enter gf args) w) ∧ IterC Tryz.prog gf lb (CkArg RB) xs RB w' ∧ (∀ b, RB b → b < w'.heap.size) ∧ Below w.heap.size w w' ∧
    (∀ b, RB b → w.heap.size ≤ b ∨ ∃ i z, w'.cell? ⟨b, i, none⟩ = some (.int .u8 z)) ∧ xs.length ≤ 8 ∧ ∀ x ∈ xs, Small 4096 x
theorem blk_u8 {w : World} {z : C3} {l : List UInt8} (h : By w (vC z) l) {b : Nat} (hb : blk z b) : ∃ i n, w.cell? ⟨b, i, none⟩ = some (.int .u8 n) := by
  obtain ⟨q, n, c⟩ := z
  obtain ⟨a, rfl, h0, rfl⟩ := hb
  obtain ⟨h1, h2, h3, h4, h5⟩ := h.at
  obtain ⟨b, o, he, hc⟩ := h5.at h0
  cases he
  exact ⟨o + 0, _, hc 0 h0⟩
theorem okz_host {u : U} (h : OkZ u) : u.host.length ≤ 1099511627775 := by
  rcases h with rfl | ⟨-, h⟩
  · exact Nat.zero_le _
  · have := (url_lens u h).1
    omega
theorem JarIn.zs {M : Nat → Prop} {v : Value} {l : List En} {w : World} (h : JarIn M v l w) {k : Key} {zs : List PZ} (hz : zs.map enZ = (l.filter (mine k)).map srvE) : (∀ z ∈ zs, EOk (enZ z)) ∧ zs.length ≤ 8 := by
  obtain ⟨pb, mv, ks, f, hp, h1, h2, h3, h4, h5, h6, h7⟩ := h
  constructor
  · intro z hm
    have : enZ z ∈ (l.filter (mine k)).map srvE := by rw [← hz]; exact List.mem_map.2 ⟨z, hm, rfl⟩
    obtain ⟨e, he, hq⟩ := List.mem_map.1 this
    rw [← hq]
    exact (h6 e (List.mem_filter.1 he).1).srv
  · have := congrArg List.length hz
    rw [List.length_map, List.length_map] at this
    rw [this]
    exact h7 k
theorem for_zs {l : List En} {k : Key} {zs : List PZ} (x : U) (now : Int) (hz : zs.map enZ = (l.filter (mine k)).map srvE) :
    (∀ z ∈ zs.filter (fun z => !(overE now (enZ z) || !meantE x (enZ z))), Jar.hz z ≤ longest (hereJ k x now l)) ∧
    (descBy Jar.hz (longest (hereJ k x now l)) (zs.filter fun z => !(overE now (enZ z) || !meantE x (enZ z)))).map (fun z => z.1.2) = (forJ k x now l).map En.c := by
  have h1 : (zs.filter fun z => !(overE now (enZ z) || !meantE x (enZ z))).map enZ = (hereJ k x now l).map srvE := by
    have e1 : (zs.filter fun z => !(overE now (enZ z) || !meantE x (enZ z))).map enZ = (zs.map enZ).filter fun e => !(overE now e || !meantE x e) := by
      rw [List.filter_map]; rfl
    rw [e1, hz, List.filter_map]
    unfold hereJ
    congr 1
    refine List.filter_congr fun e _ => ?_
    show (!(overE now (srvE e) || !meantE x (srvE e))) = _
    rw [over_srv, meant_srv]
    cases overE now e <;> cases meantE x e <;> rfl
  constructor
  · intro z hm
    have : enZ z ∈ (hereJ k x now l).map srvE := by rw [← h1]; exact List.mem_map.2 ⟨z, hm, rfl⟩
    obtain ⟨e, he, hq⟩ := List.mem_map.1 this
    show homeE (enZ z) ≤ _
    rw [← hq, home_srv]
    exact home_longest _ e he
  · have e2 : (descBy Jar.hz (longest (hereJ k x now l)) (zs.filter fun z => !(overE now (enZ z) || !meantE x (enZ z)))).map enZ = (forJ k x now l).map srvE := by
      have a1 := desc_map enZ homeE (longest (hereJ k x now l)) (zs.filter fun z => !(overE now (enZ z) || !meantE x (enZ z)))
      have a2 := desc_map srvE homeE (longest (hereJ k x now l)) (hereJ k x now l)
      rw [h1] at a1
      refine a1.trans ?_
      rw [← a2]
      rfl
    have e3 := congrArg (List.map En.c) e2
    rw [List.map_map, List.map_map] at e3
    exact e3
theorem three_box (w : World) (os us : Array Value) (m : Value) : ∃ W, ((w.alloc (.cells os 62)).alloc (.cells us 33)).alloc (.cells #[m] 3) = W ∧ Box w.heap.size os W ∧ Box (w.heap.size + 1) us W ∧ W.cell? ⟨w.heap.size + 2, 0, none⟩ = some m ∧ Below w.heap.size w W ∧ W.heap.size = w.heap.size + 3 := by
  have b1 : Below (w.alloc (.cells os 62)).heap.size (w.alloc (.cells os 62)) (((w.alloc (.cells os 62)).alloc (.cells us 33)).alloc (.cells #[m] 3)) := ((Below.refl _ _).alloc (Nat.le_refl _) _).alloc (by simp) _
  refine ⟨_, rfl, (Box.new w os _).on b1, ?_, ?_, (below_alloc _).trans (b1.mono (by simp)), by simp⟩
  · have := (Box.new (w.alloc (.cells os 62)) us 33).on (below_alloc (.cells #[m] 3))
    rw [World.size_alloc] at this
    exact this
  · have := (Boxed.new ((w.alloc (.cells os 62)).alloc (.cells us 33)) 3 m).cell
    simp only [World.size_alloc] at this
    exact this
theorem own_keepP {w w' : World} {base n : Nat} {v : Value} {xs : List PZ} {S : Nat → Prop} (h : w.ownsRow base 105 15 v n (xs.flatMap plRow)) (hk : Keep S w w') (hS : ∀ b, rowB v b → S b) : w'.ownsRow base 105 15 v n (xs.flatMap plRow) := by
  rcases prow_of h with ⟨rfl, rfl, rfl⟩ | ⟨R, cap, rfl, hb, hp⟩
  · exact World.ownsRow_nil _ _ _ _
  · exact (hp.keep hk (hS R ⟨_, _, _, rfl⟩)).own hb
theorem row_lt {w : World} {base n : Nat} {v : Value} {xs : List PZ} (h : w.ownsRow base 105 15 v n (xs.flatMap plRow)) : ∀ b, rowB v b → base ≤ b ∧ b < w.heap.size := fun b hh => by
  obtain ⟨o', n', c', rfl⟩ := hh
  rcases prow_of h with ⟨h0, -, -⟩ | ⟨R, cap, h0, hb, hp⟩
  · cases h0
  · cases h0
    exact ⟨hb, hp.lt⟩
theorem desc_mem {α : Type} {h : α → Nat} {M : Nat} {l : List α} {x : α} (hx : x ∈ descBy h M l) : x ∈ l := by
  unfold descBy at hx
  obtain ⟨n, -, h2⟩ := List.mem_flatMap.1 hx
  exact (List.mem_filter.1 h2).1
theorem orgVk (u : U) : Org.orgV u.scheme u.host u.port 0 = MapO.keyV (keyU u) := rfl
def OfOut (l : List En) (k : Key) (w : World) (e : Ending) (w' : World) : Prop := ∃ v zs, e = .returned v ∧ PlV w' v zs ∧ zs.map enZ = (l.filter (mine k)).map srvE ∧ Below w.heap.size w w'
set_option maxRecDepth 100000 in
set_option maxHeartbeats 16000000 in
theorem For_gen (p : Option Addr) (l : List En) (o x : U) (b : Value) (now : Int) (w : World) (hof : ∀ W, Below w.heap.size w W → Calls Tryz.prog 66 #[.pointer p, MapO.keyV (keyU o)] W (OfOut l (keyU o) W))
    (hj : ∀ zs : List PZ, zs.map enZ = (l.filter (mine (keyU o))).map srvE → (∀ z ∈ zs, EOk (enZ z)) ∧ zs.length ≤ 8) (ho : OkZ o) (hb : UrlIn w b x) (hx : OkZ x) (hn : 0 ≤ now ∧ now ≤ 9223372036854775807) (hG : Gl w) :
    Calls Tryz.prog 20 #[.pointer p, Org.orgV o.scheme o.host o.port 0, b, .int .i64 now] w (ForOut ((forJ (keyU o) x now l).map En.c) w) := by
  obtain ⟨cs, rfl⟩ : ∃ cs, b = .agg cs := by
    obtain ⟨_, _, _, _, _, _, _, _, _, _, _, _, _, _, _, he, -⟩ := hb
    exact ⟨_, he⟩
  obtain ⟨W, hW, bO, bU, bN, A1, hWs⟩ := three_box w #[.string ⟨o.scheme.toArray⟩, .string ⟨o.host.toArray⟩, .int .i64 o.port, .int .i64 0] cs (.int .i64 now)
  have con := hof W A1
  unfold OfOut at con
  rw [← orgVk] at con
  have HJ := Lib.hid hj
  have HU := Lib.hid (hb.on A1)
  have HG := Lib.hid (hG.on A1)
  have HX := Lib.hid hx
  have HZ := Lib.hid (fun (zs : List PZ) hz => for_zs (l := l) (k := keyU o) (zs := zs) x now hz)
  have HW := Lib.hid hW
  have A0 := Lib.hid A1
  have HN := Lib.hid bN
  have HB := Lib.hid bU
  obtain ⟨fs, hfs⟩ : ∃ fs, (forJ (keyU o) x now l).map En.c = fs := ⟨_, rfl⟩
  rw [hfs] at HZ ⊢
  obtain ⟨ls, hls⟩ : ∃ ls, (l.filter (mine (keyU o))).map srvE = ls := ⟨_, rfl⟩
  rw [hls] at HZ HJ con
  obtain ⟨Mx, hMx⟩ : ∃ Mx, longest (hereJ (keyU o) x now l) = Mx := ⟨_, rfl⟩
  rw [hMx] at HZ
  clear hof hj hb hx hG hfs hls hMx hW A1 bU bN
  simp only [Org.orgV] at con ⊢
  have x0 := bO 0 _ rfl
  have x1 := bO 1 _ rfl
  have x2 := bO 2 _ rfl
  have x3 := bO 3 _ rfl
  clear bO
  go_enter Tryz.func20, Tryz.ntmps20
  go_upto_region 1 with fail
  rw [HW.out]
  go_wp2_with fail
  refine con.mono ?_
  rintro e w1 ⟨v, zs, rfl, hv, hz, hb1⟩
  clear con x0 x1 x2 x3
  obtain ⟨hzo, hzl⟩ := HJ.out zs hz
  have hat := hv.at
  have pr := pred_for w1 (w.heap.size + 2) (w.heap.size + 1) now (.agg cs) x zs cs ⟨by omega, hn.2⟩ (cell_on HN.out hb1) rfl (Box.on HB.out hb1) (HU.out.on hb1) (okz_host HX.out) (fun z hm => ⟨hat z hm, hzo z hm⟩)
  have con := without_any 67 #[.pointer (some ⟨w.heap.size + 2, 0, none⟩), .pointer (some ⟨w.heap.size + 1, 0, none⟩)] _ v zs w1 (enters_of Tryz.func67 (by kernel_rfl) rfl) pr hv (by omega)
  obtain ⟨hle, heq⟩ := HZ.out zs hz
  have HQ := Lib.hid (And.intro hle heq)
  have HAT := Lib.hid (And.intro hat hzo)
  have HL := Lib.hid hzl
  have B1 := Lib.hid hb1
  obtain ⟨ws, hws⟩ : ∃ ws, zs.filter (fun z => !(overE now (enZ z) || !meantE x (enZ z))) = ws := ⟨_, rfl⟩
  rw [hws] at con HQ
  have hwm : ∀ z ∈ ws, PAt w1 z ∧ EOk (enZ z) := fun z hm => by
    rw [← hws] at hm
    exact ⟨hat z (List.mem_filter.1 hm).1, hzo z (List.mem_filter.1 hm).1⟩
  have hwl : ws.length ≤ 19 := by
    rw [← hws]
    exact Nat.le_trans (List.length_filter_le _ _) (by omega)
  have hwl8 : ws.length ≤ 8 := by rw [← hws]; exact Nat.le_trans (List.length_filter_le _ _) hzl
  have HWL8 := Lib.hid hwl8
  have HWM := Lib.hid (And.intro hwm hwl)
  obtain ⟨q, c, rfl⟩ := hv.form
  clear hv hz hzo hzl hat pr hle heq hws hwm hwl hwl8 hb1 HJ HZ HN HB HU HAT HX
  go_wp2_with fail
  refine con.mono ?_
  rintro e w2 ⟨v2, m, rfl, hr, hb2⟩
  have hm : ws.length = m := by have := hr.1; rw [plrows_len] at this; omega
  have hBox := Boxed.new w2 106 v2
  obtain ⟨W3, hW3⟩ : ∃ W3, w2.alloc (.cells #[v2] 106) = W3 := ⟨_, rfl⟩
  have A3 : Below w2.heap.size w2 W3 := by rw [← hW3]; exact below_alloc _
  have bx3 : Boxed W3 w2.heap.size 106 v2 := by rw [← hW3]; exact hBox
  have hr3 : W3.ownsRow w1.heap.size 105 15 v2 m (ws.flatMap plRow) := own_keepP hr ((Keep.of_below A3).mono fun b hb _ => hb) (fun b hb => (row_lt hr b hb).2)
  have con2 := sort_any w1 v2 m ws W3 hr3 HWM.out.1 (hb2.trans (A3.mono hb2.size)) (hm ▸ HWM.out.2) (HG.out.on B1.out) Mx HQ.out.1
  have HB2 := Lib.hid hb2
  have HB3 := Lib.hid A3
  have HBX := Lib.hid bx3
  have HH3 := Lib.hid hW3
  have k1 := bx3.cell
  have hnb : ¬ rowB v2 w2.heap.size := fun hh => Nat.lt_irrefl _ (row_lt hr _ hh).2
  have HNB := Lib.hid hnb
  have HR2 := Lib.hid hr
  have HM := Lib.hid hm
  clear con hb2 hr hBox hW3 A3 bx3 hr3 hnb hm
  have hv2 : ∃ q c, v2 = .slice q m c := by
    rcases HR2.out.2 with ⟨rfl, rfl⟩ | ⟨g, cap, cur, rfl, -⟩
    · exact ⟨_, _, rfl⟩
    · exact ⟨_, _, rfl⟩
  obtain ⟨q2, c2, rfl⟩ := hv2
  go_upto_region 2 with fail
  rw [HH3.out]
  go_wp2_with fail
  refine con2.mono ?_
  rintro e w4 ⟨rfl, hr4, hk4⟩
  clear con2 k1
  have H4 := Lib.hid hr4
  have K4 := Lib.hid hk4
  clear hr4 hk4
  go_wp2
  go_ret
  have hr2 := HR2.out
  have hr4 := H4.out
  have hk4 := K4.out
  have hs3 : W3.heap.size = w2.heap.size + 1 := by rw [← HH3.out]; simp
  have hrow := row_lt hr2
  have hs2 := HB2.out.size
  have b34 : Below w1.heap.size W3 w4 := (hk4.mono (T := (· < w1.heap.size)) fun b hb h => ⟨hb, fun hh => by have := hrow b hh; omega⟩).below (by omega)
  have b14 : Below w1.heap.size w1 w4 := (HB2.out.trans (HB3.out.mono hs2)).trans b34
  have hs4 := hk4.size
  have hwl : (descBy Jar.hz Mx ws).length = m := by have := hr4.1; rw [plrows_len] at this; omega
  have hRs : ∀ b, (b = w2.heap.size ∨ rowB (.slice q2 m c2) b ∨ ∃ z ∈ descBy Jar.hz Mx ws, blkZ z.1 b) → b < w4.heap.size := by
    rintro b (rfl | hb | ⟨z, hz, hb⟩)
    · omega
    · exact (row_lt hr4 b hb).2
    · exact ((HWM.out.1 z (desc_mem hz)).1.on b14).1.lt b hb
  refine ⟨_, _, fun b => b = w2.heap.size ∨ rowB (.slice q2 m c2) b ∨ ∃ z ∈ descBy Jar.hz Mx ws, blkZ z.1 b, rfl, enters_of Tryz.func73 (by kernel_rfl) rfl, ?_, hRs, A0.out.trans ((B1.out.trans (b14.mono B1.out.size)).mono A0.out.size), ?_, ?_, ?_⟩
  rotate_left
  · rintro b (rfl | hb | ⟨z, hz, hb⟩)
    · exact .inl (by have := A0.out.size; have := B1.out.size; omega)
    · exact .inl (by have := A0.out.size; have := B1.out.size; have := hrow b hb; omega)
    · right
      have hz4 := ((HWM.out.1 z (desc_mem hz)).1.on b14).1
      rcases hb with hb | hb | hb
      · exact blk_u8 hz4.1 hb
      · exact blk_u8 hz4.2.1 hb
      · exact blk_u8 hz4.2.2 hb
  · have := congrArg List.length HQ.out.2
    rw [List.length_map] at this
    rw [← this, hwl]
    have := HWL8.out
    have := HM.out
    omega
  · rw [← HQ.out.2]
    intro x hx
    obtain ⟨z, hz, rfl⟩ := List.mem_map.1 hx
    exact (HWM.out.1 z (desc_mem hz)).2.small
  rw [← HQ.out.2]
  refine For3_iter w2.heap.size q2 m c2 (descBy Jar.hz Mx ws) _ w4 (hk4.boxed HBX.out ⟨by omega, HNB.out⟩) (.inl rfl) hRs (fun h0 => ?_) hwl (fun z hz => ?_) (by have := HWM.out.2; have := HM.out; omega)
  · rcases prow_of hr4 with ⟨-, h1, -⟩ | ⟨R, cap, h1, -, hp⟩
    · omega
    · cases h1
      exact ⟨R, rfl, hp, .inr (.inl ⟨_, _, _, rfl⟩)⟩
  · obtain ⟨h1, h2⟩ := HWM.out.1 z (desc_mem hz)
    exact ⟨(h1.on b14).1, h2.small, fun b hb => .inr (.inr ⟨z, hz, hb⟩)⟩
theorem For_out (M : Nat → Prop) (p : Addr) (l : List En) (o x : U) (b : Value) (now : Int) (w : World) (h : JarIn M (.pointer (some p)) l w) (ho : OkZ o) (hb : UrlIn w b x) (hx : OkZ x) (hn : 0 ≤ now ∧ now ≤ 9223372036854775807) (hG : Gl w) :
    Calls Tryz.prog 20 #[.pointer (some p), Org.orgV o.scheme o.host o.port 0, b, .int .i64 now] w (ForOut ((forJ (keyU o) x now l).map En.c) w) :=
  For_gen (some p) l o x b now w (fun W A1 => of_any M p l (keyU o) W (h.keep ((Keep.of_below A1).mono fun b hb _ => hb) (Soft.of_below A1))) (fun zs hz => h.zs (k := keyU o) (zs := zs) hz) ho hb hx hn hG
set_option maxRecDepth 100000 in
theorem of_nil (k : Key) (w : World) : Calls Tryz.prog 66 #[.pointer none, MapO.keyV k] w (OfOut [] k w) := by
  have hb : Below w.heap.size w (w.alloc (.cells #[.string ⟨k.1.toArray⟩, .string ⟨k.2.1.toArray⟩, .int .i64 k.2.2, .int .i64 0] 62)) := below_alloc _
  unfold MapO.keyV Org.orgV
  go_enter Tryz.func66, Tryz.ntmps66
  go_wp2
  go_ret
  exact ⟨_, [], rfl, PlV.nil _, rfl, hb⟩
theorem For_nil (o x : U) (b : Value) (now : Int) (w : World) (ho : OkZ o) (hb : UrlIn w b x) (hx : OkZ x) (hn : 0 ≤ now ∧ now ≤ 9223372036854775807) (hG : Gl w) :
    Calls Tryz.prog 20 #[.pointer none, Org.orgV o.scheme o.host o.port 0, b, .int .i64 now] w (ForOut [] w) :=
  For_gen none [] o x b now w (fun W _ => of_nil (keyU o) W) (fun zs hz => by
    have h0 : zs = [] := List.map_eq_nil_iff.1 hz
    subst h0
    exact ⟨fun z hm => absurd hm (by simp), Nat.zero_le _⟩) ho hb hx hn hG
set_option maxRecDepth 100000 in
set_option maxHeartbeats 4000000 in
theorem Len_nil (o : U) (w : World) : Calls Tryz.prog 30 #[.pointer none, Org.orgV o.scheme o.host o.port 0] w fun e w' => e = .returned (.int .i64 0) ∧ Below w.heap.size w w' := by
  obtain ⟨W, hW⟩ : ∃ W, w.alloc (.cells #[.string ⟨o.scheme.toArray⟩, .string ⟨o.host.toArray⟩, .int .i64 o.port, .int .i64 0] 62) = W := ⟨_, rfl⟩
  have A1 : Below w.heap.size w W := by rw [← hW]; exact below_alloc _
  have BK : Box w.heap.size #[.string ⟨o.scheme.toArray⟩, .string ⟨o.host.toArray⟩, .int .i64 o.port, .int .i64 0] W := by rw [← hW]; exact Box.new w _ _
  have con := of_nil (keyU o) W
  unfold OfOut at con
  rw [← orgVk] at con
  have A0 := Lib.hid A1
  have HW := Lib.hid hW
  unfold Org.orgV at con ⊢
  have x0 := BK 0 _ rfl
  have x1 := BK 1 _ rfl
  have x2 := BK 2 _ rfl
  have x3 := BK 3 _ rfl
  clear A1 hW BK
  go_enter Tryz.func30, Tryz.ntmps30
  go_upto_region 1 with fail
  rw [HW.out]
  go_wp2_with fail
  refine con.mono ?_
  rintro e w2 ⟨v, zs, rfl, hv, hz, hb⟩
  obtain ⟨q, c, rfl⟩ := hv.form
  have hl : zs.length = 0 := by have := congrArg List.length hz; simpa using this
  clear con hv hz x0 x1 x2 x3
  rw [hl]
  go_wp2
  go_ret
  exact ⟨rfl, A0.out.trans (hb.mono A0.out.size)⟩
end Go.Proofs.YtniehbjoogaccaaGreatDoor.Jar
