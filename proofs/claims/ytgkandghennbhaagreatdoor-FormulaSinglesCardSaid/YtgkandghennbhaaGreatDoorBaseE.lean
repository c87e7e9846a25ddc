/- The texts that these laws rest on, put together, part 5. Conditions: as each says. -/
import Derived.Test.YtgkandghennbhaaGreatDoorBaseD

namespace Go.Proofs.YtgkandghennbhaaGreatDoor.Frm
open Go.RowKit Go.Shelf Go.Sort Url Org Cls
attribute [local go_sem] Oper.semAt_some
set_option linter.unusedVariables false

/-- A clause, as yield takes it. -/
def ClArg (z : Cl) (args : Array Value) (G : Nat → Prop) (_W : World) : Prop := args = #[.agg #[encC z]] ∧ G = fun _ => False

theorem frmAll_any (q : Option Addr) (n c : Nat) (w : World) :
    Calls Tryz.prog 28 #[.agg #[.slice q n c]] w fun e w' => e = .returned (.func (.func 81) #[] #[.pointer (some ⟨w.heap.size + 1, 0, none⟩)]) ∧
      w' = (w.alloc (.cells #[.slice q n c] 26)).alloc (.cells #[.slice q n c] 24) := by
  have con : ∀ W : World, Calls Tryz.prog 51 #[.slice q n c] W fun e w' => e = .returned (.func (.func 81) #[] #[.pointer (some ⟨W.heap.size, 0, none⟩)]) ∧ w' = W.alloc (.cells #[.slice q n c] 24) := fun W => by
    go_enter Tryz.func51, Tryz.ntmps51
    go_wp2
    go_ret
    exact ⟨rfl, rfl⟩
  go_enter Tryz.func28, Tryz.ntmps28
  go_wp2_with fail
  refine (con _).mono ?_
  rintro e w' ⟨rfl, rfl⟩
  go_wp2
  go_ret
  exact ⟨by simp, rfl⟩

set_option maxRecDepth 100000 in
set_option maxHeartbeats 2000000 in
theorem Values1_iter (B : Nat) (q : Option Addr) (n c : Nat) (zs : List Cl) (RB : Nat → Prop) (w0 : World) (hm : n ≤ 140737488355328)
    (h : SlIn encC w0 q n zs) (hq : ∀ a, q = some a → 0 < n → RB a.block) (b : Boxed w0 B 24 (.slice q n c)) (hR : RB B) (hRs : ∀ b, RB b → b < w0.heap.size) :
    IterC Tryz.prog 81 #[.pointer (some ⟨B, 0, none⟩)] ClArg zs RB w0 := by
  intro l J Jx W hW hJ hJx hY h0
  refine (callsIn_wide (n := 1)).1 ?_
  refine callsIn_of_wp Tryz.func81 rfl trivial ?_ rfl
  simp only [Tryz.ntmps81, List.size_toArray, List.length_cons, List.length_nil, Nat.reduceAdd, Nat.reduceSub, Array.replicate_succ, Array.replicate_zero, List.push_toArray, List.append_toArray, List.nil_append, List.cons_append]
  have k1 := (hW.boxed b hR).cell
  have hl := Lib.hid h.1
  gi_wp2
  gi_loopw [7] (fun i wr => ∃ k : Nat, ∃ pre, k ≤ n ∧ i = .int .i64 k ∧ Keep RB W wr ∧ Hid (zs = pre ++ zs.drop k) ∧ J pre (fun _ => False) wr) (fun i _ => n - (intOf i).toNat)
  case atStart => exact ⟨0, [], Nat.zero_le _, rfl, Keep.refl _ _, rfl, h0⟩
  case round =>
    obtain ⟨k, pre, hk, rfl, hK, HX, hJr⟩ := hrel
    by_cases hlt : k < n
    · obtain ⟨bb, o, rfl, hb, hc⟩ := (h.keep (hW.trans hK) hq).at (by omega)
      obtain ⟨x, hx, hd⟩ := drop_getElem zs k (by rw [hl.out]; exact hlt)
      obtain ⟨⟨xq, xn, xc⟩, xp⟩ := x
      have hck : wr.cell? ⟨bb, o + k, none⟩ = some (.slice xq xn xc) := hc k _ hx
      have HX2 := Lib.hid (show zs = pre ++ ((xq, xn, xc), xp) :: zs.drop (k + 1) by rw [← hd]; exact HX.out)
      have hka : ∀ S, Keep S wr (wr.alloc (.cells #[.slice xq xn xc] 44)) := fun S => Keep.alloc S _ _
      obtain ⟨fn, tmps, assign, body, hy, hRR⟩ := hY pre ((xq, xn, xc), xp) _ (fun _ => False) (fun _ => False) #[.agg #[.slice xq xn xc]] (wr.alloc (.cells #[.slice xq xn xc] 44)) HX2.out (hJ _ _ _ _ _ hJr (hka _) (fun _ h => h.elim)) (fun _ h => h.elim) ⟨rfl, rfl⟩ (fun _ h => h)
      clear HX hd hx hc hY h hb
      gi_wp2_with fail
      refine hRR.mono ?_
      rintro e W4 ⟨hk3, (⟨rfl, hJ3⟩ | ⟨rfl, hJx3⟩)⟩
      · gi_wp2
        go_roundw
        case rel => exact ⟨k + 1, pre ++ [((xq, xn, xc), xp)], by omega, by go_num, hK.trans ((hka _).trans (hk3.mono fun _ _ h => .inl h)), Lib.hid (show zs = (pre ++ [((xq, xn, xc), xp)]) ++ zs.drop (k + 1) by rw [List.append_assoc]; exact HX2.out), hJ _ _ _ _ _ hJ3 (Keep.refl _ _) (fun _ h => h.elim)⟩
        case measure => simp [intOf]; omega
      · gi_wp2
        refine bodyPost_ret (results_none rfl _ _ _) rfl ?_
        exact ⟨⟨_, rfl⟩, fun _ => False, fun _ h => h.elim, .inr ⟨pre ++ [((xq, xn, xc), xp)], _, by rw [HX2.out, List.append_assoc]; rfl, hJx _ _ _ _ _ hJx3 (Keep.refl _ _) (fun _ h => h.elim)⟩⟩
    · have HX2 := Lib.hid (show zs = pre by rw [HX.out, List.drop_of_length_le (by rw [hl.out]; omega)]; simp)
      clear HX hY h
      gi_wp2
      refine bodyPost_end (results_none rfl _ _ _) rfl ?_
      exact ⟨⟨_, rfl⟩, fun _ => False, fun _ h => h.elim, .inl (by rw [HX2.out]; exact hJr)⟩

set_option maxHeartbeats 1000000 in
theorem Len_any (v : Value) (f : List (List (List UInt8))) (w : World) (h : FrmIs w v f) :
    Calls Tryz.prog 24 #[v] w fun e w' => e = .returned (.int .i64 f.length) ∧ Below w.heap.size w w' := by
  obtain ⟨q, n, c, rfl, _, _, h3⟩ := h
  obtain rfl := h3.len
  clear h3
  go_enter Tryz.func24, Tryz.ntmps24
  go_wp2
  go_ret
  exact ⟨rfl, below_alloc _⟩
theorem Always_any (w : World) : Calls Tryz.prog 22 #[] w fun e w' => e = .returned (.agg #[.slice none 0 0]) ∧ Below w.heap.size w w' := by
  have k0 := (Boxed.new w 26 (.slice none 0 0)).cell
  go_enter Tryz.func22, Tryz.ntmps22
  go_wp2
  refine bodyPost_ret (v := .agg #[.slice none 0 0]) (by simp [results, Tryz.f22, go_sem]) rfl ?_
  exact ⟨rfl, below_alloc _⟩

/-- What lies while the clauses are gone through. -/
def ImpE (w : World) (f : List (List (List UInt8))) (q : Option Addr) (n c : Nat) (pre : List Cl) (W : World) : Prop :=
  Boxed W w.heap.size 26 (.slice q n c) ∧ Boxed W (w.heap.size + 2) 4 (.bool false) ∧ (∀ z ∈ pre, oneB f z.2 = true) ∧ Below w.heap.size w W
def ImpX (w : World) (f g : List (List (List UInt8))) (_ : List Cl) (W : World) : Prop :=
  Boxed W (w.heap.size + 2) 4 (.bool false) ∧ impB f g = false ∧ Below w.heap.size w W

set_option maxRecDepth 100000 in
set_option maxHeartbeats 8000000 in
theorem Implies_any (v1 v2 : Value) (f g : List (List (List UInt8))) (w : World) (h1 : FrmIs w v1 f) (h2 : FrmIs w v2 g) (lf : f.length ≤ 1099511627776) (lg : g.length ≤ 1099511627776) :
    Calls Tryz.prog 13 #[v1, v2] w fun e w' => e = .returned (.bool (impB f g)) ∧ Below w.heap.size w w' := by
  obtain ⟨q1, n1, c1, rfl⟩ := frm_form h1
  obtain ⟨q2, n2, c2, rfl⟩ := frm_form h2
  obtain ⟨_, _, r1⟩ := h1.row
  obtain ⟨_, _, r2⟩ := h2.row
  have e1 := r1.len
  have e2 := r2.len
  obtain ⟨zs, s2, z2, hg⟩ := r2
  refine (callsIn_wide (n := 1)).1 ?_
  refine callsIn_of_wp_marks Tryz.func13 rfl trivial ?_ rfl
  simp only [Tryz.ntmps13, List.size_toArray, List.length_cons, List.length_nil, Nat.reduceAdd, Nat.reduceSub, Array.replicate_succ, Array.replicate_zero, List.push_toArray, List.append_toArray, List.nil_append, List.cons_append]
  obtain ⟨W0, hW0⟩ : ∃ W0, ((w.alloc (.cells #[.slice q1 n1 c1] 26)).alloc (.cells #[.slice q2 n2 c2] 26)).alloc (.cells #[.bool false] 4) = W0 := ⟨_, rfl⟩
  have b0 : Boxed W0 w.heap.size 26 (.slice q1 n1 c1) := hW0 ▸ ((Boxed.new w _ _).alloc _).alloc _
  have b1 : Boxed W0 (w.heap.size + 1) 26 (.slice q2 n2 c2) := by
    have := (Boxed.new (w.alloc (.cells #[.slice q1 n1 c1] 26)) 26 (.slice q2 n2 c2)).alloc (.cells #[.bool false] 4)
    rw [World.size_alloc] at this
    exact hW0 ▸ this
  have b2 : Boxed W0 (w.heap.size + 2) 4 (.bool false) := by
    have := Boxed.new ((w.alloc (.cells #[.slice q1 n1 c1] 26)).alloc (.cells #[.slice q2 n2 c2] 26)) 4 (.bool false)
    rw [World.size_alloc, World.size_alloc] at this
    exact hW0 ▸ this
  have hB0 : Below w.heap.size w W0 := hW0 ▸ (((Below.refl _ w).alloc (Nat.le_refl _) _).alloc (by simp) _).alloc (by simp; omega) _
  have hs0 : W0.heap.size = w.heap.size + 3 := by rw [← hW0]; simp
  have con := frmAll_any q2 n2 c2 W0
  have k1 := b1.cell
  have HW0 := Lib.hid hW0
  clear hW0
  gi_wp2_with fail
  rw [HW0.out]
  gi_wp2_with fail
  refine ⟨trivial, (callsIn_wide.2 con).mono ?_⟩
  rintro e W1 ⟨rfl, hW1⟩
  have bv : Boxed W1 (W0.heap.size + 1) 24 (.slice q2 n2 c2) := by
    have := Boxed.new (W0.alloc (.cells #[.slice q2 n2 c2] 26)) 24 (.slice q2 n2 c2)
    rw [World.size_alloc] at this
    exact hW1 ▸ this
  have hbel : Below W0.heap.size W0 W1 := hW1 ▸ ((Below.refl _ W0).alloc (Nat.le_refl _) _).alloc (by simp) _
  have hs1 : W1.heap.size = W0.heap.size + 2 := by rw [hW1]; simp
  have hB1 := hB0.trans (hbel.mono hB0.size)
  have hit := Values1_iter (W0.heap.size + 1) q2 n2 c2 zs (fun b => b < W1.heap.size ∧ b ≠ w.heap.size + 2) W1 (by omega) (s2.below hB1 s2.lt) (fun a h h' => by have := s2.lt a h h'; omega) bv (by omega) (fun b hb => hb.1)
  replace b0 := (Keep.of_below hbel).boxed b0 b0.lt
  replace b2 := (Keep.of_below hbel).boxed b2 b2.lt
  have HI := Lib.hid (show impB f g = zs.all (fun z => oneB f z.2) by rw [imp_all, hg, List.all_map]; rfl)
  have r1' := r1
  have z2' := z2
  clear con k1 bv hW1 HW0 hg
  gi_wp2
  rw [hs0] at hs1 hit
  refine rf_law (gf := 81) (lb := #[.pointer (some ⟨w.heap.size + 3 + 1, 0, none⟩)]) rfl (enters_of Tryz.func81 (by kernel_rfl) rfl)
    hit (Keep.refl _ _) (fun b hb => hb.1) (fun x args G W h => by rw [h.1]; rfl)
    (Host.EvI W1 (ImpE w f q1 n1 c1)) (Host.EvX W1 (ImpX w f g)) (Host.EvI_abide ?e1) (Host.EvX_abide ?e2)
    ⟨(fun _ h => h.elim), Keep.refl _ _, b0, b2, (fun z hz => by cases hz), hB1⟩ ?round ?done ?stop
  case e1 =>
    rintro pre A B hk ⟨h1, h2, h3, h4⟩
    exact ⟨hk.boxed h1 (by omega), hk.boxed h2 (by omega), h3, h4.trans ((hk.mono fun b _ hb => by omega).below h4.size)⟩
  case e2 =>
    rintro pre A B hk ⟨h1, h3, h4⟩
    exact ⟨hk.boxed h1 (by omega), h3, h4.trans ((hk.mono fun b _ hb => by omega).below h4.size)⟩
  case round =>
    rintro ll pre ⟨⟨xq, xn, xc⟩, x⟩ rest Pv G args Wr hll hxs ⟨hge, hK1, hE1, hE2, hE3, hE4⟩ hPl hGl hPb hGP ⟨harg, rfl⟩
    obtain rfl : args = #[.agg #[.slice xq xn xc]] := harg
    have hxm : ((xq, xn, xc), x) ∈ zs := by rw [hxs]; simp
    clear hxs
    have hll2 := hPb ll hPl
    gi_wp2
    refine ⟨Keep.alloc _ _ _, fun W2 hk2 hs2 r hr => ?_⟩
    have hka := Keep.alloc (fun _ => True) Wr (.cells #[.slice xq xn xc] 44)
    have bx := hk2.boxed (Boxed.new Wr 44 (.slice xq xn xc)) (by omega)
    have k2 : Keep (fun b => b < W1.heap.size) Wr W2 := (hka.mono fun _ _ _ => trivial).trans (hk2.mono fun b _ hb h => by omega)
    have f1 := k2.boxed hE1 (by omega)
    have f2 := k2.boxed hE2 (by omega)
    have hW2 := hE4.trans ((k2.mono fun b _ h => by omega).below hE4.size)
    have hz := (z2' _ hxm).below hW2
    have con2 := oneImplies_any q1 n1 c1 f (.agg #[.slice xq xn xc]) x W2 (r1'.below hW2) hz.set hz.few (by omega)
    have hK2 : Keep (fun _ => False) W1 W2 := hK1.trans ((hka.mono fun _ _ h => h.elim).trans (hk2.mono fun _ _ h => h.elim))
    have c1' := f1.cell
    have cx := bx.cell
    have hs2' := hW2.size
    have hsz2 : W1.heap.size ≤ W2.heap.size := hK2.size
    clear hk2 hka hr hs2 hz
    obtain ⟨ob, hob⟩ : ∃ ob, oneB f x = ob := ⟨_, rfl⟩
    rw [hob] at con2
    have HO := Lib.hid hob
    clear hob
    cases ob with
    | true =>
      gi_wp2_with fail
      refine ⟨trivial, rfl, (CallsIn.inRound ll (callsIn_wide.2 con2)).mono ?_⟩
      rintro e w' ⟨rfl, hb'⟩
      have kb := Keep.of_below hb'
      clear con2
      gi_wp2
      refine ⟨kb.mono fun b hb _ => hb, fun b hb => hge b hb, hK2.trans (kb.mono fun _ _ h => h.elim), kb.boxed f1 f1.lt, kb.boxed f2 f2.lt, fun z hz => ?_, hW2.trans (hb'.mono hs2')⟩
      rcases List.mem_append.1 hz with h | h
      · exact hE3 z h
      · rw [List.mem_singleton.1 h]; exact HO.out
    | false =>
      have HB := Lib.hid (show impB f g = false by
        rw [HI.out, List.all_eq_false]; exact ⟨_, hxm, by rw [HO.out]; simp⟩)
      gi_wp2_with fail
      refine ⟨trivial, rfl, (CallsIn.inRound ll (callsIn_wide.2 con2)).mono ?_⟩
      rintro e w' ⟨rfl, hb'⟩
      have kb := Keep.of_below hb'
      have g2 := kb.boxed f2 f2.lt
      have zf := g2.frozen
      have zc := g2.cell
      clear con2
      gi_wp2
      have kst : ∀ S : Nat → Prop, ¬ S (w.heap.size + 2) → Keep S w' (w'.setCell ⟨w.heap.size + 2, 0, none⟩ (.bool false)) := fun S h => Keep.setCell _ _ _ h
      refine ⟨(kb.mono fun b hb _ => hb).trans (kst _ (fun h => ?_)), rfl, fun b hb => hge b hb, hK2.trans ((kb.mono fun _ _ h => h.elim).trans (kst _ (fun h => h))), g2.set _, HB.out, (hW2.trans (hb'.mono hs2')).setCell (p := ⟨w.heap.size + 2, 0, none⟩) (by simp) _⟩
      rcases h with h | h
      · exact h.2 rfl
      · have := hge _ h; omega
  case done =>
    rintro D Pv Wd hD hPD hPl ⟨hge, hK1, hE1, hE2, hE3, hE4⟩ hK
    have c2 := hE2.cell
    have zf := hE2.frozen
    gi_wp2
    have hKd : (Wd.setCell ⟨w.heap.size + 2, 0, none⟩ (.bool true)).heap[D]? = some (.deferred (some [])) := (Keep.setCell (S := fun b => b = D) Wd ⟨w.heap.size + 2, 0, none⟩ _ (show ¬ w.heap.size + 2 = D by omega)).heap rfl hK
    have kp : ∀ (S : Nat → Prop) (W : World), ¬ S D → Keep S W (W.putObj D (.deferred none)) := fun S W h => Keep.putObj _ _ _ h
    refine ⟨by simp, .inl ⟨_, _, rfl, run_takeDeferred hKd, ?_⟩⟩
    refine ⟨_, Host.results_bool rfl _ _ (w.heap.size + 2) _ rfl ((kp (fun b => b = w.heap.size + 2) _ (by omega)).boxed (hE2.set _) rfl).cell, ?_, ?_⟩
    · have : impB f g = true := by rw [HI.out, List.all_eq_true]; exact hE3
      rw [this]
    · have h5 := hE4.setCell (p := ⟨w.heap.size + 2, 0, none⟩) (by simp) (.bool true)
      exact h5.trans ((kp (fun b => b < w.heap.size) _ (by omega)).below h5.size)
  case stop =>
    rintro D cc pre rest Pv Wd hD hPD hPl hxs ⟨rfl, hge, hK1, hE1, hE3, hE4⟩ hK
    have kp : ∀ (S : Nat → Prop) (W : World), ¬ S D → Keep S W (W.putObj D (.deferred none)) := fun S W h => Keep.putObj _ _ _ h
    clear hxs
    gi_wp2
    refine ⟨by simp, .inl ⟨_, _, rfl, run_takeDeferred hK, ?_⟩⟩
    refine ⟨_, Host.results_bool rfl _ _ (w.heap.size + 2) _ rfl ((kp (fun b => b = w.heap.size + 2) _ (by omega)).boxed hE1 rfl).cell, ?_, ?_⟩
    · rw [hE3]
    · exact hE4.trans ((kp (fun b => b < w.heap.size) _ (by omega)).below hE4.size)

end Go.Proofs.YtgkandghennbhaaGreatDoor.Frm

namespace Go.Proofs.YtgkandghennbhaaGreatDoor.Frm
open Go.RowKit Go.Shelf Go.Sort Url Org Cls
attribute [local go_sem] Oper.semAt_some
set_option linter.unusedVariables false

theorem results_cell_cell {fn : Func} {p u : Tmp} {ty ty2 : TypeId} (h : fn.results = #[.cell p ty, .cell u ty2]) (tmps : Array Value) (P : Program) (w : World) :
    (results fn tmps).run P w =
      ((asAddr (tmps.getD p undef)).run P w).andThen fun a w₁ => ((loadVar ty a).run P w₁).andThen fun v w₂ => ((asAddr (tmps.getD u undef)).run P w₂).andThen fun b w₃ => ((loadVar ty2 b).run P w₃).andThen fun x w₄ => .ok (.tuple #[v, x]) w₄ := by
  simp only [results, h]
  simp [Sem.run_bind, Result.andThen]
theorem ret_frm22 {fn : Func} {p u : Tmp} (h : fn.results = #[.cell p 26, .cell u 33]) (tmps : Array Value) (w : World) (B Be : Nat) (v x : Value) (hp : tmps.getD p undef = .pointer (some ⟨B, 0, none⟩)) (hu : tmps.getD u undef = .pointer (some ⟨Be, 0, none⟩)) (hU : Boxed w B 26 v) (hE : w.cell? ⟨Be, 0, none⟩ = some x) :
    (results fn tmps).run Tryz.prog w = .ok (.tuple #[.agg #[v], x]) w := by
  rw [results_cell_cell h, hp, hu]
  have ha : ∀ w', (isAgg 33).run Tryz.prog w' = .ok false w' := Tryz.isAgg33
  have h2 : (loadVar 33 ⟨Be, 0, none⟩).run Tryz.prog w = .ok x w := by simp [loadVar, ha, hE]
  simp [asAddr, Result.andThen, run_loadVar_row w B 26 _ #[v] (0, 0) _ hU Tryz.underlying26 rfl (by kernel_rfl), h2]

theorem clauses_snoc (x : List UInt8) (c : List (List UInt8)) (hx : parseC x = .inr c) : ∀ (pre : List (List UInt8)) (r : List (List (List UInt8))), clausesL pre = .inr r → clausesL (pre ++ [x]) = .inr (r ++ [c])
  | [], r, h => by
    cases h
    show clausesL [x] = _
    unfold clausesL
    rw [hx]; rfl
  | p :: l, r, h => by
    unfold clausesL at h
    split at h
    · cases h
    · rename_i y hy
      split at h
      · cases h
      · rename_i z hz
        cases h
        have := clauses_snoc x c hx l z hz
        rw [List.cons_append]
        unfold clausesL
        rw [hy]
        simp only
        rw [this]; rfl
theorem clauses_err (x : List UInt8) (e : Int) (hx : parseC x = .inl e) (rest : List (List UInt8)) : ∀ (pre : List (List UInt8)) (r : List (List (List UInt8))), clausesL pre = .inr r → clausesL (pre ++ x :: rest) = .inl e
  | [], r, h => by
    show clausesL (x :: rest) = _
    unfold clausesL
    rw [hx]
  | p :: l, r, h => by
    unfold clausesL at h
    split at h
    · cases h
    · rename_i y hy
      split at h
      · cases h
      · rename_i z hz
        have := clauses_err x e hx rest l z hz
        rw [List.cons_append]
        unfold clausesL
        rw [hy]
        simp only
        rw [this]
theorem parseC_no (t : List UInt8) (n : Int) (h : parseC t = .inl n) : n = 2 ∨ n = 3 := by
  unfold parseC at h
  split at h
  · cases h; exact .inr rfl
  · split at h
    · cases h
    · unfold ofC at h
      split at h
      · split at h
        · cases h
        · cases h; exact .inr rfl
      · cases h; exact .inl rfl
theorem parseF_long (t : List UInt8) (h : 4096 < t.length) : parseF t = .inl 3 := by unfold parseF; rw [if_pos h]
theorem parseF_always (t : List UInt8) (h : ¬ 4096 < t.length) (h2 : trimB t = alwaysS) : parseF t = .inr [] := by unfold parseF; rw [if_neg h, if_pos h2]
theorem parseF_err (t : List UInt8) (e : Int) (h : ¬ 4096 < t.length) (h2 : trimB t ≠ alwaysS) (h3 : clausesL ((splitX 38 t).map Prod.snd) = .inl e) : parseF t = .inl e := by
  rw [Host.splitX_snd] at h3
  unfold parseF; rw [if_neg h, if_neg h2, h3]
theorem parseF_of (t : List UInt8) (l : List (List (List UInt8))) (h : ¬ 4096 < t.length) (h2 : trimB t ≠ alwaysS) (h3 : clausesL ((splitX 38 t).map Prod.snd) = .inr l) : parseF t = ofF l := by
  rw [Host.splitX_snd] at h3
  unfold parseF; rw [if_neg h, if_neg h2, h3]

theorem FrmIs.put {w : World} {q : Option Addr} {n c : Nat} {f : List (List (List UInt8))} {D : Nat} {d : Option (List Deferred)} {o : Obj} (h : FrmIs w (.agg #[.slice q n c]) f) (hD : w.heap[D]? = some (.deferred d)) : FrmIs (w.putObj D o) (.agg #[.slice q n c]) f := by
  obtain ⟨h1, h2, zs, s, z, rfl⟩ := h.row
  exact ⟨q, n, c, rfl, h1, h2, zs, slC_put s hD, fun x hx => ⟨set_put (z x hx).set hD, (z x hx).few⟩, rfl⟩
/-- A clause whose row is none of these blocks'. -/
theorem ClAt.from {S : Nat → Prop} {w w' : World} {z : Cl} (h : ClAt w z) (hk : Keep S w w') (hS : ∀ a, z.1.1 = some a → 0 < z.1.2.1 → S a.block) : ClAt w' z := by
  obtain ⟨⟨q, n, c, he, h1, h2, h3, h4⟩, h5⟩ := h
  cases he
  exact ⟨⟨_, _, _, rfl, h1, h2, h3.keep hk hS, h4⟩, h5⟩
theorem ClAt.lt {w : World} {z : Cl} (h : ClAt w z) : ∀ a, z.1.1 = some a → 0 < z.1.2.1 → a.block < w.heap.size := by
  obtain ⟨⟨q, n, c, he, h1, h2, h3, h4⟩, h5⟩ := h
  cases he
  exact h3.lt

/-- Between two rounds: the clauses that have come lie in the box's row. -/
def PfI (Bo : Nat) (RB : Nat → Prop) (W0 : World) (pre : List (Nat × List UInt8)) (Pv : Nat → Prop) (W : World) : Prop :=
  ∃ v, ∃ ls : List Cl, Boxed W Bo 24 v ∧ W.ownsRow W0.heap.size 44 1 v ls.length (ls.map encC) ∧ (∀ z ∈ ls, ClAt W z ∧ ∀ a, z.1.1 = some a → 0 < z.1.2.1 → ¬ Pv a.block ∧ W0.heap.size ≤ a.block ∧ v.ownBlock ≠ some a.block) ∧ clausesL (pre.map Prod.snd) = .inr (ls.map Prod.snd) ∧
    (∀ b, Pv b → W0.heap.size ≤ b) ∧ (∀ b, v.ownBlock = some b → ¬ Pv b) ∧ Keep RB W0 W ∧ ls.length = pre.length
theorem PfI_abide (Bo : Nat) (RB : Nat → Prop) (W0 : World) (hBo : Bo < W0.heap.size) (hRB : ∀ b, RB b → b < W0.heap.size) : Abide (PfI Bo RB W0) := by
  rintro pre Pv Pv' A B ⟨v, ls, h1, h2, hz, hc, h3, h5, h6, h7⟩ hk hp
  have hs := h6.size
  refine ⟨v, ls, hk.boxed h1 (fun h => by have := h3 _ h; omega), hk.row h2 h5, fun z hz' => ⟨(hz z hz').1.from hk (fun a ha h0 => ((hz z hz').2 a ha h0).1), fun a ha h0 => ⟨fun hp' => ?_, ((hz z hz').2 a ha h0).2⟩⟩, hc, fun b hb => ?_, fun b hb hp' => ?_, h6.trans (hk.mono fun b _ hb hpb => by have := h3 b hpb; have := hRB b hb; omega), h7⟩
  · rcases (hp _ hp').1 with h | h
    · exact ((hz z hz').2 a ha h0).1 h
    · have := (hz z hz').1.lt a ha h0; omega
  · rcases (hp b hb).1 with h | h
    · exact h3 b h
    · omega
  · rcases (hp _ hp').1 with h | h
    · exact h5 b hb h
    · have := (h2.lt b hb).2; omega
/-- Where a clause's error has left the loop. -/
def PfX (w : World) (xs : List (Nat × List UInt8)) (W0 : World) (c : Code) (_ : List (Nat × List UInt8)) (Pv : Nat → Prop) (W : World) : Prop :=
  c = .ret ∧ ∃ n : Int, Boxed W w.heap.size 26 (.slice none 0 0) ∧ Boxed W (w.heap.size + 1) 33 (.int .i64 n) ∧ clausesL (xs.map Prod.snd) = .inl n ∧ Below w.heap.size w W ∧ (∀ b, Pv b → W0.heap.size ≤ b)
theorem PfX_abide (w : World) (xs : List (Nat × List UInt8)) (W0 : World) (h0 : w.heap.size + 2 ≤ W0.heap.size) (hW : True) (c : Code) : Abide (fun pre Pv W => PfX w xs W0 c pre Pv W ∧ W0.heap.size ≤ W.heap.size) := by
  rintro pre Pv Pv' A B ⟨⟨hc, n, h1, h2, h3, h4, h5⟩, h6⟩ hk hp
  have hs := hk.size
  refine ⟨⟨hc, n, hk.boxed h1 (fun h => by have := h5 _ h; omega), hk.boxed h2 (fun h => by have := h5 _ h; omega), h3, h4.trans ((hk.mono fun b _ hb hpb => by have := h5 b hpb; omega).below h4.size), fun b hb => ?_⟩, by omega⟩
  rcases (hp b hb).1 with h | h
  · exact h5 b h
  · omega

set_option maxRecDepth 100000 in
set_option maxHeartbeats 16000000 in
theorem Parse_any (q : Option Addr) (n c : Nat) (t : List UInt8) (w : World) (hby : By w (.slice q n c) t) (hn : n ≤ 1300 ∨ 4096 < n ∧ n ≤ 1099511627775) (hG : Gl w) :
    Calls Tryz.prog 15 #[.slice q n c] w (FrmOut (parseF t) w) := by
  obtain ⟨i0, hi0, hz0, hz1, hz2⟩ := info_parts info_cls
  have hl := hby.at.1
  obtain ⟨W1, hW1⟩ : ∃ W1, (w.alloc (.cells #[.slice none 0 0] 26)).alloc (.cells #[.int .i64 0] 33) = W1 := ⟨_, rfl⟩
  have A1 : Below w.heap.size w W1 := hW1 ▸ ((Below.refl _ w).alloc (Nat.le_refl _) _).alloc (by simp) _
  have bR : Boxed W1 w.heap.size 26 (.slice none 0 0) := hW1 ▸ (Boxed.new w _ _).alloc _
  have bE : Boxed W1 (w.heap.size + 1) 33 (.int .i64 0) := by
    have := Boxed.new (w.alloc (.cells #[.slice none 0 0] 26)) 33 (.int .i64 0)
    rw [World.size_alloc] at this
    exact hW1 ▸ this
  have hs1 : W1.heap.size = w.heap.size + 2 := by rw [← hW1]; simp
  have HW1 := Lib.hid hW1
  clear hW1
  refine (callsIn_wide (n := 1)).1 ?_
  refine callsIn_of_wp_marks Tryz.func15 rfl trivial ?_ rfl
  simp only [Tryz.ntmps15, List.size_toArray, List.length_cons, List.length_nil, Nat.reduceAdd, Nat.reduceSub, Array.replicate_succ, Array.replicate_zero, List.push_toArray, List.append_toArray, List.nil_append, List.cons_append]
  by_cases hbig : 4096 < n
  · have d : decide ((4096 : Int) < (n : Int)) = true := by simp; omega
    have HR := Lib.hid (parseF_long t (by omega))
    have b4 : Boxed ((w.alloc (.cells #[.slice none 0 0] 26)).alloc (.cells #[.int .i64 3] 33)) w.heap.size 26 (.slice none 0 0) := (Boxed.new w _ _).alloc _
    have e4 := (Boxed.new (w.alloc (.cells #[.slice none 0 0] 26)) 33 (.int .i64 3)).cell
    rw [World.size_alloc] at e4
    clear hby hl hn hG
    gi_wp2
    refine ⟨_, ret_frm22 rfl _ _ w.heap.size (w.heap.size + 1) _ _ rfl rfl b4 e4, ?_⟩
    rw [HR.out]
    exact ⟨none, 0, 0, rfl, frm_nil _, (fun a h => by cases h), ((Below.refl _ w).alloc (Nat.le_refl _) _).alloc (by simp) _⟩
  have hn2 : n ≤ 1300 := by omega
  have d : decide ((4096 : Int) < (n : Int)) = false := by simp; omega
  have hb1 := hby.on A1
  have con := Trim_by q n c t W1 hb1 (by omega)
  have HT := Lib.hid (trim_len t)
  have HG := Lib.hid hG
  have HL := Lib.hid hl
  have HP1 := Lib.hid (fun h2 => parseF_always t (by omega) h2)
  have HP2 := Lib.hid (fun h2 l h3 => parseF_of t l (by omega) h2 h3)
  have HP3 := Lib.hid (fun h2 e h3 => parseF_err t e (by omega) h2 h3)
  clear hby hn hG
  obtain ⟨T, hT⟩ : ∃ T, Cls.trimB t = T := ⟨_, rfl⟩
  rw [hT] at con HP1 HP2 HP3 HT
  clear hT hbig
  gi_wp2_with fail
  rw [HW1.out]
  gi_wp2_with fail
  refine ⟨trivial, (callsIn_wide.2 con).mono ?_⟩
  rintro e W2 ⟨q2, c2, rfl, hb2, hbel⟩
  have hcv := conv_by hb2
  have hb0 := hb1.on hbel
  replace bR := (Keep.of_below hbel).boxed bR bR.lt
  replace bE := (Keep.of_below hbel).boxed bE bE.lt
  have A2 := A1.trans (hbel.mono A1.size)
  have hs2 := hbel.size
  have e1 : (T == [97, 108, 119, 97, 121, 115]) = decide (T = alwaysS) := by
    rw [Bool.eq_iff_iff, beq_iff_eq, decide_eq_true_iff]; rfl
  generalize hlT : T.length = m at *
  clear con hb1 hb2 hbel hlT HW1
  by_cases hnv : T = alwaysS
  · have HR := Lib.hid (HP1.out hnv)
    rw [decide_eq_true hnv] at e1
    have con := Always_any W2
    clear hnv HP1 HP2 HP3 hb0
    gi_wp2_with fail
    refine ⟨trivial, (callsIn_wide.2 con).mono ?_⟩
    rintro e W3 ⟨rfl, hb3⟩
    replace bR := (Keep.of_below hb3).boxed bR bR.lt
    replace bE := (Keep.of_below hb3).boxed bE bE.lt
    have A3 := A2.trans (hb3.mono A2.size)
    have kf := bR.frozen
    have kc := bR.cell
    have b3 := (bR.set (.slice none 0 0))
    have e3 := (Keep.setCell (S := fun b => b = w.heap.size + 1) W3 ⟨w.heap.size, 0, none⟩ (.slice none 0 0) (by simp)).boxed bE rfl
    have ef3 := e3.frozen
    have ec3 := e3.cell
    have b4 := (Keep.setCell (S := fun b => b = w.heap.size) (W3.setCell ⟨w.heap.size, 0, none⟩ (.slice none 0 0)) ⟨w.heap.size + 1, 0, none⟩ (.int .i64 0) (by simp)).boxed b3 rfl
    have e4 := (e3.set (.int .i64 0)).cell
    clear con hb3
    gi_wp2
    refine ⟨_, ret_frm22 rfl _ _ w.heap.size (w.heap.size + 1) _ _ rfl rfl b4 e4, ?_⟩
    rw [HR.out]
    exact ⟨none, 0, 0, rfl, frm_nil _, (fun a h => by cases h), (A3.setCell (by simp) _).setCell (by simp) _⟩
  have HN := Lib.hid hnv
  rw [decide_eq_false hnv] at e1
  clear hnv HP1
  obtain ⟨h1, h2, h3, h4, h5⟩ := hb0.at
  obtain ⟨W3, hW3⟩ : ∃ W3, W2.alloc (.cells #[.slice none 0 0] 24) = W3 := ⟨_, rfl⟩
  have b0 : Boxed W3 W2.heap.size 24 (.slice none 0 0) := hW3 ▸ Boxed.new W2 _ _
  have hB3 : Below W2.heap.size W2 W3 := hW3 ▸ below_alloc _
  have hs3 : W3.heap.size = W2.heap.size + 1 := by rw [← hW3]; simp
  have con := Split_any q n c 38 t W3 h1 (by omega) (bytes_keep h5 (Keep.of_below hB3) (fun a h1 h2 => bytes_lt h5 a h1 h2))
  have hsm := Lib.hid (splitX_small 38 t n hl)
  have hlx := Lib.hid (show (splitX 38 t).length ≤ n + 1 by have := splitX_len 38 t; omega)
  have HW3 := Lib.hid hW3
  clear hW3 h1 h2 h3 h4 h5 hb0
  gi_wp2_with fail
  rw [HW3.out]
  refine ⟨trivial, (callsIn_wide.2 con).mono ?_⟩
  rintro e W4 ⟨B, v', rfl, hB, hBc, hrow, hBl, hbel⟩
  have hit := Split_iter (by omega) hB hBc hrow
  obtain ⟨RB, hRB⟩ : ∃ RB : Nat → Prop, RB = fun b => b = B ∨ b = W3.heap.size ∨ v'.ownBlock = some b := ⟨_, rfl⟩
  have hRl : ∀ b, RB b → W2.heap.size + 1 ≤ b ∧ b < W4.heap.size := fun b hb => by
    rw [hRB] at hb
    rcases hb with rfl | rfl | hb
    · exact ⟨by omega, hB.lt⟩
    · exact ⟨by omega, hBc.lt⟩
    · have := hrow.lt b hb; exact ⟨by omega, this.2⟩
  rw [← hRB, hs3] at hit
  have hB4 : Below W2.heap.size W2 W4 := hB3.trans (hbel.mono (by omega))
  replace b0 := (Keep.of_below hbel).boxed b0 (by omega)
  replace bR := (Keep.of_below hB4).boxed bR bR.lt
  replace bE := (Keep.of_below hB4).boxed bE bE.lt
  have A4 := A2.trans (hB4.mono A2.size)
  have hs4 := hbel.size
  have hsA := A2.size
  have hs12 : w.heap.size + 2 ≤ W2.heap.size := by omega
  clear con hB hBc hrow hBl hbel HW3 hRB hB3 hB4
  generalize splitX 38 t = xs at *
  gi_wp2
  refine rf_law (gf := 58) (lb := #[.pointer (some ⟨B, 0, none⟩), .pointer (some ⟨W2.heap.size + 1, 0, none⟩)]) rfl (enters_of Tryz.func58 (by kernel_rfl) rfl)
    hit (Keep.refl _ _) (fun b hb => (hRl b hb).2) (fun x args G W h => by obtain ⟨v, rfl, _⟩ := h; rfl)
    (PfI W2.heap.size (fun b => b < W2.heap.size) W4) (fun cc pre Pv W => PfX w xs W4 cc pre Pv W ∧ W4.heap.size ≤ W.heap.size) (PfI_abide _ _ _ (by omega) (fun b hb => by omega)) (PfX_abide w xs W4 (by omega) trivial)
    ⟨_, [], b0, World.ownsRow_nil _ _ _ _, (fun z hz => by cases hz), rfl, (fun _ h => h.elim), (fun _ h => by cases h), Keep.refl _ _, rfl⟩ ?round ?done ?stop
  case round =>
    rintro ll pre ⟨xi, x⟩ rest Pv G args Wr hll hxs ⟨v, ls, hbx, hrow, hzs, hcl, hge, hnv, hKW, hll2⟩ hPl hGl hPb hGP ⟨p, rfl, hp, rfl⟩
    have hxl := hsm.out (xi, x) (by rw [hxs]; simp)
    have hpl : pre.length + 1 ≤ n + 1 := by
      have h1 := hlx.out
      rw [hxs, List.length_append, List.length_cons] at h1
      omega
    simp only at hxl hp
    obtain ⟨qx, cx, rfl, _, hnc, hcm, hbs, hblk⟩ := row_open hp
    have hbyx : By Wr (.slice qx x.length cx) x := By.row hp
    have hxm := Lib.hid hxs
    clear hxs
    gi_wp2
    refine ⟨Keep.refl _ _, fun W5 hk5 hs5 r hr => ?_⟩
    have hnP : ∀ b, b < W4.heap.size → ¬ Pv b := fun b hb h => by have := hge b h; omega
    have hk5' : Keep (fun b => ¬ Pv b) Wr W5 := hk5.mono fun b _ hb h => hb (h ▸ hPl)
    replace hbx := hk5'.boxed hbx (hnP _ (by omega))
    replace hrow := hk5'.row hrow hnv
    replace hzs : ∀ z ∈ ls, ClAt W5 z ∧ ∀ a, z.1.1 = some a → 0 < z.1.2.1 → ¬ Pv a.block ∧ W4.heap.size ≤ a.block ∧ v.ownBlock ≠ some a.block := fun z hz => ⟨(hzs z hz).1.from hk5' (fun a ha h0 => ((hzs z hz).2 a ha h0).1), (hzs z hz).2⟩
    have hK5 : Keep (fun b => b < W2.heap.size) W4 W5 := hKW.trans (hk5'.mono fun b _ hb => hnP b (by omega))
    have hPl5 : ∀ b, Pv b → b < W5.heap.size := fun b hb => by rw [hs5]; exact hPb b hb
    have gx : Keep (fun b => (Value.slice qx x.length cx).ownBlock = some b) Wr W5 := hk5.mono fun b _ hb h => hGl (h ▸ hb)
    have hbs5 : Lib.BytesIn W5 qx x.length (Lib.numsL x) := bytes_keep hbs gx (fun a ha _ => (hblk a ha).2.2)
    have hby5 : By W5 (.slice qx x.length cx) x := by
      obtain ⟨g1, g2, g3, g4, _⟩ := hbyx.at
      exact By.of g1 g2 g3 (fun h => (g4 h).2) hbs5
    have hszW := hK5.size
    have A5 : Below w.heap.size w W5 := A4.trans ((hK5.mono fun b _ h => by omega).below (by omega))
    have con := Cls.Parse_new qx x.length cx x W5 hby5 (.inl (by omega)) (HG.out.on A5)
    clear hr hk5 hk5' hs5 hKW hbs hp hbyx hblk gx hbs5 hby5
    have bR5 := hK5.boxed bR (by omega)
    have bE5 := hK5.boxed bE (by omega)
    cases hpc : parseC x with
    | inl en =>
      rw [hpc] at con
      have hne : en ≠ 0 := by rcases parseC_no x en hpc with h | h <;> omega
      have d2 : ((en : Int) != 0) = true := by unfold bne; rw [beq_eq_false_iff_ne.2 hne]; rfl
      have d3 : ((en : Int) == 0) = false := beq_eq_false_iff_ne.2 hne
      have HE := Lib.hid (show clausesL (xs.map Prod.snd) = .inl en by
        rw [hxm.out, List.map_append, List.map_cons]
        exact clauses_err x en hpc _ _ _ hcl)
      clear hne hpc hcl hzs hrow hbx hit
      gi_wp2_with fail
      refine ⟨trivial, rfl, (CallsIn.inRound ll (callsIn_wide.2 con)).mono ?_⟩
      rintro e w6 ⟨q6, n6, c6, rfl, hs6, hq6, hb6⟩
      have kb := Keep.of_below hb6
      have bR6 := (kb.boxed bR5 bR5.lt).alloc (.cells #[.slice q6 n6 c6] 44)
      have bE6 := (kb.boxed bE5 bE5.lt).alloc (.cells #[.slice q6 n6 c6] 44)
      have kf := bR6.frozen
      have kc := bR6.cell
      have b3 := bR6.set (.slice none 0 0)
      have e3 := (Keep.setCell (S := fun b => b = w.heap.size + 1) (w6.alloc (.cells #[.slice q6 n6 c6] 44)) ⟨w.heap.size, 0, none⟩ (.slice none 0 0) (by simp)).boxed bE6 rfl
      have ef3 := e3.frozen
      have ec3 := e3.cell
      have b4 := (Keep.setCell (S := fun b => b = w.heap.size) ((w6.alloc (.cells #[.slice q6 n6 c6] 44)).setCell ⟨w.heap.size, 0, none⟩ (.slice none 0 0)) ⟨w.heap.size + 1, 0, none⟩ (.int .i64 en) (by simp)).boxed b3 rfl
      have e4 := e3.set (.int .i64 en)
      clear con hs6
      unfold errC
      gi_wp2
      have kq : ∀ (S : Nat → Prop), (∀ b, S b → b < W5.heap.size) → ¬ S w.heap.size → ¬ S (w.heap.size + 1) → Keep S W5 (((w6.alloc (.cells #[.slice q6 n6 c6] 44)).setCell ⟨w.heap.size, 0, none⟩ (.slice none 0 0)).setCell ⟨w.heap.size + 1, 0, none⟩ (.int .i64 en)) := fun S h0 h1 h2 =>
        (((kb.mono fun b _ hb => h0 b hb).trans (Keep.alloc S _ _)).trans (Keep.setCell _ _ _ h1)).trans (Keep.setCell _ _ _ h2)
      have hA6 := (((A5.trans (hb6.mono A5.size)).alloc (by have := (A5.trans (hb6.mono A5.size)).size; exact this) (.cells #[.slice q6 n6 c6] 44)).setCell (p := ⟨w.heap.size, 0, none⟩) (by simp) (.slice none 0 0)).setCell (p := ⟨w.heap.size + 1, 0, none⟩) (by simp) (.int .i64 en)
      have hz6 : W4.heap.size ≤ (((w6.alloc (.cells #[.slice q6 n6 c6] 44)).setCell ⟨w.heap.size, 0, none⟩ (.slice none 0 0)).setCell ⟨w.heap.size + 1, 0, none⟩ (.int .i64 en)).heap.size := Nat.le_trans hszW (kq (fun _ => False) (fun _ h => h.elim) id id).size
      refine ⟨kq _ (fun b hb => ?_) (fun h => ?_) (fun h => ?_), ⟨rfl, en, b4, e4, HE.out, hA6, fun b hb => hge b hb.1⟩, hz6⟩
      · rcases hb with h | h
        · have := (hRl b h).2; omega
        · exact hPl5 b h.1
      · rcases h with h | h
        · have := (hRl _ h).1; omega
        · have := hge _ h.1; omega
      · rcases h with h | h
        · have := (hRl _ h).1; omega
        · have := hge _ h.1; omega
    | inr cv =>
      rw [hpc] at con
      have hcf := (parseC_ok x cv hpc).few
      have HLL := Lib.hid hll2
      have hll3 : ls.length ≤ n := by omega
      have HE := Lib.hid (show clausesL ((pre ++ [(xi, x)]).map Prod.snd) = .inr (ls.map Prod.snd ++ [cv]) by
        rw [List.map_append]
        exact clauses_snoc x cv hpc _ _ hcl)
      clear hpc hcl hit hll2
      gi_wp2_with fail
      refine ⟨trivial, rfl, (CallsIn.inRound ll (callsIn_wide.2 con)).mono ?_⟩
      rintro e w6 ⟨q6, n6, c6, rfl, hs6, hq6, hb6⟩
      have kb := Keep.of_below hb6
      have hsz6 := hb6.size
      have hbx7 := (kb.boxed hbx hbx.lt).alloc (.cells #[.slice q6 n6 c6] 44)
      have hrow7 := (kb.row hrow (fun b hb => (hrow.lt b hb).2)).alloc (.cells #[.slice q6 n6 c6] 44)
      have cB := hbx7.cell
      have cC := (Boxed.new w6 44 (.slice q6 n6 c6)).cell
      have hz1' : (w6.alloc (.cells #[.slice q6 n6 c6] 44)).heap.size = w6.heap.size + 1 := by simp
      clear con
      unfold errC
      gi_wp2_with (gi_at_builtin; go_must (refine wpListIn_append_own_at _ rfl _ _ 24 rfl W4.heap.size 44 i0 (.agg #[.slice none 0 0]) 1 24 Tryz.underlying24 hi0 hz0 hz1 hz2 rfl (by decide) _ _ _ rfl (hrow7.alloc _) ⟨w6.heap.size + 1, 0, none⟩ 1 1 [.slice q6 n6 c6] rfl rfl (by rw [← hz1']; exact cell_one_new _ _ _) (by simp [Value.oneCell']) (by unfold maxLen; omega) (by omega) (by simp; omega) ?_); intro v' w1 hown' hgrow _ hat; obtain ⟨g', cap', rfl⟩ := ownsRow_succ hown'; obtain ⟨hv1, hv2, hr2, hkk⟩ := appended_keep (S := fun b => b ≠ W2.heap.size ∧ v.ownBlock ≠ some b) hbx7 (by decide) hrow7 (fun h => h.1 rfl) (fun b hb h => h.2 hb) hown' hgrow; have hc1 := hv1.cell; have hf1 := hv1.frozen)
      have hat' : some g' = v.ownBlock ∨ some g' = some ((w6.alloc (.cells #[.slice q6 n6 c6] 44)).alloc (.cells #[.slice q6 n6 c6] 44)).heap.size := hat
      have hg : ∀ b, some g' = some b → v.ownBlock = some b ∨ w6.heap.size + 2 ≤ b := fun b hb => by
        rcases hat' with h | h
        · exact .inl (h ▸ hb)
        · rw [hb] at h
          have := Option.some.inj h
          simp at this
          exact .inr (by omega)
      have hk6 : ∀ S : Nat → Prop, (∀ b, S b → b < w6.heap.size ∧ b ≠ W2.heap.size ∧ v.ownBlock ≠ some b) → Keep S w6 (w1.setCell ⟨W2.heap.size, 0, none⟩ (.slice (some ⟨g', 0, none⟩) (ls.length + 1) cap')) := fun S hS => (Keep.alloc S _ _).trans (hkk.mono fun b _ h => (hS b h).2)
      have hk5 : ∀ S : Nat → Prop, (∀ b, S b → b < W5.heap.size ∧ b ≠ W2.heap.size ∧ v.ownBlock ≠ some b) → Keep S W5 (w1.setCell ⟨W2.heap.size, 0, none⟩ (.slice (some ⟨g', 0, none⟩) (ls.length + 1) cap')) := fun S hS => (kb.mono fun b _ h => (hS b h).1).trans (hk6 S fun b h => ⟨by have := (hS b h).1; omega, (hS b h).2⟩)
      have hown5 : ∀ b, v.ownBlock = some b → W4.heap.size ≤ b ∧ b < W5.heap.size := fun b hb => hrow.lt b hb
      have hz6 : ClAt w6 ((q6, n6, c6), cv) := ⟨hs6, hcf⟩
      refine ⟨hk5 _ (fun b hb => ?_), _, ls ++ [((q6, n6, c6), cv)], hv2, by simpa [encC] using hr2, fun z hz => ?_, by rw [HE.out, List.map_append]; rfl, fun b hb => hge b hb.1, fun b hb hp => ?_, hK5.trans (hk5 _ (fun b hb => ?_)), by rw [List.length_append, List.length_append, HLL.out]; rfl⟩
      · rcases hb with h | h
        · have h2 := hRl b h
          exact ⟨by omega, by omega, fun e => by have := (hown5 b e).1; omega⟩
        · exact ⟨hPl5 b h.1, fun e => hnP b (by omega) h.1, fun e => hnv b e h.1⟩
      · rcases List.mem_append.1 hz with h | h
        · obtain ⟨k1, k2⟩ := hzs z h
          refine ⟨k1.from (hk5 (fun b => b < W5.heap.size ∧ b ≠ W2.heap.size ∧ v.ownBlock ≠ some b) (fun b hb => hb)) (fun a ha h0 => ?_), fun a ha h0 => ?_⟩
          · obtain ⟨j1, j2, j3⟩ := k2 a ha h0
            exact ⟨k1.lt a ha h0, by omega, j3⟩
          · obtain ⟨j1, j2, j3⟩ := k2 a ha h0
            refine ⟨fun hp => j1 hp.1, j2, fun e => ?_⟩
            rcases hg a.block e with h | h
            · exact j3 h
            · have := k1.lt a ha h0; omega
        · rw [List.mem_singleton.1 h]
          refine ⟨hz6.from (hk6 (fun b => b < w6.heap.size ∧ b ≠ W2.heap.size ∧ v.ownBlock ≠ some b) (fun b hb => hb)) (fun a ha h0 => ?_), fun a ha h0 => ?_⟩
          · have j := hq6 a ha
            exact ⟨hz6.lt a ha h0, by omega, fun e => by have := (hown5 _ e).2; omega⟩
          · have j := hq6 a ha
            refine ⟨fun hp => by have := hPl5 _ hp.1; omega, by omega, fun e => ?_⟩
            rcases hg a.block e with h | h
            · have := (hown5 _ h).2; omega
            · have := hz6.lt a ha h0; omega
      · rcases hg b hb with h | h
        · exact hnv b h hp.1
        · have := hPl5 b hp.1; omega
      · exact ⟨by omega, by omega, fun e => by have := (hown5 b e).1; omega⟩
  case done =>
    rintro D Pv Wd hD hPD hPl ⟨v, ls, hbx, hrow, hzs, hcl, hge, hnv, hKW, hll2⟩ hK
    obtain ⟨q5, c5, rfl, hc5, _, hs5, _⟩ := slIn_of_owns hrow
    have hA : Keep (fun b => b < W2.heap.size) W4 Wd := hKW
    have bRd := hA.boxed bR (by omega)
    have bEd := hA.boxed bE (by omega)
    have hBd : Below w.heap.size w Wd := A4.trans ((hA.mono fun b _ h => by omega).below A4.size)
    have HR := Lib.hid (HP2.out HN.out _ hcl)
    have con := Of_any q5 ls.length c5 (ls.map Prod.snd) Wd ⟨ls, hs5, fun z hz => (hzs z hz).1, rfl⟩ (fun h => by subst h; exact (Cls.row_nil hrow).2) (by have := hlx.out; omega)
    rw [← HR.out] at con
    have cB := hbx.cell
    have hDl := hPl D hPD
    clear hs5 hrow hbx hnv hge hKW hA hit hzs hcl b0 hll2
    gi_wp2_with fail
    refine ⟨trivial, (callsIn_wide.2 con).mono ?_⟩
    rintro e w6 ⟨q6, n6, c6, rfl, hs6, hq6, hb6⟩
    have hD6 : w6.heap[D]? = some (.deferred (some [])) := (hb6.block D hDl).trans hK
    have hsd := hBd.size
    have hDg : w.heap.size + 2 ≤ D := by omega
    have hqn : ∀ a, q6 = some a → w.heap.size ≤ a.block := fun a ha => Nat.le_trans hsd (hq6 a ha)
    replace hq6 : ∀ a, q6 = some a → a.block ≠ w.heap.size ∧ a.block ≠ w.heap.size + 1 := fun a ha => by have := hq6 a ha; have := bEd.lt; omega
    have bR6 := (Keep.of_below hb6).boxed bRd bRd.lt
    have bE6 := (Keep.of_below hb6).boxed bEd bEd.lt
    have A6 := hBd.trans (hb6.mono hBd.size)
    have kf := bR6.frozen
    have kc := bR6.cell
    have b3 := bR6.set (.slice q6 n6 c6)
    have f3 := hs6.set (u' := .slice q6 n6 c6) bR6 (fun x h => by cases h) (fun a ha => (hq6 a ha).1)
    have e3 := (Keep.setCell (S := fun b => b = w.heap.size + 1) w6 ⟨w.heap.size, 0, none⟩ (.slice q6 n6 c6) (by simp)).boxed bE6 rfl
    have ef3 := e3.frozen
    have ec3 := e3.cell
    have hD7 := (Keep.setCell (S := fun b => b = D) w6 ⟨w.heap.size, 0, none⟩ (.slice q6 n6 c6) (by simp; omega)).heap rfl hD6
    have A7 := A6.setCell (p := ⟨w.heap.size, 0, none⟩) (by simp) (.slice q6 n6 c6)
    clear con hb6
    obtain ⟨r, hr⟩ : ∃ r, parseF t = r := ⟨_, rfl⟩
    rw [hr] at hs6 f3 ⊢
    gi_wp2
    subst hr
    have b4 := (Keep.setCell (S := fun b => b = w.heap.size) (w6.setCell ⟨w.heap.size, 0, none⟩ (.slice q6 n6 c6)) ⟨w.heap.size + 1, 0, none⟩ (.int .i64 (frmE (parseF t))) (by simp)).boxed b3 rfl
    have e4 := e3.set (.int .i64 (frmE (parseF t)))
    have f4 := f3.set (u' := .int .i64 (frmE (parseF t))) e3 (fun x h => by cases h) (fun a ha => (hq6 a ha).2)
    have hD8 := (Keep.setCell (S := fun b => b = D) (w6.setCell ⟨w.heap.size, 0, none⟩ (.slice q6 n6 c6)) ⟨w.heap.size + 1, 0, none⟩ (.int .i64 (frmE (parseF t))) (by simp; omega)).heap rfl hD7
    have A8 := A7.setCell (p := ⟨w.heap.size + 1, 0, none⟩) (by simp) (.int .i64 (frmE (parseF t)))
    refine ⟨by simp, .inl ⟨_, _, rfl, run_takeDeferred hD8, ?_⟩⟩
    have hkP : ∀ S : Nat → Prop, ¬ S D → Keep S ((w6.setCell ⟨w.heap.size, 0, none⟩ (.slice q6 n6 c6)).setCell ⟨w.heap.size + 1, 0, none⟩ (.int .i64 (frmE (parseF t)))) (((w6.setCell ⟨w.heap.size, 0, none⟩ (.slice q6 n6 c6)).setCell ⟨w.heap.size + 1, 0, none⟩ (.int .i64 (frmE (parseF t)))).putObj D (.deferred none)) := fun S hS => Keep.putObj _ D (.deferred none) hS
    refine ⟨_, ret_frm22 rfl _ _ w.heap.size (w.heap.size + 1) _ _ rfl rfl ((hkP (fun b => b = w.heap.size) (by omega)).boxed b4 rfl) ((hkP (fun b => b = w.heap.size + 1) (by omega)).boxed e4 rfl).cell, q6, n6, c6, rfl, f4.put hD8, hqn, ?_⟩
    · exact ((Keep.of_below A8).trans (hkP _ (by omega))).below (Nat.le_refl _)
  case stop =>
    rintro D cc pre rest Pv Wd hD hPD hPl hxs ⟨⟨rfl, en, hR, hE, hcl, hBd, hge⟩, hsz⟩ hK
    clear hxs
    have HR := Lib.hid (HP3.out HN.out _ hcl)
    have hDg : w.heap.size + 2 ≤ D := by have := A4.size; omega
    gi_wp2
    refine ⟨by simp, .inl ⟨_, _, rfl, run_takeDeferred hK, ?_⟩⟩
    have hkP : ∀ S : Nat → Prop, ¬ S D → Keep S Wd (Wd.putObj D (.deferred none)) := fun S hS => Keep.putObj _ D (.deferred none) hS
    refine ⟨_, ret_frm22 rfl _ _ w.heap.size (w.heap.size + 1) _ _ rfl rfl ((hkP (fun b => b = w.heap.size) (by omega)).boxed hR rfl) ((hkP (fun b => b = w.heap.size + 1) (by omega)).boxed hE rfl).cell, ?_⟩
    rw [HR.out]
    exact ⟨none, 0, 0, rfl, frm_nil _, (fun a h => by cases h), ((Keep.of_below hBd).trans (hkP _ (by omega))).below (Nat.le_refl _)⟩
end Go.Proofs.YtgkandghennbhaaGreatDoor.Frm

namespace Go.Proofs.YtgkandghennbhaaGreatDoor.Frm
open Go.RowKit Go.Shelf Go.Sort Url Org Cls
attribute [local go_sem] Oper.semAt_some
set_option linter.unusedVariables false

theorem sum_mem {α : Type} [DecidableEq α] (f : α → Nat) (x : α) (l : List α) (h : x ∈ l) : f x ≤ sumL f l := by rw [sum_erase f x l h]; omega
theorem cls_in_frm (f : List (List (List UInt8))) (x : List (List UInt8)) (h : x ∈ f) : (clsT x).length ≤ (frmT f).length := by
  have h1 := frmT_sum f (fun e => by rw [e] at h; cases h)
  have h2 : (clsT x).length + 3 ≤ sumL (fun c => (clsT c).length + 3) f := sum_mem (fun c => (clsT c).length + 3) x f h
  omega
theorem join_frm (c : List (List UInt8)) (r : List (List (List UInt8))) : Lib.join ((c :: r).map clsT) [32, 38, 32] = frmT (c :: r) := by
  rw [List.map_cons, Lib.join_cons]
  show clsT c ++ ((r.map clsT).map ([32, 38, 32] ++ ·)).flatten = clsT c ++ r.flatMap fun d => [32, 38, 32] ++ clsT d
  rw [List.flatMap_def, List.map_map]; rfl
/-- The texts of the clauses that have come. -/
def txtX (pre : List Cl) : List (List UInt8) := pre.map fun z => clsT z.2
theorem txtX_snoc (pre : List Cl) (z : Cl) : txtX (pre ++ [z]) = txtX pre ++ [clsT z.2] := by unfold txtX; simp
theorem txtX_len (pre : List Cl) : (txtX pre).length = pre.length := by unfold txtX; simp

set_option maxRecDepth 100000 in
set_option maxHeartbeats 16000000 in
theorem Text_any (v : Value) (f : List (List (List UInt8))) (w : World) (h : FrmIs w v f) (hN : f.length ≤ 1099511627776) (hl : (frmT f).length ≤ 140737488355328) :
    Calls Tryz.prog 16 #[v] w fun e w' => e = .returned (.string ⟨(frmT f).toArray⟩) ∧ Below w.heap.size w w' := by
  obtain ⟨q, n, c, rfl⟩ := frm_form h
  obtain ⟨_, hnc, zs, s0, z0, hf⟩ := h.row
  obtain ⟨i0, hi0, hz0, hz1, hz2⟩ := info_parts S.info_str
  obtain ⟨W1, hW1⟩ : ∃ W1, w.alloc (.cells #[.slice q n c] 26) = W1 := ⟨_, rfl⟩
  have A1 : Below w.heap.size w W1 := hW1 ▸ below_alloc _
  have b1 : Boxed W1 w.heap.size 26 (.slice q n c) := hW1 ▸ Boxed.new w _ _
  have c1 := b1.cell
  have con := Len_any _ f W1 (h.below A1)
  have hzl : zs.length = n := s0.1
  have HW1 := Lib.hid hW1
  have HF := Lib.hid hf
  have HS0 := Lib.hid s0
  have HZ0 := Lib.hid z0
  have hfl : f.length = n := by rw [hf, List.length_map]; exact hzl
  clear hW1 hf h s0 z0
  refine (callsIn_wide (n := 1)).1 ?_
  refine callsIn_of_wp_marks Tryz.func16 rfl trivial ?_ rfl
  simp only [Tryz.ntmps16, List.size_toArray, List.length_cons, List.length_nil, Nat.reduceAdd, Nat.reduceSub, Array.replicate_succ, Array.replicate_zero, List.push_toArray, List.append_toArray, List.nil_append, List.cons_append]
  cases f with
  | nil =>
    clear b1 hzl hfl
    gi_wp2_with fail
    rw [HW1.out]
    gi_wp2_with fail
    refine ⟨trivial, (callsIn_wide.2 con).mono ?_⟩
    rintro e w2 ⟨rfl, hb2⟩
    clear con
    gi_wp2
    exact ⟨_, results_tmp rfl _ _ _, rfl, A1.trans (hb2.mono A1.size)⟩
  | cons p r =>
    have d : (((p :: r).length : Int) == 0) = false := by rw [beq_eq_false_iff_ne]; simp; omega
    have HJ := Lib.hid (join_frm p r)
    have HNE := Lib.hid (show 0 < (p :: r).length by simp)
    have HL := Lib.hid hl
    generalize p :: r = f at *
    have HN := Lib.hid hN
    have HFL := Lib.hid hfl
    have HZL := Lib.hid hzl
    clear hl hN hfl hzl
    generalize hlm : f.length = m at con d
    have HM := Lib.hid hlm
    clear hlm
    gi_wp2_with fail
    rw [HW1.out]
    gi_wp2_with fail
    refine ⟨trivial, (callsIn_wide.2 con).mono ?_⟩
    rintro e w2 ⟨rfl, hb2⟩
    replace b1 := (Keep.of_below hb2).boxed b1 b1.lt
    have A2 := A1.trans (hb2.mono A1.size)
    obtain ⟨W3, hW3⟩ : ∃ W3, w2.alloc (.cells #[.slice none 0 0] 31) = W3 := ⟨_, rfl⟩
    have b0 : Boxed W3 w2.heap.size 31 (.slice none 0 0) := hW3 ▸ Boxed.new w2 _ _
    have hB3 : Below w2.heap.size w2 W3 := hW3 ▸ below_alloc _
    have hs3 : W3.heap.size = w2.heap.size + 1 := by rw [← hW3]; simp
    replace c1 := (b1.alloc (.cells #[.slice none 0 0] 31)).cell
    have A3 := A2.trans (hB3.mono A2.size)
    have con2 := frmAll_any q n c W3
    have hsA2 := A2.size
    have HW3 := Lib.hid hW3
    clear con hb2 hW3 A1
    gi_wp2_with fail
    rw [HW3.out]
    refine ⟨trivial, (callsIn_wide.2 con2).mono ?_⟩
    rintro e W4 ⟨rfl, hW4⟩
    have bv : Boxed W4 (W3.heap.size + 1) 24 (.slice q n c) := by
      have := Boxed.new (W3.alloc (.cells #[.slice q n c] 26)) 24 (.slice q n c)
      rw [World.size_alloc] at this
      exact hW4 ▸ this
    have hbel : Below W3.heap.size W3 W4 := hW4 ▸ ((Below.refl _ W3).alloc (Nat.le_refl _) _).alloc (by simp) _
    have hs4 : W4.heap.size = W3.heap.size + 2 := by rw [hW4]; simp
    replace b0 := (Keep.of_below hbel).boxed b0 b0.lt
    have A4 := A3.trans (hbel.mono A3.size)
    have hit := Values1_iter (W3.heap.size + 1) q n c zs (fun b => b < W4.heap.size ∧ b ≠ w2.heap.size) W4 (by have := HFL.out; have := HN.out; omega) (HS0.out.below A4 HS0.out.lt) (fun a h h' => by have := HS0.out.lt a h h'; omega) bv (by omega) (fun b hb => hb.1)
    rw [hs3] at hit
    have hxl : ∀ z ∈ zs, (clsT z.2).length ≤ 140737488355328 := fun z hz => Nat.le_trans (cls_in_frm f z.2 (by rw [HF.out]; exact List.mem_map_of_mem hz)) HL.out
    clear con2 c1 bv hW4 HW3 HW1 hbel hB3 b1
    gi_wp2
    refine rf_law (gf := 81) (lb := #[.pointer (some ⟨w2.heap.size + 1 + 1, 0, none⟩)]) rfl (enters_of Tryz.func81 (by kernel_rfl) rfl)
      hit (Keep.refl _ _) (fun b hb => hb.1) (fun x args G W h => by rw [h.1]; rfl)
      (fun pre Pv W => ColI 31 9 w2.heap.size (fun b => b < w2.heap.size) W4 (txtX pre) Pv W) (fun _ _ _ _ => False) (fun s Pv Pv' A B h hk hp => ColI_abide _ _ _ _ _ (by omega) (fun b hb => by omega) (txtX s) Pv Pv' A B h hk hp) (fun _ _ _ _ _ _ h _ _ => h)
      ⟨_, b0, World.ownsRow_nil _ _ _ _, (fun _ h => h.elim), (fun _ h => by cases h), Keep.refl _ _⟩ ?round ?done ?stop
    case round =>
      rintro ll pre ⟨⟨xq, xn, xc⟩, x⟩ rest Pv G args Wr hll hxs ⟨v, hbx, hrow, hge, hnv, hKW⟩ hPl hGl hPb hGP ⟨harg, rfl⟩
      obtain rfl : args = #[.agg #[.slice xq xn xc]] := harg
      have hxm : ((xq, xn, xc), x) ∈ zs := by rw [hxs]; simp
      have hpl : pre.length + 1 ≤ 1099511627776 := by
        have h1 := HZL.out
        have h2 := HFL.out
        have h3 := HN.out
        rw [hxs, List.length_append, List.length_cons] at h1
        omega
      rw [txtX_len] at hrow
      clear hxs
      have hll2 := hPb ll hPl
      gi_wp2
      refine ⟨Keep.alloc _ _ _, fun W5 hk5 hs5 r hr => ?_⟩
      have hnP : ∀ b, b < W4.heap.size → ¬ Pv b := fun b hb h => by have := hge b h; omega
      have hka := Keep.alloc (fun _ => True) Wr (.cells #[.slice xq xn xc] 44)
      have bx := hk5.boxed (Boxed.new Wr 44 (.slice xq xn xc)) (by omega)
      have hk5' : Keep (fun b => ¬ Pv b) Wr W5 := (hka.mono fun _ _ _ => trivial).trans (hk5.mono fun b _ hb h => hb (h ▸ hPl))
      replace hbx := hk5'.boxed hbx (hnP _ (by omega))
      replace hrow := hk5'.row hrow hnv
      have hK5 : Keep (fun b => b < w2.heap.size) W4 W5 := hKW.trans (hk5'.mono fun b _ hb => hnP b (by omega))
      have hPl5 : ∀ b, Pv b → b < W5.heap.size := fun b hb => Nat.lt_of_lt_of_le (hPb b hb) hk5'.size
      have hszW := hK5.size
      have A5 : Below w.heap.size w W5 := A4.trans ((hK5.mono fun b _ h => by omega).below A4.size)
      have hz := (HZ0.out _ hxm).below A5
      clear hr hk5 hk5' hs5 hKW hka
      obtain ⟨Wd, hWd⟩ : ∃ Wd, W5.drew = Wd := ⟨_, rfl⟩
      have hkd : ∀ S, Keep S W5 Wd := fun S => by rw [← hWd]; exact Keep.drew S W5
      replace hbx := (hkd (fun _ => True)).boxed hbx trivial
      replace hrow := (hkd (fun _ => True)).row hrow (fun _ _ => trivial)
      replace bx := (hkd (fun _ => True)).boxed bx trivial
      have hszd : Wd.heap.size = W5.heap.size := by rw [← hWd]; rfl
      have con := Cls.Text_any (.agg #[.slice xq xn xc]) x Wd (hz.keep (hkd _)).set (Nat.le_trans hz.few (by decide)) (hxl _ hxm)
      have HSN := Lib.hid (txtX_snoc pre ((xq, xn, xc), x))
      simp only at HSN
      generalize clsT x = T at *
      have c0 := hbx.cell
      have cx := bx.cell
      have HWd := Lib.hid hWd
      clear hWd hz
      gi_wp2_with fail
      refine region_anyO (fun j => decide (j ≠ 5)) (fun X => X.cell? ⟨w2.heap.size, 0, none⟩ = some v) (by kernel_rfl) ?_
      rw [HWd.out]
      refine anyO_take 0 (v := v) rfl (by kernel_rfl) (by kernel_rfl) (by kernel_rfl) (by kernel_rfl) (by kernel_rfl) (fun _ _ _ h => h) ⟨.inl ⟨by rfl, ?_⟩, fun _ => rfl⟩ c0 ?_
      · rintro w h1; go_simp
      refine anyO_one 1 (by kernel_rfl) rfl fun K hK => ?_
      go_simp
      refine hK _ _ (fun _ => c0) ?_
      clear hK K
      refine anyO_one 2 (by kernel_rfl) rfl fun K hK => ?_
      go_simp
      refine ⟨trivial, rfl, (CallsIn.inRound ll (callsIn_wide.2 con)).mono ?_⟩
      rintro e w4 ⟨rfl, hbel⟩
      have hbx4 := (Keep.of_below hbel).boxed hbx hbx.lt
      have hrow4 := (Keep.of_below hbel).row hrow (fun b hb => (hrow.lt b hb).2)
      have hsz4 := hbel.size
      have c4' := hbx4.cell
      refine hK _ _ (fun _ => c4') ?_
      clear hK K con
      refine anyO_one 3 (by kernel_rfl) rfl fun K hK => ?_
      go_simp
      have c5' := (hbx4.alloc (.cells #[.string ⟨T.toArray⟩] 9)).cell
      refine hK _ _ (fun _ => c5') ?_
      clear hK K
      refine anyO_one 4 (by kernel_rfl) rfl fun K hK => ?_
      rw [if_pos (by rfl)]
      refine S.wpIn_append_own _ _ 31 rfl W4.heap.size 9 i0 (.string ByteArray.empty) 1 16 Tryz.underlying31 hi0 hz0 hz1 hz2 rfl (by decide) v pre.length _ rfl (hrow4.alloc _) ⟨w4.heap.size, 0, none⟩ 1 1 [encStr T] rfl rfl (cell_one_new _ _ _) (by simp [encStr, Value.oneCell']) (by unfold maxLen; omega) (by omega) (by simp; omega) ?_
      intro v2 w6 hown' hgrow hat
      obtain ⟨g', cap', rfl⟩ := ownsRow_succ hown'
      obtain ⟨hv1, hv2, hr2, hkk⟩ := appended_keep (S := fun b => (b < W4.heap.size ∧ b ≠ w2.heap.size) ∨ Pv b ∨ b < w2.heap.size) hbx4 (by decide) hrow4 (fun h => by rcases h with h | h | h; exact h.2 rfl; exact hnP w2.heap.size (by omega) h; omega) (fun b hb h => by have h0 := (hrow4.lt b hb).1; rcases h with h | h | h; omega; exact hnv b hb h; omega) hown' hgrow
      have c6 := hv1.cell
      have f6 := hv1.frozen
      refine hK _ _ (fun _ => c6) ?_
      clear hK K
      refine anyO_one 5 (by kernel_rfl) rfl fun K hK => ?_
      go_simp
      refine hK _ _ (fun h => absurd h (by decide)) ?_
      clear hK K
      refine anyO_done (by kernel_rfl) ?_ _
      clear c6 f6 c5' c4' c0 cx
      gi_wp2
      have hk0 : ∀ S : Nat → Prop, (∀ b, S b → b < Wd.heap.size) → Keep S W5 w4 := fun S hS => (hkd S).trans ((Keep.of_below hbel).mono fun b _ h => hS b h)
      have hRd : ∀ b, (b < W4.heap.size ∧ b ≠ w2.heap.size) ∨ Pv b ∨ b < w2.heap.size → b < Wd.heap.size := fun b hb => by
        rcases hb with h | h | h
        · omega
        · rw [hszd]; exact hPl5 b h
        · omega
      have hkk2 := (hk0 _ hRd).trans hkk
      refine ⟨hkk2.mono fun b _ h => h.elim (fun h => .inl ⟨by omega, h.2⟩) fun h => .inr (.inl h), _, hv2, ?_, fun b hb => hge b hb, fun b hb hp => ?_, hK5.trans (hkk2.mono fun b _ h => .inr (.inr h))⟩
      · rw [HSN.out, List.length_append, List.length_singleton, txtX_len]
        simpa using hr2
      · rcases hat with h | h
        · exact hnv b (h ▸ hb) hp
        · rw [h] at hb; cases hb; have h5 := hPl5 _ hp; simp at h5; omega
    case done =>
      rintro D Pv Wd hD hPD hPl ⟨v, hbx, hrow, hge, hnv, hKW⟩ hK
      obtain ⟨q4, c4, rfl, hc4, _, hs4, _⟩ := slIn_of_owns hrow
      have hlz : (txtX zs).length = m := by rw [txtX_len, HZL.out, ← HFL.out, HM.out]
      have hpos : 0 < (txtX zs).length := by rw [hlz, ← HM.out]; exact HNE.out
      obtain ⟨bk, o, rfl, hbk, hcell⟩ := hs4.at hpos
      have hSD := Lib.hid (strs_data (txtX zs))
      have HT := Lib.hid (show Lib.join (txtX zs) [32, 38, 32] = frmT f by
        rw [← HJ.out, HF.out, List.map_map]; rfl)
      have con4 := Tryz.strings_Join bk o c4 ((txtX zs).map fun p => ⟨p.toArray⟩) ⟨#[32, 38, 32]⟩ Wd (fun j y hy => by
          rw [List.getElem?_map] at hy
          obtain ⟨z, hz, rfl⟩ := Option.map_eq_some_iff.1 hy
          exact hcell j z hz) hbk (by rw [List.length_map, hlz, ← HM.out]; have := HN.out; omega) (by rw [List.length_map]; exact hc4) (by rw [hSD.out]; show (Lib.join (txtX zs) [32, 38, 32]).length ≤ _; rw [HT.out]; exact HL.out)
      rw [hSD.out, List.length_map, HT.out] at con4
      have hA : Keep (fun b => b < w2.heap.size) W4 Wd := hKW
      have hBd : Below w.heap.size w Wd := A4.trans ((hA.mono fun b _ h => by omega).below A4.size)
      have cB := hbx.cell
      have hDl := hPl D hPD
      clear hrow hs4 hcell hbx hnv hge hKW hA hit b0 hlz hpos hxl hSD
      gi_wp2_with fail
      refine ⟨trivial, (callsIn_wide.2 con4).mono ?_⟩
      rintro e w6 ⟨rfl, hb6⟩
      have hD6 : w6.heap[D]? = some (.deferred (some [])) := (hb6.block D hDl).trans hK
      have A6 := hBd.trans (hb6.mono hBd.size)
      have hDg : w.heap.size ≤ D := by omega
      clear con4
      gi_wp2
      refine ⟨by simp, .inl ⟨_, _, rfl, run_takeDeferred hD6, ?_⟩⟩
      exact ⟨_, results_tmp rfl _ _ _, rfl, ((Keep.of_below A6).trans (Keep.putObj _ D (.deferred none) (by omega))).below (Nat.le_refl _)⟩
    case stop =>
      rintro D c pre rest Pv Wd _ _ _ _ h _
      exact h.elim

end Go.Proofs.YtgkandghennbhaaGreatDoor.Frm

namespace Go.Proofs.YtgkandghennbhaaGreatDoor.Frm
open Go.RowKit Go.Shelf Go.Sort Url Org Cls
attribute [local go_sem] Oper.semAt_some
set_option linter.unusedVariables false

theorem take_eq {α : Type} (xs ys : List α) (k : Nat) (x y : α) (hx : xs[k]? = some x) (hy : ys[k]? = some y) (h : xs.take k = ys.take k) (e : x = y) : xs.take (k + 1) = ys.take (k + 1) := by
  rw [(take_snoc xs k x hx).1, (take_snoc ys k y hy).1, h, e]

set_option maxRecDepth 100000 in
set_option maxHeartbeats 8000000 in
theorem CompareFunc_any (q1 q2 : Option Addr) (n1 c1 n2 c2 : Nat) (xs ys : List (List (List UInt8))) (w : World) (h1 : ClsIn w q1 n1 xs) (h2 : ClsIn w q2 n2 ys) (hn1 : n1 ≤ 140737488355328) (hn2 : n2 ≤ 140737488355328) :
    Calls Tryz.prog 34 #[.slice q1 n1 c1, .slice q2 n2 c2, .func (.func 19) #[] #[]] w fun e w' => ∃ i : Int, e = .returned (.int .i64 i) ∧ (i == 0) = decide (xs = ys) ∧ Below w.heap.size w w' := by
  have hl1 := Lib.hid h1.len
  have hl2 := Lib.hid h2.len
  go_enter Tryz.func34, Tryz.ntmps34
  go_wp2
  go_loopw [13] (fun i wr => ∃ k : Nat, k ≤ n1 ∧ k ≤ n2 ∧ i = .int .i64 k ∧ Hid (xs.take k = ys.take k) ∧ Below w.heap.size w wr) (fun i _ => n1 - (intOf i).toNat)
  case atStart => exact ⟨0, Nat.zero_le _, Nat.zero_le _, rfl, rfl, Below.refl _ _⟩
  case round =>
    obtain ⟨k, hk1, hk2, rfl, HR, hB⟩ := hrel
    by_cases hlt : k < n1
    · obtain ⟨b1, o1, xq, xn, xc, x, rfl, hx, ck1, hsx, hfx⟩ := (h1.below hB).at k hlt
      by_cases hlt2 : k < n2
      · obtain ⟨b2, o2, yq, yn, yc, y, rfl, hy, ck2, hsy, hfy⟩ := (h2.below hB).at k hlt2
        have d2 : decide ((n2 : Int) ≤ (k : Int)) = false := by simp; omega
        have ka := Keep.alloc (fun _ => True) wr (.cells #[.slice xq xn xc] 44)
        have hlb : b2 < wr.heap.size := World.block_lt_of_cell? wr _ ck2
        have ck2' : (wr.alloc (.cells #[.slice xq xn xc] 44)).cell? ⟨b2, o2 + k, none⟩ = some (.slice yq yn yc) := (World.cell?_of_block (ka.block b2 hlb trivial)).trans ck2
        have A1 := below_alloc (w := wr) (.cells #[.slice xq xn xc] 44)
        have A2 := A1.trans ((below_alloc (w := wr.alloc (.cells #[.slice xq xn xc] 44)) (.cells #[.slice yq yn yc] 44)).mono A1.size)
        have cA := ((Boxed.new wr 44 (.slice xq xn xc)).alloc (.cells #[.slice yq yn yc] 44)).cell
        have cB := (Boxed.new (wr.alloc (.cells #[.slice xq xn xc] 44)) 44 (.slice yq yn yc)).cell
        rw [World.size_alloc] at cB
        have con := Cls.Cmp_any _ _ x y _ (hsx.below A2) (hsy.below A2)
        have hBB := hB.trans (A2.mono hB.size)
        have HX := Lib.hid hx
        have HY := Lib.hid hy
        have HC := Lib.hid (cmpL_eq x y)
        generalize cmpL x y = r at con HC
        clear hx hy h1 h2 hsx hsy ka A1 A2
        by_cases hr : r = 0
        · have HR2 := Lib.hid (take_eq xs ys k x y HX.out HY.out HR.out (HC.out.1 hr))
          have d3 : ((r : Int) != 0) = false := by rw [hr]; rfl
          clear hr
          go_wp2_with fail
          refine con.mono ?_
          rintro e w3 ⟨rfl, hb3⟩
          have A3 := hBB.trans (hb3.mono hBB.size)
          clear con hb3 cA cB
          go_wp2
          go_roundw
          case rel => exact ⟨k + 1, by omega, by omega, by go_num, HR2, A3⟩
          case measure => simp [intOf]; omega
        · have HN := Lib.hid (show (r == 0) = decide (xs = ys) by
            rw [beq_eq_false_iff_ne.2 hr, eq_comm, decide_eq_false_iff_not]
            intro e
            have h1 := HX.out
            rw [e, HY.out] at h1
            exact hr (HC.out.2 (Option.some.inj h1).symm))
          have d3 : ((r : Int) != 0) = true := by unfold bne; rw [beq_eq_false_iff_ne.2 hr]; rfl
          clear hr
          go_wp2_with fail
          refine con.mono ?_
          rintro e w3 ⟨rfl, hb3⟩
          have A3 := hBB.trans (hb3.mono hBB.size)
          clear con hb3 cA cB
          go_wp2
          go_ret
          exact ⟨_, rfl, HN.out, A3⟩
      · have d2 : decide ((n2 : Int) ≤ (k : Int)) = true := by simp; omega
        have HN := Lib.hid (show ((1 : Int) == 0) = decide (xs = ys) by
          rw [eq_comm, show ((1 : Int) == 0) = false from rfl, decide_eq_false_iff_not]
          intro e
          have := hl1.out
          rw [e, hl2.out] at this
          omega)
        have hBB := hB.trans ((below_alloc (w := wr) (.cells #[.slice xq xn xc] 44)).mono hB.size)
        clear hx hsx h1 h2
        go_wp2
        go_ret
        exact ⟨_, rfl, HN.out, hBB⟩
    · obtain rfl : k = n1 := by omega
      clear h1 h2
      by_cases hlt2 : k < n2
      · have d2 : decide ((k : Int) < (n2 : Int)) = true := by simp; omega
        have HN := Lib.hid (show ((-1 : Int) == 0) = decide (xs = ys) by
          rw [eq_comm, show ((-1 : Int) == 0) = false from rfl, decide_eq_false_iff_not]
          intro e
          have := hl1.out
          rw [e, hl2.out] at this
          omega)
        go_wp2
        go_ret
        exact ⟨_, rfl, HN.out, hB⟩
      · have d2 : decide ((k : Int) < (n2 : Int)) = false := by simp; omega
        have HN := Lib.hid (show ((0 : Int) == 0) = decide (xs = ys) by
          rw [eq_comm, show ((0 : Int) == 0) = true from rfl, decide_eq_true_iff]
          have := HR.out
          rwa [List.take_of_length_le (by rw [hl1.out]; omega), List.take_of_length_le (by rw [hl2.out]; omega)] at this)
        go_wp2
        go_ret
        exact ⟨_, rfl, HN.out, hB⟩

set_option maxRecDepth 100000 in
set_option maxHeartbeats 4000000 in
theorem Same_any (v1 v2 : Value) (f g : List (List (List UInt8))) (w : World) (h1 : FrmIs w v1 f) (h2 : FrmIs w v2 g) (lf : f.length ≤ 1099511627776) (lg : g.length ≤ 1099511627776) :
    Calls Tryz.prog 14 #[v1, v2] w fun e w' => e = .returned (.bool (decide (f = g))) ∧ Below w.heap.size w w' := by
  obtain ⟨q1, n1, c1, rfl⟩ := frm_form h1
  obtain ⟨q2, n2, c2, rfl⟩ := frm_form h2
  obtain ⟨_, _, r1⟩ := h1.row
  obtain ⟨_, _, r2⟩ := h2.row
  have A1 := below_alloc (w := w) (.cells #[.slice q1 n1 c1] 26)
  have A2 := A1.trans ((below_alloc (w := w.alloc (.cells #[.slice q1 n1 c1] 26)) (.cells #[.slice q2 n2 c2] 26)).mono A1.size)
  have e1 := r1.len
  have e2 := r2.len
  have con := CompareFunc_any q1 q2 n1 c1 n2 c2 f g _ (r1.below A2) (r2.below A2) (by omega) (by omega)
  clear h1 h2 r1 r2 e1 e2
  generalize decide (f = g) = b at con ⊢
  go_enter Tryz.func14, Tryz.ntmps14
  go_wp2_with fail
  refine con.mono ?_
  rintro e w' ⟨i, rfl, hi, hb⟩
  have HI := Lib.hid hi
  clear hi con
  go_wp2
  go_ret
  exact ⟨(by first | rfl | (rw [← HI.out]; rfl)), A2.trans (hb.mono A2.size)⟩

end Go.Proofs.YtgkandghennbhaaGreatDoor.Frm

namespace Go.Proofs.YtgkandghennbhaaGreatDoor.Frm
open Go.RowKit Go.Shelf Go.Sort Url Org Cls
attribute [local go_sem] Oper.semAt_some
set_option linter.unusedVariables false

set_option maxRecDepth 100000 in
set_option maxHeartbeats 4000000 in
theorem Grow_cls (n : Nat) (w : World) (hn : n ≤ 1099511627776) :
    Calls Tryz.prog 52 #[.slice none 0 0, .int .i64 n] w fun e w' => ∃ v, e = .returned v ∧ w'.ownsRow w.heap.size 44 1 v 0 [] ∧ Below w.heap.size w w' := by
  by_cases h0 : n = 0
  · subst h0
    go_enter Tryz.func52, Tryz.ntmps52
    go_wp2
    go_ret
    exact ⟨_, rfl, World.ownsRow_nil _ _ _ _, Below.refl _ _⟩
  obtain ⟨i0, hi0, hz0, hz1, hz2⟩ := info_parts info_cls
  have h1 : ¬ ((n : Int) < 0) := by omega
  have h4 : (n : Int) > 0 := by omega
  have h4' : decide (0 < n) = true := by simp; omega
  have hold : (Builtin.firstCells i0.size 0 (.slice none 0 0)).run Tryz.prog w.drew = .ok ([] : List Value).toArray w.drew := run_firstCells_none w.drew i0.size 0 0 0
  have hrz := Lib.run_append_grow_zeros (P := Tryz.prog) w 24 3 24 44 i0 (.agg #[.slice none 0 0]) .i64 .i64 Tryz.underlying24 Tryz.underlying3 hi0 hz0 none 0 0 [] hold n (by omega) (by omega) (by omega) (by omega) (by rw [hz2]; omega)
    (growslice_fits (by omega) (by rw [hz2]; omega))
  simp only [Nat.zero_add] at hrz
  have hG : n ≤ grownCap w n 0 44 := grownCap_ge w _ _ _
  have hGm : grownCap w n 0 44 ≤ maxLen := grownCap_le_maxLen w n 0 44 (by unfold maxLen; omega)
  have hz : ∀ k, (Builtin.zeroCells (Value.agg #[.slice none 0 0]).cells k).size = k := fun k => by simp [Builtin.zeroCells, Value.cells]
  have hsz : (([] : List Value).toArray ++ Builtin.zeroCells (Value.agg #[.slice none 0 0]).cells n ++ Builtin.zeroCells (Value.agg #[.slice none 0 0]).cells (grownCap w n 0 44 - n)).size = grownCap w n 0 44 * 1 := by
    rw [Array.size_append, Array.size_append, hz, hz, List.size_toArray, List.length_nil]; omega
  have hown := World.ownsRow_made (e := 44) (size := 1) (base := w.heap.size) w.drew _ (grownCap w n 0 44) (Nat.le_refl _) hGm hsz
  have hbel := (Below.refl w.heap.size w).drew.alloc (Nat.le_refl _) (.cells (([] : List Value).toArray ++ Builtin.zeroCells (Value.agg #[.slice none 0 0]).cells n ++ Builtin.zeroCells (Value.agg #[.slice none 0 0]).cells (grownCap w n 0 44 - n)) 44)
  have hgm : ((grownCap w n 0 44 : Nat) : Int) ≤ 9223372036854775807 := by unfold maxLen at hGm; omega
  clear hold hsz hGm hz
  generalize grownCap w n 0 44 = G at *
  generalize (([] : List Value).toArray ++ Builtin.zeroCells (Value.agg #[.slice none 0 0]).cells n ++ Builtin.zeroCells (Value.agg #[.slice none 0 0]).cells (G - n)) = cs at *
  go_enter Tryz.func52, Tryz.ntmps52
  go_wp2_with (at_builtin; refine Lib.wpList_append_run _ rfl _ _ _ _ rfl _ _ rfl rfl _ _ hrz ?_)
  go_ret
  exact ⟨_, rfl, hown, hbel⟩

set_option maxRecDepth 100000 in
set_option maxHeartbeats 8000000 in
/-- slices.Concat of two rows. -/
theorem Concat_cls (b : Nat) (q1 q2 : Option Addr) (n1 c1 n2 c2 : Nat) (zs1 zs2 : List Cl) (w : World) (hc0 : w.cell? ⟨b, 0, none⟩ = some (.slice q1 n1 c1)) (hc1 : w.cell? ⟨b, 1, none⟩ = some (.slice q2 n2 c2))
    (h1 : SlIn encC w q1 n1 zs1) (h2 : SlIn encC w q2 n2 zs2) (hq1 : q1 = none → c1 = 0) (hq2 : q2 = none → c2 = 0) (hs : n1 + n2 ≤ 1099511627776) :
    Calls Tryz.prog 30 #[.slice (some ⟨b, 0, none⟩) 2 2] w fun e w' => ∃ v, e = .returned v ∧ w'.ownsRow w.heap.size 44 1 v (n1 + n2) ((zs1 ++ zs2).map encC) ∧ Below w.heap.size w w' := by
  have con := Grow_cls (n1 + n2) w hs
  have hbl := World.block_lt_of_cell? w _ hc0
  have d1 : decide ((n1 : Int) < 0) = false := by simp
  have hcast : ((n1 + n2 : Nat) : Int) = (n1 : Int) + n2 := by omega
  rw [hcast] at con
  clear hcast
  have d2 : decide ((n1 : Int) + (n2 : Int) < 0) = false := by simp; omega
  go_enter Tryz.func30, Tryz.ntmps30
  go_wp2
  go_loop [3, 11] (fun s i => (i = .int .i64 0 ∧ s = .int .i64 0) ∨ (i = .int .i64 1 ∧ s = .int .i64 n1) ∨ (i = .int .i64 2 ∧ s = .int .i64 ((n1 : Int) + n2))) (fun _ i => 2 - (intOf i).toNat)
  case atStart => exact .inl ⟨rfl, rfl⟩
  case round =>
    rcases hrel with ⟨rfl, rfl⟩ | ⟨rfl, rfl⟩ | ⟨rfl, rfl⟩
    · go_wp2
      go_round
      case rel => exact .inr (.inl ⟨by go_num, by go_num⟩)
      case measure => simp [intOf]
    · go_wp2
      go_round
      case rel => exact .inr (.inr ⟨by go_num, by go_num⟩)
      case measure => simp [intOf]
    · have l1 := h1.1
      have l2 := h2.1
      go_wp2_with fail
      refine con.mono ?_
      rintro e w1 ⟨v1, rfl, hown, hbel⟩
      clear con
      go_wp2
      go_loopw [6, 27] (fun v i wr => ∃ (k : Nat) (ls : List Cl), i = .int .i64 k ∧ ((k = 0 ∧ ls = []) ∨ (k = 1 ∧ ls = zs1) ∨ (k = 2 ∧ ls = zs1 ++ zs2)) ∧ wr.ownsRow w.heap.size 44 1 v ls.length (ls.map encC) ∧ Below w.heap.size w wr) (fun _ i _ => 2 - (intOf i).toNat)
      case atStart => exact ⟨0, [], rfl, .inl ⟨rfl, rfl⟩, hown, hbel⟩
      case round =>
        obtain ⟨k, ls, rfl, hk, hrow, hB⟩ := hrel
        have hbs := hB.size
        rcases hk with ⟨rfl, rfl⟩ | ⟨rfl, rfl⟩ | ⟨rfl, rfl⟩
        · have hc0' : wr.cell? ⟨b, 0, none⟩ = some (.slice q1 n1 c1) := (World.cell?_of_block (hB.block b hbl)).trans hc0
          have hs1 := h1.below hB h1.lt
          clear hown
          go_wp2_with (at_builtin; refine wpList_append_cls rfl _ _ rfl w.heap.size _ 0 _ rfl hrow q1 n1 c1 zs1 rfl hq1 hs1 (by omega) hbs ?_; intro v4 w4 hown4 hgrow4)
          go_roundw
          case rel =>
            refine ⟨1, zs1, by go_num, .inr (.inl ⟨rfl, rfl⟩), ?_, hB.trans ((Below.refl _ _).grown hgrow4 hbs (fun b h => (hrow.lt b h).1))⟩
            rw [l1]; simpa using hown4
          case measure => simp [intOf]
        · have hc1' : wr.cell? ⟨b, 1, none⟩ = some (.slice q2 n2 c2) := (World.cell?_of_block (hB.block b hbl)).trans hc1
          have hs2 := h2.below hB h2.lt
          clear hown
          go_wp2_with (at_builtin; refine wpList_append_cls rfl _ _ rfl w.heap.size _ _ _ rfl hrow q2 n2 c2 zs2 rfl hq2 hs2 (by omega) hbs ?_; intro v4 w4 hown4 hgrow4)
          go_roundw
          case rel =>
            refine ⟨2, ls ++ zs2, by go_num, .inr (.inr ⟨rfl, rfl⟩), ?_, hB.trans ((Below.refl _ _).grown hgrow4 hbs (fun b h => (hrow.lt b h).1))⟩
            rw [List.length_append, l2, List.map_append]; exact hown4
          case measure => simp [intOf]
        · have hrow' : wr.ownsRow w.heap.size 44 1 u6 (n1 + n2) ((zs1 ++ zs2).map encC) := by
            have := hrow
            rwa [List.length_append, l1, l2] at this
          clear hown hrow
          go_wp2
          go_ret
          exact ⟨_, rfl, hrow', hB⟩

set_option maxRecDepth 100000 in
set_option maxHeartbeats 8000000 in
theorem And_any (v1 v2 : Value) (f g : List (List (List UInt8))) (w : World) (h1 : FrmIs w v1 f) (h2 : FrmIs w v2 g) (lf : f.length + g.length ≤ 1099511627776) :
    Calls Tryz.prog 10 #[v1, v2] w (FrmOut (andR f g) w) := by
  obtain ⟨q1, n1, c1, rfl⟩ := frm_form h1
  obtain ⟨q2, n2, c2, rfl⟩ := frm_form h2
  obtain ⟨hq1, _, zs1, s1, z1, rfl⟩ := h1.row
  obtain ⟨hq2, _, zs2, s2, z2, rfl⟩ := h2.row
  obtain ⟨W0, hW0⟩ : ∃ W0, ((w.alloc (.cells #[.slice q1 n1 c1] 26)).alloc (.cells #[.slice q2 n2 c2] 26)).alloc (.cells #[.slice none 0 0] 26) = W0 := ⟨_, rfl⟩
  have b0 : Boxed W0 w.heap.size 26 (.slice q1 n1 c1) := hW0 ▸ ((Boxed.new w _ _).alloc _).alloc _
  have b1 : Boxed W0 (w.heap.size + 1) 26 (.slice q2 n2 c2) := by
    have := (Boxed.new (w.alloc (.cells #[.slice q1 n1 c1] 26)) 26 (.slice q2 n2 c2)).alloc (.cells #[.slice none 0 0] 26)
    rw [World.size_alloc] at this
    exact hW0 ▸ this
  have b2 : Boxed W0 (w.heap.size + 2) 26 (.slice none 0 0) := by
    have := Boxed.new ((w.alloc (.cells #[.slice q1 n1 c1] 26)).alloc (.cells #[.slice q2 n2 c2] 26)) 26 (.slice none 0 0)
    rw [World.size_alloc, World.size_alloc] at this
    exact hW0 ▸ this
  have hB0 : Below w.heap.size w W0 := hW0 ▸ (((Below.refl _ w).alloc (Nat.le_refl _) _).alloc (by simp) _).alloc (by simp; omega) _
  have hs0 : W0.heap.size = w.heap.size + 3 := by rw [← hW0]; simp
  obtain ⟨W3, hW3⟩ : ∃ W3, W0.alloc (.cells #[.slice q1 n1 c1, .slice q2 n2 c2] 24) = W3 := ⟨_, rfl⟩
  have hB3 : Below W0.heap.size W0 W3 := hW3 ▸ below_alloc _
  have A3 := hB0.trans (hB3.mono hB0.size)
  have hc0 : W3.cell? ⟨W0.heap.size, 0, none⟩ = some (.slice q1 n1 c1) := by rw [← hW3]; simp
  have hc1 : W3.cell? ⟨W0.heap.size, 1, none⟩ = some (.slice q2 n2 c2) := by rw [← hW3]; simp
  have e1 := s1.1
  have e2 := s2.1
  rw [List.length_map, List.length_map, e1, e2] at lf
  have con := Concat_cls W0.heap.size q1 q2 n1 c1 n2 c2 zs1 zs2 W3 hc0 hc1 (s1.below A3 s1.lt) (s2.below A3 s2.lt) hq1 hq2 lf
  rw [hs0] at con
  have b3 := (Keep.of_below hB3).boxed b2 b2.lt
  have k0 := b0.cell
  have k1 := b1.cell
  have HZ := Lib.hid (show ∀ z ∈ zs1 ++ zs2, ClAt W3 z from fun z hz => (List.mem_append.1 hz).elim (fun h => (z1 z h).below A3) (fun h => (z2 z h).below A3))
  have HR := Lib.hid (show andR (zs1.map Prod.snd) (zs2.map Prod.snd) = ofF ((zs1 ++ zs2).map Prod.snd) by rw [List.map_append]; rfl)
  have HL := Lib.hid (show (zs1 ++ zs2).length = n1 + n2 by rw [List.length_append, e1, e2])
  have HW0 := Lib.hid hW0
  have HW3 := Lib.hid hW3
  have HS0 := Lib.hid hs0
  generalize zs1 ++ zs2 = zs at *
  clear hW0 hW3 h1 h2 s1 s2 z1 z2 hc0 hc1 hs0 e1 e2
  go_enter Tryz.func10, Tryz.ntmps10
  go_wp2_with fail
  rw [HW0.out]
  rw [HW3.out]
  refine con.mono ?_
  rintro e w4 ⟨v4, rfl, hown, hb4⟩
  obtain ⟨q5, c5, rfl, hc5, hm5, hs5, _⟩ := slIn_of_owns hown
  have b4 := (Keep.of_below hb4).boxed b3 b3.lt
  have A4 := A3.trans (hb4.mono A3.size)
  have con2 := Of_any q5 (n1 + n2) c5 (zs.map Prod.snd) w4 ⟨zs, hs5, fun z hz => (HZ.out z hz).below hb4, rfl⟩ (fun h => by subst h; exact (Cls.row_nil hown).2) lf
  rw [← HR.out] at con2
  generalize n1 + n2 = n at *
  clear con hown hs5 hb4 hm5 hc5 HW0 HW3 k0 k1
  go_wp2_with fail
  refine con2.mono ?_
  rintro e w6 ⟨q6, n6, c6, rfl, hs6, hq6, hb6⟩
  have b6 := (Keep.of_below hb6).boxed b4 b4.lt
  have A6 := A4.trans (hb6.mono A4.size)
  have kf := b6.frozen
  have kc := b6.cell
  have hlt := b4.lt
  clear con2
  go_wp2
  refine bodyPost_ret (ret_frm2 rfl _ _ (w.heap.size + 2) _ rfl (b6.set _)) rfl ?_
  exact ⟨q6, n6, c6, rfl, hs6.set b6 (fun x h => by cases h) (fun a ha => by have := hq6 a ha; omega), (fun a ha => Nat.le_trans A4.size (hq6 a ha)), A6.setCell (by simp; omega) _⟩

end Go.Proofs.YtgkandghennbhaaGreatDoor.Frm

namespace Go.Proofs.YtgkandghennbhaaGreatDoor.Frm
open Go.RowKit Go.Shelf Go.Sort Url Org Cls
attribute [local go_sem] Oper.semAt_some
set_option linter.unusedVariables false

/-- The clauses that have come lie in the box's row; Pv: what others hold. -/
def OrL (Bo : Nat) (RB : Nat → Prop) (W0 : World) (Pv : Nat → Prop) (W : World) (acc : List (List (List UInt8))) : Prop :=
  ∃ v, ∃ ls : List Cl, Boxed W Bo 24 v ∧ W.ownsRow W0.heap.size 44 1 v ls.length (ls.map encC) ∧ (∀ z ∈ ls, ClAt W z ∧ ∀ a, z.1.1 = some a → 0 < z.1.2.1 → ¬ Pv a.block ∧ W0.heap.size ≤ a.block ∧ v.ownBlock ≠ some a.block) ∧ ls.map Prod.snd = acc ∧
    (∀ b, Pv b → W0.heap.size ≤ b) ∧ (∀ b, v.ownBlock = some b → ¬ Pv b) ∧ Keep RB W0 W
theorem OrL.step {Bo : Nat} {RB Pv Pv' : Nat → Prop} {W0 A B : World} {acc : List (List (List UInt8))} (h : OrL Bo RB W0 Pv A acc) (hBo : Bo < W0.heap.size) (hRB : ∀ b, RB b → b < W0.heap.size) (hk : Keep (fun b => ¬ Pv b) A B) (hp : ∀ b, Pv' b → (Pv b ∨ A.heap.size ≤ b)) : OrL Bo RB W0 Pv' B acc := by
  obtain ⟨v, ls, h1, h2, hz, hc, h3, h5, h6⟩ := h
  have hs := h6.size
  refine ⟨v, ls, hk.boxed h1 (fun h => by have := h3 _ h; omega), hk.row h2 h5, fun z hz' => ⟨(hz z hz').1.from hk (fun a ha h0 => ((hz z hz').2 a ha h0).1), fun a ha h0 => ⟨fun hp' => ?_, ((hz z hz').2 a ha h0).2⟩⟩, hc, fun b hb => ?_, fun b hb hp' => ?_, h6.trans (hk.mono fun b _ hb hpb => by have := h3 b hpb; have := hRB b hb; omega)⟩
  · rcases hp _ hp' with h | h
    · exact ((hz z hz').2 a ha h0).1 h
    · have := (hz z hz').1.lt a ha h0; omega
  · rcases hp b hb with h | h
    · exact h3 b h
    · omega
  · rcases hp _ hp' with h | h
    · exact h5 b hb h
    · have := (h2.lt b hb).2; omega
/-- The Eithers of one clause with some. -/
def withL (x : List (List UInt8)) (pre : List Cl) : List (List (List UInt8)) := pre.map fun z => Frm.sortR (x ++ z.2)
theorem withL_snoc (x : List (List UInt8)) (pre : List Cl) (z : Cl) : withL x (pre ++ [z]) = withL x pre ++ [Frm.sortR (x ++ z.2)] := by unfold withL; simp
theorem withL_len (x : List (List UInt8)) (pre : List Cl) : (withL x pre).length = pre.length := by unfold withL; simp
/-- The Eithers of some with all of the other ones. -/
def eithL (zs2 pre : List Cl) : List (List (List UInt8)) := pre.flatMap fun z => withL z.2 zs2
theorem eithL_snoc (zs2 pre : List Cl) (z : Cl) : eithL zs2 (pre ++ [z]) = eithL zs2 pre ++ withL z.2 zs2 := by unfold eithL; simp
theorem eithL_len (zs2 : List Cl) : ∀ pre : List Cl, (eithL zs2 pre).length = pre.length * zs2.length
  | [] => by simp [eithL]
  | z :: r => by
    have ih := eithL_len zs2 r
    unfold eithL at ih ⊢
    rw [List.flatMap_cons, List.length_append, ih, withL_len, List.length_cons, Nat.succ_mul]; omega
theorem eithL_is (zs1 zs2 : List Cl) : eithL zs2 zs1 = eithers (zs1.map Prod.snd) (zs2.map Prod.snd) := by
  unfold eithL eithers withL
  rw [List.flatMap_map]
  congr 1
  funext z
  rw [List.map_map]; rfl
def smallB (l : List (List (List UInt8))) : Bool := l.all fun c => decide (c.length ≤ 16)
theorem orR_small (zs1 zs2 : List Cl) (h : smallB (eithL zs2 zs1) = true) : orR (zs1.map Prod.snd) (zs2.map Prod.snd) = ofF (eithL zs2 zs1) := by
  unfold orR
  rw [← eithL_is]
  exact if_pos h
theorem orR_great (zs1 zs2 : List Cl) (h : smallB (eithL zs2 zs1) = false) : orR (zs1.map Prod.snd) (zs2.map Prod.snd) = .inl 3 := by
  unfold orR
  rw [← eithL_is]
  exact if_neg (by show ¬ smallB (eithL zs2 zs1) = true; rw [h]; simp)
theorem small_app (a b : List (List (List UInt8))) : smallB (a ++ b) = (smallB a && smallB b) := by unfold smallB; rw [List.all_append]
theorem great_of (zs1 zs2 : List Cl) (x y : Cl) (hx : x ∈ zs1) (hy : y ∈ zs2) (h : ¬ (Frm.sortR (x.2 ++ y.2)).length ≤ 16) : smallB (eithL zs2 zs1) = false := by
  unfold smallB
  rw [List.all_eq_false]
  refine ⟨Frm.sortR (x.2 ++ y.2), List.mem_flatMap.2 ⟨x, hx, List.mem_map.2 ⟨y, hy, rfl⟩⟩, ?_⟩
  simpa using h

/-- Where a clause's error has left the loops. -/
def OrX (w : World) (ok : Prop) (W0 : World) (c : Code) (Pv : Nat → Prop) (W : World) : Prop :=
  c = .ret ∧ Boxed W (w.heap.size + 2) 26 (.slice none 0 0) ∧ Boxed W (w.heap.size + 3) 33 (.int .i64 3) ∧ ok ∧ Below w.heap.size w W ∧ (∀ b, Pv b → W0.heap.size ≤ b) ∧ W0.heap.size ≤ W.heap.size
theorem OrX.step {w W0 A B : World} {ok : Prop} {c : Code} {Pv Pv' : Nat → Prop} (h : OrX w ok W0 c Pv A) (h0 : w.heap.size + 4 ≤ W0.heap.size) (hk : Keep (fun b => ¬ Pv b) A B) (hp : ∀ b, Pv' b → (Pv b ∨ A.heap.size ≤ b)) : OrX w ok W0 c Pv' B := by
  obtain ⟨hc, h1, h2, h3, h4, h5, h6⟩ := h
  have hs := hk.size
  refine ⟨hc, hk.boxed h1 (fun h => by have := h5 _ h; omega), hk.boxed h2 (fun h => by have := h5 _ h; omega), h3, h4.trans ((hk.mono fun b _ hb hpb => by have := h5 b hpb; omega).below h4.size), fun b hb => ?_, by omega⟩
  rcases hp b hb with h | h
  · exact h5 b h
  · omega

set_option maxRecDepth 100000 in
set_option maxHeartbeats 16000000 in
theorem Or_any (v1 v2 : Value) (f g : List (List (List UInt8))) (w : World) (h1 : FrmIs w v1 f) (h2 : FrmIs w v2 g) (lf : f.length ≤ 16) (lg : g.length ≤ 16) :
    Calls Tryz.prog 11 #[v1, v2] w (FrmOut (orR f g) w) := by
  obtain ⟨i0, hi0, hz0, hz1, hz2⟩ := info_parts info_cls
  obtain ⟨q1, n1, c1, rfl⟩ := frm_form h1
  obtain ⟨q2, n2, c2, rfl⟩ := frm_form h2
  obtain ⟨_, _, zs1, s1, z1, rfl⟩ := h1.row
  obtain ⟨_, _, zs2, s2, z2, rfl⟩ := h2.row
  rw [List.length_map] at lf lg
  obtain ⟨W1, hW1⟩ : ∃ W1, (((w.alloc (.cells #[.slice q1 n1 c1] 26)).alloc (.cells #[.slice q2 n2 c2] 26)).alloc (.cells #[.slice none 0 0] 26)).alloc (.cells #[.int .i64 0] 33) = W1 := ⟨_, rfl⟩
  have b0 : Boxed W1 w.heap.size 26 (.slice q1 n1 c1) := hW1 ▸ (((Boxed.new w _ _).alloc _).alloc _).alloc _
  have b1 : Boxed W1 (w.heap.size + 1) 26 (.slice q2 n2 c2) := by
    have := ((Boxed.new (w.alloc (.cells #[.slice q1 n1 c1] 26)) 26 (.slice q2 n2 c2)).alloc (.cells #[.slice none 0 0] 26)).alloc (.cells #[.int .i64 0] 33)
    rw [World.size_alloc] at this
    exact hW1 ▸ this
  have bR : Boxed W1 (w.heap.size + 2) 26 (.slice none 0 0) := by
    have := (Boxed.new ((w.alloc (.cells #[.slice q1 n1 c1] 26)).alloc (.cells #[.slice q2 n2 c2] 26)) 26 (.slice none 0 0)).alloc (.cells #[.int .i64 0] 33)
    rw [World.size_alloc, World.size_alloc] at this
    exact hW1 ▸ this
  have bE : Boxed W1 (w.heap.size + 3) 33 (.int .i64 0) := by
    have := Boxed.new (((w.alloc (.cells #[.slice q1 n1 c1] 26)).alloc (.cells #[.slice q2 n2 c2] 26)).alloc (.cells #[.slice none 0 0] 26)) 33 (.int .i64 0)
    rw [World.size_alloc, World.size_alloc, World.size_alloc] at this
    exact hW1 ▸ this
  have A1 : Below w.heap.size w W1 := hW1 ▸ ((((Below.refl _ w).alloc (Nat.le_refl _) _).alloc (by simp) _).alloc (by simp; omega) _).alloc (by simp; omega) _
  have hs1 : W1.heap.size = w.heap.size + 4 := by rw [← hW1]; simp
  obtain ⟨W2, hW2⟩ : ∃ W2, W1.alloc (.cells #[.slice none 0 0] 24) = W2 := ⟨_, rfl⟩
  have bL : Boxed W2 (w.heap.size + 4) 24 (.slice none 0 0) := by
    have := Boxed.new W1 24 (.slice none 0 0)
    rw [hs1] at this
    exact hW2 ▸ this
  have hB2 : Below W1.heap.size W1 W2 := hW2 ▸ below_alloc _
  have hs2 : W2.heap.size = w.heap.size + 5 := by rw [← hW2]; simp [hs1]
  have c0' := (b0.alloc (.cells #[.slice none 0 0] 24)).cell
  have con := frmAll_any q1 n1 c1 W2
  have HW1 := Lib.hid hW1
  have HW2 := Lib.hid hW2
  have A2 := A1.trans (hB2.mono A1.size)
  replace b1 := (Keep.of_below hB2).boxed b1 b1.lt
  replace bR := (Keep.of_below hB2).boxed bR bR.lt
  replace bE := (Keep.of_below hB2).boxed bE bE.lt
  clear hW1 hW2 h1 h2 hB2
  refine (callsIn_wide (n := 1)).1 ?_
  refine callsIn_of_wp_marks Tryz.func11 rfl trivial ?_ rfl
  simp only [Tryz.ntmps11, List.size_toArray, List.length_cons, List.length_nil, Nat.reduceAdd, Nat.reduceSub, Array.replicate_succ, Array.replicate_zero, List.push_toArray, List.append_toArray, List.nil_append, List.cons_append]
  gi_wp2_with fail
  rw [HW1.out]
  gi_wp2_with fail
  rw [HW2.out]
  refine ⟨trivial, (callsIn_wide.2 con).mono ?_⟩
  rintro e W3 ⟨rfl, hW3⟩
  have bv : Boxed W3 (W2.heap.size + 1) 24 (.slice q1 n1 c1) := by
    have := Boxed.new (W2.alloc (.cells #[.slice q1 n1 c1] 26)) 24 (.slice q1 n1 c1)
    rw [World.size_alloc] at this
    exact hW3 ▸ this
  have hbel : Below W2.heap.size W2 W3 := hW3 ▸ ((Below.refl _ W2).alloc (Nat.le_refl _) _).alloc (by simp) _
  have hs3 : W3.heap.size = w.heap.size + 7 := by rw [hW3]; simp [hs2]
  replace b1 := (Keep.of_below hbel).boxed b1 b1.lt
  replace bR := (Keep.of_below hbel).boxed bR bR.lt
  replace bE := (Keep.of_below hbel).boxed bE bE.lt
  replace bL := (Keep.of_below hbel).boxed bL bL.lt
  have A3 := A2.trans (hbel.mono A2.size)
  have hl1 := s1.1
  have hl2 := s2.1
  obtain ⟨RK, hRK⟩ : ∃ RK : Nat → Prop, RK = fun b => b < w.heap.size + 7 ∧ b ≠ w.heap.size + 4 := ⟨_, rfl⟩
  obtain ⟨RB, hRB⟩ : ∃ RB : Nat → Prop, RB = fun b => RK b ∧ b ≠ w.heap.size + 2 ∧ b ≠ w.heap.size + 3 := ⟨_, rfl⟩
  have rk := Lib.hid (show ∀ b, RK b ↔ b < w.heap.size + 7 ∧ b ≠ w.heap.size + 4 from fun b => by rw [hRK])
  have rb := Lib.hid (show ∀ b, RB b ↔ RK b ∧ b ≠ w.heap.size + 2 ∧ b ≠ w.heap.size + 3 from fun b => by rw [hRB])
  have rbo : ∀ b, b < w.heap.size → RB b := fun b hb => (rb.out b).2 ⟨(rk.out b).2 (by omega), by omega, by omega⟩
  have rkl : ∀ b, RK b → b < W3.heap.size := fun b hb => by have := (rk.out b).1 hb; omega
  have rbl : ∀ b, RB b → b < W3.heap.size := fun b hb => rkl b ((rb.out b).1 hb).1
  have hit := Values1_iter (W2.heap.size + 1) q1 n1 c1 zs1 RB W3 (by omega) (s1.below A3 s1.lt) (fun a h h' => rbo _ (s1.lt a h h')) bv ((rb.out _).2 ⟨(rk.out _).2 (by omega), by omega, by omega⟩) rbl
  rw [hs2] at hit
  have hbo : w.heap.size + 4 < W3.heap.size := by omega
  clear con bv hW3 hbel HW1 HW2 hRK hRB c0'
  gi_wp2
  refine rf_law (gf := 81) (lb := #[.pointer (some ⟨w.heap.size + 5 + 1, 0, none⟩)]) rfl (enters_of Tryz.func81 (by kernel_rfl) rfl)
    hit (Keep.refl _ _) rbl (fun x args G W h => by rw [h.1]; rfl)
    (fun pre Pv W => OrL (w.heap.size + 4) RK W3 Pv W (eithL zs2 pre) ∧ smallB (eithL zs2 pre) = true)
    (fun cc pre Pv W => OrX w (smallB (eithL zs2 zs1) = false) W3 cc Pv W)
    (fun s Pv Pv' A B h hk hp => ⟨h.1.step hbo rkl hk (fun b hb => (hp b hb).1), h.2⟩)
    (fun cc s Pv Pv' A B h hk hp => h.step (by omega) hk (fun b hb => (hp b hb).1))
    ⟨⟨_, [], bL, World.ownsRow_nil _ _ _ _, (fun z hz => by cases hz), rfl, (fun _ h => h.elim), (fun _ h => by cases h), Keep.refl _ _⟩, rfl⟩ ?round ?done ?stop
  case round =>
    rintro ll pre ⟨⟨xq, xn, xc⟩, x⟩ rest Pv G args Wr hll hxs ⟨hOL, hsm⟩ hPl hGl hPb hGP ⟨harg, rfl⟩
    obtain rfl : args = #[.agg #[.slice xq xn xc]] := harg
    have hxm : ((xq, xn, xc), x) ∈ zs1 := by rw [hxs]; simp
    have hpl : pre.length + 1 ≤ 16 := by
      have := lf
      rw [hxs, List.length_append, List.length_cons] at this
      omega
    have hll2 := hPb ll hPl
    have hge0 : ∀ b, Pv b → W3.heap.size ≤ b := by obtain ⟨_, _, _, _, _, _, h, _⟩ := hOL; exact h
    have hK0 : Keep RK W3 Wr := by obtain ⟨_, _, _, _, _, _, _, _, h⟩ := hOL; exact h
    clear hxs hit
    gi_wp2
    refine ⟨Keep.alloc _ _ _, fun W5 hk5 hs5 r hr => ?_⟩
    have hka := Keep.alloc (fun _ => True) Wr (.cells #[.slice xq xn xc] 44)
    have bx := hk5.boxed (Boxed.new Wr 44 (.slice xq xn xc)) (by omega)
    have hk5' : Keep (fun b => ¬ Pv b) Wr W5 := (hka.mono fun _ _ _ => trivial).trans (hk5.mono fun b _ hb h => hb (h ▸ hPl))
    have hK5 : Keep RK W3 W5 := hK0.trans (hk5'.mono fun b _ hb h => by have := hge0 b h; have := rkl b hb; omega)
    have hsr : Wr.heap.size < W5.heap.size := bx.lt
    have hsz0 := hK0.size
    have A5 : Below w.heap.size w W5 := A3.trans ((hK5.mono fun b _ h => (rk.out b).2 (by omega)).below A3.size)
    have b15 := hK5.boxed b1 ((rk.out _).2 (by omega))
    have con2 := frmAll_any q2 n2 c2 W5
    have c1' := b15.cell
    clear hk5 hka hs5 hK0
    gi_wp2_with fail
    refine ⟨trivial, rfl, (CallsIn.inRound ll (callsIn_wide.2 con2)).mono ?_⟩
    rintro e W6 ⟨rfl, hW6⟩
    have bv2 : Boxed W6 (W5.heap.size + 1) 24 (.slice q2 n2 c2) := by
      have := Boxed.new (W5.alloc (.cells #[.slice q2 n2 c2] 26)) 24 (.slice q2 n2 c2)
      rw [World.size_alloc] at this
      exact hW6 ▸ this
    have hbel6 : Below W5.heap.size W5 W6 := hW6 ▸ ((Below.refl _ W5).alloc (Nat.le_refl _) _).alloc (by simp) _
    have hs6 : W6.heap.size = W5.heap.size + 2 := by rw [hW6]; simp
    have kb6 := Keep.of_below hbel6
    have hl6 : W6.heap[ll]? = some (.loop r) := (hbel6.block ll (by omega)).trans hr
    have bx6 := kb6.boxed bx bx.lt
    have A6 := A5.trans (hbel6.mono A5.size)
    have hsz5 : W3.heap.size ≤ W5.heap.size := hK5.size
    obtain ⟨Fx, hFx⟩ : ∃ Fx : Nat → Prop, Fx = fun b => Pv b ∨ b = Wr.heap.size ∨ b = W5.heap.size + 1 := ⟨_, rfl⟩
    have fx := Lib.hid (show ∀ b, Fx b ↔ Pv b ∨ b = Wr.heap.size ∨ b = W5.heap.size + 1 from fun b => by rw [hFx])
    have fxl : ∀ b, Fx b → b < W6.heap.size := fun b hb => by
      rcases (fx.out b).1 hb with h | h | h
      · have := hPb b h; omega
      · omega
      · omega
    have hit2 := Values1_iter (W5.heap.size + 1) q2 n2 c2 zs2 (fun b => RB b ∨ b = W5.heap.size + 1) W6 (by omega) (s2.below A6 s2.lt) (fun a h h' => .inl (rbo _ (s2.lt a h h'))) bv2 (.inr rfl) (fun b hb => by
      rcases hb with h | h
      · have := rbl b h; omega
      · omega)
    have hOL6 : OrL (w.heap.size + 4) RK W3 Fx W6 (eithL zs2 pre) := hOL.step hbo rkl (hk5'.trans (kb6.mono fun b hb _ => by omega)) (fun b hb => by
      rcases (fx.out b).1 hb with h | h | h
      · exact .inl h
      · exact .inr (by omega)
      · exact .inr (by omega))
    have hOL7 : OrL (w.heap.size + 4) RK W3 (fun b => Fx b ∨ False) W6 (eithL zs2 pre ++ withL x []) := by
      rw [show withL x [] = [] from rfl, List.append_nil]
      exact hOL6.step hbo rkl (Keep.refl _ _) (fun b (hb : Fx b ∨ False) => hb.elim .inl (fun h => h.elim))
    clear con2 hW6 hbel6 bv2 hFx c1' hOL hOL6
    gi_wp2
    refine rf_lawN (l₀ := ll) ⟨_, hl6⟩ (gf := 81) (lb := #[.pointer (some ⟨W5.heap.size + 1, 0, none⟩)]) rfl (enters_of Tryz.func81 (by kernel_rfl) rfl)
      hit2 (Keep.refl _ _) (fun b hb => by rcases hb with h | h; (have := rbl b h; omega); omega) (fun x args G W h => by rw [h.1]; rfl)
      (fun pre2 Pv2 W => OrL (w.heap.size + 4) RK W3 (fun b => Fx b ∨ Pv2 b) W (eithL zs2 pre ++ withL x pre2) ∧ smallB (withL x pre2) = true ∧ Keep (fun b => RB b ∨ Fx b) W6 W ∧ (∀ b, Pv2 b → W6.heap.size ≤ b))
      (fun cc pre2 Pv2 W => OrX w (smallB (eithL zs2 zs1) = false) W3 cc (fun b => Fx b ∨ Pv2 b) W ∧ Keep (fun b => RB b ∨ Fx b) W6 W ∧ (∀ b, Pv2 b → W6.heap.size ≤ b))
      ?ab1 ?ab2 ⟨hOL7, rfl, Keep.refl _ _, (fun _ h => h.elim)⟩ ?round2 ?done2 ?stop2
    case ab1 =>
      rintro s Pv2 Pv2' A B ⟨h1, h2, h3, h4⟩ hk hp
      have hsA := h3.size
      have hno : ∀ b, b < W6.heap.size → ¬ Pv2 b := fun b hb h => by have := h4 b h; omega
      refine ⟨h1.step hbo rkl (hk.mono fun b _ hb h => hb (.inr h)) (fun b hb => ?_), h2, h3.trans (hk.mono fun b _ hb => hno b ?_), fun b hb => ?_⟩
      · rcases hb with h | h
        · exact .inl (.inl h)
        · rcases (hp b h).1 with h | h
          · exact .inl (.inr h)
          · exact .inr h
      · rcases hb with h | h
        · have := rbl b h; omega
        · exact fxl b h
      · rcases (hp b hb).1 with h | h
        · exact h4 b h
        · omega
    case ab2 =>
      rintro cc s Pv2 Pv2' A B ⟨h1, h3, h4⟩ hk hp
      have hsA := h3.size
      have hno : ∀ b, b < W6.heap.size → ¬ Pv2 b := fun b hb h => by have := h4 b h; omega
      refine ⟨h1.step (by omega) (hk.mono fun b _ hb h => hb (.inr h)) (fun b hb => ?_), h3.trans (hk.mono fun b _ hb => hno b ?_), fun b hb => ?_⟩
      · rcases hb with h | h
        · exact .inl (.inl h)
        · rcases (hp b h).1 with h | h
          · exact .inl (.inr h)
          · exact .inr h
      · rcases hb with h | h
        · have := rbl b h; omega
        · exact fxl b h
      · rcases (hp b hb).1 with h | h
        · exact h4 b h
        · omega
    case round2 =>
      rintro ll2 pre2 ⟨⟨yq, yn, yc⟩, y⟩ rest2 Pv2 G2 args2 Wq hll3 hys ⟨⟨v, ls, hbx, hrow, hzs, hacc, hge, hnv, hKW⟩, hsm2, hKF, hge2⟩ hPl2 hGl2 hPb2 hGP2 ⟨harg2, rfl⟩
      obtain rfl : args2 = #[.agg #[.slice yq yn yc]] := harg2
      have hym : ((yq, yn, yc), y) ∈ zs2 := by rw [hys]; simp
      have hpl2 : pre2.length + 1 ≤ 16 := by
        have := lg
        rw [hys, List.length_append, List.length_cons] at this
        omega
      have hll4 := hPb2 ll2 hPl2
      have hsq : W6.heap.size ≤ Wq.heap.size := hKF.size
      have hsq3 : W3.heap.size ≤ Wq.heap.size := hKW.size
      clear hys hit2 hOL7
      gi_wp2
      refine ⟨Keep.alloc _ _ _, fun W8 hk8 hs8 r2 hr2 => ?_⟩
      have hka := Keep.alloc (fun _ => True) Wq (.cells #[.slice yq yn yc] 44)
      have bx2 := hk8.boxed (Boxed.new Wq 44 (.slice yq yn yc)) (by omega)
      have hk8' : Keep (fun b => ¬ Pv2 b) Wq W8 := (hka.mono fun _ _ _ => trivial).trans (hk8.mono fun b _ hb h => hb (h ▸ hPl2))
      have hk8f : Keep (fun b => ¬ (Fx b ∨ Pv2 b)) Wq W8 := hk8'.mono fun b _ hb h => hb (.inr h)
      have hn2 : ∀ b, b < W6.heap.size → ¬ Pv2 b := fun b hb h => by have := hge2 b h; omega
      replace hbx := hk8f.boxed hbx (fun h => by have := hge _ h; omega)
      replace hrow := hk8f.row hrow hnv
      replace hzs : ∀ z ∈ ls, ClAt W8 z ∧ ∀ a, z.1.1 = some a → 0 < z.1.2.1 → ¬ (Fx a.block ∨ Pv2 a.block) ∧ W3.heap.size ≤ a.block ∧ v.ownBlock ≠ some a.block := fun z hz => ⟨(hzs z hz).1.from hk8f (fun a ha h0 => ((hzs z hz).2 a ha h0).1), (hzs z hz).2⟩
      have hK8 : Keep RK W3 W8 := hKW.trans (hk8'.mono fun b _ hb => hn2 b (by have := rkl b hb; omega))
      have hKF8 : Keep (fun b => RB b ∨ Fx b) W6 W8 := hKF.trans (hk8'.mono fun b _ hb => hn2 b (by
        rcases hb with h | h
        · have := rbl b h; omega
        · exact fxl b h))
      have bx8 := hKF8.boxed bx6 (.inr ((fx.out _).2 (.inr (.inl rfl))))
      have hPl8 : ∀ b, Pv2 b → b < W8.heap.size := fun b hb => Nat.lt_of_lt_of_le (hPb2 b hb) hk8'.size
      have hsz8 : W6.heap.size ≤ W8.heap.size := hKF8.size
      have hsz83 : W3.heap.size ≤ W8.heap.size := hK8.size
      have A8 : Below w.heap.size w W8 := A3.trans ((hK8.mono fun b _ h => (rk.out b).2 (by omega)).below A3.size)
      have bR8 := hK8.boxed bR ((rk.out _).2 (by omega))
      have bE8 := hK8.boxed bE ((rk.out _).2 (by omega))
      have hx8 := (z1 _ hxm).below A8
      have hy8 := (z2 _ hym).below A8
      have con := Cls.Either_new (.agg #[.slice xq xn xc]) (.agg #[.slice yq yn yc]) x y W8 hx8.set hy8.set (Nat.le_trans hx8.few (by decide)) (Nat.le_trans hy8.few (by decide))
      rw [either_sort x y hx8.rise hy8.rise] at con
      have cx := bx8.cell
      have cy := bx2.cell
      have hln : ls.length ≤ 1000 := by
        have h1 := congrArg List.length hacc
        rw [List.length_map, List.length_append, eithL_len, withL_len] at h1
        have h2 : pre.length * zs2.length ≤ 16 * 16 := Nat.mul_le_mul (by omega) lg
        omega
      have HA := Lib.hid hacc
      clear hk8 hk8f hka hs8 hKW hKF hx8 hy8 hr2 hacc
      by_cases hlen : (Frm.sortR (x ++ y)).length ≤ 16
      · rw [if_pos hlen] at con
        have HSM := Lib.hid (show smallB (withL x (pre2 ++ [((yq, yn, yc), y)])) = true by
          rw [withL_snoc, small_app, hsm2]
          simp [smallB, hlen])
        have HW := Lib.hid (withL_snoc x pre2 ((yq, yn, yc), y))
        obtain ⟨cv, hcv⟩ : ∃ cv, Frm.sortR (x ++ y) = cv := ⟨_, rfl⟩
        simp only [hcv] at HW
        rw [hcv] at con hlen
        clear hcv
        gi_wp2_with fail
        refine ⟨trivial, rfl, (CallsIn.inRound ll2 (callsIn_wide.2 con)).mono ?_⟩
        rintro e w6 ⟨q6, n6, c6, rfl, hs6', hq6, hb6⟩
        have kb := Keep.of_below hb6
        have hsz6 := hb6.size
        have hbx7 := (kb.boxed hbx hbx.lt).alloc (.cells #[.slice q6 n6 c6] 44)
        have hrow7 := (kb.row hrow (fun b hb => (hrow.lt b hb).2)).alloc (.cells #[.slice q6 n6 c6] 44)
        have cB := hbx7.cell
        have cC := (Boxed.new w6 44 (.slice q6 n6 c6)).cell
        have hz1' : (w6.alloc (.cells #[.slice q6 n6 c6] 44)).heap.size = w6.heap.size + 1 := by simp
        clear con
        unfold errC
        gi_wp2_with (gi_at_builtin; go_must (refine wpListIn_append_own_at _ rfl _ _ 24 rfl W3.heap.size 44 i0 (.agg #[.slice none 0 0]) 1 24 Tryz.underlying24 hi0 hz0 hz1 hz2 rfl (by decide) _ _ _ rfl (hrow7.alloc _) ⟨w6.heap.size + 1, 0, none⟩ 1 1 [.slice q6 n6 c6] rfl rfl (by rw [← hz1']; exact cell_one_new _ _ _) (by simp [Value.oneCell']) (by unfold maxLen; omega) (by omega) (by simp; omega) ?_); intro v' w1 hown' hgrow _ hat; obtain ⟨g', cap', rfl⟩ := ownsRow_succ hown'; obtain ⟨hv1, hv2, hr2, hkk⟩ := appended_keep (S := fun b => b ≠ w.heap.size + 4 ∧ v.ownBlock ≠ some b) hbx7 (by decide) hrow7 (fun h => h.1 rfl) (fun b hb h => h.2 hb) hown' hgrow; have hc1 := hv1.cell; have hf1 := hv1.frozen)
        have hat' : some g' = v.ownBlock ∨ some g' = some ((w6.alloc (.cells #[.slice q6 n6 c6] 44)).alloc (.cells #[.slice q6 n6 c6] 44)).heap.size := hat
        have hg : ∀ b, some g' = some b → v.ownBlock = some b ∨ w6.heap.size + 2 ≤ b := fun b hb => by
          rcases hat' with h | h
          · exact .inl (h ▸ hb)
          · rw [hb] at h
            have := Option.some.inj h
            simp at this
            exact .inr (by omega)
        have hk6 : ∀ S : Nat → Prop, (∀ b, S b → b < w6.heap.size ∧ b ≠ w.heap.size + 4 ∧ v.ownBlock ≠ some b) → Keep S w6 (w1.setCell ⟨w.heap.size + 4, 0, none⟩ (.slice (some ⟨g', 0, none⟩) (ls.length + 1) cap')) := fun S hS => (Keep.alloc S _ _).trans (hkk.mono fun b _ h => (hS b h).2)
        have hk5 : ∀ S : Nat → Prop, (∀ b, S b → b < W8.heap.size ∧ b ≠ w.heap.size + 4 ∧ v.ownBlock ≠ some b) → Keep S W8 (w1.setCell ⟨w.heap.size + 4, 0, none⟩ (.slice (some ⟨g', 0, none⟩) (ls.length + 1) cap')) := fun S hS => (kb.mono fun b _ h => (hS b h).1).trans (hk6 S fun b h => ⟨by have := (hS b h).1; omega, (hS b h).2⟩)
        have hown5 : ∀ b, v.ownBlock = some b → W3.heap.size ≤ b ∧ b < W8.heap.size := fun b hb => hrow.lt b hb
        have hz6 : ClAt w6 ((q6, n6, c6), cv) := ⟨hs6', hlen⟩
        have hkr : ∀ b, RB b ∨ Fx b → b < W8.heap.size ∧ b ≠ w.heap.size + 4 ∧ v.ownBlock ≠ some b := fun b hb => by
          rcases hb with h | h
          · have h2 := rbl b h
            have h3 := (rk.out b).1 ((rb.out b).1 h).1
            exact ⟨by omega, h3.2, fun e => by have := (hown5 b e).1; omega⟩
          · have h2 := fxl b h
            exact ⟨by omega, fun e => by have := hge b (.inl h); omega, fun e => hnv b e (.inl h)⟩
        refine ⟨hk5 _ (fun b hb => ?_), ⟨_, ls ++ [((q6, n6, c6), cv)], hv2, by simpa [encC] using hr2, fun z hz => ?_, ?_, fun b hb => hge b hb, fun b hb hp => ?_, hK8.trans (hk5 _ (fun b hb => ?_))⟩, HSM.out, hKF8.trans (hk5 _ hkr), fun b hb => by have := hge2 b hb; omega⟩
        · rcases hb with (h | h) | h
          · exact hkr b (.inl h)
          · exact hkr b (.inr ((fx.out b).2 (.inr (.inr h))))
          · exact ⟨hPl8 b h, fun e => by have := hge2 b h; omega, fun e => hnv b e (.inr h)⟩
        · rcases List.mem_append.1 hz with h | h
          · obtain ⟨k1, k2⟩ := hzs z h
            refine ⟨k1.from (hk5 (fun b => b < W8.heap.size ∧ b ≠ w.heap.size + 4 ∧ v.ownBlock ≠ some b) (fun b hb => hb)) (fun a ha h0 => ?_), fun a ha h0 => ?_⟩
            · obtain ⟨j1, j2, j3⟩ := k2 a ha h0
              exact ⟨k1.lt a ha h0, by omega, j3⟩
            · obtain ⟨j1, j2, j3⟩ := k2 a ha h0
              refine ⟨j1, j2, fun e => ?_⟩
              rcases hg a.block e with h | h
              · exact j3 h
              · have := k1.lt a ha h0; omega
          · rw [List.mem_singleton.1 h]
            refine ⟨hz6.from (hk6 (fun b => b < w6.heap.size ∧ b ≠ w.heap.size + 4 ∧ v.ownBlock ≠ some b) (fun b hb => hb)) (fun a ha h0 => ?_), fun a ha h0 => ?_⟩
            · have j := hq6 a ha
              exact ⟨hz6.lt a ha h0, by omega, fun e => by have := (hown5 _ e).2; omega⟩
            · have j := hq6 a ha
              refine ⟨fun hp => ?_, by omega, fun e => ?_⟩
              · rcases hp with hp | hp
                · have := fxl _ hp; omega
                · have := hPl8 _ hp; omega
              · rcases hg a.block e with h | h
                · have := (hown5 _ h).2; omega
                · have := hz6.lt a ha h0; omega
        · rw [List.map_append, HA.out, HW.out, List.append_assoc]; rfl
        · rcases hg b hb with h | h
          · exact hnv b h hp
          · rcases hp with hp | hp
            · have := fxl b hp; omega
            · have := hPl8 b hp; omega
        · have h2 := rkl b hb
          exact ⟨by omega, ((rk.out b).1 hb).2, fun e => by have := (hown5 b e).1; omega⟩
      · rw [if_neg hlen] at con
        have HG := Lib.hid (great_of zs1 zs2 ((xq, xn, xc), x) ((yq, yn, yc), y) hxm hym hlen)
        clear hlen hzs hrow hbx
        gi_wp2_with fail
        refine ⟨trivial, rfl, (CallsIn.inRound ll2 (callsIn_wide.2 con)).mono ?_⟩
        rintro e w6 ⟨q6, n6, c6, rfl, hs6', hq6, hb6⟩
        have kb := Keep.of_below hb6
        have bR6 := (kb.boxed bR8 bR8.lt).alloc (.cells #[.slice q6 n6 c6] 44)
        have bE6 := (kb.boxed bE8 bE8.lt).alloc (.cells #[.slice q6 n6 c6] 44)
        have kf := bR6.frozen
        have kc := bR6.cell
        have b3 := bR6.set (.slice none 0 0)
        have e3 := (Keep.setCell (S := fun b => b = w.heap.size + 3) (w6.alloc (.cells #[.slice q6 n6 c6] 44)) ⟨w.heap.size + 2, 0, none⟩ (.slice none 0 0) (by simp)).boxed bE6 rfl
        have ef3 := e3.frozen
        have ec3 := e3.cell
        have b4 := (Keep.setCell (S := fun b => b = w.heap.size + 2) ((w6.alloc (.cells #[.slice q6 n6 c6] 44)).setCell ⟨w.heap.size + 2, 0, none⟩ (.slice none 0 0)) ⟨w.heap.size + 3, 0, none⟩ (.int .i64 3) (by simp)).boxed b3 rfl
        have e4 := e3.set (.int .i64 3)
        clear con hs6'
        unfold errC
        gi_wp2
        have kq : ∀ (S : Nat → Prop), (∀ b, S b → b < W8.heap.size ∧ b ≠ w.heap.size + 2 ∧ b ≠ w.heap.size + 3) → Keep S W8 (((w6.alloc (.cells #[.slice q6 n6 c6] 44)).setCell ⟨w.heap.size + 2, 0, none⟩ (.slice none 0 0)).setCell ⟨w.heap.size + 3, 0, none⟩ (.int .i64 3)) := fun S h0 =>
          (((kb.mono fun b _ hb => (h0 b hb).1).trans (Keep.alloc S _ _)).trans (Keep.setCell _ _ _ (fun h => (h0 _ h).2.1 rfl))).trans (Keep.setCell _ _ _ (fun h => (h0 _ h).2.2 rfl))
        have hA6 := (((A8.trans (hb6.mono A8.size)).alloc (by have := (A8.trans (hb6.mono A8.size)).size; exact this) (.cells #[.slice q6 n6 c6] 44)).setCell (p := ⟨w.heap.size + 2, 0, none⟩) (by simp) (.slice none 0 0)).setCell (p := ⟨w.heap.size + 3, 0, none⟩) (by simp) (.int .i64 3)
        have hz6 : W3.heap.size ≤ (((w6.alloc (.cells #[.slice q6 n6 c6] 44)).setCell ⟨w.heap.size + 2, 0, none⟩ (.slice none 0 0)).setCell ⟨w.heap.size + 3, 0, none⟩ (.int .i64 3)).heap.size := Nat.le_trans hsz83 (kq (fun _ => False) (fun _ h => h.elim)).size
        have hkr : ∀ b, RB b ∨ Fx b → b < W8.heap.size ∧ b ≠ w.heap.size + 2 ∧ b ≠ w.heap.size + 3 := fun b hb => by
          rcases hb with h | h
          · have h2 := rbl b h
            exact ⟨by omega, ((rb.out b).1 h).2⟩
          · have h2 := fxl b h
            have h3 := hge b (.inl h)
            exact ⟨by omega, by omega, by omega⟩
        refine ⟨kq _ (fun b hb => ?_), ⟨rfl, b4, e4, HG.out, hA6, fun b hb => hge b hb, hz6⟩, hKF8.trans (kq _ hkr), fun b hb => by have := hge2 b hb; omega⟩
        rcases hb with (h | h) | h
        · exact hkr b (.inl h)
        · exact hkr b (.inr ((fx.out b).2 (.inr (.inr h))))
        · have := hge2 b h
          exact ⟨hPl8 b h, by omega, by omega⟩
    case done2 =>
      rintro Pv2 Wd hPl2 ⟨hOL2, hsm2, hKF, hge2⟩
      gi_wp2
      refine ⟨(kb6.mono fun b hb _ => hb).trans (hKF.mono fun b _ h => ?_), ?_, ?_⟩
      · rcases h with h | h
        · exact .inl h
        · exact .inr ((fx.out b).2 (.inl h))
      · rw [eithL_snoc]
        exact hOL2.step hbo rkl (Keep.refl _ _) (fun b hb => .inl (.inl ((fx.out b).2 (.inl hb))))
      · rw [eithL_snoc, small_app, hsm, hsm2]; rfl
    case stop2 =>
      rintro cc pre2 rest2 Pv2 Wd hPl2 hys ⟨hX, hKF, hge2⟩
      obtain rfl := hX.1
      clear hys
      gi_wp2
      refine ⟨(kb6.mono fun b hb _ => hb).trans (hKF.mono fun b _ h => ?_), ?_⟩
      · rcases h with h | h
        · exact .inl h
        · exact .inr ((fx.out b).2 (.inl h))
      · exact hX.step (by omega) (Keep.refl _ _) (fun b hb => .inl (.inl ((fx.out b).2 (.inl hb))))
  case done =>
    rintro D Pv Wd hD hPD hPl ⟨⟨v, ls, hbx, hrow, hzs, hacc, hge, hnv, hKW⟩, hsm⟩ hK
    obtain ⟨q5, c5, rfl, hc5, _, hs5, _⟩ := slIn_of_owns hrow
    have bRd := hKW.boxed bR ((rk.out _).2 (by omega))
    have bEd := hKW.boxed bE ((rk.out _).2 (by omega))
    have hBd : Below w.heap.size w Wd := A3.trans ((hKW.mono fun b _ h => (rk.out b).2 (by omega)).below A3.size)
    have HR := Lib.hid (show orR (zs1.map Prod.snd) (zs2.map Prod.snd) = ofF (ls.map Prod.snd) by rw [hacc]; exact orR_small zs1 zs2 hsm)
    have hln : ls.length ≤ 1099511627776 := by
      have h1 := congrArg List.length hacc
      rw [List.length_map, eithL_len] at h1
      have h2 : zs1.length * zs2.length ≤ 16 * 16 := Nat.mul_le_mul lf lg
      omega
    have con := Of_any q5 ls.length c5 (ls.map Prod.snd) Wd ⟨ls, hs5, fun z hz => (hzs z hz).1, rfl⟩ (fun h => by subst h; exact (Cls.row_nil hrow).2) hln
    rw [← HR.out] at con
    have cB := hbx.cell
    have hDl := hPl D hPD
    clear hs5 hrow hbx hnv hge hKW hit hzs hacc bL hsm hl1 hl2
    generalize orR (zs1.map Prod.snd) (zs2.map Prod.snd) = r at *
    gi_wp2_with fail
    refine ⟨trivial, (callsIn_wide.2 con).mono ?_⟩
    rintro e w6 ⟨q6, n6, c6, rfl, hs6, hq6, hb6⟩
    have hD6 : w6.heap[D]? = some (.deferred (some [])) := (hb6.block D hDl).trans hK
    have hsd := hBd.size
    have hDg : w.heap.size + 7 ≤ D := by omega
    have hqn : ∀ a, q6 = some a → w.heap.size ≤ a.block := fun a ha => Nat.le_trans hsd (hq6 a ha)
    replace hq6 : ∀ a, q6 = some a → a.block ≠ w.heap.size + 2 ∧ a.block ≠ w.heap.size + 3 := fun a ha => by have := hq6 a ha; have := bEd.lt; omega
    have bR6 := (Keep.of_below hb6).boxed bRd bRd.lt
    have bE6 := (Keep.of_below hb6).boxed bEd bEd.lt
    have A6 := hBd.trans (hb6.mono hBd.size)
    have kf := bR6.frozen
    have kc := bR6.cell
    have b3 := bR6.set (.slice q6 n6 c6)
    have f3 := hs6.set (u' := .slice q6 n6 c6) bR6 (fun x h => by cases h) (fun a ha => (hq6 a ha).1)
    have e3 := (Keep.setCell (S := fun b => b = w.heap.size + 3) w6 ⟨w.heap.size + 2, 0, none⟩ (.slice q6 n6 c6) (by simp)).boxed bE6 rfl
    have ef3 := e3.frozen
    have ec3 := e3.cell
    have hD7 := (Keep.setCell (S := fun b => b = D) w6 ⟨w.heap.size + 2, 0, none⟩ (.slice q6 n6 c6) (by simp; omega)).heap rfl hD6
    have A7 := A6.setCell (p := ⟨w.heap.size + 2, 0, none⟩) (by simp) (.slice q6 n6 c6)
    clear con hb6
    gi_wp2
    have b4 := (Keep.setCell (S := fun b => b = w.heap.size + 2) (w6.setCell ⟨w.heap.size + 2, 0, none⟩ (.slice q6 n6 c6)) ⟨w.heap.size + 3, 0, none⟩ (.int .i64 (frmE r)) (by simp)).boxed b3 rfl
    have e4 := e3.set (.int .i64 (frmE r))
    have f4 := f3.set (u' := .int .i64 (frmE r)) e3 (fun x h => by cases h) (fun a ha => (hq6 a ha).2)
    have hD8 := (Keep.setCell (S := fun b => b = D) (w6.setCell ⟨w.heap.size + 2, 0, none⟩ (.slice q6 n6 c6)) ⟨w.heap.size + 3, 0, none⟩ (.int .i64 (frmE r)) (by simp; omega)).heap rfl hD7
    have A8 := A7.setCell (p := ⟨w.heap.size + 3, 0, none⟩) (by simp) (.int .i64 (frmE r))
    refine ⟨by simp, .inl ⟨_, _, rfl, run_takeDeferred hD8, ?_⟩⟩
    have hkP : ∀ S : Nat → Prop, ¬ S D → Keep S ((w6.setCell ⟨w.heap.size + 2, 0, none⟩ (.slice q6 n6 c6)).setCell ⟨w.heap.size + 3, 0, none⟩ (.int .i64 (frmE r))) (((w6.setCell ⟨w.heap.size + 2, 0, none⟩ (.slice q6 n6 c6)).setCell ⟨w.heap.size + 3, 0, none⟩ (.int .i64 (frmE r))).putObj D (.deferred none)) := fun S hS => Keep.putObj _ D (.deferred none) hS
    refine ⟨_, ret_frm22 rfl _ _ (w.heap.size + 2) (w.heap.size + 3) _ _ rfl rfl ((hkP (fun b => b = w.heap.size + 2) (by omega)).boxed b4 rfl) ((hkP (fun b => b = w.heap.size + 3) (by omega)).boxed e4 rfl).cell, q6, n6, c6, rfl, f4.put hD8, hqn, ?_⟩
    exact ((Keep.of_below A8).trans (hkP _ (by omega))).below (Nat.le_refl _)
  case stop =>
    rintro D cc pre rest Pv Wd hD hPD hPl hxs ⟨rfl, hR, hE, hG, hBd, hge, hsz⟩ hK
    clear hxs
    have HR := Lib.hid (orR_great zs1 zs2 hG)
    have hDg : w.heap.size + 7 ≤ D := by omega
    gi_wp2
    refine ⟨by simp, .inl ⟨_, _, rfl, run_takeDeferred hK, ?_⟩⟩
    have hkP : ∀ S : Nat → Prop, ¬ S D → Keep S Wd (Wd.putObj D (.deferred none)) := fun S hS => Keep.putObj _ D (.deferred none) hS
    refine ⟨_, ret_frm22 rfl _ _ (w.heap.size + 2) (w.heap.size + 3) _ _ rfl rfl ((hkP (fun b => b = w.heap.size + 2) (by omega)).boxed hR rfl) ((hkP (fun b => b = w.heap.size + 3) (by omega)).boxed hE rfl).cell, ?_⟩
    rw [HR.out]
    exact ⟨none, 0, 0, rfl, frm_nil _, (fun a h => by cases h), ((Keep.of_below hBd).trans (hkP _ (by omega))).below (Nat.le_refl _)⟩

end Go.Proofs.YtgkandghennbhaaGreatDoor.Frm

namespace Go.Proofs.YtgkandghennbhaaGreatDoor.Frm
open Go.RowKit Go.Shelf Go.Sort Url Org Cls
attribute [local go_sem] Oper.semAt_some
set_option linter.unusedVariables false

/-! ### lives -/
def liveF : List UInt8 := [104, 116, 116, 112, 58, 47, 47, 97, 32, 38, 32, 104, 116, 116, 112, 58, 47, 47, 97, 32, 124, 32, 104, 116, 116, 112, 58, 47, 47, 98]
def liveP1 : List UInt8 := [104, 116, 116, 112, 58, 47, 47, 97, 32]
def liveP2 : List UInt8 := [32, 104, 116, 116, 112, 58, 47, 47, 97, 32, 124, 32, 104, 116, 116, 112, 58, 47, 47, 98]
theorem liveF_split : Ref.splitL 38 liveF = [liveP1, liveP2] := by decide +kernel
theorem liveP1_split : (Ref.splitL 124 liveP1).map Cls.trimB = [liveA] := by decide +kernel
theorem liveP2_split : (Ref.splitL 124 liveP2).map Cls.trimB = [liveA, liveB] := by decide +kernel
theorem liveP1_sort : sortR [liveA] = [liveA] := by decide +kernel
theorem liveP2_sort : sortR [liveA, liveB] = [liveA, liveB] := by decide +kernel
theorem liveP1_parse : parseC liveP1 = .inr [liveA] := by
  unfold parseC
  rw [if_neg (by decide), if_neg (by decide +kernel), liveP1_split]
  unfold ofC
  rw [if_pos (by simp [live_a]), liveP1_sort, if_pos (by decide)]
theorem liveP2_parse : parseC liveP2 = .inr [liveA, liveB] := by
  unfold parseC
  rw [if_neg (by decide), if_neg (by decide +kernel), liveP2_split]
  unfold ofC
  rw [if_pos (by simp [live_a, live_b]), liveP2_sort, if_pos (by decide)]
theorem liveF_red : redL [[liveA], [liveA, liveB]] = [[liveA]] := by decide +kernel
theorem liveF_parse : parseF liveF = .inr [[liveA]] := by
  have hc : clausesL [liveP1, liveP2] = .inr [[liveA], [liveA, liveB]] := by
    unfold clausesL
    rw [liveP1_parse]
    unfold clausesL
    rw [liveP2_parse]
    rfl
  unfold parseF
  rw [if_neg (by decide), if_neg (by decide +kernel), liveF_split, hc]
  show ofF _ = _
  unfold ofF
  rw [liveF_red, if_pos (by decide)]
theorem liveF_text : frmT [[liveA]] = liveA := by decide +kernel

set_option maxRecDepth 100000 in
set_option maxHeartbeats 8000000 in
theorem lives_any (w : World) (hG : Gl w) : Calls Tryz.prog 6 #[] w fun e w' => e = .returned (.bool true) ∧ Below w.heap.size w w' := by
  have kc := fun (w : World) (C : Array Value) (n c : Nat) => Lib.run_convert_bytes_const (P := Tryz.prog) w 22 5 C n c Tryz.underlying22 Tryz.underlying5
  obtain ⟨X0, hX0⟩ : ∃ X0, w.alloc (.cells #[.int .u8 104, .int .u8 116, .int .u8 116, .int .u8 112, .int .u8 58, .int .u8 47, .int .u8 47, .int .u8 97, .int .u8 32, .int .u8 38, .int .u8 32, .int .u8 104, .int .u8 116, .int .u8 116, .int .u8 112, .int .u8 58, .int .u8 47, .int .u8 47, .int .u8 97, .int .u8 32, .int .u8 124, .int .u8 32, .int .u8 104, .int .u8 116, .int .u8 116, .int .u8 112, .int .u8 58, .int .u8 47, .int .u8 47, .int .u8 98] 5 (30, 31)) = X0 := ⟨_, rfl⟩
  have B_0 : Below w.heap.size w X0 := by rw [← hX0]; exact (Below.refl _ w).alloc (Nat.le_refl _) _
  have hby : By X0 (.slice (some ⟨w.heap.size, 0, none⟩) 30 30) liveF := by rw [← hX0]; exact by_lit w #[.int .u8 104, .int .u8 116, .int .u8 116, .int .u8 112, .int .u8 58, .int .u8 47, .int .u8 47, .int .u8 97, .int .u8 32, .int .u8 38, .int .u8 32, .int .u8 104, .int .u8 116, .int .u8 116, .int .u8 112, .int .u8 58, .int .u8 47, .int .u8 47, .int .u8 97, .int .u8 32, .int .u8 124, .int .u8 32, .int .u8 104, .int .u8 116, .int .u8 116, .int .u8 112, .int .u8 58, .int .u8 47, .int .u8 47, .int .u8 98] liveF (30, 31) 30 rfl rfl (by decide)
  have con := Parse_any (some ⟨w.heap.size, 0, none⟩) 30 30 liveF X0 hby (by omega) (hG.on B_0)
  rw [liveF_parse] at con
  have HX0 := Lib.hid hX0
  clear hX0 hby hG
  go_enter Tryz.func6, Tryz.ntmps6
  go_wp2_with fail
  rw [HX0.out]
  refine con.mono ?_
  rintro e X1 ⟨q, n, c, rfl, hs, _, hb⟩
  have B_1 := B_0.trans (hb.mono B_0.size)
  replace hs : FrmIs X1 (.agg #[.slice q n c]) [[liveA]] := hs
  clear con hb B_0 HX0
  obtain ⟨X2, hX2⟩ : ∃ X2, X1.alloc (.cells #[.slice q n c] 26) = X2 := ⟨_, rfl⟩
  have hb : Below X1.heap.size X1 X2 := by rw [← hX2]; exact below_alloc _
  have B_2 := B_1.trans (hb.mono B_1.size)
  have con := Text_any _ _ X2 (hs.below hb) (by decide) (by rw [liveF_text]; decide)
  rw [liveF_text] at con
  have HX2 := Lib.hid hX2
  have e1 : (liveA == ([104, 116, 116, 112, 58, 47, 47, 97] : List UInt8)) = true := by decide
  clear hX2 hb B_1 hs
  unfold frmE
  go_wp2_with fail
  rw [HX2.out]
  go_wp2_with fail
  refine con.mono ?_
  rintro e X3 ⟨rfl, hb⟩
  have B_3 := B_2.trans (hb.mono B_2.size)
  clear con hb B_2 HX2
  go_wp2
  go_ret
  exact ⟨(by first | rfl | rw [e1] | simp [e1]), B_3⟩

/-! ### Of -/
set_option maxRecDepth 100000 in
set_option maxHeartbeats 4000000 in
theorem lawOf_any (q : Option Addr) (n c : Nat) (t : List UInt8) (w : World) (hby : By w (.slice q n c) t) (hG : Gl w) :
    Calls Tryz.prog 7 #[.slice q n c] w fun e w' => ∃ q n c, e = .returned (.agg #[.slice q n c]) ∧ FrmIs w' (.agg #[.slice q n c]) (frmV (parseF (t.take 400))) ∧ Below w.heap.size w w' := by
  obtain ⟨h1, h2, h3, h4, h5⟩ := hby.at
  obtain ⟨W1, hW1⟩ : ∃ W1, w.alloc (.cells #[.slice none 0 0] 26) = W1 := ⟨_, rfl⟩
  have A1 : Below w.heap.size w W1 := hW1 ▸ below_alloc _
  have b1 : Boxed W1 w.heap.size 26 (.slice none 0 0) := hW1 ▸ Boxed.new w _ _
  have HW1 := Lib.hid hW1
  have hsub := hby.sub (Nat.zero_le (min n 400)) (Nat.min_le_left n 400)
  rw [subA_zero, Nat.sub_zero, Nat.sub_zero] at hsub
  have et : sub t 0 (min n 400) = t.take 400 := by
    unfold sub
    rw [List.drop_zero, Nat.sub_zero, ← h1]
    rcases Nat.le_total t.length 400 with h | h
    · rw [Nat.min_eq_left h, List.take_of_length_le h, List.take_of_length_le (Nat.le_refl _)]
    · rw [Nat.min_eq_right h]
  rw [et] at hsub
  have con := Parse_any q (min n 400) c (t.take 400) W1 (hsub.on A1) (.inl (by omega)) (hG.on A1)
  have HM := Lib.hid (show (min (n : Int) 400).toNat = min n 400 by omega)
  obtain ⟨r, hr⟩ : ∃ r, parseF (t.take 400) = r := ⟨_, rfl⟩
  rw [hr] at con ⊢
  clear hW1 hsub et hr hG h5 hby h1
  go_enter Tryz.func7, Tryz.ntmps7
  go_wp2_with fail
  rw [HW1.out, HM.out]
  refine con.mono ?_
  rintro e w2 ⟨q2, n2, c2, rfl, hs2, hq2, hb2⟩
  have b2 := ((Keep.of_below hb2).boxed b1 b1.lt).alloc (.cells #[.slice q2 n2 c2] 26)
  have A2 := A1.trans (hb2.mono A1.size)
  have f2 := hs2.below (below_alloc (.cells #[.slice q2 n2 c2] 26))
  have A3 := A2.alloc A2.size (.cells #[.slice q2 n2 c2] 26)
  have kf := b2.frozen
  have kc := b2.cell
  have hb1l := b1.lt
  have f3 := f2.set (u' := .slice q2 n2 c2) b2 (fun x h => by cases h) (fun a ha => by have := hq2 a ha; omega)
  have b3 := (b2.set (.slice q2 n2 c2)).cell
  clear con
  go_wp2
  refine bodyPost_ret (v := .agg #[.slice q2 n2 c2]) (by simp [results, Tryz.f7, go_sem, b3]) rfl ?_
  exact ⟨q2, n2, c2, rfl, f3, A3.setCell (by simp) _⟩

/-! ### what is told, collected -/
set_option maxRecDepth 100000 in
set_option maxHeartbeats 4000000 in
theorem all07_any (gf : Nat) (lb : Array Value) (x : List (List UInt8)) (RB : Nat → Prop) (w : World) (eg : ∀ args w, (callFunc gf args).run Tryz.prog w = .ok (.enter gf args) w)
    (hi : IterC Tryz.prog gf lb StrArg x RB w) (hRs : ∀ b, RB b → b < w.heap.size) (hN : x.length ≤ 1099511627776) :
    Calls Tryz.prog 50 #[.func (.func gf) #[] lb] w fun e w' => ∃ v, e = .returned v ∧ w'.ownsRow w.heap.size 9 1 v x.length (x.map encStr) ∧ Below w.heap.size w w' := by
  obtain ⟨i0, hi0, hz0, hz1, hz2⟩ := info_parts S.info_str
  have hnf : ∀ w' : World, (binOp .eql 82 (.func (.func gf) #[] lb) .nilFunc).run Tryz.prog w' = .ok (.bool false) w' := fun _ => by kernel_rfl
  refine (callsIn_wide (n := 1)).1 ?_
  refine callsIn_of_wp_marks Tryz.func50 rfl trivial ?_ rfl
  simp only [Tryz.ntmps50, List.size_toArray, List.length_cons, List.length_nil, Nat.reduceAdd, Nat.reduceSub, Array.replicate_succ, Array.replicate_zero, List.push_toArray, List.append_toArray, List.nil_append, List.cons_append]
  gi_wp2
  obtain ⟨W0, hW0⟩ : ∃ W0, w.alloc (.cells #[.slice none 0 0] 31) = W0 := ⟨_, rfl⟩
  have b0 : Boxed W0 w.heap.size 31 (.slice none 0 0) := by rw [← hW0]; exact Boxed.new w _ _
  have hB0 : Below w.heap.size w W0 := by rw [← hW0]; exact below_alloc _
  have hs0 : W0.heap.size = w.heap.size + 1 := by rw [← hW0]; simp
  rw [hW0]
  clear hW0 hnf
  have hRl : ∀ b, RB b → b < W0.heap.size := fun b hb => by have := hRs b hb; omega
  refine rf_law (gf := gf) (lb := lb) rfl eg hi ((Keep.of_below hB0).mono fun b _ hb => hRs b hb) hRl (fun x args G W h => by rw [h.1]; rfl)
    (ColI 31 9 w.heap.size (fun b => b < w.heap.size) W0) (fun _ _ _ _ => False) (ColI_abide _ _ _ _ _ (by omega) (fun b hb => by omega)) (fun _ _ _ _ _ _ h _ _ => h)
    ⟨_, b0, World.ownsRow_nil _ _ _ _, (fun _ h => h.elim), (fun _ h => by cases h), Keep.refl _ _⟩ ?round ?done ?stop
  case round =>
    rintro ll pre t rest Pv G args Wr hll hxs ⟨v, hbx, hrow, hge, hnv, hKW⟩ hPl hGl hPb hGP ⟨rfl, rfl⟩
    have hlen : pre.length + rest.length + 1 = x.length := by rw [hxs]; simp; omega
    have hpl : pre.length + 1 ≤ 1099511627776 := by omega
    clear hlen
    gi_wp2
    refine ⟨Keep.refl _ _, fun W2 hk2 hs2 r hr => ?_⟩
    have hnP : ∀ b, b < W0.heap.size → ¬ Pv b := fun b hb h => by have := hge b h; omega
    have hk2' : Keep (fun b => ¬ Pv b) Wr W2 := hk2.mono fun b _ hb h => hb (h ▸ hPl)
    replace hbx := hk2'.boxed hbx (hnP _ (by omega))
    replace hrow := hk2'.row hrow hnv
    have hK2 : Keep (fun b => b < w.heap.size) W0 W2 := hKW.trans (hk2'.mono fun b _ hb => hnP b (by omega))
    have hPl2 : ∀ b, Pv b → b < W2.heap.size := fun b hb => by rw [hs2]; exact hPb b hb
    have cB := hbx.cell
    have hszW := hK2.size
    clear hxs hr hk2 hk2' hs2 hKW
    gi_wp2_with (gi_at_builtin; go_must (refine wpListIn_append_own_at _ rfl _ _ 31 rfl W0.heap.size 9 i0 (.string ByteArray.empty) 1 16 Tryz.underlying31 hi0 hz0 hz1 hz2 rfl (by decide) _ _ _ rfl (hrow.alloc _) ⟨W2.heap.size, 0, none⟩ 1 1 [encStr t] rfl rfl (cell_one_new _ _ _) (by simp [encStr, Value.oneCell']) (by unfold maxLen; omega) (by omega) (by simp; omega) ?_); intro v' w1 hown' hgrow _ hat; obtain ⟨g', cap', rfl⟩ := ownsRow_succ hown'; obtain ⟨hv1, hv2, hr2, hkk⟩ := appended_keep (S := fun b => RB b ∨ Pv b ∨ b < w.heap.size) hbx (by decide) hrow (fun h => by rcases h with h | h | h; (have := hRs _ h; omega); exact hnP w.heap.size (by omega) h; omega) (fun b hb h => by have h0 := (hrow.lt b hb).1; rcases h with h | h | h; (have := hRs _ h; omega); exact hnv b hb h; omega) hown' hgrow; have hc1 := hv1.cell; have hf1 := hv1.frozen)
    refine ⟨hkk.mono fun b _ h => h.elim .inl fun h => .inr (.inl h), _, hv2, ?_, fun b hb => hge b hb, fun b hb hp => ?_, hK2.trans (hkk.mono fun b _ h => .inr (.inr h))⟩
    · simpa using hr2
    · rcases hat with h | h
      · exact hnv b (h ▸ hb) hp
      · rw [h] at hb; cases hb; have h5 := hPl2 _ hp; simp at h5; omega
  case done =>
    rintro D Pv Wd hD hPD hPl ⟨v, hbx, hrow, hge, hnv, hKW⟩ hK
    have cB := hbx.cell
    gi_wp2
    have hB : Keep (fun b => b < w.heap.size) w Wd := (Keep.of_below hB0).trans hKW
    refine ⟨by simp, .inl ⟨_, _, rfl, run_takeDeferred hK, ?_⟩⟩
    refine ⟨_, results_tmp rfl _ _ _, v, rfl, row_base ((Keep.putObj (S := fun b => ¬ Pv b) Wd D _ (fun h => h hPD)).row hrow hnv) (by omega), (hB.trans (Keep.putObj _ _ _ (by omega))).below (Nat.le_refl _)⟩
  case stop =>
    rintro D c pre rest Pv Wd _ _ _ _ h _
    exact h.elim

end Go.Proofs.YtgkandghennbhaaGreatDoor.Frm

namespace Go.Proofs.YtgkandghennbhaaGreatDoor.Frm
open Go.RowKit Go.Shelf Go.Sort Url Org Cls
attribute [local go_sem] Oper.semAt_some
set_option linter.unusedVariables false

theorem info_strs : (Tryz.prog.info? 31).map (fun i => (i.zero, i.size, i.bytes)) = some (some (.slice none 0 0), 1, 24) := by kernel_rfl
/-- A row of rows of texts: the document's formula. -/
def RefIn (w : World) (q : Option Addr) (n : Nat) (xs : List (List (List UInt8))) : Prop := ∃ zs : List Cl, SlIn encC w q n zs ∧ (∀ z ∈ zs, ClAt w z ∧ (z.1.1 = none → z.1.2.2 = 0)) ∧ xs = zs.map Prod.snd
theorem RefIn.len {w : World} {q : Option Addr} {n : Nat} {xs : List (List (List UInt8))} (h : RefIn w q n xs) : xs.length = n := by
  obtain ⟨zs, h1, _, rfl⟩ := h
  rw [List.length_map]; exact h1.1
theorem RefIn.below {w w' : World} {q : Option Addr} {n : Nat} {xs : List (List (List UInt8))} (h : RefIn w q n xs) (hb : Below w.heap.size w w') : RefIn w' q n xs := by
  obtain ⟨zs, h1, h2, rfl⟩ := h
  exact ⟨zs, h1.below hb h1.lt, fun z hz => ⟨(h2 z hz).1.below hb, (h2 z hz).2⟩, rfl⟩

/-- The rows that have come lie in the box's row; Pv: what others hold. -/
def RefL (Bo base : Nat) (W0 : World) (Pv : Nat → Prop) (W : World) (acc : List (List (List UInt8))) : Prop :=
  ∃ v, ∃ ls : List Cl, Boxed W Bo 29 v ∧ W.ownsRow base 31 1 v ls.length (ls.map encC) ∧ (∀ z ∈ ls, (ClAt W z ∧ (z.1.1 = none → z.1.2.2 = 0)) ∧ ∀ a, z.1.1 = some a → 0 < z.1.2.1 → ¬ Pv a.block ∧ W0.heap.size ≤ a.block ∧ v.ownBlock ≠ some a.block) ∧ ls.map Prod.snd = acc ∧
    (∀ b, Pv b → W0.heap.size ≤ b) ∧ (∀ b, v.ownBlock = some b → ¬ Pv b) ∧ Keep (fun b => b < base) W0 W
theorem RefL.step {Bo base : Nat} {Pv Pv' : Nat → Prop} {W0 A B : World} {acc : List (List (List UInt8))} (h : RefL Bo base W0 Pv A acc) (hBo : Bo < W0.heap.size) (hbs : base ≤ W0.heap.size) (hk : Keep (fun b => ¬ Pv b) A B) (hp : ∀ b, Pv' b → (Pv b ∨ A.heap.size ≤ b)) : RefL Bo base W0 Pv' B acc := by
  obtain ⟨v, ls, h1, h2, hz, hc, h3, h5, h6⟩ := h
  have hs := h6.size
  refine ⟨v, ls, hk.boxed h1 (fun h => by have := h3 _ h; omega), hk.row h2 h5, fun z hz' => ⟨⟨(hz z hz').1.1.from hk (fun a ha h0 => ((hz z hz').2 a ha h0).1), (hz z hz').1.2⟩, fun a ha h0 => ⟨fun hp' => ?_, ((hz z hz').2 a ha h0).2⟩⟩, hc, fun b hb => ?_, fun b hb hp' => ?_, h6.trans (hk.mono fun b _ hb hpb => by have := h3 b hpb; omega)⟩
  · rcases hp _ hp' with h | h
    · exact ((hz z hz').2 a ha h0).1 h
    · have := (hz z hz').1.1.lt a ha h0; omega
  · rcases hp b hb with h | h
    · exact h3 b h
    · omega
  · rcases hp _ hp' with h | h
    · exact h5 b hb h
    · have := (h2.lt b hb).2; omega

set_option maxRecDepth 100000 in
set_option maxHeartbeats 16000000 in
theorem all08_any (gf : Nat) (lb : Array Value) (zs : List Cl) (w : World) (eg : ∀ args w, (callFunc gf args).run Tryz.prog w = .ok (.enter gf args) w)
    (hi : IterC Tryz.prog gf lb ClArg zs (fun b => b < w.heap.size) w) (hz : ∀ z ∈ zs, ClAt w z) (hN : zs.length ≤ 1000) :
    Calls Tryz.prog 27 #[.func (.func gf) #[] lb] w fun e w' => ∃ q n c, e = .returned (.slice q n c) ∧ RefIn w' q n (zs.map Prod.snd) ∧ Below w.heap.size w w' := by
  obtain ⟨i0, hi0, hz0, hz1, hz2⟩ := info_parts info_strs
  have hnf : ∀ w' : World, (binOp .eql 58 (.func (.func gf) #[] lb) .nilFunc).run Tryz.prog w' = .ok (.bool false) w' := fun _ => by kernel_rfl
  refine (callsIn_wide (n := 1)).1 ?_
  refine callsIn_of_wp_marks Tryz.func27 rfl trivial ?_ rfl
  simp only [Tryz.ntmps27, List.size_toArray, List.length_cons, List.length_nil, Nat.reduceAdd, Nat.reduceSub, Array.replicate_succ, Array.replicate_zero, List.push_toArray, List.append_toArray, List.nil_append, List.cons_append]
  gi_wp2
  obtain ⟨W0, hW0⟩ : ∃ W0, (w.alloc (.cells #[] 31)).alloc (.cells #[.slice (some ⟨w.heap.size, 0, none⟩) 0 0] 29) = W0 := ⟨_, rfl⟩
  have b0 : Boxed W0 (w.heap.size + 1) 29 (.slice (some ⟨w.heap.size, 0, none⟩) 0 0) := by
    have := Boxed.new (w.alloc (.cells #[] 31)) 29 (.slice (some ⟨w.heap.size, 0, none⟩) 0 0)
    rw [World.size_alloc] at this
    exact hW0 ▸ this
  have hrow0 : W0.ownsRow w.heap.size 31 1 (.slice (some ⟨w.heap.size, 0, none⟩) 0 0) 0 [] := hW0 ▸ (World.ownsRow_made w #[] 0 (Nat.le_refl _) (Nat.zero_le _) rfl).alloc _
  have hB0 : Below w.heap.size w W0 := hW0 ▸ ((Below.refl _ w).alloc (Nat.le_refl _) _).alloc (by simp) _
  have hs0 : W0.heap.size = w.heap.size + 2 := by rw [← hW0]; simp
  rw [hW0]
  clear hW0 hnf
  refine rf_law (gf := gf) (lb := lb) rfl eg hi (Keep.of_below hB0) (fun b hb => by omega) (fun x args G W h => by rw [h.1]; rfl)
    (fun pre Pv W => RefL (w.heap.size + 1) w.heap.size W0 Pv W (pre.map Prod.snd)) (fun _ _ _ _ => False)
    (fun s Pv Pv' A B h hk hp => h.step (by omega) (by omega) hk (fun b hb => (hp b hb).1)) (fun _ _ _ _ _ _ h _ _ => h)
    ⟨_, [], b0, hrow0, (fun z hz => by cases hz), rfl, (fun _ h => h.elim), (fun _ _ h => h), Keep.refl _ _⟩ ?round ?done ?stop
  case round =>
    rintro ll pre ⟨⟨xq, xn, xc⟩, x⟩ rest Pv G args Wr hll hxs ⟨v, ls, hbx, hrow, hzs, hacc, hge, hnv, hKW⟩ hPl hGl hPb hGP ⟨harg, rfl⟩
    obtain rfl : args = #[.agg #[.slice xq xn xc]] := harg
    have hxm : ((xq, xn, xc), x) ∈ zs := by rw [hxs]; simp
    have hpl : ls.length + 1 ≤ 1000 := by
      have h1 := congrArg List.length hacc
      rw [List.length_map, List.length_map] at h1
      rw [hxs, List.length_append, List.length_cons] at hN
      omega
    clear hxs
    have hll2 := hPb ll hPl
    have hszr := hKW.size
    gi_wp2
    refine ⟨Keep.alloc _ _ _, fun W5 hk5 hs5 r hr => ?_⟩
    have hka := Keep.alloc (fun _ => True) Wr (.cells #[.slice xq xn xc] 44)
    have bx := hk5.boxed (Boxed.new Wr 44 (.slice xq xn xc)) (by omega)
    have hk5' : Keep (fun b => ¬ Pv b) Wr W5 := (hka.mono fun _ _ _ => trivial).trans (hk5.mono fun b _ hb h => hb (h ▸ hPl))
    replace hbx := hk5'.boxed hbx (fun h => by have := hge _ h; omega)
    replace hrow := hk5'.row hrow hnv
    replace hzs : ∀ z ∈ ls, (ClAt W5 z ∧ (z.1.1 = none → z.1.2.2 = 0)) ∧ ∀ a, z.1.1 = some a → 0 < z.1.2.1 → ¬ Pv a.block ∧ W0.heap.size ≤ a.block ∧ v.ownBlock ≠ some a.block := fun z hz => ⟨⟨(hzs z hz).1.1.from hk5' (fun a ha h0 => ((hzs z hz).2 a ha h0).1), (hzs z hz).1.2⟩, (hzs z hz).2⟩
    have hK5 : Keep (fun b => b < w.heap.size) W0 W5 := hKW.trans (hk5'.mono fun b _ hb h => by have := hge b h; omega)
    have hPl5 : ∀ b, Pv b → b < W5.heap.size := fun b hb => Nat.lt_of_lt_of_le (hPb b hb) hk5'.size
    have hszW : W0.heap.size ≤ W5.heap.size := hK5.size
    have A5 : Below w.heap.size w W5 := hB0.trans (hK5.below (by omega))
    have hz5 := (hz _ hxm).below A5
    clear hr hk5 hk5' hs5 hKW hka
    obtain ⟨Wd, hWd⟩ : ∃ Wd, W5.drew = Wd := ⟨_, rfl⟩
    have hkd : ∀ S, Keep S W5 Wd := fun S => by rw [← hWd]; exact Keep.drew S W5
    have HSZD := Lib.hid (show Wd.heap.size = W5.heap.size by rw [← hWd]; rfl)
    replace hbx := (hkd (fun _ => True)).boxed hbx trivial
    replace hrow := (hkd (fun _ => True)).row hrow (fun _ _ => trivial)
    replace bx := (hkd (fun _ => True)).boxed bx trivial
    replace hzs : ∀ z ∈ ls, (ClAt Wd z ∧ (z.1.1 = none → z.1.2.2 = 0)) ∧ ∀ a, z.1.1 = some a → 0 < z.1.2.1 → ¬ Pv a.block ∧ W0.heap.size ≤ a.block ∧ v.ownBlock ≠ some a.block := fun z hz => ⟨⟨(hzs z hz).1.1.keep (hkd _), (hzs z hz).1.2⟩, (hzs z hz).2⟩
    replace hz5 := hz5.keep (hkd _)
    have con := Cls.All_any xq xn xc Wd
    obtain ⟨W6, hW6⟩ : ∃ W6, Wd.alloc (.cells #[.slice xq xn xc] 44) = W6 := ⟨_, rfl⟩
    have bc : Boxed W6 Wd.heap.size 44 (.slice xq xn xc) := hW6 ▸ Boxed.new Wd _ _
    have hb6 : Below Wd.heap.size Wd W6 := hW6 ▸ below_alloc _
    have hz6 := hz5.below hb6
    obtain ⟨_, _, _, hee, hxc, hxn, hsx, hrx⟩ := hz6.set
    cases hee
    have hxl := hsx.1
    have con2 := all07_any 77 #[.pointer (some ⟨Wd.heap.size, 0, none⟩)] x (fun b => b < W6.heap.size) W6 (enters_of Tryz.func77 (by kernel_rfl) rfl)
      (Cls.All1_iter Wd.heap.size xq xn xc x _ W6 hxn hsx hsx.lt bc bc.lt (fun _ h => h)) (fun _ h => h) (Nat.le_trans hz6.few (by decide))
    have hfew : x.length ≤ 16 := hz6.few
    have HFEW := Lib.hid hfew
    generalize x.length = m at con2 hfew
    have c0 := hbx.cell
    have cx := bx.cell
    have HWd := Lib.hid hWd
    have HX := Lib.hid hxl
    clear hWd hsx hz6 hz5 hxl
    gi_wp2_with fail
    refine region_anyO (fun j => decide (j ≠ 6)) (fun X => X.cell? ⟨w.heap.size + 1, 0, none⟩ = some v) (by kernel_rfl) ?_
    rw [HWd.out]
    refine anyO_take 0 (v := v) rfl (by kernel_rfl) (by kernel_rfl) (by kernel_rfl) (by kernel_rfl) (by kernel_rfl) (fun _ _ _ h => h) ⟨.inl ⟨by rfl, ?_⟩, fun _ => rfl⟩ c0 ?_
    · rintro w h1; go_simp
    refine anyO_one 1 (by kernel_rfl) rfl fun K hK => ?_
    go_simp
    refine hK _ _ (fun _ => c0) ?_
    clear hK K
    refine anyO_one 2 (by kernel_rfl) rfl fun K hK => ?_
    go_simp
    refine ⟨trivial, rfl, (CallsIn.inRound ll (callsIn_wide.2 con)).mono ?_⟩
    rintro e w4 ⟨rfl, hw4⟩
    rw [hW6] at hw4
    subst hw4
    have c4' := ((Keep.of_below hb6).boxed hbx hbx.lt).cell
    refine hK _ _ (fun _ => c4') ?_
    clear hK K con
    refine anyO_one 3 (by kernel_rfl) rfl fun K hK => ?_
    go_simp
    refine ⟨trivial, rfl, (CallsIn.inRound ll (callsIn_wide.2 con2)).mono ?_⟩
    rintro e w6 ⟨v6, rfl, hrow6, hbel⟩
    obtain ⟨q6, c6, rfl, hc6, hcm6, hs6, hq6⟩ := slIn_of_owns hrow6
    have hz6 : ClAt w6 ((q6, m, c6), x) := ⟨⟨_, _, _, rfl, hc6, show m ≤ 140737488355328 by omega, hs6, hrx⟩, HFEW.out⟩
    have hzn : q6 = none → c6 = 0 := fun h => by subst h; exact (Cls.row_nil hrow6).2
    have hbw : Below Wd.heap.size Wd w6 := hb6.trans (hbel.mono hb6.size)
    have kb := Keep.of_below hbw
    have hbx4 := kb.boxed hbx hbx.lt
    have hrow4 := kb.row hrow (fun b hb => (hrow.lt b hb).2)
    have hsz6 := hbw.size
    have hszn := hb6.size
    have c5' := hbx4.cell
    refine hK _ _ (fun _ => c5') ?_
    clear hK K con2
    refine anyO_one 4 (by kernel_rfl) rfl fun K hK => ?_
    go_simp
    have c6' := (hbx4.alloc (.cells #[.slice q6 m c6] 31)).cell
    refine hK _ _ (fun _ => c6') ?_
    clear hK K
    refine anyO_one 5 (by kernel_rfl) rfl fun K hK => ?_
    rw [if_pos (by rfl)]
    refine S.wpIn_append_own _ _ 29 rfl w.heap.size 31 i0 (.slice none 0 0) 1 24 Tryz.underlying29 hi0 hz0 hz1 hz2 rfl (by decide) v ls.length _ rfl (hrow4.alloc _) ⟨w6.heap.size, 0, none⟩ 1 1 [.slice q6 m c6] rfl rfl (cell_one_new _ _ _) (by simp [Value.oneCell']) (by unfold maxLen; omega) (by omega) (by have := HSZD.out; simp; omega) ?_
    intro v2 w7 hown' hgrow hat
    obtain ⟨g', cap', rfl⟩ := ownsRow_succ hown'
    obtain ⟨hv1, hv2, hr2, hkk⟩ := appended_keep (S := fun b => b ≠ w.heap.size + 1 ∧ v.ownBlock ≠ some b) hbx4 (by decide) hrow4 (fun h => h.1 rfl) (fun b hb h => h.2 hb) hown' hgrow
    have c7 := hv1.cell
    have f7 := hv1.frozen
    refine hK _ _ (fun _ => c7) ?_
    clear hK K
    refine anyO_one 6 (by kernel_rfl) rfl fun K hK => ?_
    go_simp
    refine hK _ _ (fun h => absurd h (by decide)) ?_
    clear hK K
    refine anyO_done (by kernel_rfl) ?_ _
    clear c7 f7 c6' c5' c4' c0 cx
    gi_wp2
    have hszd := HSZD.out
    have hat' : some g' = v.ownBlock ∨ some g' = some (w6.alloc (.cells #[.slice q6 m c6] 31)).heap.size := hat
    have hg : ∀ b, some g' = some b → v.ownBlock = some b ∨ w6.heap.size + 1 ≤ b := fun b hb => by
      rcases hat' with h | h
      · exact .inl (h ▸ hb)
      · rw [h] at hb
        have := Option.some.inj hb
        simp at this
        exact .inr (by omega)
    have hk6 : ∀ S : Nat → Prop, (∀ b, S b → b < w6.heap.size ∧ b ≠ w.heap.size + 1 ∧ v.ownBlock ≠ some b) → Keep S w6 (w7.setCell ⟨w.heap.size + 1, 0, none⟩ (.slice (some ⟨g', 0, none⟩) (ls.length + 1) cap')) := fun S hS => hkk.mono fun b _ h => (hS b h).2
    have hk5 : ∀ S : Nat → Prop, (∀ b, S b → b < Wd.heap.size ∧ b ≠ w.heap.size + 1 ∧ v.ownBlock ≠ some b) → Keep S Wd (w7.setCell ⟨w.heap.size + 1, 0, none⟩ (.slice (some ⟨g', 0, none⟩) (ls.length + 1) cap')) := fun S hS => (kb.mono fun b _ h => (hS b h).1).trans (hk6 S fun b h => ⟨by have := (hS b h).1; omega, (hS b h).2⟩)
    have hown5 : ∀ b, v.ownBlock = some b → w.heap.size ≤ b ∧ b < Wd.heap.size := fun b hb => hrow.lt b hb
    have hkr : ∀ b, b < w.heap.size → b < Wd.heap.size ∧ b ≠ w.heap.size + 1 ∧ v.ownBlock ≠ some b := fun b hb => ⟨by omega, by omega, fun e => by have := (hown5 b e).1; omega⟩
    refine ⟨(hkd _).trans (hk5 _ (fun b hb => ?_)), _, ls ++ [((q6, m, c6), x)], hv2, by simpa [encC] using hr2, fun z hz => ?_, ?_, fun b hb => hge b hb, fun b hb hp => ?_, hK5.trans ((hkd _).trans (hk5 _ hkr))⟩
    · rcases hb with h | h
      · exact hkr b h
      · exact ⟨by have := hPl5 b h; omega, fun e => by have := hge b h; omega, fun e => hnv b e h⟩
    · rcases List.mem_append.1 hz with h | h
      · obtain ⟨⟨k1, k3⟩, k2⟩ := hzs z h
        refine ⟨⟨k1.from (hk5 (fun b => b < Wd.heap.size ∧ b ≠ w.heap.size + 1 ∧ v.ownBlock ≠ some b) (fun b hb => hb)) (fun a ha h0 => ?_), k3⟩, fun a ha h0 => ?_⟩
        · obtain ⟨j1, j2, j3⟩ := k2 a ha h0
          exact ⟨k1.lt a ha h0, by omega, j3⟩
        · obtain ⟨j1, j2, j3⟩ := k2 a ha h0
          refine ⟨j1, j2, fun e => ?_⟩
          rcases hg a.block e with h | h
          · exact j3 h
          · have := k1.lt a ha h0; omega
      · rw [List.mem_singleton.1 h]
        refine ⟨⟨hz6.from (hk6 (fun b => b < w6.heap.size ∧ b ≠ w.heap.size + 1 ∧ v.ownBlock ≠ some b) (fun b hb => hb)) (fun a ha h0 => ?_), hzn⟩, fun a ha h0 => ?_⟩
        · have j := (hq6 a ha).1
          exact ⟨hz6.lt a ha h0, by omega, fun e => by have := (hown5 _ e).2; omega⟩
        · have j := (hq6 a ha).1
          refine ⟨fun hp => by have := hPl5 _ hp; omega, by omega, fun e => ?_⟩
          rcases hg a.block e with h | h
          · have := (hown5 _ h).2; omega
          · have := hz6.lt a ha h0; omega
    · rw [List.map_append, List.map_append, hacc]; rfl
    · rcases hg b hb with h | h
      · exact hnv b h hp
      · have := hPl5 b hp; omega
  case done =>
    rintro D Pv Wd hD hPD hPl ⟨v, ls, hbx, hrow, hzs, hacc, hge, hnv, hKW⟩ hK
    obtain ⟨q4, c4, rfl, hc4, _, hs4, _⟩ := slIn_of_owns hrow
    have hBd : Below w.heap.size w Wd := hB0.trans (hKW.below (by omega))
    have cB := hbx.cell
    have HR := Lib.hid (show RefIn (Wd.putObj D (.deferred none)) q4 ls.length (zs.map Prod.snd) from ⟨ls, slC_put hs4 hK, fun z hz => ⟨⟨set_put (hzs z hz).1.1.set hK, (hzs z hz).1.1.few⟩, (hzs z hz).1.2⟩, hacc.symm⟩)
    clear hs4 hrow hbx hzs hacc hnv hge hKW
    gi_wp2
    refine ⟨by simp, .inl ⟨_, _, rfl, run_takeDeferred hK, ?_⟩⟩
    exact ⟨_, results_tmp rfl _ _ _, q4, ls.length, c4, rfl, HR.out, ((Keep.of_below hBd).trans (Keep.putObj _ D (.deferred none) (by omega))).below (Nat.le_refl _)⟩
  case stop =>
    rintro D c pre rest Pv Wd _ _ _ _ h _
    exact h.elim

set_option maxRecDepth 100000 in
set_option maxHeartbeats 4000000 in
theorem Ref_any (v : Value) (f : List (List (List UInt8))) (w : World) (h : FrmIs w v f) (hN : f.length ≤ 1000) :
    Calls Tryz.prog 8 #[v] w fun e w' => ∃ q n c, e = .returned (.slice q n c) ∧ RefIn w' q n f ∧ Below w.heap.size w w' := by
  obtain ⟨q, n, c, rfl⟩ := frm_form h
  obtain ⟨_, hnc, zs, s0, z0, rfl⟩ := h.row
  rw [List.length_map] at hN
  have A1 := below_alloc (w := w) (.cells #[.slice q n c] 26)
  have con := frmAll_any q n c (w.alloc (.cells #[.slice q n c] 26))
  have hl := s0.1
  obtain ⟨W1, hW1⟩ : ∃ W1, w.alloc (.cells #[.slice q n c] 26) = W1 := ⟨_, rfl⟩
  rw [hW1] at A1 con
  obtain ⟨W2, hW2⟩ : ∃ W2, (W1.alloc (.cells #[.slice q n c] 26)).alloc (.cells #[.slice q n c] 24) = W2 := ⟨_, rfl⟩
  rw [hW2] at con
  have bv : Boxed W2 (W1.heap.size + 1) 24 (.slice q n c) := by
    have := Boxed.new (W1.alloc (.cells #[.slice q n c] 26)) 24 (.slice q n c)
    rw [World.size_alloc] at this
    exact hW2 ▸ this
  have hB2 : Below W1.heap.size W1 W2 := hW2 ▸ ((Below.refl _ W1).alloc (Nat.le_refl _) _).alloc (by simp) _
  have A2 := A1.trans (hB2.mono A1.size)
  have s2 := s0.below A2 s0.lt
  have con2 := all08_any 81 #[.pointer (some ⟨W1.heap.size + 1, 0, none⟩)] zs W2 (enters_of Tryz.func81 (by kernel_rfl) rfl)
    (Values1_iter (W1.heap.size + 1) q n c zs _ W2 (by omega) s2 s2.lt bv bv.lt (fun _ h => h)) (fun z hz => (z0 z hz).below A2) hN
  have HW1 := Lib.hid hW1
  clear hW1 hW2 bv s0 s2 z0 h hl
  go_enter Tryz.func8, Tryz.ntmps8
  go_wp2_with fail
  rw [HW1.out]
  refine con.mono ?_
  rintro e w2 ⟨rfl, rfl⟩
  clear con
  go_wp2_with fail
  refine con2.mono ?_
  rintro e w3 ⟨q3, n3, c3, rfl, h3, hb3⟩
  clear con2
  go_wp2
  go_ret
  exact ⟨q3, n3, c3, rfl, h3, A2.trans (hb3.mono A2.size)⟩

end Go.Proofs.YtgkandghennbhaaGreatDoor.Frm

namespace Go.Proofs.YtgkandghennbhaaGreatDoor.Frm
open Go.RowKit Go.Shelf Go.Sort Url Org Cls
attribute [local go_sem] Oper.semAt_some
set_option linter.unusedVariables false

set_option maxRecDepth 100000 in
set_option maxHeartbeats 4000000 in
theorem In_any (q : Option Addr) (n c : Nat) (l : List (List UInt8)) (p : List UInt8) (w : World) (h : SlIn encStr w q n l) (hn : n ≤ 140737488355328) :
    Calls Tryz.prog 32 #[.slice q n c, .string ⟨p.toArray⟩] w fun e w' => e = .returned (.bool (decide (p ∈ l))) ∧ w = w' := by
  have hl := Lib.hid h.1
  go_enter Tryz.func32, Tryz.ntmps32
  go_wp2
  go_loop [9] (fun i => ∃ k : Nat, k ≤ n ∧ i = .int .i64 k ∧ Hid (∀ j x, j < k → l[j]? = some x → p ≠ x)) (fun i => n - (intOf i).toNat)
  case atStart => exact ⟨0, Nat.zero_le _, rfl, Lib.hid (fun j x h => by omega)⟩
  case round =>
    obtain ⟨k, hk, rfl, HJ⟩ := hrel
    by_cases hlt : k < n
    · obtain ⟨b, o, rfl, _, hc⟩ := h.at (by omega)
      obtain ⟨x, hx, _⟩ := drop_getElem l k (by rw [hl.out]; exact hlt)
      have hck : w.cell? ⟨b, o + k, none⟩ = some (.string ⟨x.toArray⟩) := hc k x hx
      by_cases hp : p = x
      · have e1 : (p == x) = true := by rw [beq_iff_eq]; exact hp
        have HR := Lib.hid (show decide (p ∈ l) = true from decide_eq_true (hp ▸ List.mem_of_getElem? hx))
        clear hx hc h HJ hp
        go_wp2
        go_ret
        exact ⟨(by rw [HR.out]; rfl), rfl⟩
      · have e1 : (p == x) = false := by rw [beq_eq_false_iff_ne]; exact hp
        have HJ2 := Lib.hid (show ∀ j y, j < k + 1 → l[j]? = some y → p ≠ y from fun j y hj hy => by
          by_cases e : j = k
          · subst e; rw [hx] at hy; cases hy; exact hp
          · exact HJ.out j y (by omega) hy)
        clear hx hc h HJ hp
        go_wp2
        go_round
        case rel => exact ⟨k + 1, by omega, by go_num, HJ2⟩
        case measure => simp [intOf]; omega
    · obtain rfl : k = n := by omega
      have HR := Lib.hid (show decide (p ∈ l) = false from decide_eq_false fun hm => by
        obtain ⟨j, hj, he⟩ := List.getElem_of_mem hm
        exact HJ.out j _ (by have := hl.out; omega) (List.getElem?_eq_getElem hj) he.symm)
      clear HJ h
      go_wp2
      go_ret
      exact ⟨(by rw [HR.out]; rfl), rfl⟩


/-- The least of some texts, up to a number. -/
def leastK (l : List (List UInt8)) (k : Nat) (m : List UInt8) : Prop := m ∈ l ∧ ∀ j x, j < k → l[j]? = some x → ¬ x < m
/-- What has come, and what is left, together make the list. -/
structure RiseK (l0 out l : List (List UInt8)) : Prop where
  rise : Rises out
  less : ∀ a ∈ out, ∀ b ∈ l, a < b
  mem : ∀ a, a ∈ l0 ↔ a ∈ out ∨ a ∈ l
theorem RiseK.start (l : List (List UInt8)) : RiseK l [] l := ⟨Rises.nil, fun a ha => (by cases ha), fun a => by simp⟩
theorem RiseK.next {l0 out l : List (List UInt8)} {m : List UInt8} (h : RiseK l0 out l) (hm : m ∈ l) (hl : ∀ x ∈ l, ¬ x < m) : RiseK l0 (out ++ [m]) (l.filter fun x => decide (x ≠ m)) := by
  refine ⟨?_, fun a ha b hb => ?_, fun a => ?_⟩
  · refine List.pairwise_append.2 ⟨h.rise, by simp, fun a ha b hb => ?_⟩
    rw [List.mem_singleton.1 hb]
    exact h.less a ha m hm
  · obtain ⟨hb1, hb2⟩ := List.mem_filter.1 hb
    have hb2 := of_decide_eq_true hb2
    rcases List.mem_append.1 ha with ha | ha
    · exact h.less a ha b hb1
    · rw [List.mem_singleton.1 ha]
      rcases Lin.tri m b with k | k | k
      · exact k
      · exact absurd k.symm hb2
      · exact absurd k (hl b hb1)
  · rw [h.mem, List.mem_append, List.mem_singleton, List.mem_filter]
    constructor
    · rintro (h | h)
      · exact .inl (.inl h)
      · by_cases e : a = m
        · exact .inl (.inr e)
        · exact .inr ⟨h, decide_eq_true e⟩
    · rintro ((h | h) | h)
      · exact .inl h
      · exact .inr (h ▸ hm)
      · exact .inr h.1
theorem RiseK.done {l0 out : List (List UInt8)} (h : RiseK l0 out []) : out = sortR l0 :=
  rises_ext h.rise (sort_rises l0) fun a => by rw [mem_sort, h.mem]; simp
/-- What is left, up to a number. -/
def restK (l : List (List UInt8)) (m : List UInt8) (k : Nat) : List (List UInt8) := (l.take k).filter fun x => decide (x ≠ m)
theorem restK_succ (l : List (List UInt8)) (m x : List UInt8) (k : Nat) (h : l[k]? = some x) : restK l m (k + 1) = if x = m then restK l m k else restK l m k ++ [x] := by
  unfold restK
  rw [(take_snoc l k x h).1, List.filter_append]
  by_cases e : x = m
  · rw [if_pos e]; simp [e]
  · rw [if_neg e]; simp [e]
theorem restK_len (l : List (List UInt8)) (m : List UInt8) (k : Nat) : (restK l m k).length ≤ l.length := by
  unfold restK
  exact Nat.le_trans (List.length_filter_le _ _) (by rw [List.length_take]; omega)
theorem restK_less (l : List (List UInt8)) (m : List UInt8) (hm : m ∈ l) : (l.filter fun x => decide (x ≠ m)).length < l.length := by
  have h1 : (l.filter fun x => decide (x ≠ m)).length + (l.filter fun x => decide (x = m)).length = l.length := by
    induction l with
    | nil => rfl
    | cons y r ih =>
      by_cases e : y = m
      · by_cases hr : m ∈ r
        · have := ih hr
          simp [e] at this ⊢; omega
        · have hn : r.filter (fun x => decide (x ≠ m)) = r := List.filter_eq_self.2 fun a ha => decide_eq_true fun e2 => hr (e2 ▸ ha)
          have hn2 : r.filter (fun x => decide (x = m)) = [] := List.filter_eq_nil_iff.2 fun a ha h => hr (of_decide_eq_true h ▸ ha)
          simp only [List.filter_cons, e]
          rw [hn, hn2]; simp
      · have hr : m ∈ r := (List.mem_cons.1 hm).elim (fun k => absurd k.symm e) id
        have := ih hr
        simp [e] at this ⊢; omega
  have h2 : 0 < (l.filter fun x => decide (x = m)).length := List.length_pos_of_mem (List.mem_filter.2 ⟨hm, decide_eq_true rfl⟩)
  omega

/-- A slice's length. -/
def sliceLen : Value → Nat
  | .slice _ n _ => n
  | _ => 0
theorem rises_nodup' (l : List (List UInt8)) (h : Rises l) : l.Nodup := rises_nodup l h

set_option maxRecDepth 100000 in
set_option maxHeartbeats 16000000 in
theorem Rising_any (q : Option Addr) (n c : Nat) (l : List (List UInt8)) (w : World) (h : SlIn encStr w q n l) (hn : n ≤ 1099511627776) :
    Calls Tryz.prog 29 #[.slice q n c] w fun e w' => ∃ q n c, e = .returned (.slice q n c) ∧ SlIn encStr w' q n (sortR l) ∧ Below w.heap.size w w' := by
  obtain ⟨i0, hi0, hz0, hz1, hz2⟩ := info_parts S.info_str
  obtain ⟨W1, hW1⟩ : ∃ W1, w.alloc (.cells #[] 9) = W1 := ⟨_, rfl⟩
  have A1 : Below w.heap.size w W1 := hW1 ▸ below_alloc _
  have hrow0 : W1.ownsRow w.heap.size 9 1 (.slice (some ⟨w.heap.size, 0, none⟩) 0 0) 0 [] := hW1 ▸ World.ownsRow_made w #[] 0 (Nat.le_refl _) (Nat.zero_le _) rfl
  have h1 := h.below A1 h.lt
  have hl := h.1
  have HL := Lib.hid hl
  have HW1 := Lib.hid hW1
  have HLT := Lib.hid h.lt
  clear hW1 h hl
  go_enter Tryz.func29, Tryz.ntmps29
  go_wp2
  rw [HW1.out]
  go_loopw [0, 3] (fun a o wr => ∃ (q' : Option Addr) (n' c' : Nat) (ll out : List (List UInt8)), a = .slice q' n' c' ∧ n' ≤ n ∧ SlIn encStr wr q' n' ll ∧ wr.ownsRow w.heap.size 9 1 o out.length (out.map encStr) ∧ Hid (RiseK l out ll) ∧ Below w.heap.size w wr ∧ (∀ a, q' = some a → 0 < n' → o.ownBlock ≠ some a.block)) (fun a _ _ => sliceLen a)
  case atStart => exact ⟨q, n, c, l, [], rfl, Nat.le_refl _, h1, hrow0, Lib.hid (RiseK.start l), A1, fun a ha h0 e => by
    have e : some w.heap.size = some a.block := e
    have h2 := HLT.out a ha h0
    have := Option.some.inj e
    omega⟩
  case round =>
    obtain ⟨q', n', c', ll, out, rfl, hnn, hsl, hrow, HK, hB, hne⟩ := hrel
    have hol : out.length ≤ n := by
      have h2 := HK.out
      have h3 : out.length ≤ l.length := (rises_nodup' out h2.rise).length_le_of_subset fun a ha => (h2.mem a).2 (.inl ha)
      have := HL.out
      omega
    have hll := hsl.1
    have HLL := Lib.hid hll
    have hBs := hB.size
    clear h1 hrow0 hll
    by_cases hpos : 0 < n'
    · obtain ⟨b, o, rfl, hbl, hc⟩ := hsl.at hpos
      have d1 : decide ((n' : Int) > 0) = true := by simp; omega
      have d1' : decide (0 < n') = true := by simp; omega
      obtain ⟨x0, hx0⟩ : ∃ x, ll[0]? = some x := ⟨_, List.getElem?_eq_getElem (by have := HLL.out; omega)⟩
      have hc0 : wr.cell? ⟨b, o, none⟩ = some (.string ⟨x0.toArray⟩) := hc 0 x0 hx0
      have HX0 := Lib.hid (show leastK ll 0 x0 from ⟨List.mem_of_getElem? hx0, fun j x hj => by omega⟩)
      have HC := Lib.hid hc
      clear hx0 hc
      go_wp2
      go_loop [4, 19] (fun m i => ∃ (k : Nat) (mm : List UInt8), k ≤ n' ∧ i = .int .i64 k ∧ m = .string ⟨mm.toArray⟩ ∧ Hid (leastK ll k mm)) (fun _ i => n' - (intOf i).toNat)
      case atStart => exact ⟨0, x0, Nat.zero_le _, rfl, rfl, HX0⟩
      case round =>
        obtain ⟨k, mm, hk, rfl, rfl, HM⟩ := hrel
        by_cases hlt : k < n'
        · obtain ⟨x, hx, _⟩ := drop_getElem ll k (by rw [HLL.out]; exact hlt)
          have hck : wr.cell? ⟨b, o + k, none⟩ = some (.string ⟨x.toArray⟩) := HC.out k x hx
          have HX := Lib.hid hx
          clear hx
          by_cases hxm : x < mm
          · have e1 : Op.bytesLess x mm = true := by rw [Go.Proofs.bytesLess_eq]; exact decide_eq_true hxm
            have HM2 := Lib.hid (show leastK ll (k + 1) x from ⟨List.mem_of_getElem? HX.out, fun j y hj hy hyx => by
              by_cases e : j = k
              · subst e; rw [HX.out] at hy; cases hy; exact Lin.irr _ hyx
              · exact HM.out.2 j y (by omega) hy (Lin.tr hyx hxm)⟩)
            clear hxm
            go_wp2
            go_round
            case rel => exact ⟨k + 1, x, by omega, by go_num, rfl, HM2⟩
            case measure => simp [intOf]; omega
          · have e1 : Op.bytesLess x mm = false := by rw [Go.Proofs.bytesLess_eq]; exact decide_eq_false hxm
            have HM2 := Lib.hid (show leastK ll (k + 1) mm from ⟨HM.out.1, fun j y hj hy hyx => by
              by_cases e : j = k
              · subst e; rw [HX.out] at hy; cases hy; exact hxm hyx
              · exact HM.out.2 j y (by omega) hy hyx⟩)
            clear hxm
            go_wp2
            go_round
            case rel => exact ⟨k + 1, mm, by omega, by go_num, rfl, HM2⟩
            case measure => simp [intOf]; omega
        · obtain rfl : k = n' := by omega
          have HM3 := Lib.hid (show mm ∈ ll ∧ ∀ x ∈ ll, ¬ x < mm from ⟨HM.out.1, fun x hx => by
            obtain ⟨j, hj, rfl⟩ := List.getElem_of_mem hx
            exact HM.out.2 j _ (by have := HLL.out; omega) (List.getElem?_eq_getElem hj)⟩)
          clear HM HX0
          go_wp2_with (at_builtin; refine wpList_append_own_at _ rfl _ _ 31 rfl w.heap.size 9 i0 (.string ByteArray.empty) 1 16 Tryz.underlying31 hi0 hz0 hz1 hz2 rfl (by decide) _ _ _ rfl (hrow.alloc _) ⟨wr.heap.size, 0, none⟩ 1 1 [.string ⟨mm.toArray⟩] rfl rfl (cell_one_new _ _ _) (by simp [Value.oneCell']) (by unfold maxLen; omega) (by omega) (by simp; omega) ?_; intro v' w1 hown' hgrow _ hat)
          have hk1 : ∀ S : Nat → Prop, (∀ b, S b → u3.ownBlock ≠ some b) → Keep S wr w1 := fun S hS => (Keep.alloc S wr _).trans (Keep.of_grownBy hgrow (fun r hr h => hS r h hr))
          have hb1 : Below w.heap.size wr w1 := (hk1 (· < w.heap.size) (fun b hb e => by have := (hrow.lt b e).1; omega)).below hBs
          have hsl1 : SlIn encStr w1 (some ⟨b, o, none⟩) k ll := hsl.keep (hk1 (fun x => x = b) (fun x hx => by subst hx; exact hne _ rfl hpos)) (fun a ha _ => by cases ha; rfl)
          have hs1 := hb1.size
          have hbl1 : b < w1.heap.size := by have := (hk1 (fun _ => False) (fun _ h => h.elim)).size; omega
          obtain ⟨W7, hW7⟩ : ∃ W7, w1.alloc (.cells #[] 9) = W7 := ⟨_, rfl⟩
          have hr7 : W7.ownsRow w1.heap.size 9 1 (.slice (some ⟨w1.heap.size, 0, none⟩) 0 0) 0 [] := hW7 ▸ World.ownsRow_made w1 #[] 0 (Nat.le_refl _) (Nat.zero_le _) rfl
          have hb7 : Below w1.heap.size w1 W7 := hW7 ▸ below_alloc _
          rw [hW7]
          clear hat hgrow HC hsl hc0 hW7 hrow
          go_loopw [7, 35] (fun r i wr2 => ∃ k' : Nat, k' ≤ k ∧ i = .int .i64 k' ∧ wr2.ownsRow w1.heap.size 9 1 r (restK ll mm k').length ((restK ll mm k').map encStr) ∧ Below w1.heap.size w1 wr2) (fun _ i _ => k - (intOf i).toNat)
          case atStart => exact ⟨0, Nat.zero_le _, rfl, by simpa [restK] using hr7, hb7⟩
          case round =>
            obtain ⟨k', hk', rfl, hrow2, hB2⟩ := hrel
            have hBs2 := hB2.size
            have hrl := restK_len ll mm k'
            have hll := HLL.out
            clear hr7 hb7
            by_cases hlt : k' < k
            · obtain ⟨x, hx, _⟩ := drop_getElem ll k' (by rw [HLL.out]; exact hlt)
              obtain ⟨_, _, he, _, hc⟩ := (hsl1.below hB2 hsl1.lt).at hpos
              cases he
              have hck : wr.cell? ⟨b, o + k', none⟩ = some (.string ⟨x.toArray⟩) := hc k' x hx
              have HRS := Lib.hid (restK_succ ll mm x k' hx)
              clear hx hc
              by_cases hxm : x = mm
              · have e1 : (x == mm) = true := by rw [beq_iff_eq]; exact hxm
                have HR2 := Lib.hid (show restK ll mm (k' + 1) = restK ll mm k' by rw [HRS.out, if_pos hxm])
                clear hxm hll
                go_wp2
                go_roundw
                case rel => exact ⟨k' + 1, by omega, by go_num, by rw [HR2.out]; exact hrow2, hB2⟩
                case measure => simp [intOf]; omega
              · have e1 : (x == mm) = false := beq_eq_false_iff_ne.2 hxm
                have HR2 := Lib.hid (show restK ll mm (k' + 1) = restK ll mm k' ++ [x] by rw [HRS.out, if_neg hxm])
                have hrb : (restK ll mm k').length ≤ 1099511627776 := by omega
                clear hxm hll hrl
                generalize restK ll mm k' = rs at *
                go_wp2_with (at_builtin; refine wpList_append_own_at _ rfl _ _ 31 rfl w1.heap.size 9 i0 (.string ByteArray.empty) 1 16 Tryz.underlying31 hi0 hz0 hz1 hz2 rfl (by decide) _ _ _ rfl (hrow2.alloc _) ⟨wr.heap.size, 0, none⟩ 1 1 [.string ⟨x.toArray⟩] rfl rfl (cell_one_new _ _ _) (by simp [Value.oneCell']) (by unfold maxLen; omega) (by omega) (by simp; omega) ?_; intro v8 w8 hown8 hgrow8 _ _)
                have hb8 : Below w1.heap.size wr w8 := ((Below.refl _ wr).alloc hBs2 _).grown hgrow8 (by simp; omega) (fun b hb => (hrow2.lt b hb).1)
                go_roundw
                case rel => exact ⟨k' + 1, by omega, by go_num, by rw [HR2.out]; simpa [encStr] using hown8, hB2.trans hb8⟩
                case measure => simp [intOf]; omega
            · obtain rfl : k' = k := by omega
              have hall : restK ll mm k' = ll.filter fun x => decide (x ≠ mm) := by
                unfold restK
                rw [List.take_of_length_le (by omega)]
              have hless := restK_less ll mm HM3.out.1
              rw [← hall] at hless
              have HK2 := Lib.hid (show RiseK l (out ++ [mm]) (restK ll mm k') by rw [hall]; exact HK.out.next HM3.out.1 HM3.out.2)
              obtain ⟨q2, c2, rfl, hc2, hm2, hs2, hq2⟩ := slIn_of_owns hrow2
              have hlen2 : (restK ll mm k').length < k' := by omega
              clear hall hless hll hrl
              generalize restK ll mm k' = rs at *
              go_wp2
              go_roundw
              case rel =>
                refine ⟨q2, rs.length, c2, rs, out ++ [mm], rfl, by omega, hs2, ?_, HK2, hB.trans (hb1.trans (hB2.mono (by omega))), fun a ha h0 e => ?_⟩
                · have := (Keep.of_below hB2).row hown' (fun b hb => (hown'.lt b hb).2)
                  simpa [encStr] using this
                · have h1 := (hq2 a ha).1
                  have h2 := (hown'.lt _ e).2
                  omega
              case measure => simp [sliceLen]; omega
    · obtain rfl : n' = 0 := by omega
      have hnil : ll = [] := List.eq_nil_of_length_eq_zero HLL.out
      subst hnil
      have HR := Lib.hid HK.out.done
      obtain ⟨q4, c4, rfl, hc4, _, hs4, _⟩ := slIn_of_owns hrow
      replace hs4 : SlIn encStr wr q4 out.length (sortR l) := by have := hs4; rw [← HR.out]; exact this
      clear hsl hrow HK
      go_wp2
      go_ret
      exact ⟨q4, _, c4, rfl, hs4, hB⟩

end Go.Proofs.YtgkandghennbhaaGreatDoor.Frm

namespace Go.Proofs.YtgkandghennbhaaGreatDoor.Frm
open Go.RowKit Go.Shelf Go.Sort Url Org Cls
attribute [local go_sem] Oper.semAt_some
set_option linter.unusedVariables false

theorem flatC_take (ls : List (List (List UInt8))) (k : Nat) (x : List (List UInt8)) (h : ls[k]? = some x) : (ls.take (k + 1)).flatten = (ls.take k).flatten ++ x := by
  rw [(take_snoc ls k x h).1, List.flatten_append]; simp
theorem flatC_le (ls : List (List (List UInt8))) (k : Nat) : (ls.take k).flatten.length ≤ ls.flatten.length := by
  have h : ls.flatten = (ls.take k).flatten ++ (ls.drop k).flatten := by rw [← List.flatten_append, List.take_append_drop]
  rw [h, List.length_append]; omega
theorem flatC_small (m : Nat) : ∀ ls : List (List (List UInt8)), (∀ x ∈ ls, x.length ≤ m) → ls.flatten.length ≤ ls.length * m
  | [], _ => by simp
  | x :: r, h => by
    have h1 := h x (by simp)
    have h2 := flatC_small m r fun y hy => h y (by simp [hy])
    rw [List.flatten_cons, List.length_append, List.length_cons, Nat.succ_mul]; omega
theorem RefIn.few {w : World} {q : Option Addr} {n : Nat} {xs : List (List (List UInt8))} (h : RefIn w q n xs) : ∀ x ∈ xs, x.length ≤ 16 := by
  obtain ⟨zs, _, h2, rfl⟩ := h
  intro x hx
  obtain ⟨z, hz, rfl⟩ := List.mem_map.1 hx
  exact (h2 z hz).1.few
/-- What has come, by the number of formulas gone through. -/
def accK (f g : List (List (List UInt8))) (k : Nat) : List (List UInt8) := if k = 0 then [] else if k = 1 then f.flatten else (f ++ g).flatten

set_option maxRecDepth 100000 in
set_option maxHeartbeats 16000000 in
theorem refPrin_any (b : Nat) (q1 q2 : Option Addr) (n1 c1 n2 c2 : Nat) (f g : List (List (List UInt8))) (w : World) (hc0 : w.cell? ⟨b, 0, none⟩ = some (.slice q1 n1 c1)) (hc1 : w.cell? ⟨b, 1, none⟩ = some (.slice q2 n2 c2))
    (h1 : RefIn w q1 n1 f) (h2 : RefIn w q2 n2 g) (hn1 : n1 ≤ 16) (hn2 : n2 ≤ 16) :
    Calls Tryz.prog 9 #[.slice (some ⟨b, 0, none⟩) 2 2] w fun e w' => ∃ q n c, e = .returned (.slice q n c) ∧ SlIn encStr w' q n (namesL f g) ∧ Below w.heap.size w w' := by
  obtain ⟨i0, hi0, hz0, hz1, hz2⟩ := info_parts S.info_str
  have hl1 := h1.len
  have hl2 := h2.len
  have hf1 : f.flatten.length ≤ 256 := Nat.le_trans (flatC_small 16 f h1.few) (by rw [hl1]; omega)
  have hf2 : g.flatten.length ≤ 256 := Nat.le_trans (flatC_small 16 g h2.few) (by rw [hl2]; omega)
  have HK := Lib.hid (show ∀ k, (accK f g k).length ≤ 512 from fun k => by
    unfold accK
    split
    · simp
    · split
      · omega
      · rw [List.flatten_append, List.length_append]; omega)
  have key := Lib.hid (show ∀ k, k < 2 → ∃ (q : Option Addr) (n c : Nat) (zs : List Cl), w.cell? ⟨b, k, none⟩ = some (.slice q n c) ∧ SlIn encC w q n zs ∧ (∀ z ∈ zs, ClAt w z ∧ (z.1.1 = none → z.1.2.2 = 0)) ∧ n ≤ 16 ∧ accK f g (k + 1) = accK f g k ++ (zs.map Prod.snd).flatten from fun k hk => by
    obtain ⟨zs1, s1, z1, rfl⟩ := h1
    obtain ⟨zs2, s2, z2, rfl⟩ := h2
    rcases Nat.lt_or_ge k 1 with h | h
    · obtain rfl : k = 0 := by omega
      exact ⟨q1, n1, c1, zs1, hc0, s1, z1, hn1, by simp [accK]⟩
    · obtain rfl : k = 1 := by omega
      exact ⟨q2, n2, c2, zs2, hc1, s2, z2, hn2, by simp [accK]⟩)
  have HL := Lib.hid (show accK f g 2 = (f ++ g).flatten from rfl)
  have hbl := World.block_lt_of_cell? w _ hc0
  obtain ⟨W1, hW1⟩ : ∃ W1, w.alloc (.cells #[] 9) = W1 := ⟨_, rfl⟩
  have A1 : Below w.heap.size w W1 := hW1 ▸ below_alloc _
  have hrow0 : W1.ownsRow w.heap.size 9 1 (.slice (some ⟨w.heap.size, 0, none⟩) 0 0) 0 [] := hW1 ▸ World.ownsRow_made w #[] 0 (Nat.le_refl _) (Nat.zero_le _) rfl
  have HW1 := Lib.hid hW1
  clear hW1 h1 h2 hc0 hc1 hl1 hl2 hf1 hf2 hn1 hn2
  go_enter Tryz.func9, Tryz.ntmps9
  go_wp2
  rw [HW1.out]
  go_loopw [3, 11] (fun v i wr => ∃ k : Nat, k ≤ 2 ∧ i = .int .i64 k ∧ wr.ownsRow w.heap.size 9 1 v (accK f g k).length ((accK f g k).map encStr) ∧ Below w.heap.size w wr) (fun _ i _ => 2 - (intOf i).toNat)
  case atStart => exact ⟨0, Nat.zero_le _, rfl, by simpa [accK] using hrow0, A1⟩
  case round =>
    obtain ⟨k, hk, rfl, hrow, hB⟩ := hrel
    have hbs := hB.size
    clear hrow0
    by_cases hlt : k < 2
    · obtain ⟨q, n, c, zs, hc, hsl, hzs, hn, hacc⟩ := key.out k hlt
      have hck : wr.cell? ⟨b, k, none⟩ = some (.slice q n c) := (World.cell?_of_block (hB.block b hbl)).trans hc
      have HZ := Lib.hid hzs
      have HSL := Lib.hid hsl
      have hzl := Lib.hid hsl.1
      have HA := Lib.hid hacc
      have HA0 := Lib.hid (HK.out (k + 1))
      have hak := HK.out k
      generalize accK f g k = acc at *
      clear hc hsl hzs hacc
      go_wp2
      obtain ⟨G, hG⟩ : ∃ G : Nat → List (List UInt8), ∀ j, G j = acc ++ ((zs.map Prod.snd).take j).flatten := ⟨_, fun _ => rfl⟩
      have HG := Lib.hid hG
      clear hG
      go_loopw [3, 17] (fun v i wr2 => ∃ j : Nat, j ≤ n ∧ i = .int .i64 j ∧ wr2.ownsRow w.heap.size 9 1 v (G j).length ((G j).map encStr) ∧ Below w.heap.size w wr2) (fun _ i _ => n - (intOf i).toNat)
      case atStart => exact ⟨0, Nat.zero_le _, rfl, by rw [HG.out]; simpa using hrow, hB⟩
      case round =>
        obtain ⟨j, hj, rfl, hrow2, hB2⟩ := hrel
        have hbs2 := hB2.size
        clear hrow hB hck hbs
        by_cases hjl : j < n
        · obtain ⟨b2, o2, rfl, _, hc2⟩ := (HSL.out.below hB2 HSL.out.lt).at (by omega)
          obtain ⟨⟨⟨zq, zn, zc⟩, zx⟩, hz⟩ : ∃ z, zs[j]? = some z := ⟨_, List.getElem?_eq_getElem (by have := hzl.out; omega)⟩
          have hcj : wr.cell? ⟨b2, o2 + j, none⟩ = some (.slice zq zn zc) := hc2 j _ hz
          have hzm := HZ.out _ (List.mem_of_getElem? hz)
          obtain ⟨_, _, _, hee, _, _, hsx, _⟩ := (hzm.1.below hB2).set
          cases hee
          have hqz : zq = none → zc = 0 := hzm.2
          have HF := Lib.hid (flatC_take (zs.map Prod.snd) j zx (by rw [List.getElem?_map, hz]; rfl))
          have hle := flatC_le (zs.map Prod.snd) (j + 1)
          have hb1 := HA0.out
          rw [HA.out, List.length_append] at hb1
          rw [HF.out, List.length_append] at hle
          have hzx : zx.length = zn := hsx.1
          have hbnd : (G j).length + zx.length ≤ 512 := by rw [HG.out, List.length_append]; omega
          have HL2 := Lib.hid (show G (j + 1) = G j ++ zx by rw [HG.out, HG.out, HF.out, List.append_assoc])
          clear hz hc2 hle hb1 hzm
          obtain ⟨rs, hrs⟩ : ∃ rs, G j = rs := ⟨_, rfl⟩
          rw [hrs] at hrow2 hbnd HL2
          rw [hzx] at hbnd
          have HZX := Lib.hid hzx
          clear hzx hak hrs
          go_wp2_with (at_builtin; refine wpList_append_row (enc := encStr) rfl _ _ 31 9 rfl i0 (.string ByteArray.empty) 16 Tryz.underlying31 hi0 hz0 hz1 hz2 rfl (fun _ => rfl) (by decide) w.heap.size _ _ _ rfl hrow2 zq zn zc zx rfl hqz hsx (by omega) hbs2 ?_; intro v4 w4 hown4 hgrow4)
          go_roundw
          case rel =>
            refine ⟨_, _, _, ⟨j + 1, by omega, by go_num, ?_, hB2.trans ((Below.refl _ _).grown hgrow4 hbs2 (fun b h => (hrow2.lt b h).1))⟩, rfl, rfl, rfl⟩
            rw [HL2.out, List.length_append, HZX.out, List.map_append]; exact hown4
          case measure => simp [intOf]; omega
        · obtain rfl : j = n := by omega
          have HE := Lib.hid (show G j = accK f g (k + 1) by
            rw [HG.out, List.take_of_length_le (by rw [List.length_map, hzl.out]; exact Nat.le_refl _), HA.out])
          rw [HE.out] at hrow2
          go_wp2
          go_roundw
          case rel => exact ⟨k + 1, by omega, by go_num, hrow2, hB2⟩
          case measure => simp [intOf]; omega
    · obtain rfl : k = 2 := by omega
      have hak := HK.out 2
      obtain ⟨q4, c4, rfl, hc4, _, hs4, _⟩ := slIn_of_owns hrow
      have HN := Lib.hid (show namesL f g = sortR (accK f g 2) by unfold namesL; rw [HL.out])
      have con := Rising_any q4 (accK f g 2).length c4 (accK f g 2) wr hs4 (by omega)
      rw [← HN.out] at con
      generalize (accK f g 2).length = m at *
      clear hs4 hrow
      go_wp2_with fail
      refine con.mono ?_
      rintro e w5 ⟨q5, n5, c5, rfl, h5, hb5⟩
      clear con
      go_wp2
      go_ret
      exact ⟨q5, n5, c5, rfl, h5, hB.trans (hb5.mono hbs)⟩

end Go.Proofs.YtgkandghennbhaaGreatDoor.Frm

namespace Go.Proofs.YtgkandghennbhaaGreatDoor.Frm
open Go.RowKit Go.Shelf Go.Sort Url Org Cls
attribute [local go_sem] Oper.semAt_some
set_option linter.unusedVariables false

def oneK (names c : List (List UInt8)) (s k : Nat) : Bool := (List.range k).any fun i => decide (s / 2 ^ i % 2 = 1) && (match names[i]? with | some p => decide (p ∈ c) | none => false)
theorem oneK_succ (names c : List (List UInt8)) (s k : Nat) (p : List UInt8) (h : names[k]? = some p) : oneK names c s (k + 1) = (oneK names c s k || (decide (s / 2 ^ k % 2 = 1) && decide (p ∈ c))) := by
  unfold oneK; rw [List.range_succ, List.any_append]; simp [h]
theorem oneK_all (names c : List (List UInt8)) (s : Nat) : oneK names c s names.length = c.any (setB names s) := by
  rw [Bool.eq_iff_iff]
  unfold oneK
  rw [List.any_eq_true, List.any_eq_true]
  constructor
  · rintro ⟨i, hi, h⟩
    rw [Bool.and_eq_true] at h
    have hi2 := List.mem_range.1 hi
    rw [List.getElem?_eq_getElem hi2] at h
    exact ⟨names[i], of_decide_eq_true h.2, (set_iff _ _ _).2 ⟨i, List.getElem?_eq_getElem hi2, of_decide_eq_true h.1⟩⟩
  · rintro ⟨p, hp, h⟩
    obtain ⟨i, hi, hs⟩ := (set_iff _ _ _).1 h
    obtain ⟨hl, _⟩ := List.getElem?_eq_some_iff.1 hi
    refine ⟨i, List.mem_range.2 hl, ?_⟩
    rw [hi, Bool.and_eq_true]
    exact ⟨decide_eq_true hs, decide_eq_true hp⟩
theorem holds_false (f : List (List (List UInt8))) (S : List UInt8 → Bool) (c : List (List UInt8)) (hc : c ∈ f) (h : c.any S = false) : holdsB f S = false := by
  unfold holdsB
  rw [List.all_eq_false]
  exact ⟨c, hc, by rw [h]; decide⟩
theorem holds_take (f : List (List (List UInt8))) (S : List UInt8 → Bool) (k : Nat) (c : List (List UInt8)) (hk : f[k]? = some c) (h : holdsB (f.take k) S = true) (hc : c.any S = true) : holdsB (f.take (k + 1)) S = true := by
  unfold holdsB at h ⊢
  rw [(take_snoc f k c hk).1, List.all_append, h]
  simp [hc]

set_option maxRecDepth 100000 in
set_option maxHeartbeats 16000000 in
theorem refHolds_any (q : Option Addr) (n c : Nat) (f : List (List (List UInt8))) (qn : Option Addr) (nn cn : Nat) (names : List (List UInt8)) (s : Nat) (w : World) (h : RefIn w q n f) (hn : SlIn encStr w qn nn names) (hs : s < 256) (hnn : nn ≤ 8) (hnb : n ≤ 1000) :
    Calls Tryz.prog 12 #[.slice q n c, .slice qn nn cn, .int .i64 (s : Int)] w fun e w' => e = .returned (.bool (holdsB f (setB names s))) ∧ w = w' := by
  have hl := Lib.hid h.len
  obtain ⟨zs, hz, hzs, rfl⟩ := h
  have HZ := Lib.hid hzs
  have HN := Lib.hid hn
  have hnl := Lib.hid hn.1
  have hzl := Lib.hid hz.1
  clear hzs
  go_enter Tryz.func12, Tryz.ntmps12
  go_wp2
  go_loop [14] (fun i => ∃ k : Nat, k ≤ n ∧ i = .int .i64 k ∧ Hid (holdsB ((zs.map Prod.snd).take k) (setB names s) = true)) (fun i => n - (intOf i).toNat)
  case atStart => exact ⟨0, Nat.zero_le _, rfl, Lib.hid rfl⟩
  case round =>
    obtain ⟨k, hk, rfl, HJ⟩ := hrel
    by_cases hlt : k < n
    · obtain ⟨b, o, rfl, _, hc⟩ := hz.at (by omega)
      obtain ⟨⟨⟨zq, zn, zc⟩, x⟩, hx⟩ : ∃ z, zs[k]? = some z := ⟨_, List.getElem?_eq_getElem (by have := hzl.out; omega)⟩
      have hck : w.cell? ⟨b, o + k, none⟩ = some (.slice zq zn zc) := hc k _ hx
      have hzm := HZ.out _ (List.mem_of_getElem? hx)
      obtain ⟨_, _, _, hee, _, _, hsx, _⟩ := hzm.1.set
      cases hee
      have hxn : x.length = zn := hsx.1
      have HX := Lib.hid (show (zs.map Prod.snd)[k]? = some x by rw [List.getElem?_map, hx]; rfl)
      have hzn : zn ≤ 16 := by have := hzm.1.few; have : x.length ≤ 16 := this; omega
      have HSX := Lib.hid hsx
      clear hx hzm hc hxn hsx
      go_wp2
      go_loop [9, 20] (fun one i => ∃ j : Nat, j ≤ nn ∧ i = .int .i64 j ∧ one = .bool (oneK names x s j)) (fun _ i => nn - (intOf i).toNat)
      case atStart => exact ⟨0, Nat.zero_le _, rfl, rfl⟩
      case round =>
        obtain ⟨j, hj, rfl, rfl⟩ := hrel
        by_cases hjl : j < nn
        · obtain ⟨p, hp, _⟩ := drop_getElem names j (by rw [hnl.out]; exact hjl)
          obtain ⟨b2, o2, rfl, _, hc2⟩ := HN.out.at (by omega)
          have hcj : w.cell? ⟨b2, o2 + j, none⟩ = some (.string ⟨p.toArray⟩) := hc2 j p hp
          have HS := Lib.hid (oneK_succ names x s j p hp)
          have con := In_any zq zn zc x p w HSX.out (by omega)
          have hT : ((s : Int) / 2 ^ j).tmod 2 = ((s / 2 ^ j % 2 : Nat) : Int) := by
            have h1 : (s : Int) / 2 ^ j = ((s / 2 ^ j : Nat) : Int) := by push_cast; rfl
            rw [h1, Int.tmod_eq_emod_of_nonneg (Int.natCast_nonneg _)]; omega
          clear hp hc2 hz
          by_cases hbit : s / 2 ^ j % 2 = 1
          · have HS2 := Lib.hid (show oneK names x s (j + 1) = (oneK names x s j || decide (p ∈ x)) by rw [HS.out, decide_eq_true hbit, Bool.true_and])
            rw [hbit] at hT
            have hT : ((s : Int) / 2 ^ j).tmod 2 = 1 := hT
            clear hbit
            go_wp2_with fail
            refine con.mono ?_
            rintro e w2 ⟨rfl, rfl⟩
            clear con
            by_cases hin : p ∈ x
            · have HS3 := Lib.hid (show oneK names x s (j + 1) = true by rw [HS2.out, decide_eq_true hin, Bool.or_true])
              rw [decide_eq_true hin]
              clear hin
              go_wp2
              go_round
              case rel => exact ⟨j + 1, by omega, by go_num, by rw [HS3.out]⟩
              case measure => simp [intOf]; omega
            · have HS3 := Lib.hid (show oneK names x s (j + 1) = oneK names x s j by rw [HS2.out, decide_eq_false hin, Bool.or_false])
              rw [decide_eq_false hin]
              clear hin
              go_wp2
              go_round
              case rel => exact ⟨j + 1, by omega, by go_num, by rw [HS3.out]⟩
              case measure => simp [intOf]; omega
          · have HS2 := Lib.hid (show oneK names x s (j + 1) = oneK names x s j by rw [HS.out, decide_eq_false hbit, Bool.false_and, Bool.or_false])
            have hT2 : ¬ ((s : Int) / 2 ^ j).tmod 2 = 1 := by rw [hT]; omega
            clear hbit hT con
            go_wp2
            go_round
            case rel => exact ⟨j + 1, by omega, by go_num, by rw [HS2.out]⟩
            case measure => simp [intOf]; omega
        · obtain rfl : j = nn := by omega
          have HE := Lib.hid (show oneK names x s j = x.any (setB names s) by rw [← hnl.out]; exact oneK_all names x s)
          cases hone : x.any (setB names s) with
          | true =>
            have HH := Lib.hid (holds_take _ (setB names s) k x HX.out HJ.out hone)
            rw [hone] at HE
            rw [HE.out]
            clear hone
            go_wp2
            go_round
            case rel => exact ⟨k + 1, by omega, by go_num, HH⟩
            case measure => simp [intOf]; omega
          | false =>
            have HH := Lib.hid (holds_false _ (setB names s) x (List.mem_of_getElem? HX.out) hone)
            rw [hone] at HE
            rw [HE.out]
            clear hone
            go_wp2
            go_ret
            exact ⟨by rw [HH.out]; rfl, rfl⟩
    · obtain rfl : k = n := by omega
      have HH := Lib.hid (show holdsB (zs.map Prod.snd) (setB names s) = true by
        have := HJ.out
        rwa [List.take_of_length_le (by rw [hl.out]; exact Nat.le_refl _)] at this)
      clear HJ
      go_wp2
      go_ret
      exact ⟨by rw [HH.out]; rfl, rfl⟩

end Go.Proofs.YtgkandghennbhaaGreatDoor.Frm
