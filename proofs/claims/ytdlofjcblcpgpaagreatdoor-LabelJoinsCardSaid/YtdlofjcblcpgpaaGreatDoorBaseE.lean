/- The texts that these laws rest on, put together, part 5. Conditions: as each says. -/
import Derived.Test.YtdlofjcblcpgpaaGreatDoorBaseD

namespace Go.Proofs.YtdlofjcblcpgpaaGreatDoor.Frm
open Go.RowKit Go.Shelf Go.Sort Url Org Cls
attribute [local go_sem] Oper.semAt_some
set_option linter.unusedVariables false

/-- A clause, as yield takes it. -/
def ClArg (z : Cl) (args : Array Value) (G : Nat → Prop) (_W : World) : Prop := args = #[.agg #[encC z]] ∧ G = fun _ => False

theorem frmAll_any (q : Option Addr) (n c : Nat) (w : World) :
    Calls Tryz.prog 51 #[.agg #[.slice q n c]] w fun e w' => e = .returned (.func (.func 100) #[] #[.pointer (some ⟨w.heap.size + 1, 0, none⟩)]) ∧
      w' = (w.alloc (.cells #[.slice q n c] 26)).alloc (.cells #[.slice q n c] 24) := by
  have con : ∀ W : World, Calls Tryz.prog 73 #[.slice q n c] W fun e w' => e = .returned (.func (.func 100) #[] #[.pointer (some ⟨W.heap.size, 0, none⟩)]) ∧ w' = W.alloc (.cells #[.slice q n c] 24) := fun W => by
    go_enter Tryz.func73, Tryz.ntmps73
    go_wp2
    go_ret
    exact ⟨rfl, rfl⟩
  go_enter Tryz.func51, Tryz.ntmps51
  go_wp2_with fail
  refine (con _).mono ?_
  rintro e w' ⟨rfl, rfl⟩
  go_wp2
  go_ret
  exact ⟨by simp, rfl⟩

set_option maxRecDepth 100000 in
set_option maxHeartbeats 2000000 in
theorem Values1_iter (B : Nat) (q : Option Addr) (n c : Nat) (zs : List Cl) (RB : Nat → Prop) (w0 : World) (hm : n ≤ 140737488355328)
    (h : SlIn encC w0 q n zs) (hq : ∀ a, q = some a → 0 < n → RB a.block) (b : Boxed w0 B 24 (.slice q n c)) (hR : RB B) (hRs : ∀ b, RB b → b < w0.heap.size) :
    IterC Tryz.prog 100 #[.pointer (some ⟨B, 0, none⟩)] ClArg zs RB w0 := by
  intro l J Jx W hW hJ hJx hY h0
  refine (callsIn_wide (n := 1)).1 ?_
  refine callsIn_of_wp Tryz.func100 rfl trivial ?_ rfl
  simp only [Tryz.ntmps100, List.size_toArray, List.length_cons, List.length_nil, Nat.reduceAdd, Nat.reduceSub, Array.replicate_succ, Array.replicate_zero, List.push_toArray, List.append_toArray, List.nil_append, List.cons_append]
  have k1 := (hW.boxed b hR).cell
  have hl := Lib.hid h.1
  gi_wp2
  gi_loopw [7] (fun i wr => ∃ k : Nat, ∃ pre, k ≤ n ∧ i = .int .i64 k ∧ Keep RB W wr ∧ Hid (zs = pre ++ zs.drop k) ∧ J pre (fun _ => False) wr) (fun i _ => n - (intOf i).toNat)
  case atStart => exact ⟨0, [], Nat.zero_le _, rfl, Keep.refl _ _, rfl, h0⟩
  case round =>
    obtain ⟨k, pre, hk, rfl, hK, HX, hJr⟩ := hrel
    by_cases hlt : k < n
    · obtain ⟨bb, o, rfl, hb, hc⟩ := (h.keep (hW.trans hK) hq).at (by omega)
      obtain ⟨x, hx, hd⟩ := drop_getElem zs k (by rw [hl.out]; exact hlt)
      obtain ⟨⟨xq, xn, xc⟩, xp⟩ := x
      have hck : wr.cell? ⟨bb, o + k, none⟩ = some (.slice xq xn xc) := hc k _ hx
      have HX2 := Lib.hid (show zs = pre ++ ((xq, xn, xc), xp) :: zs.drop (k + 1) by rw [← hd]; exact HX.out)
      have hka : ∀ S, Keep S wr (wr.alloc (.cells #[.slice xq xn xc] 82)) := fun S => Keep.alloc S _ _
      obtain ⟨fn, tmps, assign, body, hy, hRR⟩ := hY pre ((xq, xn, xc), xp) _ (fun _ => False) (fun _ => False) #[.agg #[.slice xq xn xc]] (wr.alloc (.cells #[.slice xq xn xc] 82)) HX2.out (hJ _ _ _ _ _ hJr (hka _) (fun _ h => h.elim)) (fun _ h => h.elim) ⟨rfl, rfl⟩ (fun _ h => h)
      clear HX hd hx hc hY h hb
      gi_wp2_with fail
      refine hRR.mono ?_
      rintro e W4 ⟨hk3, (⟨rfl, hJ3⟩ | ⟨rfl, hJx3⟩)⟩
      · gi_wp2
        go_roundw
        case rel => exact ⟨k + 1, pre ++ [((xq, xn, xc), xp)], by omega, by go_num, hK.trans ((hka _).trans (hk3.mono fun _ _ h => .inl h)), Lib.hid (show zs = (pre ++ [((xq, xn, xc), xp)]) ++ zs.drop (k + 1) by rw [List.append_assoc]; exact HX2.out), hJ _ _ _ _ _ hJ3 (Keep.refl _ _) (fun _ h => h.elim)⟩
        case measure => simp [intOf]; omega
      · gi_wp2
        refine bodyPost_ret (results_none rfl _ _ _) rfl ?_
        exact ⟨⟨_, rfl⟩, fun _ => False, fun _ h => h.elim, .inr ⟨pre ++ [((xq, xn, xc), xp)], _, by rw [HX2.out, List.append_assoc]; rfl, hJx _ _ _ _ _ hJx3 (Keep.refl _ _) (fun _ h => h.elim)⟩⟩
    · have HX2 := Lib.hid (show zs = pre by rw [HX.out, List.drop_of_length_le (by rw [hl.out]; omega)]; simp)
      clear HX hY h
      gi_wp2
      refine bodyPost_end (results_none rfl _ _ _) rfl ?_
      exact ⟨⟨_, rfl⟩, fun _ => False, fun _ h => h.elim, .inl (by rw [HX2.out]; exact hJr)⟩

set_option maxHeartbeats 1000000 in
theorem Len_any (v : Value) (f : List (List (List UInt8))) (w : World) (h : FrmIs w v f) :
    Calls Tryz.prog 30 #[v] w fun e w' => e = .returned (.int .i64 f.length) ∧ Below w.heap.size w w' := by
  obtain ⟨q, n, c, rfl, _, _, h3⟩ := h
  obtain rfl := h3.len
  clear h3
  go_enter Tryz.func30, Tryz.ntmps30
  go_wp2
  go_ret
  exact ⟨rfl, below_alloc _⟩
theorem Always_any (w : World) : Calls Tryz.prog 46 #[] w fun e w' => e = .returned (.agg #[.slice none 0 0]) ∧ Below w.heap.size w w' := by
  have k0 := (Boxed.new w 26 (.slice none 0 0)).cell
  go_enter Tryz.func46, Tryz.ntmps46
  go_wp2
  refine bodyPost_ret (v := .agg #[.slice none 0 0]) (by simp [results, Tryz.f46, go_sem]) rfl ?_
  exact ⟨rfl, below_alloc _⟩

/-- What lies while the clauses are gone through. -/
def ImpE (w : World) (f : List (List (List UInt8))) (q : Option Addr) (n c : Nat) (pre : List Cl) (W : World) : Prop :=
  Boxed W w.heap.size 26 (.slice q n c) ∧ Boxed W (w.heap.size + 2) 4 (.bool false) ∧ (∀ z ∈ pre, oneB f z.2 = true) ∧ Below w.heap.size w W
def ImpX (w : World) (f g : List (List (List UInt8))) (_ : List Cl) (W : World) : Prop :=
  Boxed W (w.heap.size + 2) 4 (.bool false) ∧ impB f g = false ∧ Below w.heap.size w W

set_option maxRecDepth 100000 in
set_option maxHeartbeats 8000000 in
theorem Implies_any (v1 v2 : Value) (f g : List (List (List UInt8))) (w : World) (h1 : FrmIs w v1 f) (h2 : FrmIs w v2 g) (lf : f.length ≤ 1099511627776) (lg : g.length ≤ 1099511627776) :
    Calls Tryz.prog 43 #[v1, v2] w fun e w' => e = .returned (.bool (impB f g)) ∧ Below w.heap.size w w' := by
  obtain ⟨q1, n1, c1, rfl⟩ := frm_form h1
  obtain ⟨q2, n2, c2, rfl⟩ := frm_form h2
  obtain ⟨_, _, r1⟩ := h1.row
  obtain ⟨_, _, r2⟩ := h2.row
  have e1 := r1.len
  have e2 := r2.len
  obtain ⟨zs, s2, z2, hg⟩ := r2
  refine (callsIn_wide (n := 1)).1 ?_
  refine callsIn_of_wp_marks Tryz.func43 rfl trivial ?_ rfl
  simp only [Tryz.ntmps43, List.size_toArray, List.length_cons, List.length_nil, Nat.reduceAdd, Nat.reduceSub, Array.replicate_succ, Array.replicate_zero, List.push_toArray, List.append_toArray, List.nil_append, List.cons_append]
  obtain ⟨W0, hW0⟩ : ∃ W0, ((w.alloc (.cells #[.slice q1 n1 c1] 26)).alloc (.cells #[.slice q2 n2 c2] 26)).alloc (.cells #[.bool false] 4) = W0 := ⟨_, rfl⟩
  have b0 : Boxed W0 w.heap.size 26 (.slice q1 n1 c1) := hW0 ▸ ((Boxed.new w _ _).alloc _).alloc _
  have b1 : Boxed W0 (w.heap.size + 1) 26 (.slice q2 n2 c2) := by
    have := (Boxed.new (w.alloc (.cells #[.slice q1 n1 c1] 26)) 26 (.slice q2 n2 c2)).alloc (.cells #[.bool false] 4)
    rw [World.size_alloc] at this
    exact hW0 ▸ this
  have b2 : Boxed W0 (w.heap.size + 2) 4 (.bool false) := by
    have := Boxed.new ((w.alloc (.cells #[.slice q1 n1 c1] 26)).alloc (.cells #[.slice q2 n2 c2] 26)) 4 (.bool false)
    rw [World.size_alloc, World.size_alloc] at this
    exact hW0 ▸ this
  have hB0 : Below w.heap.size w W0 := hW0 ▸ (((Below.refl _ w).alloc (Nat.le_refl _) _).alloc (by simp) _).alloc (by simp; omega) _
  have hs0 : W0.heap.size = w.heap.size + 3 := by rw [← hW0]; simp
  have con := frmAll_any q2 n2 c2 W0
  have k1 := b1.cell
  have HW0 := Lib.hid hW0
  clear hW0
  gi_wp2_with fail
  rw [HW0.out]
  gi_wp2_with fail
  refine ⟨trivial, (callsIn_wide.2 con).mono ?_⟩
  rintro e W1 ⟨rfl, hW1⟩
  have bv : Boxed W1 (W0.heap.size + 1) 24 (.slice q2 n2 c2) := by
    have := Boxed.new (W0.alloc (.cells #[.slice q2 n2 c2] 26)) 24 (.slice q2 n2 c2)
    rw [World.size_alloc] at this
    exact hW1 ▸ this
  have hbel : Below W0.heap.size W0 W1 := hW1 ▸ ((Below.refl _ W0).alloc (Nat.le_refl _) _).alloc (by simp) _
  have hs1 : W1.heap.size = W0.heap.size + 2 := by rw [hW1]; simp
  have hB1 := hB0.trans (hbel.mono hB0.size)
  have hit := Values1_iter (W0.heap.size + 1) q2 n2 c2 zs (fun b => b < W1.heap.size ∧ b ≠ w.heap.size + 2) W1 (by omega) (s2.below hB1 s2.lt) (fun a h h' => by have := s2.lt a h h'; omega) bv (by omega) (fun b hb => hb.1)
  replace b0 := (Keep.of_below hbel).boxed b0 b0.lt
  replace b2 := (Keep.of_below hbel).boxed b2 b2.lt
  have HI := Lib.hid (show impB f g = zs.all (fun z => oneB f z.2) by rw [imp_all, hg, List.all_map]; rfl)
  have r1' := r1
  have z2' := z2
  clear con k1 bv hW1 HW0 hg
  gi_wp2
  rw [hs0] at hs1 hit
  refine rf_law (gf := 100) (lb := #[.pointer (some ⟨w.heap.size + 3 + 1, 0, none⟩)]) rfl (enters_of Tryz.func100 (by kernel_rfl) rfl)
    hit (Keep.refl _ _) (fun b hb => hb.1) (fun x args G W h => by rw [h.1]; rfl)
    (Host.EvI W1 (ImpE w f q1 n1 c1)) (Host.EvX W1 (ImpX w f g)) (Host.EvI_abide ?e1) (Host.EvX_abide ?e2)
    ⟨(fun _ h => h.elim), Keep.refl _ _, b0, b2, (fun z hz => by cases hz), hB1⟩ ?round ?done ?stop
  case e1 =>
    rintro pre A B hk ⟨h1, h2, h3, h4⟩
    exact ⟨hk.boxed h1 (by omega), hk.boxed h2 (by omega), h3, h4.trans ((hk.mono fun b _ hb => by omega).below h4.size)⟩
  case e2 =>
    rintro pre A B hk ⟨h1, h3, h4⟩
    exact ⟨hk.boxed h1 (by omega), h3, h4.trans ((hk.mono fun b _ hb => by omega).below h4.size)⟩
  case round =>
    rintro ll pre ⟨⟨xq, xn, xc⟩, x⟩ rest Pv G args Wr hll hxs ⟨hge, hK1, hE1, hE2, hE3, hE4⟩ hPl hGl hPb hGP ⟨harg, rfl⟩
    obtain rfl : args = #[.agg #[.slice xq xn xc]] := harg
    have hxm : ((xq, xn, xc), x) ∈ zs := by rw [hxs]; simp
    clear hxs
    have hll2 := hPb ll hPl
    gi_wp2
    refine ⟨Keep.alloc _ _ _, fun W2 hk2 hs2 r hr => ?_⟩
    have hka := Keep.alloc (fun _ => True) Wr (.cells #[.slice xq xn xc] 82)
    have bx := hk2.boxed (Boxed.new Wr 82 (.slice xq xn xc)) (by omega)
    have k2 : Keep (fun b => b < W1.heap.size) Wr W2 := (hka.mono fun _ _ _ => trivial).trans (hk2.mono fun b _ hb h => by omega)
    have f1 := k2.boxed hE1 (by omega)
    have f2 := k2.boxed hE2 (by omega)
    have hW2 := hE4.trans ((k2.mono fun b _ h => by omega).below hE4.size)
    have hz := (z2' _ hxm).below hW2
    have con2 := oneImplies_any q1 n1 c1 f (.agg #[.slice xq xn xc]) x W2 (r1'.below hW2) hz.set hz.few (by omega)
    have hK2 : Keep (fun _ => False) W1 W2 := hK1.trans ((hka.mono fun _ _ h => h.elim).trans (hk2.mono fun _ _ h => h.elim))
    have c1' := f1.cell
    have cx := bx.cell
    have hs2' := hW2.size
    have hsz2 : W1.heap.size ≤ W2.heap.size := hK2.size
    clear hk2 hka hr hs2 hz
    obtain ⟨ob, hob⟩ : ∃ ob, oneB f x = ob := ⟨_, rfl⟩
    rw [hob] at con2
    have HO := Lib.hid hob
    clear hob
    cases ob with
    | true =>
      gi_wp2_with fail
      refine ⟨trivial, rfl, (CallsIn.inRound ll (callsIn_wide.2 con2)).mono ?_⟩
      rintro e w' ⟨rfl, hb'⟩
      have kb := Keep.of_below hb'
      clear con2
      gi_wp2
      refine ⟨kb.mono fun b hb _ => hb, fun b hb => hge b hb, hK2.trans (kb.mono fun _ _ h => h.elim), kb.boxed f1 f1.lt, kb.boxed f2 f2.lt, fun z hz => ?_, hW2.trans (hb'.mono hs2')⟩
      rcases List.mem_append.1 hz with h | h
      · exact hE3 z h
      · rw [List.mem_singleton.1 h]; exact HO.out
    | false =>
      have HB := Lib.hid (show impB f g = false by
        rw [HI.out, List.all_eq_false]; exact ⟨_, hxm, by rw [HO.out]; simp⟩)
      gi_wp2_with fail
      refine ⟨trivial, rfl, (CallsIn.inRound ll (callsIn_wide.2 con2)).mono ?_⟩
      rintro e w' ⟨rfl, hb'⟩
      have kb := Keep.of_below hb'
      have g2 := kb.boxed f2 f2.lt
      have zf := g2.frozen
      have zc := g2.cell
      clear con2
      gi_wp2
      have kst : ∀ S : Nat → Prop, ¬ S (w.heap.size + 2) → Keep S w' (w'.setCell ⟨w.heap.size + 2, 0, none⟩ (.bool false)) := fun S h => Keep.setCell _ _ _ h
      refine ⟨(kb.mono fun b hb _ => hb).trans (kst _ (fun h => ?_)), rfl, fun b hb => hge b hb, hK2.trans ((kb.mono fun _ _ h => h.elim).trans (kst _ (fun h => h))), g2.set _, HB.out, (hW2.trans (hb'.mono hs2')).setCell (p := ⟨w.heap.size + 2, 0, none⟩) (by simp) _⟩
      rcases h with h | h
      · exact h.2 rfl
      · have := hge _ h; omega
  case done =>
    rintro D Pv Wd hD hPD hPl ⟨hge, hK1, hE1, hE2, hE3, hE4⟩ hK
    have c2 := hE2.cell
    have zf := hE2.frozen
    gi_wp2
    have hKd : (Wd.setCell ⟨w.heap.size + 2, 0, none⟩ (.bool true)).heap[D]? = some (.deferred (some [])) := (Keep.setCell (S := fun b => b = D) Wd ⟨w.heap.size + 2, 0, none⟩ _ (show ¬ w.heap.size + 2 = D by omega)).heap rfl hK
    have kp : ∀ (S : Nat → Prop) (W : World), ¬ S D → Keep S W (W.putObj D (.deferred none)) := fun S W h => Keep.putObj _ _ _ h
    refine ⟨by simp, .inl ⟨_, _, rfl, run_takeDeferred hKd, ?_⟩⟩
    refine ⟨_, Host.results_bool rfl _ _ (w.heap.size + 2) _ rfl ((kp (fun b => b = w.heap.size + 2) _ (by omega)).boxed (hE2.set _) rfl).cell, ?_, ?_⟩
    · have : impB f g = true := by rw [HI.out, List.all_eq_true]; exact hE3
      rw [this]
    · have h5 := hE4.setCell (p := ⟨w.heap.size + 2, 0, none⟩) (by simp) (.bool true)
      exact h5.trans ((kp (fun b => b < w.heap.size) _ (by omega)).below h5.size)
  case stop =>
    rintro D cc pre rest Pv Wd hD hPD hPl hxs ⟨rfl, hge, hK1, hE1, hE3, hE4⟩ hK
    have kp : ∀ (S : Nat → Prop) (W : World), ¬ S D → Keep S W (W.putObj D (.deferred none)) := fun S W h => Keep.putObj _ _ _ h
    clear hxs
    gi_wp2
    refine ⟨by simp, .inl ⟨_, _, rfl, run_takeDeferred hK, ?_⟩⟩
    refine ⟨_, Host.results_bool rfl _ _ (w.heap.size + 2) _ rfl ((kp (fun b => b = w.heap.size + 2) _ (by omega)).boxed hE1 rfl).cell, ?_, ?_⟩
    · rw [hE3]
    · exact hE4.trans ((kp (fun b => b < w.heap.size) _ (by omega)).below hE4.size)

end Go.Proofs.YtdlofjcblcpgpaaGreatDoor.Frm

namespace Go.Proofs.YtdlofjcblcpgpaaGreatDoor.Frm
open Go.RowKit Go.Shelf Go.Sort Url Org Cls
attribute [local go_sem] Oper.semAt_some
set_option linter.unusedVariables false

theorem results_cell_cell {fn : Func} {p u : Tmp} {ty ty2 : TypeId} (h : fn.results = #[.cell p ty, .cell u ty2]) (tmps : Array Value) (P : Program) (w : World) :
    (results fn tmps).run P w =
      ((asAddr (tmps.getD p undef)).run P w).andThen fun a w₁ => ((loadVar ty a).run P w₁).andThen fun v w₂ => ((asAddr (tmps.getD u undef)).run P w₂).andThen fun b w₃ => ((loadVar ty2 b).run P w₃).andThen fun x w₄ => .ok (.tuple #[v, x]) w₄ := by
  simp only [results, h]
  simp [Sem.run_bind, Result.andThen]
theorem ret_frm22 {fn : Func} {p u : Tmp} (h : fn.results = #[.cell p 26, .cell u 29]) (tmps : Array Value) (w : World) (B Be : Nat) (v x : Value) (hp : tmps.getD p undef = .pointer (some ⟨B, 0, none⟩)) (hu : tmps.getD u undef = .pointer (some ⟨Be, 0, none⟩)) (hU : Boxed w B 26 v) (hE : w.cell? ⟨Be, 0, none⟩ = some x) :
    (results fn tmps).run Tryz.prog w = .ok (.tuple #[.agg #[v], x]) w := by
  rw [results_cell_cell h, hp, hu]
  have ha : ∀ w', (isAgg 29).run Tryz.prog w' = .ok false w' := Tryz.isAgg29
  have h2 : (loadVar 29 ⟨Be, 0, none⟩).run Tryz.prog w = .ok x w := by simp [loadVar, ha, hE]
  simp [asAddr, Result.andThen, run_loadVar_row w B 26 _ #[v] (0, 0) _ hU Tryz.underlying26 rfl (by kernel_rfl), h2]

theorem clauses_snoc (x : List UInt8) (c : List (List UInt8)) (hx : parseC x = .inr c) : ∀ (pre : List (List UInt8)) (r : List (List (List UInt8))), clausesL pre = .inr r → clausesL (pre ++ [x]) = .inr (r ++ [c])
  | [], r, h => by
    cases h
    show clausesL [x] = _
    unfold clausesL
    rw [hx]; rfl
  | p :: l, r, h => by
    unfold clausesL at h
    split at h
    · cases h
    · rename_i y hy
      split at h
      · cases h
      · rename_i z hz
        cases h
        have := clauses_snoc x c hx l z hz
        rw [List.cons_append]
        unfold clausesL
        rw [hy]
        simp only
        rw [this]; rfl
theorem clauses_err (x : List UInt8) (e : Int) (hx : parseC x = .inl e) (rest : List (List UInt8)) : ∀ (pre : List (List UInt8)) (r : List (List (List UInt8))), clausesL pre = .inr r → clausesL (pre ++ x :: rest) = .inl e
  | [], r, h => by
    show clausesL (x :: rest) = _
    unfold clausesL
    rw [hx]
  | p :: l, r, h => by
    unfold clausesL at h
    split at h
    · cases h
    · rename_i y hy
      split at h
      · cases h
      · rename_i z hz
        have := clauses_err x e hx rest l z hz
        rw [List.cons_append]
        unfold clausesL
        rw [hy]
        simp only
        rw [this]
theorem parseC_no (t : List UInt8) (n : Int) (h : parseC t = .inl n) : n = 2 ∨ n = 3 := by
  unfold parseC at h
  split at h
  · cases h; exact .inr rfl
  · split at h
    · cases h
    · unfold ofC at h
      split at h
      · split at h
        · cases h
        · cases h; exact .inr rfl
      · cases h; exact .inl rfl
theorem parseF_long (t : List UInt8) (h : 4096 < t.length) : parseF t = .inl 3 := by unfold parseF; rw [if_pos h]
theorem parseF_always (t : List UInt8) (h : ¬ 4096 < t.length) (h2 : trimB t = alwaysS) : parseF t = .inr [] := by unfold parseF; rw [if_neg h, if_pos h2]
theorem parseF_err (t : List UInt8) (e : Int) (h : ¬ 4096 < t.length) (h2 : trimB t ≠ alwaysS) (h3 : clausesL ((splitX 38 t).map Prod.snd) = .inl e) : parseF t = .inl e := by
  rw [Host.splitX_snd] at h3
  unfold parseF; rw [if_neg h, if_neg h2, h3]
theorem parseF_of (t : List UInt8) (l : List (List (List UInt8))) (h : ¬ 4096 < t.length) (h2 : trimB t ≠ alwaysS) (h3 : clausesL ((splitX 38 t).map Prod.snd) = .inr l) : parseF t = ofF l := by
  rw [Host.splitX_snd] at h3
  unfold parseF; rw [if_neg h, if_neg h2, h3]

theorem FrmIs.put {w : World} {q : Option Addr} {n c : Nat} {f : List (List (List UInt8))} {D : Nat} {d : Option (List Deferred)} {o : Obj} (h : FrmIs w (.agg #[.slice q n c]) f) (hD : w.heap[D]? = some (.deferred d)) : FrmIs (w.putObj D o) (.agg #[.slice q n c]) f := by
  obtain ⟨h1, h2, zs, s, z, rfl⟩ := h.row
  exact ⟨q, n, c, rfl, h1, h2, zs, slC_put s hD, fun x hx => ⟨set_put (z x hx).set hD, (z x hx).few⟩, rfl⟩
/-- A clause whose row is none of these blocks'. -/
theorem ClAt.from {S : Nat → Prop} {w w' : World} {z : Cl} (h : ClAt w z) (hk : Keep S w w') (hS : ∀ a, z.1.1 = some a → 0 < z.1.2.1 → S a.block) : ClAt w' z := by
  obtain ⟨⟨q, n, c, he, h1, h2, h3, h4⟩, h5⟩ := h
  cases he
  exact ⟨⟨_, _, _, rfl, h1, h2, h3.keep hk hS, h4⟩, h5⟩
theorem ClAt.lt {w : World} {z : Cl} (h : ClAt w z) : ∀ a, z.1.1 = some a → 0 < z.1.2.1 → a.block < w.heap.size := by
  obtain ⟨⟨q, n, c, he, h1, h2, h3, h4⟩, h5⟩ := h
  cases he
  exact h3.lt

/-- Between two rounds: the clauses that have come lie in the box's row. -/
def PfI (Bo : Nat) (RB : Nat → Prop) (W0 : World) (pre : List (Nat × List UInt8)) (Pv : Nat → Prop) (W : World) : Prop :=
  ∃ v, ∃ ls : List Cl, Boxed W Bo 24 v ∧ W.ownsRow W0.heap.size 82 1 v ls.length (ls.map encC) ∧ (∀ z ∈ ls, ClAt W z ∧ ∀ a, z.1.1 = some a → 0 < z.1.2.1 → ¬ Pv a.block ∧ W0.heap.size ≤ a.block ∧ v.ownBlock ≠ some a.block) ∧ clausesL (pre.map Prod.snd) = .inr (ls.map Prod.snd) ∧
    (∀ b, Pv b → W0.heap.size ≤ b) ∧ (∀ b, v.ownBlock = some b → ¬ Pv b) ∧ Keep RB W0 W ∧ ls.length = pre.length
theorem PfI_abide (Bo : Nat) (RB : Nat → Prop) (W0 : World) (hBo : Bo < W0.heap.size) (hRB : ∀ b, RB b → b < W0.heap.size) : Abide (PfI Bo RB W0) := by
  rintro pre Pv Pv' A B ⟨v, ls, h1, h2, hz, hc, h3, h5, h6, h7⟩ hk hp
  have hs := h6.size
  refine ⟨v, ls, hk.boxed h1 (fun h => by have := h3 _ h; omega), hk.row h2 h5, fun z hz' => ⟨(hz z hz').1.from hk (fun a ha h0 => ((hz z hz').2 a ha h0).1), fun a ha h0 => ⟨fun hp' => ?_, ((hz z hz').2 a ha h0).2⟩⟩, hc, fun b hb => ?_, fun b hb hp' => ?_, h6.trans (hk.mono fun b _ hb hpb => by have := h3 b hpb; have := hRB b hb; omega), h7⟩
  · rcases (hp _ hp').1 with h | h
    · exact ((hz z hz').2 a ha h0).1 h
    · have := (hz z hz').1.lt a ha h0; omega
  · rcases (hp b hb).1 with h | h
    · exact h3 b h
    · omega
  · rcases (hp _ hp').1 with h | h
    · exact h5 b hb h
    · have := (h2.lt b hb).2; omega
/-- Where a clause's error has left the loop. -/
def PfX (w : World) (xs : List (Nat × List UInt8)) (W0 : World) (c : Code) (_ : List (Nat × List UInt8)) (Pv : Nat → Prop) (W : World) : Prop :=
  c = .ret ∧ ∃ n : Int, Boxed W w.heap.size 26 (.slice none 0 0) ∧ Boxed W (w.heap.size + 1) 29 (.int .i64 n) ∧ clausesL (xs.map Prod.snd) = .inl n ∧ Below w.heap.size w W ∧ (∀ b, Pv b → W0.heap.size ≤ b)
theorem PfX_abide (w : World) (xs : List (Nat × List UInt8)) (W0 : World) (h0 : w.heap.size + 2 ≤ W0.heap.size) (hW : True) (c : Code) : Abide (fun pre Pv W => PfX w xs W0 c pre Pv W ∧ W0.heap.size ≤ W.heap.size) := by
  rintro pre Pv Pv' A B ⟨⟨hc, n, h1, h2, h3, h4, h5⟩, h6⟩ hk hp
  have hs := hk.size
  refine ⟨⟨hc, n, hk.boxed h1 (fun h => by have := h5 _ h; omega), hk.boxed h2 (fun h => by have := h5 _ h; omega), h3, h4.trans ((hk.mono fun b _ hb hpb => by have := h5 b hpb; omega).below h4.size), fun b hb => ?_⟩, by omega⟩
  rcases (hp b hb).1 with h | h
  · exact h5 b h
  · omega

set_option maxRecDepth 100000 in
set_option maxHeartbeats 16000000 in
theorem Parse_any (q : Option Addr) (n c : Nat) (t : List UInt8) (w : World) (hby : By w (.slice q n c) t) (hn : n ≤ 1300 ∨ 4096 < n ∧ n ≤ 1099511627775) (hG : Gl w) :
    Calls Tryz.prog 32 #[.slice q n c] w (FrmOut (parseF t) w) := by
  obtain ⟨i0, hi0, hz0, hz1, hz2⟩ := info_parts info_cls
  have hl := hby.at.1
  obtain ⟨W1, hW1⟩ : ∃ W1, (w.alloc (.cells #[.slice none 0 0] 26)).alloc (.cells #[.int .i64 0] 29) = W1 := ⟨_, rfl⟩
  have A1 : Below w.heap.size w W1 := hW1 ▸ ((Below.refl _ w).alloc (Nat.le_refl _) _).alloc (by simp) _
  have bR : Boxed W1 w.heap.size 26 (.slice none 0 0) := hW1 ▸ (Boxed.new w _ _).alloc _
  have bE : Boxed W1 (w.heap.size + 1) 29 (.int .i64 0) := by
    have := Boxed.new (w.alloc (.cells #[.slice none 0 0] 26)) 29 (.int .i64 0)
    rw [World.size_alloc] at this
    exact hW1 ▸ this
  have hs1 : W1.heap.size = w.heap.size + 2 := by rw [← hW1]; simp
  have HW1 := Lib.hid hW1
  clear hW1
  refine (callsIn_wide (n := 1)).1 ?_
  refine callsIn_of_wp_marks Tryz.func32 rfl trivial ?_ rfl
  simp only [Tryz.ntmps32, List.size_toArray, List.length_cons, List.length_nil, Nat.reduceAdd, Nat.reduceSub, Array.replicate_succ, Array.replicate_zero, List.push_toArray, List.append_toArray, List.nil_append, List.cons_append]
  by_cases hbig : 4096 < n
  · have d : decide ((4096 : Int) < (n : Int)) = true := by simp; omega
    have HR := Lib.hid (parseF_long t (by omega))
    have b4 : Boxed ((w.alloc (.cells #[.slice none 0 0] 26)).alloc (.cells #[.int .i64 3] 29)) w.heap.size 26 (.slice none 0 0) := (Boxed.new w _ _).alloc _
    have e4 := (Boxed.new (w.alloc (.cells #[.slice none 0 0] 26)) 29 (.int .i64 3)).cell
    rw [World.size_alloc] at e4
    clear hby hl hn hG
    gi_wp2
    refine ⟨_, ret_frm22 rfl _ _ w.heap.size (w.heap.size + 1) _ _ rfl rfl b4 e4, ?_⟩
    rw [HR.out]
    exact ⟨none, 0, 0, rfl, frm_nil _, (fun a h => by cases h), ((Below.refl _ w).alloc (Nat.le_refl _) _).alloc (by simp) _⟩
  have hn2 : n ≤ 1300 := by omega
  have d : decide ((4096 : Int) < (n : Int)) = false := by simp; omega
  have hb1 := hby.on A1
  have con := Trim_by q n c t W1 hb1 (by omega)
  have HT := Lib.hid (trim_len t)
  have HG := Lib.hid hG
  have HL := Lib.hid hl
  have HP1 := Lib.hid (fun h2 => parseF_always t (by omega) h2)
  have HP2 := Lib.hid (fun h2 l h3 => parseF_of t l (by omega) h2 h3)
  have HP3 := Lib.hid (fun h2 e h3 => parseF_err t e (by omega) h2 h3)
  clear hby hn hG
  obtain ⟨T, hT⟩ : ∃ T, Cls.trimB t = T := ⟨_, rfl⟩
  rw [hT] at con HP1 HP2 HP3 HT
  clear hT hbig
  gi_wp2_with fail
  rw [HW1.out]
  gi_wp2_with fail
  refine ⟨trivial, (callsIn_wide.2 con).mono ?_⟩
  rintro e W2 ⟨q2, c2, rfl, hb2, hbel⟩
  have hcv := conv_by hb2
  have hb0 := hb1.on hbel
  replace bR := (Keep.of_below hbel).boxed bR bR.lt
  replace bE := (Keep.of_below hbel).boxed bE bE.lt
  have A2 := A1.trans (hbel.mono A1.size)
  have hs2 := hbel.size
  have e1 : (T == [97, 108, 119, 97, 121, 115]) = decide (T = alwaysS) := by
    rw [Bool.eq_iff_iff, beq_iff_eq, decide_eq_true_iff]; rfl
  generalize hlT : T.length = m at *
  clear con hb1 hb2 hbel hlT HW1
  by_cases hnv : T = alwaysS
  · have HR := Lib.hid (HP1.out hnv)
    rw [decide_eq_true hnv] at e1
    have con := Always_any W2
    clear hnv HP1 HP2 HP3 hb0
    gi_wp2_with fail
    refine ⟨trivial, (callsIn_wide.2 con).mono ?_⟩
    rintro e W3 ⟨rfl, hb3⟩
    replace bR := (Keep.of_below hb3).boxed bR bR.lt
    replace bE := (Keep.of_below hb3).boxed bE bE.lt
    have A3 := A2.trans (hb3.mono A2.size)
    have kf := bR.frozen
    have kc := bR.cell
    have b3 := (bR.set (.slice none 0 0))
    have e3 := (Keep.setCell (S := fun b => b = w.heap.size + 1) W3 ⟨w.heap.size, 0, none⟩ (.slice none 0 0) (by simp)).boxed bE rfl
    have ef3 := e3.frozen
    have ec3 := e3.cell
    have b4 := (Keep.setCell (S := fun b => b = w.heap.size) (W3.setCell ⟨w.heap.size, 0, none⟩ (.slice none 0 0)) ⟨w.heap.size + 1, 0, none⟩ (.int .i64 0) (by simp)).boxed b3 rfl
    have e4 := (e3.set (.int .i64 0)).cell
    clear con hb3
    gi_wp2
    refine ⟨_, ret_frm22 rfl _ _ w.heap.size (w.heap.size + 1) _ _ rfl rfl b4 e4, ?_⟩
    rw [HR.out]
    exact ⟨none, 0, 0, rfl, frm_nil _, (fun a h => by cases h), (A3.setCell (by simp) _).setCell (by simp) _⟩
  have HN := Lib.hid hnv
  rw [decide_eq_false hnv] at e1
  clear hnv HP1
  obtain ⟨h1, h2, h3, h4, h5⟩ := hb0.at
  obtain ⟨W3, hW3⟩ : ∃ W3, W2.alloc (.cells #[.slice none 0 0] 24) = W3 := ⟨_, rfl⟩
  have b0 : Boxed W3 W2.heap.size 24 (.slice none 0 0) := hW3 ▸ Boxed.new W2 _ _
  have hB3 : Below W2.heap.size W2 W3 := hW3 ▸ below_alloc _
  have hs3 : W3.heap.size = W2.heap.size + 1 := by rw [← hW3]; simp
  have con := Split_any q n c 38 t W3 h1 (by omega) (bytes_keep h5 (Keep.of_below hB3) (fun a h1 h2 => bytes_lt h5 a h1 h2))
  have hsm := Lib.hid (splitX_small 38 t n hl)
  have hlx := Lib.hid (show (splitX 38 t).length ≤ n + 1 by have := splitX_len 38 t; omega)
  have HW3 := Lib.hid hW3
  clear hW3 h1 h2 h3 h4 h5 hb0
  gi_wp2_with fail
  rw [HW3.out]
  refine ⟨trivial, (callsIn_wide.2 con).mono ?_⟩
  rintro e W4 ⟨B, v', rfl, hB, hBc, hrow, hBl, hbel⟩
  have hit := Split_iter (by omega) hB hBc hrow
  obtain ⟨RB, hRB⟩ : ∃ RB : Nat → Prop, RB = fun b => b = B ∨ b = W3.heap.size ∨ v'.ownBlock = some b := ⟨_, rfl⟩
  have hRl : ∀ b, RB b → W2.heap.size + 1 ≤ b ∧ b < W4.heap.size := fun b hb => by
    rw [hRB] at hb
    rcases hb with rfl | rfl | hb
    · exact ⟨by omega, hB.lt⟩
    · exact ⟨by omega, hBc.lt⟩
    · have := hrow.lt b hb; exact ⟨by omega, this.2⟩
  rw [← hRB, hs3] at hit
  have hB4 : Below W2.heap.size W2 W4 := hB3.trans (hbel.mono (by omega))
  replace b0 := (Keep.of_below hbel).boxed b0 (by omega)
  replace bR := (Keep.of_below hB4).boxed bR bR.lt
  replace bE := (Keep.of_below hB4).boxed bE bE.lt
  have A4 := A2.trans (hB4.mono A2.size)
  have hs4 := hbel.size
  have hsA := A2.size
  have hs12 : w.heap.size + 2 ≤ W2.heap.size := by omega
  clear con hB hBc hrow hBl hbel HW3 hRB hB3 hB4
  generalize splitX 38 t = xs at *
  gi_wp2
  refine rf_law (gf := 82) (lb := #[.pointer (some ⟨B, 0, none⟩), .pointer (some ⟨W2.heap.size + 1, 0, none⟩)]) rfl (enters_of Tryz.func82 (by kernel_rfl) rfl)
    hit (Keep.refl _ _) (fun b hb => (hRl b hb).2) (fun x args G W h => by obtain ⟨v, rfl, _⟩ := h; rfl)
    (PfI W2.heap.size (fun b => b < W2.heap.size) W4) (fun cc pre Pv W => PfX w xs W4 cc pre Pv W ∧ W4.heap.size ≤ W.heap.size) (PfI_abide _ _ _ (by omega) (fun b hb => by omega)) (PfX_abide w xs W4 (by omega) trivial)
    ⟨_, [], b0, World.ownsRow_nil _ _ _ _, (fun z hz => by cases hz), rfl, (fun _ h => h.elim), (fun _ h => by cases h), Keep.refl _ _, rfl⟩ ?round ?done ?stop
  case round =>
    rintro ll pre ⟨xi, x⟩ rest Pv G args Wr hll hxs ⟨v, ls, hbx, hrow, hzs, hcl, hge, hnv, hKW, hll2⟩ hPl hGl hPb hGP ⟨p, rfl, hp, rfl⟩
    have hxl := hsm.out (xi, x) (by rw [hxs]; simp)
    have hpl : pre.length + 1 ≤ n + 1 := by
      have h1 := hlx.out
      rw [hxs, List.length_append, List.length_cons] at h1
      omega
    simp only at hxl hp
    obtain ⟨qx, cx, rfl, _, hnc, hcm, hbs, hblk⟩ := row_open hp
    have hbyx : By Wr (.slice qx x.length cx) x := By.row hp
    have hxm := Lib.hid hxs
    clear hxs
    gi_wp2
    refine ⟨Keep.refl _ _, fun W5 hk5 hs5 r hr => ?_⟩
    have hnP : ∀ b, b < W4.heap.size → ¬ Pv b := fun b hb h => by have := hge b h; omega
    have hk5' : Keep (fun b => ¬ Pv b) Wr W5 := hk5.mono fun b _ hb h => hb (h ▸ hPl)
    replace hbx := hk5'.boxed hbx (hnP _ (by omega))
    replace hrow := hk5'.row hrow hnv
    replace hzs : ∀ z ∈ ls, ClAt W5 z ∧ ∀ a, z.1.1 = some a → 0 < z.1.2.1 → ¬ Pv a.block ∧ W4.heap.size ≤ a.block ∧ v.ownBlock ≠ some a.block := fun z hz => ⟨(hzs z hz).1.from hk5' (fun a ha h0 => ((hzs z hz).2 a ha h0).1), (hzs z hz).2⟩
    have hK5 : Keep (fun b => b < W2.heap.size) W4 W5 := hKW.trans (hk5'.mono fun b _ hb => hnP b (by omega))
    have hPl5 : ∀ b, Pv b → b < W5.heap.size := fun b hb => by rw [hs5]; exact hPb b hb
    have gx : Keep (fun b => (Value.slice qx x.length cx).ownBlock = some b) Wr W5 := hk5.mono fun b _ hb h => hGl (h ▸ hb)
    have hbs5 : Lib.BytesIn W5 qx x.length (Lib.numsL x) := bytes_keep hbs gx (fun a ha _ => (hblk a ha).2.2)
    have hby5 : By W5 (.slice qx x.length cx) x := by
      obtain ⟨g1, g2, g3, g4, _⟩ := hbyx.at
      exact By.of g1 g2 g3 (fun h => (g4 h).2) hbs5
    have hszW := hK5.size
    have A5 : Below w.heap.size w W5 := A4.trans ((hK5.mono fun b _ h => by omega).below (by omega))
    have con := Cls.Parse_new qx x.length cx x W5 hby5 (.inl (by omega)) (HG.out.on A5)
    clear hr hk5 hk5' hs5 hKW hbs hp hbyx hblk gx hbs5 hby5
    have bR5 := hK5.boxed bR (by omega)
    have bE5 := hK5.boxed bE (by omega)
    cases hpc : parseC x with
    | inl en =>
      rw [hpc] at con
      have hne : en ≠ 0 := by rcases parseC_no x en hpc with h | h <;> omega
      have d2 : ((en : Int) != 0) = true := by unfold bne; rw [beq_eq_false_iff_ne.2 hne]; rfl
      have d3 : ((en : Int) == 0) = false := beq_eq_false_iff_ne.2 hne
      have HE := Lib.hid (show clausesL (xs.map Prod.snd) = .inl en by
        rw [hxm.out, List.map_append, List.map_cons]
        exact clauses_err x en hpc _ _ _ hcl)
      clear hne hpc hcl hzs hrow hbx hit
      gi_wp2_with fail
      refine ⟨trivial, rfl, (CallsIn.inRound ll (callsIn_wide.2 con)).mono ?_⟩
      rintro e w6 ⟨q6, n6, c6, rfl, hs6, hq6, hb6⟩
      have kb := Keep.of_below hb6
      have bR6 := (kb.boxed bR5 bR5.lt).alloc (.cells #[.slice q6 n6 c6] 82)
      have bE6 := (kb.boxed bE5 bE5.lt).alloc (.cells #[.slice q6 n6 c6] 82)
      have kf := bR6.frozen
      have kc := bR6.cell
      have b3 := bR6.set (.slice none 0 0)
      have e3 := (Keep.setCell (S := fun b => b = w.heap.size + 1) (w6.alloc (.cells #[.slice q6 n6 c6] 82)) ⟨w.heap.size, 0, none⟩ (.slice none 0 0) (by simp)).boxed bE6 rfl
      have ef3 := e3.frozen
      have ec3 := e3.cell
      have b4 := (Keep.setCell (S := fun b => b = w.heap.size) ((w6.alloc (.cells #[.slice q6 n6 c6] 82)).setCell ⟨w.heap.size, 0, none⟩ (.slice none 0 0)) ⟨w.heap.size + 1, 0, none⟩ (.int .i64 en) (by simp)).boxed b3 rfl
      have e4 := e3.set (.int .i64 en)
      clear con hs6
      unfold errC
      gi_wp2
      have kq : ∀ (S : Nat → Prop), (∀ b, S b → b < W5.heap.size) → ¬ S w.heap.size → ¬ S (w.heap.size + 1) → Keep S W5 (((w6.alloc (.cells #[.slice q6 n6 c6] 82)).setCell ⟨w.heap.size, 0, none⟩ (.slice none 0 0)).setCell ⟨w.heap.size + 1, 0, none⟩ (.int .i64 en)) := fun S h0 h1 h2 =>
        (((kb.mono fun b _ hb => h0 b hb).trans (Keep.alloc S _ _)).trans (Keep.setCell _ _ _ h1)).trans (Keep.setCell _ _ _ h2)
      have hA6 := (((A5.trans (hb6.mono A5.size)).alloc (by have := (A5.trans (hb6.mono A5.size)).size; exact this) (.cells #[.slice q6 n6 c6] 82)).setCell (p := ⟨w.heap.size, 0, none⟩) (by simp) (.slice none 0 0)).setCell (p := ⟨w.heap.size + 1, 0, none⟩) (by simp) (.int .i64 en)
      have hz6 : W4.heap.size ≤ (((w6.alloc (.cells #[.slice q6 n6 c6] 82)).setCell ⟨w.heap.size, 0, none⟩ (.slice none 0 0)).setCell ⟨w.heap.size + 1, 0, none⟩ (.int .i64 en)).heap.size := Nat.le_trans hszW (kq (fun _ => False) (fun _ h => h.elim) id id).size
      refine ⟨kq _ (fun b hb => ?_) (fun h => ?_) (fun h => ?_), ⟨rfl, en, b4, e4, HE.out, hA6, fun b hb => hge b hb.1⟩, hz6⟩
      · rcases hb with h | h
        · have := (hRl b h).2; omega
        · exact hPl5 b h.1
      · rcases h with h | h
        · have := (hRl _ h).1; omega
        · have := hge _ h.1; omega
      · rcases h with h | h
        · have := (hRl _ h).1; omega
        · have := hge _ h.1; omega
    | inr cv =>
      rw [hpc] at con
      have hcf := (parseC_ok x cv hpc).few
      have HLL := Lib.hid hll2
      have hll3 : ls.length ≤ n := by omega
      have HE := Lib.hid (show clausesL ((pre ++ [(xi, x)]).map Prod.snd) = .inr (ls.map Prod.snd ++ [cv]) by
        rw [List.map_append]
        exact clauses_snoc x cv hpc _ _ hcl)
      clear hpc hcl hit hll2
      gi_wp2_with fail
      refine ⟨trivial, rfl, (CallsIn.inRound ll (callsIn_wide.2 con)).mono ?_⟩
      rintro e w6 ⟨q6, n6, c6, rfl, hs6, hq6, hb6⟩
      have kb := Keep.of_below hb6
      have hsz6 := hb6.size
      have hbx7 := (kb.boxed hbx hbx.lt).alloc (.cells #[.slice q6 n6 c6] 82)
      have hrow7 := (kb.row hrow (fun b hb => (hrow.lt b hb).2)).alloc (.cells #[.slice q6 n6 c6] 82)
      have cB := hbx7.cell
      have cC := (Boxed.new w6 82 (.slice q6 n6 c6)).cell
      have hz1' : (w6.alloc (.cells #[.slice q6 n6 c6] 82)).heap.size = w6.heap.size + 1 := by simp
      clear con
      unfold errC
      gi_wp2_with (gi_at_builtin; go_must (refine wpListIn_append_own_at _ rfl _ _ 24 rfl W4.heap.size 82 i0 (.agg #[.slice none 0 0]) 1 24 Tryz.underlying24 hi0 hz0 hz1 hz2 rfl (by decide) _ _ _ rfl (hrow7.alloc _) ⟨w6.heap.size + 1, 0, none⟩ 1 1 [.slice q6 n6 c6] rfl rfl (by rw [← hz1']; exact cell_one_new _ _ _) (by simp [Value.oneCell']) (by unfold maxLen; omega) (by omega) (by simp; omega) ?_); intro v' w1 hown' hgrow _ hat; obtain ⟨g', cap', rfl⟩ := ownsRow_succ hown'; obtain ⟨hv1, hv2, hr2, hkk⟩ := appended_keep (S := fun b => b ≠ W2.heap.size ∧ v.ownBlock ≠ some b) hbx7 (by decide) hrow7 (fun h => h.1 rfl) (fun b hb h => h.2 hb) hown' hgrow; have hc1 := hv1.cell; have hf1 := hv1.frozen)
      have hat' : some g' = v.ownBlock ∨ some g' = some ((w6.alloc (.cells #[.slice q6 n6 c6] 82)).alloc (.cells #[.slice q6 n6 c6] 82)).heap.size := hat
      have hg : ∀ b, some g' = some b → v.ownBlock = some b ∨ w6.heap.size + 2 ≤ b := fun b hb => by
        rcases hat' with h | h
        · exact .inl (h ▸ hb)
        · rw [hb] at h
          have := Option.some.inj h
          simp at this
          exact .inr (by omega)
      have hk6 : ∀ S : Nat → Prop, (∀ b, S b → b < w6.heap.size ∧ b ≠ W2.heap.size ∧ v.ownBlock ≠ some b) → Keep S w6 (w1.setCell ⟨W2.heap.size, 0, none⟩ (.slice (some ⟨g', 0, none⟩) (ls.length + 1) cap')) := fun S hS => (Keep.alloc S _ _).trans (hkk.mono fun b _ h => (hS b h).2)
      have hk5 : ∀ S : Nat → Prop, (∀ b, S b → b < W5.heap.size ∧ b ≠ W2.heap.size ∧ v.ownBlock ≠ some b) → Keep S W5 (w1.setCell ⟨W2.heap.size, 0, none⟩ (.slice (some ⟨g', 0, none⟩) (ls.length + 1) cap')) := fun S hS => (kb.mono fun b _ h => (hS b h).1).trans (hk6 S fun b h => ⟨by have := (hS b h).1; omega, (hS b h).2⟩)
      have hown5 : ∀ b, v.ownBlock = some b → W4.heap.size ≤ b ∧ b < W5.heap.size := fun b hb => hrow.lt b hb
      have hz6 : ClAt w6 ((q6, n6, c6), cv) := ⟨hs6, hcf⟩
      refine ⟨hk5 _ (fun b hb => ?_), _, ls ++ [((q6, n6, c6), cv)], hv2, by simpa [encC] using hr2, fun z hz => ?_, by rw [HE.out, List.map_append]; rfl, fun b hb => hge b hb.1, fun b hb hp => ?_, hK5.trans (hk5 _ (fun b hb => ?_)), by rw [List.length_append, List.length_append, HLL.out]; rfl⟩
      · rcases hb with h | h
        · have h2 := hRl b h
          exact ⟨by omega, by omega, fun e => by have := (hown5 b e).1; omega⟩
        · exact ⟨hPl5 b h.1, fun e => hnP b (by omega) h.1, fun e => hnv b e h.1⟩
      · rcases List.mem_append.1 hz with h | h
        · obtain ⟨k1, k2⟩ := hzs z h
          refine ⟨k1.from (hk5 (fun b => b < W5.heap.size ∧ b ≠ W2.heap.size ∧ v.ownBlock ≠ some b) (fun b hb => hb)) (fun a ha h0 => ?_), fun a ha h0 => ?_⟩
          · obtain ⟨j1, j2, j3⟩ := k2 a ha h0
            exact ⟨k1.lt a ha h0, by omega, j3⟩
          · obtain ⟨j1, j2, j3⟩ := k2 a ha h0
            refine ⟨fun hp => j1 hp.1, j2, fun e => ?_⟩
            rcases hg a.block e with h | h
            · exact j3 h
            · have := k1.lt a ha h0; omega
        · rw [List.mem_singleton.1 h]
          refine ⟨hz6.from (hk6 (fun b => b < w6.heap.size ∧ b ≠ W2.heap.size ∧ v.ownBlock ≠ some b) (fun b hb => hb)) (fun a ha h0 => ?_), fun a ha h0 => ?_⟩
          · have j := hq6 a ha
            exact ⟨hz6.lt a ha h0, by omega, fun e => by have := (hown5 _ e).2; omega⟩
          · have j := hq6 a ha
            refine ⟨fun hp => by have := hPl5 _ hp.1; omega, by omega, fun e => ?_⟩
            rcases hg a.block e with h | h
            · have := (hown5 _ h).2; omega
            · have := hz6.lt a ha h0; omega
      · rcases hg b hb with h | h
        · exact hnv b h hp.1
        · have := hPl5 b hp.1; omega
      · exact ⟨by omega, by omega, fun e => by have := (hown5 b e).1; omega⟩
  case done =>
    rintro D Pv Wd hD hPD hPl ⟨v, ls, hbx, hrow, hzs, hcl, hge, hnv, hKW, hll2⟩ hK
    obtain ⟨q5, c5, rfl, hc5, _, hs5, _⟩ := slIn_of_owns hrow
    have hA : Keep (fun b => b < W2.heap.size) W4 Wd := hKW
    have bRd := hA.boxed bR (by omega)
    have bEd := hA.boxed bE (by omega)
    have hBd : Below w.heap.size w Wd := A4.trans ((hA.mono fun b _ h => by omega).below A4.size)
    have HR := Lib.hid (HP2.out HN.out _ hcl)
    have con := Of_any q5 ls.length c5 (ls.map Prod.snd) Wd ⟨ls, hs5, fun z hz => (hzs z hz).1, rfl⟩ (fun h => by subst h; exact (Cls.row_nil hrow).2) (by have := hlx.out; omega)
    rw [← HR.out] at con
    have cB := hbx.cell
    have hDl := hPl D hPD
    clear hs5 hrow hbx hnv hge hKW hA hit hzs hcl b0 hll2
    gi_wp2_with fail
    refine ⟨trivial, (callsIn_wide.2 con).mono ?_⟩
    rintro e w6 ⟨q6, n6, c6, rfl, hs6, hq6, hb6⟩
    have hD6 : w6.heap[D]? = some (.deferred (some [])) := (hb6.block D hDl).trans hK
    have hsd := hBd.size
    have hDg : w.heap.size + 2 ≤ D := by omega
    have hqn : ∀ a, q6 = some a → w.heap.size ≤ a.block := fun a ha => Nat.le_trans hsd (hq6 a ha)
    replace hq6 : ∀ a, q6 = some a → a.block ≠ w.heap.size ∧ a.block ≠ w.heap.size + 1 := fun a ha => by have := hq6 a ha; have := bEd.lt; omega
    have bR6 := (Keep.of_below hb6).boxed bRd bRd.lt
    have bE6 := (Keep.of_below hb6).boxed bEd bEd.lt
    have A6 := hBd.trans (hb6.mono hBd.size)
    have kf := bR6.frozen
    have kc := bR6.cell
    have b3 := bR6.set (.slice q6 n6 c6)
    have f3 := hs6.set (u' := .slice q6 n6 c6) bR6 (fun x h => by cases h) (fun a ha => (hq6 a ha).1)
    have e3 := (Keep.setCell (S := fun b => b = w.heap.size + 1) w6 ⟨w.heap.size, 0, none⟩ (.slice q6 n6 c6) (by simp)).boxed bE6 rfl
    have ef3 := e3.frozen
    have ec3 := e3.cell
    have hD7 := (Keep.setCell (S := fun b => b = D) w6 ⟨w.heap.size, 0, none⟩ (.slice q6 n6 c6) (by simp; omega)).heap rfl hD6
    have A7 := A6.setCell (p := ⟨w.heap.size, 0, none⟩) (by simp) (.slice q6 n6 c6)
    clear con hb6
    obtain ⟨r, hr⟩ : ∃ r, parseF t = r := ⟨_, rfl⟩
    rw [hr] at hs6 f3 ⊢
    gi_wp2
    subst hr
    have b4 := (Keep.setCell (S := fun b => b = w.heap.size) (w6.setCell ⟨w.heap.size, 0, none⟩ (.slice q6 n6 c6)) ⟨w.heap.size + 1, 0, none⟩ (.int .i64 (frmE (parseF t))) (by simp)).boxed b3 rfl
    have e4 := e3.set (.int .i64 (frmE (parseF t)))
    have f4 := f3.set (u' := .int .i64 (frmE (parseF t))) e3 (fun x h => by cases h) (fun a ha => (hq6 a ha).2)
    have hD8 := (Keep.setCell (S := fun b => b = D) (w6.setCell ⟨w.heap.size, 0, none⟩ (.slice q6 n6 c6)) ⟨w.heap.size + 1, 0, none⟩ (.int .i64 (frmE (parseF t))) (by simp; omega)).heap rfl hD7
    have A8 := A7.setCell (p := ⟨w.heap.size + 1, 0, none⟩) (by simp) (.int .i64 (frmE (parseF t)))
    refine ⟨by simp, .inl ⟨_, _, rfl, run_takeDeferred hD8, ?_⟩⟩
    have hkP : ∀ S : Nat → Prop, ¬ S D → Keep S ((w6.setCell ⟨w.heap.size, 0, none⟩ (.slice q6 n6 c6)).setCell ⟨w.heap.size + 1, 0, none⟩ (.int .i64 (frmE (parseF t)))) (((w6.setCell ⟨w.heap.size, 0, none⟩ (.slice q6 n6 c6)).setCell ⟨w.heap.size + 1, 0, none⟩ (.int .i64 (frmE (parseF t)))).putObj D (.deferred none)) := fun S hS => Keep.putObj _ D (.deferred none) hS
    refine ⟨_, ret_frm22 rfl _ _ w.heap.size (w.heap.size + 1) _ _ rfl rfl ((hkP (fun b => b = w.heap.size) (by omega)).boxed b4 rfl) ((hkP (fun b => b = w.heap.size + 1) (by omega)).boxed e4 rfl).cell, q6, n6, c6, rfl, f4.put hD8, hqn, ?_⟩
    · exact ((Keep.of_below A8).trans (hkP _ (by omega))).below (Nat.le_refl _)
  case stop =>
    rintro D cc pre rest Pv Wd hD hPD hPl hxs ⟨⟨rfl, en, hR, hE, hcl, hBd, hge⟩, hsz⟩ hK
    clear hxs
    have HR := Lib.hid (HP3.out HN.out _ hcl)
    have hDg : w.heap.size + 2 ≤ D := by have := A4.size; omega
    gi_wp2
    refine ⟨by simp, .inl ⟨_, _, rfl, run_takeDeferred hK, ?_⟩⟩
    have hkP : ∀ S : Nat → Prop, ¬ S D → Keep S Wd (Wd.putObj D (.deferred none)) := fun S hS => Keep.putObj _ D (.deferred none) hS
    refine ⟨_, ret_frm22 rfl _ _ w.heap.size (w.heap.size + 1) _ _ rfl rfl ((hkP (fun b => b = w.heap.size) (by omega)).boxed hR rfl) ((hkP (fun b => b = w.heap.size + 1) (by omega)).boxed hE rfl).cell, ?_⟩
    rw [HR.out]
    exact ⟨none, 0, 0, rfl, frm_nil _, (fun a h => by cases h), ((Keep.of_below hBd).trans (hkP _ (by omega))).below (Nat.le_refl _)⟩
end Go.Proofs.YtdlofjcblcpgpaaGreatDoor.Frm

namespace Go.Proofs.YtdlofjcblcpgpaaGreatDoor.Frm
open Go.RowKit Go.Shelf Go.Sort Url Org Cls
attribute [local go_sem] Oper.semAt_some
set_option linter.unusedVariables false

theorem sum_mem {α : Type} [DecidableEq α] (f : α → Nat) (x : α) (l : List α) (h : x ∈ l) : f x ≤ sumL f l := by rw [sum_erase f x l h]; omega
theorem cls_in_frm (f : List (List (List UInt8))) (x : List (List UInt8)) (h : x ∈ f) : (clsT x).length ≤ (frmT f).length := by
  have h1 := frmT_sum f (fun e => by rw [e] at h; cases h)
  have h2 : (clsT x).length + 3 ≤ sumL (fun c => (clsT c).length + 3) f := sum_mem (fun c => (clsT c).length + 3) x f h
  omega
theorem join_frm (c : List (List UInt8)) (r : List (List (List UInt8))) : Lib.join ((c :: r).map clsT) [32, 38, 32] = frmT (c :: r) := by
  rw [List.map_cons, Lib.join_cons]
  show clsT c ++ ((r.map clsT).map ([32, 38, 32] ++ ·)).flatten = clsT c ++ r.flatMap fun d => [32, 38, 32] ++ clsT d
  rw [List.flatMap_def, List.map_map]; rfl
/-- The texts of the clauses that have come. -/
def txtX (pre : List Cl) : List (List UInt8) := pre.map fun z => clsT z.2
theorem txtX_snoc (pre : List Cl) (z : Cl) : txtX (pre ++ [z]) = txtX pre ++ [clsT z.2] := by unfold txtX; simp
theorem txtX_len (pre : List Cl) : (txtX pre).length = pre.length := by unfold txtX; simp

set_option maxRecDepth 100000 in
set_option maxHeartbeats 16000000 in
theorem Text_any (v : Value) (f : List (List (List UInt8))) (w : World) (h : FrmIs w v f) (hN : f.length ≤ 1099511627776) (hl : (frmT f).length ≤ 140737488355328) :
    Calls Tryz.prog 29 #[v] w fun e w' => e = .returned (.string ⟨(frmT f).toArray⟩) ∧ Below w.heap.size w w' := by
  obtain ⟨q, n, c, rfl⟩ := frm_form h
  obtain ⟨_, hnc, zs, s0, z0, hf⟩ := h.row
  obtain ⟨i0, hi0, hz0, hz1, hz2⟩ := info_parts S.info_str
  obtain ⟨W1, hW1⟩ : ∃ W1, w.alloc (.cells #[.slice q n c] 26) = W1 := ⟨_, rfl⟩
  have A1 : Below w.heap.size w W1 := hW1 ▸ below_alloc _
  have b1 : Boxed W1 w.heap.size 26 (.slice q n c) := hW1 ▸ Boxed.new w _ _
  have c1 := b1.cell
  have con := Len_any _ f W1 (h.below A1)
  have hzl : zs.length = n := s0.1
  have HW1 := Lib.hid hW1
  have HF := Lib.hid hf
  have HS0 := Lib.hid s0
  have HZ0 := Lib.hid z0
  have hfl : f.length = n := by rw [hf, List.length_map]; exact hzl
  clear hW1 hf h s0 z0
  refine (callsIn_wide (n := 1)).1 ?_
  refine callsIn_of_wp_marks Tryz.func29 rfl trivial ?_ rfl
  simp only [Tryz.ntmps29, List.size_toArray, List.length_cons, List.length_nil, Nat.reduceAdd, Nat.reduceSub, Array.replicate_succ, Array.replicate_zero, List.push_toArray, List.append_toArray, List.nil_append, List.cons_append]
  cases f with
  | nil =>
    clear b1 hzl hfl
    gi_wp2_with fail
    rw [HW1.out]
    gi_wp2_with fail
    refine ⟨trivial, (callsIn_wide.2 con).mono ?_⟩
    rintro e w2 ⟨rfl, hb2⟩
    clear con
    gi_wp2
    exact ⟨_, results_tmp rfl _ _ _, rfl, A1.trans (hb2.mono A1.size)⟩
  | cons p r =>
    have d : (((p :: r).length : Int) == 0) = false := by rw [beq_eq_false_iff_ne]; simp; omega
    have HJ := Lib.hid (join_frm p r)
    have HNE := Lib.hid (show 0 < (p :: r).length by simp)
    have HL := Lib.hid hl
    generalize p :: r = f at *
    have HN := Lib.hid hN
    have HFL := Lib.hid hfl
    have HZL := Lib.hid hzl
    clear hl hN hfl hzl
    generalize hlm : f.length = m at con d
    have HM := Lib.hid hlm
    clear hlm
    gi_wp2_with fail
    rw [HW1.out]
    gi_wp2_with fail
    refine ⟨trivial, (callsIn_wide.2 con).mono ?_⟩
    rintro e w2 ⟨rfl, hb2⟩
    replace b1 := (Keep.of_below hb2).boxed b1 b1.lt
    have A2 := A1.trans (hb2.mono A1.size)
    obtain ⟨W3, hW3⟩ : ∃ W3, w2.alloc (.cells #[.slice none 0 0] 50) = W3 := ⟨_, rfl⟩
    have b0 : Boxed W3 w2.heap.size 50 (.slice none 0 0) := hW3 ▸ Boxed.new w2 _ _
    have hB3 : Below w2.heap.size w2 W3 := hW3 ▸ below_alloc _
    have hs3 : W3.heap.size = w2.heap.size + 1 := by rw [← hW3]; simp
    replace c1 := (b1.alloc (.cells #[.slice none 0 0] 50)).cell
    have A3 := A2.trans (hB3.mono A2.size)
    have con2 := frmAll_any q n c W3
    have hsA2 := A2.size
    have HW3 := Lib.hid hW3
    clear con hb2 hW3 A1
    gi_wp2_with fail
    rw [HW3.out]
    refine ⟨trivial, (callsIn_wide.2 con2).mono ?_⟩
    rintro e W4 ⟨rfl, hW4⟩
    have bv : Boxed W4 (W3.heap.size + 1) 24 (.slice q n c) := by
      have := Boxed.new (W3.alloc (.cells #[.slice q n c] 26)) 24 (.slice q n c)
      rw [World.size_alloc] at this
      exact hW4 ▸ this
    have hbel : Below W3.heap.size W3 W4 := hW4 ▸ ((Below.refl _ W3).alloc (Nat.le_refl _) _).alloc (by simp) _
    have hs4 : W4.heap.size = W3.heap.size + 2 := by rw [hW4]; simp
    replace b0 := (Keep.of_below hbel).boxed b0 b0.lt
    have A4 := A3.trans (hbel.mono A3.size)
    have hit := Values1_iter (W3.heap.size + 1) q n c zs (fun b => b < W4.heap.size ∧ b ≠ w2.heap.size) W4 (by have := HFL.out; have := HN.out; omega) (HS0.out.below A4 HS0.out.lt) (fun a h h' => by have := HS0.out.lt a h h'; omega) bv (by omega) (fun b hb => hb.1)
    rw [hs3] at hit
    have hxl : ∀ z ∈ zs, (clsT z.2).length ≤ 140737488355328 := fun z hz => Nat.le_trans (cls_in_frm f z.2 (by rw [HF.out]; exact List.mem_map_of_mem hz)) HL.out
    clear con2 c1 bv hW4 HW3 HW1 hbel hB3 b1
    gi_wp2
    refine rf_law (gf := 100) (lb := #[.pointer (some ⟨w2.heap.size + 1 + 1, 0, none⟩)]) rfl (enters_of Tryz.func100 (by kernel_rfl) rfl)
      hit (Keep.refl _ _) (fun b hb => hb.1) (fun x args G W h => by rw [h.1]; rfl)
      (fun pre Pv W => ColI 50 9 w2.heap.size (fun b => b < w2.heap.size) W4 (txtX pre) Pv W) (fun _ _ _ _ => False) (fun s Pv Pv' A B h hk hp => ColI_abide _ _ _ _ _ (by omega) (fun b hb => by omega) (txtX s) Pv Pv' A B h hk hp) (fun _ _ _ _ _ _ h _ _ => h)
      ⟨_, b0, World.ownsRow_nil _ _ _ _, (fun _ h => h.elim), (fun _ h => by cases h), Keep.refl _ _⟩ ?round ?done ?stop
    case round =>
      rintro ll pre ⟨⟨xq, xn, xc⟩, x⟩ rest Pv G args Wr hll hxs ⟨v, hbx, hrow, hge, hnv, hKW⟩ hPl hGl hPb hGP ⟨harg, rfl⟩
      obtain rfl : args = #[.agg #[.slice xq xn xc]] := harg
      have hxm : ((xq, xn, xc), x) ∈ zs := by rw [hxs]; simp
      have hpl : pre.length + 1 ≤ 1099511627776 := by
        have h1 := HZL.out
        have h2 := HFL.out
        have h3 := HN.out
        rw [hxs, List.length_append, List.length_cons] at h1
        omega
      rw [txtX_len] at hrow
      clear hxs
      have hll2 := hPb ll hPl
      gi_wp2
      refine ⟨Keep.alloc _ _ _, fun W5 hk5 hs5 r hr => ?_⟩
      have hnP : ∀ b, b < W4.heap.size → ¬ Pv b := fun b hb h => by have := hge b h; omega
      have hka := Keep.alloc (fun _ => True) Wr (.cells #[.slice xq xn xc] 82)
      have bx := hk5.boxed (Boxed.new Wr 82 (.slice xq xn xc)) (by omega)
      have hk5' : Keep (fun b => ¬ Pv b) Wr W5 := (hka.mono fun _ _ _ => trivial).trans (hk5.mono fun b _ hb h => hb (h ▸ hPl))
      replace hbx := hk5'.boxed hbx (hnP _ (by omega))
      replace hrow := hk5'.row hrow hnv
      have hK5 : Keep (fun b => b < w2.heap.size) W4 W5 := hKW.trans (hk5'.mono fun b _ hb => hnP b (by omega))
      have hPl5 : ∀ b, Pv b → b < W5.heap.size := fun b hb => Nat.lt_of_lt_of_le (hPb b hb) hk5'.size
      have hszW := hK5.size
      have A5 : Below w.heap.size w W5 := A4.trans ((hK5.mono fun b _ h => by omega).below A4.size)
      have hz := (HZ0.out _ hxm).below A5
      clear hr hk5 hk5' hs5 hKW hka
      obtain ⟨Wd, hWd⟩ : ∃ Wd, W5.drew = Wd := ⟨_, rfl⟩
      have hkd : ∀ S, Keep S W5 Wd := fun S => by rw [← hWd]; exact Keep.drew S W5
      replace hbx := (hkd (fun _ => True)).boxed hbx trivial
      replace hrow := (hkd (fun _ => True)).row hrow (fun _ _ => trivial)
      replace bx := (hkd (fun _ => True)).boxed bx trivial
      have hszd : Wd.heap.size = W5.heap.size := by rw [← hWd]; rfl
      have con := Cls.Text_any (.agg #[.slice xq xn xc]) x Wd (hz.keep (hkd _)).set (Nat.le_trans hz.few (by decide)) (hxl _ hxm)
      have HSN := Lib.hid (txtX_snoc pre ((xq, xn, xc), x))
      simp only at HSN
      generalize clsT x = T at *
      have c0 := hbx.cell
      have cx := bx.cell
      have HWd := Lib.hid hWd
      clear hWd hz
      gi_wp2_with fail
      refine region_anyO (fun j => decide (j ≠ 5)) (fun X => X.cell? ⟨w2.heap.size, 0, none⟩ = some v) (by kernel_rfl) ?_
      rw [HWd.out]
      refine anyO_take 0 (v := v) rfl (by kernel_rfl) (by kernel_rfl) (by kernel_rfl) (by kernel_rfl) (by kernel_rfl) (fun _ _ _ h => h) ⟨.inl ⟨by rfl, ?_⟩, fun _ => rfl⟩ c0 ?_
      · rintro w h1; go_simp
      refine anyO_one 1 (by kernel_rfl) rfl fun K hK => ?_
      go_simp
      refine hK _ _ (fun _ => c0) ?_
      clear hK K
      refine anyO_one 2 (by kernel_rfl) rfl fun K hK => ?_
      go_simp
      refine ⟨trivial, rfl, (CallsIn.inRound ll (callsIn_wide.2 con)).mono ?_⟩
      rintro e w4 ⟨rfl, hbel⟩
      have hbx4 := (Keep.of_below hbel).boxed hbx hbx.lt
      have hrow4 := (Keep.of_below hbel).row hrow (fun b hb => (hrow.lt b hb).2)
      have hsz4 := hbel.size
      have c4' := hbx4.cell
      refine hK _ _ (fun _ => c4') ?_
      clear hK K con
      refine anyO_one 3 (by kernel_rfl) rfl fun K hK => ?_
      go_simp
      have c5' := (hbx4.alloc (.cells #[.string ⟨T.toArray⟩] 9)).cell
      refine hK _ _ (fun _ => c5') ?_
      clear hK K
      refine anyO_one 4 (by kernel_rfl) rfl fun K hK => ?_
      rw [if_pos (by rfl)]
      refine S.wpIn_append_own _ _ 50 rfl W4.heap.size 9 i0 (.string ByteArray.empty) 1 16 Tryz.underlying50 hi0 hz0 hz1 hz2 rfl (by decide) v pre.length _ rfl (hrow4.alloc _) ⟨w4.heap.size, 0, none⟩ 1 1 [encStr T] rfl rfl (cell_one_new _ _ _) (by simp [encStr, Value.oneCell']) (by unfold maxLen; omega) (by omega) (by simp; omega) ?_
      intro v2 w6 hown' hgrow hat
      obtain ⟨g', cap', rfl⟩ := ownsRow_succ hown'
      obtain ⟨hv1, hv2, hr2, hkk⟩ := appended_keep (S := fun b => (b < W4.heap.size ∧ b ≠ w2.heap.size) ∨ Pv b ∨ b < w2.heap.size) hbx4 (by decide) hrow4 (fun h => by rcases h with h | h | h; exact h.2 rfl; exact hnP w2.heap.size (by omega) h; omega) (fun b hb h => by have h0 := (hrow4.lt b hb).1; rcases h with h | h | h; omega; exact hnv b hb h; omega) hown' hgrow
      have c6 := hv1.cell
      have f6 := hv1.frozen
      refine hK _ _ (fun _ => c6) ?_
      clear hK K
      refine anyO_one 5 (by kernel_rfl) rfl fun K hK => ?_
      go_simp
      refine hK _ _ (fun h => absurd h (by decide)) ?_
      clear hK K
      refine anyO_done (by kernel_rfl) ?_ _
      clear c6 f6 c5' c4' c0 cx
      gi_wp2
      have hk0 : ∀ S : Nat → Prop, (∀ b, S b → b < Wd.heap.size) → Keep S W5 w4 := fun S hS => (hkd S).trans ((Keep.of_below hbel).mono fun b _ h => hS b h)
      have hRd : ∀ b, (b < W4.heap.size ∧ b ≠ w2.heap.size) ∨ Pv b ∨ b < w2.heap.size → b < Wd.heap.size := fun b hb => by
        rcases hb with h | h | h
        · omega
        · rw [hszd]; exact hPl5 b h
        · omega
      have hkk2 := (hk0 _ hRd).trans hkk
      refine ⟨hkk2.mono fun b _ h => h.elim (fun h => .inl ⟨by omega, h.2⟩) fun h => .inr (.inl h), _, hv2, ?_, fun b hb => hge b hb, fun b hb hp => ?_, hK5.trans (hkk2.mono fun b _ h => .inr (.inr h))⟩
      · rw [HSN.out, List.length_append, List.length_singleton, txtX_len]
        simpa using hr2
      · rcases hat with h | h
        · exact hnv b (h ▸ hb) hp
        · rw [h] at hb; cases hb; have h5 := hPl5 _ hp; simp at h5; omega
    case done =>
      rintro D Pv Wd hD hPD hPl ⟨v, hbx, hrow, hge, hnv, hKW⟩ hK
      obtain ⟨q4, c4, rfl, hc4, _, hs4, _⟩ := slIn_of_owns hrow
      have hlz : (txtX zs).length = m := by rw [txtX_len, HZL.out, ← HFL.out, HM.out]
      have hpos : 0 < (txtX zs).length := by rw [hlz, ← HM.out]; exact HNE.out
      obtain ⟨bk, o, rfl, hbk, hcell⟩ := hs4.at hpos
      have hSD := Lib.hid (strs_data (txtX zs))
      have HT := Lib.hid (show Lib.join (txtX zs) [32, 38, 32] = frmT f by
        rw [← HJ.out, HF.out, List.map_map]; rfl)
      have con4 := Tryz.strings_Join bk o c4 ((txtX zs).map fun p => ⟨p.toArray⟩) ⟨#[32, 38, 32]⟩ Wd (fun j y hy => by
          rw [List.getElem?_map] at hy
          obtain ⟨z, hz, rfl⟩ := Option.map_eq_some_iff.1 hy
          exact hcell j z hz) hbk (by rw [List.length_map, hlz, ← HM.out]; have := HN.out; omega) (by rw [List.length_map]; exact hc4) (by rw [hSD.out]; show (Lib.join (txtX zs) [32, 38, 32]).length ≤ _; rw [HT.out]; exact HL.out)
      rw [hSD.out, List.length_map, HT.out] at con4
      have hA : Keep (fun b => b < w2.heap.size) W4 Wd := hKW
      have hBd : Below w.heap.size w Wd := A4.trans ((hA.mono fun b _ h => by omega).below A4.size)
      have cB := hbx.cell
      have hDl := hPl D hPD
      clear hrow hs4 hcell hbx hnv hge hKW hA hit b0 hlz hpos hxl hSD
      gi_wp2_with fail
      refine ⟨trivial, (callsIn_wide.2 con4).mono ?_⟩
      rintro e w6 ⟨rfl, hb6⟩
      have hD6 : w6.heap[D]? = some (.deferred (some [])) := (hb6.block D hDl).trans hK
      have A6 := hBd.trans (hb6.mono hBd.size)
      have hDg : w.heap.size ≤ D := by omega
      clear con4
      gi_wp2
      refine ⟨by simp, .inl ⟨_, _, rfl, run_takeDeferred hD6, ?_⟩⟩
      exact ⟨_, results_tmp rfl _ _ _, rfl, ((Keep.of_below A6).trans (Keep.putObj _ D (.deferred none) (by omega))).below (Nat.le_refl _)⟩
    case stop =>
      rintro D c pre rest Pv Wd _ _ _ _ h _
      exact h.elim

end Go.Proofs.YtdlofjcblcpgpaaGreatDoor.Frm

namespace Go.Proofs.YtdlofjcblcpgpaaGreatDoor.Frm
open Go.RowKit Go.Shelf Go.Sort Url Org Cls
attribute [local go_sem] Oper.semAt_some
set_option linter.unusedVariables false

theorem take_eq {α : Type} (xs ys : List α) (k : Nat) (x y : α) (hx : xs[k]? = some x) (hy : ys[k]? = some y) (h : xs.take k = ys.take k) (e : x = y) : xs.take (k + 1) = ys.take (k + 1) := by
  rw [(take_snoc xs k x hx).1, (take_snoc ys k y hy).1, h, e]

set_option maxRecDepth 100000 in
set_option maxHeartbeats 8000000 in
theorem CompareFunc_any (q1 q2 : Option Addr) (n1 c1 n2 c2 : Nat) (xs ys : List (List (List UInt8))) (w : World) (h1 : ClsIn w q1 n1 xs) (h2 : ClsIn w q2 n2 ys) (hn1 : n1 ≤ 140737488355328) (hn2 : n2 ≤ 140737488355328) :
    Calls Tryz.prog 70 #[.slice q1 n1 c1, .slice q2 n2 c2, .func (.func 71) #[] #[]] w fun e w' => ∃ i : Int, e = .returned (.int .i64 i) ∧ (i == 0) = decide (xs = ys) ∧ Below w.heap.size w w' := by
  have hl1 := Lib.hid h1.len
  have hl2 := Lib.hid h2.len
  go_enter Tryz.func70, Tryz.ntmps70
  go_wp2
  go_loopw [13] (fun i wr => ∃ k : Nat, k ≤ n1 ∧ k ≤ n2 ∧ i = .int .i64 k ∧ Hid (xs.take k = ys.take k) ∧ Below w.heap.size w wr) (fun i _ => n1 - (intOf i).toNat)
  case atStart => exact ⟨0, Nat.zero_le _, Nat.zero_le _, rfl, rfl, Below.refl _ _⟩
  case round =>
    obtain ⟨k, hk1, hk2, rfl, HR, hB⟩ := hrel
    by_cases hlt : k < n1
    · obtain ⟨b1, o1, xq, xn, xc, x, rfl, hx, ck1, hsx, hfx⟩ := (h1.below hB).at k hlt
      by_cases hlt2 : k < n2
      · obtain ⟨b2, o2, yq, yn, yc, y, rfl, hy, ck2, hsy, hfy⟩ := (h2.below hB).at k hlt2
        have d2 : decide ((n2 : Int) ≤ (k : Int)) = false := by simp; omega
        have ka := Keep.alloc (fun _ => True) wr (.cells #[.slice xq xn xc] 82)
        have hlb : b2 < wr.heap.size := World.block_lt_of_cell? wr _ ck2
        have ck2' : (wr.alloc (.cells #[.slice xq xn xc] 82)).cell? ⟨b2, o2 + k, none⟩ = some (.slice yq yn yc) := (World.cell?_of_block (ka.block b2 hlb trivial)).trans ck2
        have A1 := below_alloc (w := wr) (.cells #[.slice xq xn xc] 82)
        have A2 := A1.trans ((below_alloc (w := wr.alloc (.cells #[.slice xq xn xc] 82)) (.cells #[.slice yq yn yc] 82)).mono A1.size)
        have cA := ((Boxed.new wr 82 (.slice xq xn xc)).alloc (.cells #[.slice yq yn yc] 82)).cell
        have cB := (Boxed.new (wr.alloc (.cells #[.slice xq xn xc] 82)) 82 (.slice yq yn yc)).cell
        rw [World.size_alloc] at cB
        have con := Cls.Cmp_any _ _ x y _ (hsx.below A2) (hsy.below A2)
        have hBB := hB.trans (A2.mono hB.size)
        have HX := Lib.hid hx
        have HY := Lib.hid hy
        have HC := Lib.hid (cmpL_eq x y)
        generalize cmpL x y = r at con HC
        clear hx hy h1 h2 hsx hsy ka A1 A2
        by_cases hr : r = 0
        · have HR2 := Lib.hid (take_eq xs ys k x y HX.out HY.out HR.out (HC.out.1 hr))
          have d3 : ((r : Int) != 0) = false := by rw [hr]; rfl
          clear hr
          go_wp2_with fail
          refine con.mono ?_
          rintro e w3 ⟨rfl, hb3⟩
          have A3 := hBB.trans (hb3.mono hBB.size)
          clear con hb3 cA cB
          go_wp2
          go_roundw
          case rel => exact ⟨k + 1, by omega, by omega, by go_num, HR2, A3⟩
          case measure => simp [intOf]; omega
        · have HN := Lib.hid (show (r == 0) = decide (xs = ys) by
            rw [beq_eq_false_iff_ne.2 hr, eq_comm, decide_eq_false_iff_not]
            intro e
            have h1 := HX.out
            rw [e, HY.out] at h1
            exact hr (HC.out.2 (Option.some.inj h1).symm))
          have d3 : ((r : Int) != 0) = true := by unfold bne; rw [beq_eq_false_iff_ne.2 hr]; rfl
          clear hr
          go_wp2_with fail
          refine con.mono ?_
          rintro e w3 ⟨rfl, hb3⟩
          have A3 := hBB.trans (hb3.mono hBB.size)
          clear con hb3 cA cB
          go_wp2
          go_ret
          exact ⟨_, rfl, HN.out, A3⟩
      · have d2 : decide ((n2 : Int) ≤ (k : Int)) = true := by simp; omega
        have HN := Lib.hid (show ((1 : Int) == 0) = decide (xs = ys) by
          rw [eq_comm, show ((1 : Int) == 0) = false from rfl, decide_eq_false_iff_not]
          intro e
          have := hl1.out
          rw [e, hl2.out] at this
          omega)
        have hBB := hB.trans ((below_alloc (w := wr) (.cells #[.slice xq xn xc] 82)).mono hB.size)
        clear hx hsx h1 h2
        go_wp2
        go_ret
        exact ⟨_, rfl, HN.out, hBB⟩
    · obtain rfl : k = n1 := by omega
      clear h1 h2
      by_cases hlt2 : k < n2
      · have d2 : decide ((k : Int) < (n2 : Int)) = true := by simp; omega
        have HN := Lib.hid (show ((-1 : Int) == 0) = decide (xs = ys) by
          rw [eq_comm, show ((-1 : Int) == 0) = false from rfl, decide_eq_false_iff_not]
          intro e
          have := hl1.out
          rw [e, hl2.out] at this
          omega)
        go_wp2
        go_ret
        exact ⟨_, rfl, HN.out, hB⟩
      · have d2 : decide ((k : Int) < (n2 : Int)) = false := by simp; omega
        have HN := Lib.hid (show ((0 : Int) == 0) = decide (xs = ys) by
          rw [eq_comm, show ((0 : Int) == 0) = true from rfl, decide_eq_true_iff]
          have := HR.out
          rwa [List.take_of_length_le (by rw [hl1.out]; omega), List.take_of_length_le (by rw [hl2.out]; omega)] at this)
        go_wp2
        go_ret
        exact ⟨_, rfl, HN.out, hB⟩

set_option maxRecDepth 100000 in
set_option maxHeartbeats 4000000 in
theorem Same_any (v1 v2 : Value) (f g : List (List (List UInt8))) (w : World) (h1 : FrmIs w v1 f) (h2 : FrmIs w v2 g) (lf : f.length ≤ 1099511627776) (lg : g.length ≤ 1099511627776) :
    Calls Tryz.prog 45 #[v1, v2] w fun e w' => e = .returned (.bool (decide (f = g))) ∧ Below w.heap.size w w' := by
  obtain ⟨q1, n1, c1, rfl⟩ := frm_form h1
  obtain ⟨q2, n2, c2, rfl⟩ := frm_form h2
  obtain ⟨_, _, r1⟩ := h1.row
  obtain ⟨_, _, r2⟩ := h2.row
  have A1 := below_alloc (w := w) (.cells #[.slice q1 n1 c1] 26)
  have A2 := A1.trans ((below_alloc (w := w.alloc (.cells #[.slice q1 n1 c1] 26)) (.cells #[.slice q2 n2 c2] 26)).mono A1.size)
  have e1 := r1.len
  have e2 := r2.len
  have con := CompareFunc_any q1 q2 n1 c1 n2 c2 f g _ (r1.below A2) (r2.below A2) (by omega) (by omega)
  clear h1 h2 r1 r2 e1 e2
  generalize decide (f = g) = b at con ⊢
  go_enter Tryz.func45, Tryz.ntmps45
  go_wp2_with fail
  refine con.mono ?_
  rintro e w' ⟨i, rfl, hi, hb⟩
  have HI := Lib.hid hi
  clear hi con
  go_wp2
  go_ret
  exact ⟨(by first | rfl | (rw [← HI.out]; rfl)), A2.trans (hb.mono A2.size)⟩

end Go.Proofs.YtdlofjcblcpgpaaGreatDoor.Frm

namespace Go.Proofs.YtdlofjcblcpgpaaGreatDoor.Frm
open Go.RowKit Go.Shelf Go.Sort Url Org Cls
attribute [local go_sem] Oper.semAt_some
set_option linter.unusedVariables false

set_option maxRecDepth 100000 in
set_option maxHeartbeats 4000000 in
theorem Grow_cls (n : Nat) (w : World) (hn : n ≤ 1099511627776) :
    Calls Tryz.prog 91 #[.slice none 0 0, .int .i64 n] w fun e w' => ∃ v, e = .returned v ∧ w'.ownsRow w.heap.size 82 1 v 0 [] ∧ Below w.heap.size w w' := by
  by_cases h0 : n = 0
  · subst h0
    go_enter Tryz.func91, Tryz.ntmps91
    go_wp2
    go_ret
    exact ⟨_, rfl, World.ownsRow_nil _ _ _ _, Below.refl _ _⟩
  obtain ⟨i0, hi0, hz0, hz1, hz2⟩ := info_parts info_cls
  have h1 : ¬ ((n : Int) < 0) := by omega
  have h4 : (n : Int) > 0 := by omega
  have h4' : decide (0 < n) = true := by simp; omega
  have hold : (Builtin.firstCells i0.size 0 (.slice none 0 0)).run Tryz.prog w.drew = .ok ([] : List Value).toArray w.drew := run_firstCells_none w.drew i0.size 0 0 0
  have hrz := Lib.run_append_grow_zeros (P := Tryz.prog) w 24 3 24 82 i0 (.agg #[.slice none 0 0]) .i64 .i64 Tryz.underlying24 Tryz.underlying3 hi0 hz0 none 0 0 [] hold n (by omega) (by omega) (by omega) (by omega) (by rw [hz2]; omega)
    (growslice_fits (by omega) (by rw [hz2]; omega))
  simp only [Nat.zero_add] at hrz
  have hG : n ≤ grownCap w n 0 82 := grownCap_ge w _ _ _
  have hGm : grownCap w n 0 82 ≤ maxLen := grownCap_le_maxLen w n 0 82 (by unfold maxLen; omega)
  have hz : ∀ k, (Builtin.zeroCells (Value.agg #[.slice none 0 0]).cells k).size = k := fun k => by simp [Builtin.zeroCells, Value.cells]
  have hsz : (([] : List Value).toArray ++ Builtin.zeroCells (Value.agg #[.slice none 0 0]).cells n ++ Builtin.zeroCells (Value.agg #[.slice none 0 0]).cells (grownCap w n 0 82 - n)).size = grownCap w n 0 82 * 1 := by
    rw [Array.size_append, Array.size_append, hz, hz, List.size_toArray, List.length_nil]; omega
  have hown := World.ownsRow_made (e := 82) (size := 1) (base := w.heap.size) w.drew _ (grownCap w n 0 82) (Nat.le_refl _) hGm hsz
  have hbel := (Below.refl w.heap.size w).drew.alloc (Nat.le_refl _) (.cells (([] : List Value).toArray ++ Builtin.zeroCells (Value.agg #[.slice none 0 0]).cells n ++ Builtin.zeroCells (Value.agg #[.slice none 0 0]).cells (grownCap w n 0 82 - n)) 82)
  have hgm : ((grownCap w n 0 82 : Nat) : Int) ≤ 9223372036854775807 := by unfold maxLen at hGm; omega
  clear hold hsz hGm hz
  generalize grownCap w n 0 82 = G at *
  generalize (([] : List Value).toArray ++ Builtin.zeroCells (Value.agg #[.slice none 0 0]).cells n ++ Builtin.zeroCells (Value.agg #[.slice none 0 0]).cells (G - n)) = cs at *
  go_enter Tryz.func91, Tryz.ntmps91
  go_wp2_with (at_builtin; refine Lib.wpList_append_run _ rfl _ _ _ _ rfl _ _ rfl rfl _ _ hrz ?_)
  go_ret
  exact ⟨_, rfl, hown, hbel⟩

set_option maxRecDepth 100000 in
set_option maxHeartbeats 8000000 in
/-- slices.Concat of two rows. -/
theorem Concat_cls (b : Nat) (q1 q2 : Option Addr) (n1 c1 n2 c2 : Nat) (zs1 zs2 : List Cl) (w : World) (hc0 : w.cell? ⟨b, 0, none⟩ = some (.slice q1 n1 c1)) (hc1 : w.cell? ⟨b, 1, none⟩ = some (.slice q2 n2 c2))
    (h1 : SlIn encC w q1 n1 zs1) (h2 : SlIn encC w q2 n2 zs2) (hq1 : q1 = none → c1 = 0) (hq2 : q2 = none → c2 = 0) (hs : n1 + n2 ≤ 1099511627776) :
    Calls Tryz.prog 66 #[.slice (some ⟨b, 0, none⟩) 2 2] w fun e w' => ∃ v, e = .returned v ∧ w'.ownsRow w.heap.size 82 1 v (n1 + n2) ((zs1 ++ zs2).map encC) ∧ Below w.heap.size w w' := by
  have con := Grow_cls (n1 + n2) w hs
  have hbl := World.block_lt_of_cell? w _ hc0
  have d1 : decide ((n1 : Int) < 0) = false := by simp
  have hcast : ((n1 + n2 : Nat) : Int) = (n1 : Int) + n2 := by omega
  rw [hcast] at con
  clear hcast
  have d2 : decide ((n1 : Int) + (n2 : Int) < 0) = false := by simp; omega
  go_enter Tryz.func66, Tryz.ntmps66
  go_wp2
  go_loop [3, 11] (fun s i => (i = .int .i64 0 ∧ s = .int .i64 0) ∨ (i = .int .i64 1 ∧ s = .int .i64 n1) ∨ (i = .int .i64 2 ∧ s = .int .i64 ((n1 : Int) + n2))) (fun _ i => 2 - (intOf i).toNat)
  case atStart => exact .inl ⟨rfl, rfl⟩
  case round =>
    rcases hrel with ⟨rfl, rfl⟩ | ⟨rfl, rfl⟩ | ⟨rfl, rfl⟩
    · go_wp2
      go_round
      case rel => exact .inr (.inl ⟨by go_num, by go_num⟩)
      case measure => simp [intOf]
    · go_wp2
      go_round
      case rel => exact .inr (.inr ⟨by go_num, by go_num⟩)
      case measure => simp [intOf]
    · have l1 := h1.1
      have l2 := h2.1
      go_wp2_with fail
      refine con.mono ?_
      rintro e w1 ⟨v1, rfl, hown, hbel⟩
      clear con
      go_wp2
      go_loopw [6, 27] (fun v i wr => ∃ (k : Nat) (ls : List Cl), i = .int .i64 k ∧ ((k = 0 ∧ ls = []) ∨ (k = 1 ∧ ls = zs1) ∨ (k = 2 ∧ ls = zs1 ++ zs2)) ∧ wr.ownsRow w.heap.size 82 1 v ls.length (ls.map encC) ∧ Below w.heap.size w wr) (fun _ i _ => 2 - (intOf i).toNat)
      case atStart => exact ⟨0, [], rfl, .inl ⟨rfl, rfl⟩, hown, hbel⟩
      case round =>
        obtain ⟨k, ls, rfl, hk, hrow, hB⟩ := hrel
        have hbs := hB.size
        rcases hk with ⟨rfl, rfl⟩ | ⟨rfl, rfl⟩ | ⟨rfl, rfl⟩
        · have hc0' : wr.cell? ⟨b, 0, none⟩ = some (.slice q1 n1 c1) := (World.cell?_of_block (hB.block b hbl)).trans hc0
          have hs1 := h1.below hB h1.lt
          clear hown
          go_wp2_with (at_builtin; refine wpList_append_cls rfl _ _ rfl w.heap.size _ 0 _ rfl hrow q1 n1 c1 zs1 rfl hq1 hs1 (by omega) hbs ?_; intro v4 w4 hown4 hgrow4)
          go_roundw
          case rel =>
            refine ⟨1, zs1, by go_num, .inr (.inl ⟨rfl, rfl⟩), ?_, hB.trans ((Below.refl _ _).grown hgrow4 hbs (fun b h => (hrow.lt b h).1))⟩
            rw [l1]; simpa using hown4
          case measure => simp [intOf]
        · have hc1' : wr.cell? ⟨b, 1, none⟩ = some (.slice q2 n2 c2) := (World.cell?_of_block (hB.block b hbl)).trans hc1
          have hs2 := h2.below hB h2.lt
          clear hown
          go_wp2_with (at_builtin; refine wpList_append_cls rfl _ _ rfl w.heap.size _ _ _ rfl hrow q2 n2 c2 zs2 rfl hq2 hs2 (by omega) hbs ?_; intro v4 w4 hown4 hgrow4)
          go_roundw
          case rel =>
            refine ⟨2, ls ++ zs2, by go_num, .inr (.inr ⟨rfl, rfl⟩), ?_, hB.trans ((Below.refl _ _).grown hgrow4 hbs (fun b h => (hrow.lt b h).1))⟩
            rw [List.length_append, l2, List.map_append]; exact hown4
          case measure => simp [intOf]
        · have hrow' : wr.ownsRow w.heap.size 82 1 u6 (n1 + n2) ((zs1 ++ zs2).map encC) := by
            have := hrow
            rwa [List.length_append, l1, l2] at this
          clear hown hrow
          go_wp2
          go_ret
          exact ⟨_, rfl, hrow', hB⟩

set_option maxRecDepth 100000 in
set_option maxHeartbeats 8000000 in
theorem And_any (v1 v2 : Value) (f g : List (List (List UInt8))) (w : World) (h1 : FrmIs w v1 f) (h2 : FrmIs w v2 g) (lf : f.length + g.length ≤ 1099511627776) :
    Calls Tryz.prog 39 #[v1, v2] w (FrmOut (andR f g) w) := by
  obtain ⟨q1, n1, c1, rfl⟩ := frm_form h1
  obtain ⟨q2, n2, c2, rfl⟩ := frm_form h2
  obtain ⟨hq1, _, zs1, s1, z1, rfl⟩ := h1.row
  obtain ⟨hq2, _, zs2, s2, z2, rfl⟩ := h2.row
  obtain ⟨W0, hW0⟩ : ∃ W0, ((w.alloc (.cells #[.slice q1 n1 c1] 26)).alloc (.cells #[.slice q2 n2 c2] 26)).alloc (.cells #[.slice none 0 0] 26) = W0 := ⟨_, rfl⟩
  have b0 : Boxed W0 w.heap.size 26 (.slice q1 n1 c1) := hW0 ▸ ((Boxed.new w _ _).alloc _).alloc _
  have b1 : Boxed W0 (w.heap.size + 1) 26 (.slice q2 n2 c2) := by
    have := (Boxed.new (w.alloc (.cells #[.slice q1 n1 c1] 26)) 26 (.slice q2 n2 c2)).alloc (.cells #[.slice none 0 0] 26)
    rw [World.size_alloc] at this
    exact hW0 ▸ this
  have b2 : Boxed W0 (w.heap.size + 2) 26 (.slice none 0 0) := by
    have := Boxed.new ((w.alloc (.cells #[.slice q1 n1 c1] 26)).alloc (.cells #[.slice q2 n2 c2] 26)) 26 (.slice none 0 0)
    rw [World.size_alloc, World.size_alloc] at this
    exact hW0 ▸ this
  have hB0 : Below w.heap.size w W0 := hW0 ▸ (((Below.refl _ w).alloc (Nat.le_refl _) _).alloc (by simp) _).alloc (by simp; omega) _
  have hs0 : W0.heap.size = w.heap.size + 3 := by rw [← hW0]; simp
  obtain ⟨W3, hW3⟩ : ∃ W3, W0.alloc (.cells #[.slice q1 n1 c1, .slice q2 n2 c2] 24) = W3 := ⟨_, rfl⟩
  have hB3 : Below W0.heap.size W0 W3 := hW3 ▸ below_alloc _
  have A3 := hB0.trans (hB3.mono hB0.size)
  have hc0 : W3.cell? ⟨W0.heap.size, 0, none⟩ = some (.slice q1 n1 c1) := by rw [← hW3]; simp
  have hc1 : W3.cell? ⟨W0.heap.size, 1, none⟩ = some (.slice q2 n2 c2) := by rw [← hW3]; simp
  have e1 := s1.1
  have e2 := s2.1
  rw [List.length_map, List.length_map, e1, e2] at lf
  have con := Concat_cls W0.heap.size q1 q2 n1 c1 n2 c2 zs1 zs2 W3 hc0 hc1 (s1.below A3 s1.lt) (s2.below A3 s2.lt) hq1 hq2 lf
  rw [hs0] at con
  have b3 := (Keep.of_below hB3).boxed b2 b2.lt
  have k0 := b0.cell
  have k1 := b1.cell
  have HZ := Lib.hid (show ∀ z ∈ zs1 ++ zs2, ClAt W3 z from fun z hz => (List.mem_append.1 hz).elim (fun h => (z1 z h).below A3) (fun h => (z2 z h).below A3))
  have HR := Lib.hid (show andR (zs1.map Prod.snd) (zs2.map Prod.snd) = ofF ((zs1 ++ zs2).map Prod.snd) by rw [List.map_append]; rfl)
  have HL := Lib.hid (show (zs1 ++ zs2).length = n1 + n2 by rw [List.length_append, e1, e2])
  have HW0 := Lib.hid hW0
  have HW3 := Lib.hid hW3
  have HS0 := Lib.hid hs0
  generalize zs1 ++ zs2 = zs at *
  clear hW0 hW3 h1 h2 s1 s2 z1 z2 hc0 hc1 hs0 e1 e2
  go_enter Tryz.func39, Tryz.ntmps39
  go_wp2_with fail
  rw [HW0.out]
  rw [HW3.out]
  refine con.mono ?_
  rintro e w4 ⟨v4, rfl, hown, hb4⟩
  obtain ⟨q5, c5, rfl, hc5, hm5, hs5, _⟩ := slIn_of_owns hown
  have b4 := (Keep.of_below hb4).boxed b3 b3.lt
  have A4 := A3.trans (hb4.mono A3.size)
  have con2 := Of_any q5 (n1 + n2) c5 (zs.map Prod.snd) w4 ⟨zs, hs5, fun z hz => (HZ.out z hz).below hb4, rfl⟩ (fun h => by subst h; exact (Cls.row_nil hown).2) lf
  rw [← HR.out] at con2
  generalize n1 + n2 = n at *
  clear con hown hs5 hb4 hm5 hc5 HW0 HW3 k0 k1
  go_wp2_with fail
  refine con2.mono ?_
  rintro e w6 ⟨q6, n6, c6, rfl, hs6, hq6, hb6⟩
  have b6 := (Keep.of_below hb6).boxed b4 b4.lt
  have A6 := A4.trans (hb6.mono A4.size)
  have kf := b6.frozen
  have kc := b6.cell
  have hlt := b4.lt
  clear con2
  go_wp2
  refine bodyPost_ret (ret_frm2 rfl _ _ (w.heap.size + 2) _ rfl (b6.set _)) rfl ?_
  exact ⟨q6, n6, c6, rfl, hs6.set b6 (fun x h => by cases h) (fun a ha => by have := hq6 a ha; omega), (fun a ha => Nat.le_trans A4.size (hq6 a ha)), A6.setCell (by simp; omega) _⟩

end Go.Proofs.YtdlofjcblcpgpaaGreatDoor.Frm

namespace Go.Proofs.YtdlofjcblcpgpaaGreatDoor.Frm
open Go.RowKit Go.Shelf Go.Sort Url Org Cls
attribute [local go_sem] Oper.semAt_some
set_option linter.unusedVariables false

/-- The clauses that have come lie in the box's row; Pv: what others hold. -/
def OrL (Bo : Nat) (RB : Nat → Prop) (W0 : World) (Pv : Nat → Prop) (W : World) (acc : List (List (List UInt8))) : Prop :=
  ∃ v, ∃ ls : List Cl, Boxed W Bo 24 v ∧ W.ownsRow W0.heap.size 82 1 v ls.length (ls.map encC) ∧ (∀ z ∈ ls, ClAt W z ∧ ∀ a, z.1.1 = some a → 0 < z.1.2.1 → ¬ Pv a.block ∧ W0.heap.size ≤ a.block ∧ v.ownBlock ≠ some a.block) ∧ ls.map Prod.snd = acc ∧
    (∀ b, Pv b → W0.heap.size ≤ b) ∧ (∀ b, v.ownBlock = some b → ¬ Pv b) ∧ Keep RB W0 W
theorem OrL.step {Bo : Nat} {RB Pv Pv' : Nat → Prop} {W0 A B : World} {acc : List (List (List UInt8))} (h : OrL Bo RB W0 Pv A acc) (hBo : Bo < W0.heap.size) (hRB : ∀ b, RB b → b < W0.heap.size) (hk : Keep (fun b => ¬ Pv b) A B) (hp : ∀ b, Pv' b → (Pv b ∨ A.heap.size ≤ b)) : OrL Bo RB W0 Pv' B acc := by
  obtain ⟨v, ls, h1, h2, hz, hc, h3, h5, h6⟩ := h
  have hs := h6.size
  refine ⟨v, ls, hk.boxed h1 (fun h => by have := h3 _ h; omega), hk.row h2 h5, fun z hz' => ⟨(hz z hz').1.from hk (fun a ha h0 => ((hz z hz').2 a ha h0).1), fun a ha h0 => ⟨fun hp' => ?_, ((hz z hz').2 a ha h0).2⟩⟩, hc, fun b hb => ?_, fun b hb hp' => ?_, h6.trans (hk.mono fun b _ hb hpb => by have := h3 b hpb; have := hRB b hb; omega)⟩
  · rcases hp _ hp' with h | h
    · exact ((hz z hz').2 a ha h0).1 h
    · have := (hz z hz').1.lt a ha h0; omega
  · rcases hp b hb with h | h
    · exact h3 b h
    · omega
  · rcases hp _ hp' with h | h
    · exact h5 b hb h
    · have := (h2.lt b hb).2; omega
/-- The Eithers of one clause with some. -/
def withL (x : List (List UInt8)) (pre : List Cl) : List (List (List UInt8)) := pre.map fun z => Frm.sortR (x ++ z.2)
theorem withL_snoc (x : List (List UInt8)) (pre : List Cl) (z : Cl) : withL x (pre ++ [z]) = withL x pre ++ [Frm.sortR (x ++ z.2)] := by unfold withL; simp
theorem withL_len (x : List (List UInt8)) (pre : List Cl) : (withL x pre).length = pre.length := by unfold withL; simp
/-- The Eithers of some with all of the other ones. -/
def eithL (zs2 pre : List Cl) : List (List (List UInt8)) := pre.flatMap fun z => withL z.2 zs2
theorem eithL_snoc (zs2 pre : List Cl) (z : Cl) : eithL zs2 (pre ++ [z]) = eithL zs2 pre ++ withL z.2 zs2 := by unfold eithL; simp
theorem eithL_len (zs2 : List Cl) : ∀ pre : List Cl, (eithL zs2 pre).length = pre.length * zs2.length
  | [] => by simp [eithL]
  | z :: r => by
    have ih := eithL_len zs2 r
    unfold eithL at ih ⊢
    rw [List.flatMap_cons, List.length_append, ih, withL_len, List.length_cons, Nat.succ_mul]; omega
theorem eithL_is (zs1 zs2 : List Cl) : eithL zs2 zs1 = eithers (zs1.map Prod.snd) (zs2.map Prod.snd) := by
  unfold eithL eithers withL
  rw [List.flatMap_map]
  congr 1
  funext z
  rw [List.map_map]; rfl
def smallB (l : List (List (List UInt8))) : Bool := l.all fun c => decide (c.length ≤ 16)
theorem orR_small (zs1 zs2 : List Cl) (h : smallB (eithL zs2 zs1) = true) : orR (zs1.map Prod.snd) (zs2.map Prod.snd) = ofF (eithL zs2 zs1) := by
  unfold orR
  rw [← eithL_is]
  exact if_pos h
theorem orR_great (zs1 zs2 : List Cl) (h : smallB (eithL zs2 zs1) = false) : orR (zs1.map Prod.snd) (zs2.map Prod.snd) = .inl 3 := by
  unfold orR
  rw [← eithL_is]
  exact if_neg (by show ¬ smallB (eithL zs2 zs1) = true; rw [h]; simp)
theorem small_app (a b : List (List (List UInt8))) : smallB (a ++ b) = (smallB a && smallB b) := by unfold smallB; rw [List.all_append]
theorem great_of (zs1 zs2 : List Cl) (x y : Cl) (hx : x ∈ zs1) (hy : y ∈ zs2) (h : ¬ (Frm.sortR (x.2 ++ y.2)).length ≤ 16) : smallB (eithL zs2 zs1) = false := by
  unfold smallB
  rw [List.all_eq_false]
  refine ⟨Frm.sortR (x.2 ++ y.2), List.mem_flatMap.2 ⟨x, hx, List.mem_map.2 ⟨y, hy, rfl⟩⟩, ?_⟩
  simpa using h

/-- Where a clause's error has left the loops. -/
def OrX (w : World) (ok : Prop) (W0 : World) (c : Code) (Pv : Nat → Prop) (W : World) : Prop :=
  c = .ret ∧ Boxed W (w.heap.size + 2) 26 (.slice none 0 0) ∧ Boxed W (w.heap.size + 3) 29 (.int .i64 3) ∧ ok ∧ Below w.heap.size w W ∧ (∀ b, Pv b → W0.heap.size ≤ b) ∧ W0.heap.size ≤ W.heap.size
theorem OrX.step {w W0 A B : World} {ok : Prop} {c : Code} {Pv Pv' : Nat → Prop} (h : OrX w ok W0 c Pv A) (h0 : w.heap.size + 4 ≤ W0.heap.size) (hk : Keep (fun b => ¬ Pv b) A B) (hp : ∀ b, Pv' b → (Pv b ∨ A.heap.size ≤ b)) : OrX w ok W0 c Pv' B := by
  obtain ⟨hc, h1, h2, h3, h4, h5, h6⟩ := h
  have hs := hk.size
  refine ⟨hc, hk.boxed h1 (fun h => by have := h5 _ h; omega), hk.boxed h2 (fun h => by have := h5 _ h; omega), h3, h4.trans ((hk.mono fun b _ hb hpb => by have := h5 b hpb; omega).below h4.size), fun b hb => ?_, by omega⟩
  rcases hp b hb with h | h
  · exact h5 b h
  · omega

set_option maxRecDepth 100000 in
set_option maxHeartbeats 16000000 in
theorem Or_any (v1 v2 : Value) (f g : List (List (List UInt8))) (w : World) (h1 : FrmIs w v1 f) (h2 : FrmIs w v2 g) (lf : f.length ≤ 16) (lg : g.length ≤ 16) :
    Calls Tryz.prog 40 #[v1, v2] w (FrmOut (orR f g) w) := by
  obtain ⟨i0, hi0, hz0, hz1, hz2⟩ := info_parts info_cls
  obtain ⟨q1, n1, c1, rfl⟩ := frm_form h1
  obtain ⟨q2, n2, c2, rfl⟩ := frm_form h2
  obtain ⟨_, _, zs1, s1, z1, rfl⟩ := h1.row
  obtain ⟨_, _, zs2, s2, z2, rfl⟩ := h2.row
  rw [List.length_map] at lf lg
  obtain ⟨W1, hW1⟩ : ∃ W1, (((w.alloc (.cells #[.slice q1 n1 c1] 26)).alloc (.cells #[.slice q2 n2 c2] 26)).alloc (.cells #[.slice none 0 0] 26)).alloc (.cells #[.int .i64 0] 29) = W1 := ⟨_, rfl⟩
  have b0 : Boxed W1 w.heap.size 26 (.slice q1 n1 c1) := hW1 ▸ (((Boxed.new w _ _).alloc _).alloc _).alloc _
  have b1 : Boxed W1 (w.heap.size + 1) 26 (.slice q2 n2 c2) := by
    have := ((Boxed.new (w.alloc (.cells #[.slice q1 n1 c1] 26)) 26 (.slice q2 n2 c2)).alloc (.cells #[.slice none 0 0] 26)).alloc (.cells #[.int .i64 0] 29)
    rw [World.size_alloc] at this
    exact hW1 ▸ this
  have bR : Boxed W1 (w.heap.size + 2) 26 (.slice none 0 0) := by
    have := (Boxed.new ((w.alloc (.cells #[.slice q1 n1 c1] 26)).alloc (.cells #[.slice q2 n2 c2] 26)) 26 (.slice none 0 0)).alloc (.cells #[.int .i64 0] 29)
    rw [World.size_alloc, World.size_alloc] at this
    exact hW1 ▸ this
  have bE : Boxed W1 (w.heap.size + 3) 29 (.int .i64 0) := by
    have := Boxed.new (((w.alloc (.cells #[.slice q1 n1 c1] 26)).alloc (.cells #[.slice q2 n2 c2] 26)).alloc (.cells #[.slice none 0 0] 26)) 29 (.int .i64 0)
    rw [World.size_alloc, World.size_alloc, World.size_alloc] at this
    exact hW1 ▸ this
  have A1 : Below w.heap.size w W1 := hW1 ▸ ((((Below.refl _ w).alloc (Nat.le_refl _) _).alloc (by simp) _).alloc (by simp; omega) _).alloc (by simp; omega) _
  have hs1 : W1.heap.size = w.heap.size + 4 := by rw [← hW1]; simp
  obtain ⟨W2, hW2⟩ : ∃ W2, W1.alloc (.cells #[.slice none 0 0] 24) = W2 := ⟨_, rfl⟩
  have bL : Boxed W2 (w.heap.size + 4) 24 (.slice none 0 0) := by
    have := Boxed.new W1 24 (.slice none 0 0)
    rw [hs1] at this
    exact hW2 ▸ this
  have hB2 : Below W1.heap.size W1 W2 := hW2 ▸ below_alloc _
  have hs2 : W2.heap.size = w.heap.size + 5 := by rw [← hW2]; simp [hs1]
  have c0' := (b0.alloc (.cells #[.slice none 0 0] 24)).cell
  have con := frmAll_any q1 n1 c1 W2
  have HW1 := Lib.hid hW1
  have HW2 := Lib.hid hW2
  have A2 := A1.trans (hB2.mono A1.size)
  replace b1 := (Keep.of_below hB2).boxed b1 b1.lt
  replace bR := (Keep.of_below hB2).boxed bR bR.lt
  replace bE := (Keep.of_below hB2).boxed bE bE.lt
  clear hW1 hW2 h1 h2 hB2
  refine (callsIn_wide (n := 1)).1 ?_
  refine callsIn_of_wp_marks Tryz.func40 rfl trivial ?_ rfl
  simp only [Tryz.ntmps40, List.size_toArray, List.length_cons, List.length_nil, Nat.reduceAdd, Nat.reduceSub, Array.replicate_succ, Array.replicate_zero, List.push_toArray, List.append_toArray, List.nil_append, List.cons_append]
  gi_wp2_with fail
  rw [HW1.out]
  gi_wp2_with fail
  rw [HW2.out]
  refine ⟨trivial, (callsIn_wide.2 con).mono ?_⟩
  rintro e W3 ⟨rfl, hW3⟩
  have bv : Boxed W3 (W2.heap.size + 1) 24 (.slice q1 n1 c1) := by
    have := Boxed.new (W2.alloc (.cells #[.slice q1 n1 c1] 26)) 24 (.slice q1 n1 c1)
    rw [World.size_alloc] at this
    exact hW3 ▸ this
  have hbel : Below W2.heap.size W2 W3 := hW3 ▸ ((Below.refl _ W2).alloc (Nat.le_refl _) _).alloc (by simp) _
  have hs3 : W3.heap.size = w.heap.size + 7 := by rw [hW3]; simp [hs2]
  replace b1 := (Keep.of_below hbel).boxed b1 b1.lt
  replace bR := (Keep.of_below hbel).boxed bR bR.lt
  replace bE := (Keep.of_below hbel).boxed bE bE.lt
  replace bL := (Keep.of_below hbel).boxed bL bL.lt
  have A3 := A2.trans (hbel.mono A2.size)
  have hl1 := s1.1
  have hl2 := s2.1
  obtain ⟨RK, hRK⟩ : ∃ RK : Nat → Prop, RK = fun b => b < w.heap.size + 7 ∧ b ≠ w.heap.size + 4 := ⟨_, rfl⟩
  obtain ⟨RB, hRB⟩ : ∃ RB : Nat → Prop, RB = fun b => RK b ∧ b ≠ w.heap.size + 2 ∧ b ≠ w.heap.size + 3 := ⟨_, rfl⟩
  have rk := Lib.hid (show ∀ b, RK b ↔ b < w.heap.size + 7 ∧ b ≠ w.heap.size + 4 from fun b => by rw [hRK])
  have rb := Lib.hid (show ∀ b, RB b ↔ RK b ∧ b ≠ w.heap.size + 2 ∧ b ≠ w.heap.size + 3 from fun b => by rw [hRB])
  have rbo : ∀ b, b < w.heap.size → RB b := fun b hb => (rb.out b).2 ⟨(rk.out b).2 (by omega), by omega, by omega⟩
  have rkl : ∀ b, RK b → b < W3.heap.size := fun b hb => by have := (rk.out b).1 hb; omega
  have rbl : ∀ b, RB b → b < W3.heap.size := fun b hb => rkl b ((rb.out b).1 hb).1
  have hit := Values1_iter (W2.heap.size + 1) q1 n1 c1 zs1 RB W3 (by omega) (s1.below A3 s1.lt) (fun a h h' => rbo _ (s1.lt a h h')) bv ((rb.out _).2 ⟨(rk.out _).2 (by omega), by omega, by omega⟩) rbl
  rw [hs2] at hit
  have hbo : w.heap.size + 4 < W3.heap.size := by omega
  clear con bv hW3 hbel HW1 HW2 hRK hRB c0'
  gi_wp2
  refine rf_law (gf := 100) (lb := #[.pointer (some ⟨w.heap.size + 5 + 1, 0, none⟩)]) rfl (enters_of Tryz.func100 (by kernel_rfl) rfl)
    hit (Keep.refl _ _) rbl (fun x args G W h => by rw [h.1]; rfl)
    (fun pre Pv W => OrL (w.heap.size + 4) RK W3 Pv W (eithL zs2 pre) ∧ smallB (eithL zs2 pre) = true)
    (fun cc pre Pv W => OrX w (smallB (eithL zs2 zs1) = false) W3 cc Pv W)
    (fun s Pv Pv' A B h hk hp => ⟨h.1.step hbo rkl hk (fun b hb => (hp b hb).1), h.2⟩)
    (fun cc s Pv Pv' A B h hk hp => h.step (by omega) hk (fun b hb => (hp b hb).1))
    ⟨⟨_, [], bL, World.ownsRow_nil _ _ _ _, (fun z hz => by cases hz), rfl, (fun _ h => h.elim), (fun _ h => by cases h), Keep.refl _ _⟩, rfl⟩ ?round ?done ?stop
  case round =>
    rintro ll pre ⟨⟨xq, xn, xc⟩, x⟩ rest Pv G args Wr hll hxs ⟨hOL, hsm⟩ hPl hGl hPb hGP ⟨harg, rfl⟩
    obtain rfl : args = #[.agg #[.slice xq xn xc]] := harg
    have hxm : ((xq, xn, xc), x) ∈ zs1 := by rw [hxs]; simp
    have hpl : pre.length + 1 ≤ 16 := by
      have := lf
      rw [hxs, List.length_append, List.length_cons] at this
      omega
    have hll2 := hPb ll hPl
    have hge0 : ∀ b, Pv b → W3.heap.size ≤ b := by obtain ⟨_, _, _, _, _, _, h, _⟩ := hOL; exact h
    have hK0 : Keep RK W3 Wr := by obtain ⟨_, _, _, _, _, _, _, _, h⟩ := hOL; exact h
    clear hxs hit
    gi_wp2
    refine ⟨Keep.alloc _ _ _, fun W5 hk5 hs5 r hr => ?_⟩
    have hka := Keep.alloc (fun _ => True) Wr (.cells #[.slice xq xn xc] 82)
    have bx := hk5.boxed (Boxed.new Wr 82 (.slice xq xn xc)) (by omega)
    have hk5' : Keep (fun b => ¬ Pv b) Wr W5 := (hka.mono fun _ _ _ => trivial).trans (hk5.mono fun b _ hb h => hb (h ▸ hPl))
    have hK5 : Keep RK W3 W5 := hK0.trans (hk5'.mono fun b _ hb h => by have := hge0 b h; have := rkl b hb; omega)
    have hsr : Wr.heap.size < W5.heap.size := bx.lt
    have hsz0 := hK0.size
    have A5 : Below w.heap.size w W5 := A3.trans ((hK5.mono fun b _ h => (rk.out b).2 (by omega)).below A3.size)
    have b15 := hK5.boxed b1 ((rk.out _).2 (by omega))
    have con2 := frmAll_any q2 n2 c2 W5
    have c1' := b15.cell
    clear hk5 hka hs5 hK0
    gi_wp2_with fail
    refine ⟨trivial, rfl, (CallsIn.inRound ll (callsIn_wide.2 con2)).mono ?_⟩
    rintro e W6 ⟨rfl, hW6⟩
    have bv2 : Boxed W6 (W5.heap.size + 1) 24 (.slice q2 n2 c2) := by
      have := Boxed.new (W5.alloc (.cells #[.slice q2 n2 c2] 26)) 24 (.slice q2 n2 c2)
      rw [World.size_alloc] at this
      exact hW6 ▸ this
    have hbel6 : Below W5.heap.size W5 W6 := hW6 ▸ ((Below.refl _ W5).alloc (Nat.le_refl _) _).alloc (by simp) _
    have hs6 : W6.heap.size = W5.heap.size + 2 := by rw [hW6]; simp
    have kb6 := Keep.of_below hbel6
    have hl6 : W6.heap[ll]? = some (.loop r) := (hbel6.block ll (by omega)).trans hr
    have bx6 := kb6.boxed bx bx.lt
    have A6 := A5.trans (hbel6.mono A5.size)
    have hsz5 : W3.heap.size ≤ W5.heap.size := hK5.size
    obtain ⟨Fx, hFx⟩ : ∃ Fx : Nat → Prop, Fx = fun b => Pv b ∨ b = Wr.heap.size ∨ b = W5.heap.size + 1 := ⟨_, rfl⟩
    have fx := Lib.hid (show ∀ b, Fx b ↔ Pv b ∨ b = Wr.heap.size ∨ b = W5.heap.size + 1 from fun b => by rw [hFx])
    have fxl : ∀ b, Fx b → b < W6.heap.size := fun b hb => by
      rcases (fx.out b).1 hb with h | h | h
      · have := hPb b h; omega
      · omega
      · omega
    have hit2 := Values1_iter (W5.heap.size + 1) q2 n2 c2 zs2 (fun b => RB b ∨ b = W5.heap.size + 1) W6 (by omega) (s2.below A6 s2.lt) (fun a h h' => .inl (rbo _ (s2.lt a h h'))) bv2 (.inr rfl) (fun b hb => by
      rcases hb with h | h
      · have := rbl b h; omega
      · omega)
    have hOL6 : OrL (w.heap.size + 4) RK W3 Fx W6 (eithL zs2 pre) := hOL.step hbo rkl (hk5'.trans (kb6.mono fun b hb _ => by omega)) (fun b hb => by
      rcases (fx.out b).1 hb with h | h | h
      · exact .inl h
      · exact .inr (by omega)
      · exact .inr (by omega))
    have hOL7 : OrL (w.heap.size + 4) RK W3 (fun b => Fx b ∨ False) W6 (eithL zs2 pre ++ withL x []) := by
      rw [show withL x [] = [] from rfl, List.append_nil]
      exact hOL6.step hbo rkl (Keep.refl _ _) (fun b (hb : Fx b ∨ False) => hb.elim .inl (fun h => h.elim))
    clear con2 hW6 hbel6 bv2 hFx c1' hOL hOL6
    gi_wp2
    refine rf_lawN (l₀ := ll) ⟨_, hl6⟩ (gf := 100) (lb := #[.pointer (some ⟨W5.heap.size + 1, 0, none⟩)]) rfl (enters_of Tryz.func100 (by kernel_rfl) rfl)
      hit2 (Keep.refl _ _) (fun b hb => by rcases hb with h | h; (have := rbl b h; omega); omega) (fun x args G W h => by rw [h.1]; rfl)
      (fun pre2 Pv2 W => OrL (w.heap.size + 4) RK W3 (fun b => Fx b ∨ Pv2 b) W (eithL zs2 pre ++ withL x pre2) ∧ smallB (withL x pre2) = true ∧ Keep (fun b => RB b ∨ Fx b) W6 W ∧ (∀ b, Pv2 b → W6.heap.size ≤ b))
      (fun cc pre2 Pv2 W => OrX w (smallB (eithL zs2 zs1) = false) W3 cc (fun b => Fx b ∨ Pv2 b) W ∧ Keep (fun b => RB b ∨ Fx b) W6 W ∧ (∀ b, Pv2 b → W6.heap.size ≤ b))
      ?ab1 ?ab2 ⟨hOL7, rfl, Keep.refl _ _, (fun _ h => h.elim)⟩ ?round2 ?done2 ?stop2
    case ab1 =>
      rintro s Pv2 Pv2' A B ⟨h1, h2, h3, h4⟩ hk hp
      have hsA := h3.size
      have hno : ∀ b, b < W6.heap.size → ¬ Pv2 b := fun b hb h => by have := h4 b h; omega
      refine ⟨h1.step hbo rkl (hk.mono fun b _ hb h => hb (.inr h)) (fun b hb => ?_), h2, h3.trans (hk.mono fun b _ hb => hno b ?_), fun b hb => ?_⟩
      · rcases hb with h | h
        · exact .inl (.inl h)
        · rcases (hp b h).1 with h | h
          · exact .inl (.inr h)
          · exact .inr h
      · rcases hb with h | h
        · have := rbl b h; omega
        · exact fxl b h
      · rcases (hp b hb).1 with h | h
        · exact h4 b h
        · omega
    case ab2 =>
      rintro cc s Pv2 Pv2' A B ⟨h1, h3, h4⟩ hk hp
      have hsA := h3.size
      have hno : ∀ b, b < W6.heap.size → ¬ Pv2 b := fun b hb h => by have := h4 b h; omega
      refine ⟨h1.step (by omega) (hk.mono fun b _ hb h => hb (.inr h)) (fun b hb => ?_), h3.trans (hk.mono fun b _ hb => hno b ?_), fun b hb => ?_⟩
      · rcases hb with h | h
        · exact .inl (.inl h)
        · rcases (hp b h).1 with h | h
          · exact .inl (.inr h)
          · exact .inr h
      · rcases hb with h | h
        · have := rbl b h; omega
        · exact fxl b h
      · rcases (hp b hb).1 with h | h
        · exact h4 b h
        · omega
    case round2 =>
      rintro ll2 pre2 ⟨⟨yq, yn, yc⟩, y⟩ rest2 Pv2 G2 args2 Wq hll3 hys ⟨⟨v, ls, hbx, hrow, hzs, hacc, hge, hnv, hKW⟩, hsm2, hKF, hge2⟩ hPl2 hGl2 hPb2 hGP2 ⟨harg2, rfl⟩
      obtain rfl : args2 = #[.agg #[.slice yq yn yc]] := harg2
      have hym : ((yq, yn, yc), y) ∈ zs2 := by rw [hys]; simp
      have hpl2 : pre2.length + 1 ≤ 16 := by
        have := lg
        rw [hys, List.length_append, List.length_cons] at this
        omega
      have hll4 := hPb2 ll2 hPl2
      have hsq : W6.heap.size ≤ Wq.heap.size := hKF.size
      have hsq3 : W3.heap.size ≤ Wq.heap.size := hKW.size
      clear hys hit2 hOL7
      gi_wp2
      refine ⟨Keep.alloc _ _ _, fun W8 hk8 hs8 r2 hr2 => ?_⟩
      have hka := Keep.alloc (fun _ => True) Wq (.cells #[.slice yq yn yc] 82)
      have bx2 := hk8.boxed (Boxed.new Wq 82 (.slice yq yn yc)) (by omega)
      have hk8' : Keep (fun b => ¬ Pv2 b) Wq W8 := (hka.mono fun _ _ _ => trivial).trans (hk8.mono fun b _ hb h => hb (h ▸ hPl2))
      have hk8f : Keep (fun b => ¬ (Fx b ∨ Pv2 b)) Wq W8 := hk8'.mono fun b _ hb h => hb (.inr h)
      have hn2 : ∀ b, b < W6.heap.size → ¬ Pv2 b := fun b hb h => by have := hge2 b h; omega
      replace hbx := hk8f.boxed hbx (fun h => by have := hge _ h; omega)
      replace hrow := hk8f.row hrow hnv
      replace hzs : ∀ z ∈ ls, ClAt W8 z ∧ ∀ a, z.1.1 = some a → 0 < z.1.2.1 → ¬ (Fx a.block ∨ Pv2 a.block) ∧ W3.heap.size ≤ a.block ∧ v.ownBlock ≠ some a.block := fun z hz => ⟨(hzs z hz).1.from hk8f (fun a ha h0 => ((hzs z hz).2 a ha h0).1), (hzs z hz).2⟩
      have hK8 : Keep RK W3 W8 := hKW.trans (hk8'.mono fun b _ hb => hn2 b (by have := rkl b hb; omega))
      have hKF8 : Keep (fun b => RB b ∨ Fx b) W6 W8 := hKF.trans (hk8'.mono fun b _ hb => hn2 b (by
        rcases hb with h | h
        · have := rbl b h; omega
        · exact fxl b h))
      have bx8 := hKF8.boxed bx6 (.inr ((fx.out _).2 (.inr (.inl rfl))))
      have hPl8 : ∀ b, Pv2 b → b < W8.heap.size := fun b hb => Nat.lt_of_lt_of_le (hPb2 b hb) hk8'.size
      have hsz8 : W6.heap.size ≤ W8.heap.size := hKF8.size
      have hsz83 : W3.heap.size ≤ W8.heap.size := hK8.size
      have A8 : Below w.heap.size w W8 := A3.trans ((hK8.mono fun b _ h => (rk.out b).2 (by omega)).below A3.size)
      have bR8 := hK8.boxed bR ((rk.out _).2 (by omega))
      have bE8 := hK8.boxed bE ((rk.out _).2 (by omega))
      have hx8 := (z1 _ hxm).below A8
      have hy8 := (z2 _ hym).below A8
      have con := Cls.Either_new (.agg #[.slice xq xn xc]) (.agg #[.slice yq yn yc]) x y W8 hx8.set hy8.set (Nat.le_trans hx8.few (by decide)) (Nat.le_trans hy8.few (by decide))
      rw [either_sort x y hx8.rise hy8.rise] at con
      have cx := bx8.cell
      have cy := bx2.cell
      have hln : ls.length ≤ 1000 := by
        have h1 := congrArg List.length hacc
        rw [List.length_map, List.length_append, eithL_len, withL_len] at h1
        have h2 : pre.length * zs2.length ≤ 16 * 16 := Nat.mul_le_mul (by omega) lg
        omega
      have HA := Lib.hid hacc
      clear hk8 hk8f hka hs8 hKW hKF hx8 hy8 hr2 hacc
      by_cases hlen : (Frm.sortR (x ++ y)).length ≤ 16
      · rw [if_pos hlen] at con
        have HSM := Lib.hid (show smallB (withL x (pre2 ++ [((yq, yn, yc), y)])) = true by
          rw [withL_snoc, small_app, hsm2]
          simp [smallB, hlen])
        have HW := Lib.hid (withL_snoc x pre2 ((yq, yn, yc), y))
        obtain ⟨cv, hcv⟩ : ∃ cv, Frm.sortR (x ++ y) = cv := ⟨_, rfl⟩
        simp only [hcv] at HW
        rw [hcv] at con hlen
        clear hcv
        gi_wp2_with fail
        refine ⟨trivial, rfl, (CallsIn.inRound ll2 (callsIn_wide.2 con)).mono ?_⟩
        rintro e w6 ⟨q6, n6, c6, rfl, hs6', hq6, hb6⟩
        have kb := Keep.of_below hb6
        have hsz6 := hb6.size
        have hbx7 := (kb.boxed hbx hbx.lt).alloc (.cells #[.slice q6 n6 c6] 82)
        have hrow7 := (kb.row hrow (fun b hb => (hrow.lt b hb).2)).alloc (.cells #[.slice q6 n6 c6] 82)
        have cB := hbx7.cell
        have cC := (Boxed.new w6 82 (.slice q6 n6 c6)).cell
        have hz1' : (w6.alloc (.cells #[.slice q6 n6 c6] 82)).heap.size = w6.heap.size + 1 := by simp
        clear con
        unfold errC
        gi_wp2_with (gi_at_builtin; go_must (refine wpListIn_append_own_at _ rfl _ _ 24 rfl W3.heap.size 82 i0 (.agg #[.slice none 0 0]) 1 24 Tryz.underlying24 hi0 hz0 hz1 hz2 rfl (by decide) _ _ _ rfl (hrow7.alloc _) ⟨w6.heap.size + 1, 0, none⟩ 1 1 [.slice q6 n6 c6] rfl rfl (by rw [← hz1']; exact cell_one_new _ _ _) (by simp [Value.oneCell']) (by unfold maxLen; omega) (by omega) (by simp; omega) ?_); intro v' w1 hown' hgrow _ hat; obtain ⟨g', cap', rfl⟩ := ownsRow_succ hown'; obtain ⟨hv1, hv2, hr2, hkk⟩ := appended_keep (S := fun b => b ≠ w.heap.size + 4 ∧ v.ownBlock ≠ some b) hbx7 (by decide) hrow7 (fun h => h.1 rfl) (fun b hb h => h.2 hb) hown' hgrow; have hc1 := hv1.cell; have hf1 := hv1.frozen)
        have hat' : some g' = v.ownBlock ∨ some g' = some ((w6.alloc (.cells #[.slice q6 n6 c6] 82)).alloc (.cells #[.slice q6 n6 c6] 82)).heap.size := hat
        have hg : ∀ b, some g' = some b → v.ownBlock = some b ∨ w6.heap.size + 2 ≤ b := fun b hb => by
          rcases hat' with h | h
          · exact .inl (h ▸ hb)
          · rw [hb] at h
            have := Option.some.inj h
            simp at this
            exact .inr (by omega)
        have hk6 : ∀ S : Nat → Prop, (∀ b, S b → b < w6.heap.size ∧ b ≠ w.heap.size + 4 ∧ v.ownBlock ≠ some b) → Keep S w6 (w1.setCell ⟨w.heap.size + 4, 0, none⟩ (.slice (some ⟨g', 0, none⟩) (ls.length + 1) cap')) := fun S hS => (Keep.alloc S _ _).trans (hkk.mono fun b _ h => (hS b h).2)
        have hk5 : ∀ S : Nat → Prop, (∀ b, S b → b < W8.heap.size ∧ b ≠ w.heap.size + 4 ∧ v.ownBlock ≠ some b) → Keep S W8 (w1.setCell ⟨w.heap.size + 4, 0, none⟩ (.slice (some ⟨g', 0, none⟩) (ls.length + 1) cap')) := fun S hS => (kb.mono fun b _ h => (hS b h).1).trans (hk6 S fun b h => ⟨by have := (hS b h).1; omega, (hS b h).2⟩)
        have hown5 : ∀ b, v.ownBlock = some b → W3.heap.size ≤ b ∧ b < W8.heap.size := fun b hb => hrow.lt b hb
        have hz6 : ClAt w6 ((q6, n6, c6), cv) := ⟨hs6', hlen⟩
        have hkr : ∀ b, RB b ∨ Fx b → b < W8.heap.size ∧ b ≠ w.heap.size + 4 ∧ v.ownBlock ≠ some b := fun b hb => by
          rcases hb with h | h
          · have h2 := rbl b h
            have h3 := (rk.out b).1 ((rb.out b).1 h).1
            exact ⟨by omega, h3.2, fun e => by have := (hown5 b e).1; omega⟩
          · have h2 := fxl b h
            exact ⟨by omega, fun e => by have := hge b (.inl h); omega, fun e => hnv b e (.inl h)⟩
        refine ⟨hk5 _ (fun b hb => ?_), ⟨_, ls ++ [((q6, n6, c6), cv)], hv2, by simpa [encC] using hr2, fun z hz => ?_, ?_, fun b hb => hge b hb, fun b hb hp => ?_, hK8.trans (hk5 _ (fun b hb => ?_))⟩, HSM.out, hKF8.trans (hk5 _ hkr), fun b hb => by have := hge2 b hb; omega⟩
        · rcases hb with (h | h) | h
          · exact hkr b (.inl h)
          · exact hkr b (.inr ((fx.out b).2 (.inr (.inr h))))
          · exact ⟨hPl8 b h, fun e => by have := hge2 b h; omega, fun e => hnv b e (.inr h)⟩
        · rcases List.mem_append.1 hz with h | h
          · obtain ⟨k1, k2⟩ := hzs z h
            refine ⟨k1.from (hk5 (fun b => b < W8.heap.size ∧ b ≠ w.heap.size + 4 ∧ v.ownBlock ≠ some b) (fun b hb => hb)) (fun a ha h0 => ?_), fun a ha h0 => ?_⟩
            · obtain ⟨j1, j2, j3⟩ := k2 a ha h0
              exact ⟨k1.lt a ha h0, by omega, j3⟩
            · obtain ⟨j1, j2, j3⟩ := k2 a ha h0
              refine ⟨j1, j2, fun e => ?_⟩
              rcases hg a.block e with h | h
              · exact j3 h
              · have := k1.lt a ha h0; omega
          · rw [List.mem_singleton.1 h]
            refine ⟨hz6.from (hk6 (fun b => b < w6.heap.size ∧ b ≠ w.heap.size + 4 ∧ v.ownBlock ≠ some b) (fun b hb => hb)) (fun a ha h0 => ?_), fun a ha h0 => ?_⟩
            · have j := hq6 a ha
              exact ⟨hz6.lt a ha h0, by omega, fun e => by have := (hown5 _ e).2; omega⟩
            · have j := hq6 a ha
              refine ⟨fun hp => ?_, by omega, fun e => ?_⟩
              · rcases hp with hp | hp
                · have := fxl _ hp; omega
                · have := hPl8 _ hp; omega
              · rcases hg a.block e with h | h
                · have := (hown5 _ h).2; omega
                · have := hz6.lt a ha h0; omega
        · rw [List.map_append, HA.out, HW.out, List.append_assoc]; rfl
        · rcases hg b hb with h | h
          · exact hnv b h hp
          · rcases hp with hp | hp
            · have := fxl b hp; omega
            · have := hPl8 b hp; omega
        · have h2 := rkl b hb
          exact ⟨by omega, ((rk.out b).1 hb).2, fun e => by have := (hown5 b e).1; omega⟩
      · rw [if_neg hlen] at con
        have HG := Lib.hid (great_of zs1 zs2 ((xq, xn, xc), x) ((yq, yn, yc), y) hxm hym hlen)
        clear hlen hzs hrow hbx
        gi_wp2_with fail
        refine ⟨trivial, rfl, (CallsIn.inRound ll2 (callsIn_wide.2 con)).mono ?_⟩
        rintro e w6 ⟨q6, n6, c6, rfl, hs6', hq6, hb6⟩
        have kb := Keep.of_below hb6
        have bR6 := (kb.boxed bR8 bR8.lt).alloc (.cells #[.slice q6 n6 c6] 82)
        have bE6 := (kb.boxed bE8 bE8.lt).alloc (.cells #[.slice q6 n6 c6] 82)
        have kf := bR6.frozen
        have kc := bR6.cell
        have b3 := bR6.set (.slice none 0 0)
        have e3 := (Keep.setCell (S := fun b => b = w.heap.size + 3) (w6.alloc (.cells #[.slice q6 n6 c6] 82)) ⟨w.heap.size + 2, 0, none⟩ (.slice none 0 0) (by simp)).boxed bE6 rfl
        have ef3 := e3.frozen
        have ec3 := e3.cell
        have b4 := (Keep.setCell (S := fun b => b = w.heap.size + 2) ((w6.alloc (.cells #[.slice q6 n6 c6] 82)).setCell ⟨w.heap.size + 2, 0, none⟩ (.slice none 0 0)) ⟨w.heap.size + 3, 0, none⟩ (.int .i64 3) (by simp)).boxed b3 rfl
        have e4 := e3.set (.int .i64 3)
        clear con hs6'
        unfold errC
        gi_wp2
        have kq : ∀ (S : Nat → Prop), (∀ b, S b → b < W8.heap.size ∧ b ≠ w.heap.size + 2 ∧ b ≠ w.heap.size + 3) → Keep S W8 (((w6.alloc (.cells #[.slice q6 n6 c6] 82)).setCell ⟨w.heap.size + 2, 0, none⟩ (.slice none 0 0)).setCell ⟨w.heap.size + 3, 0, none⟩ (.int .i64 3)) := fun S h0 =>
          (((kb.mono fun b _ hb => (h0 b hb).1).trans (Keep.alloc S _ _)).trans (Keep.setCell _ _ _ (fun h => (h0 _ h).2.1 rfl))).trans (Keep.setCell _ _ _ (fun h => (h0 _ h).2.2 rfl))
        have hA6 := (((A8.trans (hb6.mono A8.size)).alloc (by have := (A8.trans (hb6.mono A8.size)).size; exact this) (.cells #[.slice q6 n6 c6] 82)).setCell (p := ⟨w.heap.size + 2, 0, none⟩) (by simp) (.slice none 0 0)).setCell (p := ⟨w.heap.size + 3, 0, none⟩) (by simp) (.int .i64 3)
        have hz6 : W3.heap.size ≤ (((w6.alloc (.cells #[.slice q6 n6 c6] 82)).setCell ⟨w.heap.size + 2, 0, none⟩ (.slice none 0 0)).setCell ⟨w.heap.size + 3, 0, none⟩ (.int .i64 3)).heap.size := Nat.le_trans hsz83 (kq (fun _ => False) (fun _ h => h.elim)).size
        have hkr : ∀ b, RB b ∨ Fx b → b < W8.heap.size ∧ b ≠ w.heap.size + 2 ∧ b ≠ w.heap.size + 3 := fun b hb => by
          rcases hb with h | h
          · have h2 := rbl b h
            exact ⟨by omega, ((rb.out b).1 h).2⟩
          · have h2 := fxl b h
            have h3 := hge b (.inl h)
            exact ⟨by omega, by omega, by omega⟩
        refine ⟨kq _ (fun b hb => ?_), ⟨rfl, b4, e4, HG.out, hA6, fun b hb => hge b hb, hz6⟩, hKF8.trans (kq _ hkr), fun b hb => by have := hge2 b hb; omega⟩
        rcases hb with (h | h) | h
        · exact hkr b (.inl h)
        · exact hkr b (.inr ((fx.out b).2 (.inr (.inr h))))
        · have := hge2 b h
          exact ⟨hPl8 b h, by omega, by omega⟩
    case done2 =>
      rintro Pv2 Wd hPl2 ⟨hOL2, hsm2, hKF, hge2⟩
      gi_wp2
      refine ⟨(kb6.mono fun b hb _ => hb).trans (hKF.mono fun b _ h => ?_), ?_, ?_⟩
      · rcases h with h | h
        · exact .inl h
        · exact .inr ((fx.out b).2 (.inl h))
      · rw [eithL_snoc]
        exact hOL2.step hbo rkl (Keep.refl _ _) (fun b hb => .inl (.inl ((fx.out b).2 (.inl hb))))
      · rw [eithL_snoc, small_app, hsm, hsm2]; rfl
    case stop2 =>
      rintro cc pre2 rest2 Pv2 Wd hPl2 hys ⟨hX, hKF, hge2⟩
      obtain rfl := hX.1
      clear hys
      gi_wp2
      refine ⟨(kb6.mono fun b hb _ => hb).trans (hKF.mono fun b _ h => ?_), ?_⟩
      · rcases h with h | h
        · exact .inl h
        · exact .inr ((fx.out b).2 (.inl h))
      · exact hX.step (by omega) (Keep.refl _ _) (fun b hb => .inl (.inl ((fx.out b).2 (.inl hb))))
  case done =>
    rintro D Pv Wd hD hPD hPl ⟨⟨v, ls, hbx, hrow, hzs, hacc, hge, hnv, hKW⟩, hsm⟩ hK
    obtain ⟨q5, c5, rfl, hc5, _, hs5, _⟩ := slIn_of_owns hrow
    have bRd := hKW.boxed bR ((rk.out _).2 (by omega))
    have bEd := hKW.boxed bE ((rk.out _).2 (by omega))
    have hBd : Below w.heap.size w Wd := A3.trans ((hKW.mono fun b _ h => (rk.out b).2 (by omega)).below A3.size)
    have HR := Lib.hid (show orR (zs1.map Prod.snd) (zs2.map Prod.snd) = ofF (ls.map Prod.snd) by rw [hacc]; exact orR_small zs1 zs2 hsm)
    have hln : ls.length ≤ 1099511627776 := by
      have h1 := congrArg List.length hacc
      rw [List.length_map, eithL_len] at h1
      have h2 : zs1.length * zs2.length ≤ 16 * 16 := Nat.mul_le_mul lf lg
      omega
    have con := Of_any q5 ls.length c5 (ls.map Prod.snd) Wd ⟨ls, hs5, fun z hz => (hzs z hz).1, rfl⟩ (fun h => by subst h; exact (Cls.row_nil hrow).2) hln
    rw [← HR.out] at con
    have cB := hbx.cell
    have hDl := hPl D hPD
    clear hs5 hrow hbx hnv hge hKW hit hzs hacc bL hsm hl1 hl2
    generalize orR (zs1.map Prod.snd) (zs2.map Prod.snd) = r at *
    gi_wp2_with fail
    refine ⟨trivial, (callsIn_wide.2 con).mono ?_⟩
    rintro e w6 ⟨q6, n6, c6, rfl, hs6, hq6, hb6⟩
    have hD6 : w6.heap[D]? = some (.deferred (some [])) := (hb6.block D hDl).trans hK
    have hsd := hBd.size
    have hDg : w.heap.size + 7 ≤ D := by omega
    have hqn : ∀ a, q6 = some a → w.heap.size ≤ a.block := fun a ha => Nat.le_trans hsd (hq6 a ha)
    replace hq6 : ∀ a, q6 = some a → a.block ≠ w.heap.size + 2 ∧ a.block ≠ w.heap.size + 3 := fun a ha => by have := hq6 a ha; have := bEd.lt; omega
    have bR6 := (Keep.of_below hb6).boxed bRd bRd.lt
    have bE6 := (Keep.of_below hb6).boxed bEd bEd.lt
    have A6 := hBd.trans (hb6.mono hBd.size)
    have kf := bR6.frozen
    have kc := bR6.cell
    have b3 := bR6.set (.slice q6 n6 c6)
    have f3 := hs6.set (u' := .slice q6 n6 c6) bR6 (fun x h => by cases h) (fun a ha => (hq6 a ha).1)
    have e3 := (Keep.setCell (S := fun b => b = w.heap.size + 3) w6 ⟨w.heap.size + 2, 0, none⟩ (.slice q6 n6 c6) (by simp)).boxed bE6 rfl
    have ef3 := e3.frozen
    have ec3 := e3.cell
    have hD7 := (Keep.setCell (S := fun b => b = D) w6 ⟨w.heap.size + 2, 0, none⟩ (.slice q6 n6 c6) (by simp; omega)).heap rfl hD6
    have A7 := A6.setCell (p := ⟨w.heap.size + 2, 0, none⟩) (by simp) (.slice q6 n6 c6)
    clear con hb6
    gi_wp2
    have b4 := (Keep.setCell (S := fun b => b = w.heap.size + 2) (w6.setCell ⟨w.heap.size + 2, 0, none⟩ (.slice q6 n6 c6)) ⟨w.heap.size + 3, 0, none⟩ (.int .i64 (frmE r)) (by simp)).boxed b3 rfl
    have e4 := e3.set (.int .i64 (frmE r))
    have f4 := f3.set (u' := .int .i64 (frmE r)) e3 (fun x h => by cases h) (fun a ha => (hq6 a ha).2)
    have hD8 := (Keep.setCell (S := fun b => b = D) (w6.setCell ⟨w.heap.size + 2, 0, none⟩ (.slice q6 n6 c6)) ⟨w.heap.size + 3, 0, none⟩ (.int .i64 (frmE r)) (by simp; omega)).heap rfl hD7
    have A8 := A7.setCell (p := ⟨w.heap.size + 3, 0, none⟩) (by simp) (.int .i64 (frmE r))
    refine ⟨by simp, .inl ⟨_, _, rfl, run_takeDeferred hD8, ?_⟩⟩
    have hkP : ∀ S : Nat → Prop, ¬ S D → Keep S ((w6.setCell ⟨w.heap.size + 2, 0, none⟩ (.slice q6 n6 c6)).setCell ⟨w.heap.size + 3, 0, none⟩ (.int .i64 (frmE r))) (((w6.setCell ⟨w.heap.size + 2, 0, none⟩ (.slice q6 n6 c6)).setCell ⟨w.heap.size + 3, 0, none⟩ (.int .i64 (frmE r))).putObj D (.deferred none)) := fun S hS => Keep.putObj _ D (.deferred none) hS
    refine ⟨_, ret_frm22 rfl _ _ (w.heap.size + 2) (w.heap.size + 3) _ _ rfl rfl ((hkP (fun b => b = w.heap.size + 2) (by omega)).boxed b4 rfl) ((hkP (fun b => b = w.heap.size + 3) (by omega)).boxed e4 rfl).cell, q6, n6, c6, rfl, f4.put hD8, hqn, ?_⟩
    exact ((Keep.of_below A8).trans (hkP _ (by omega))).below (Nat.le_refl _)
  case stop =>
    rintro D cc pre rest Pv Wd hD hPD hPl hxs ⟨rfl, hR, hE, hG, hBd, hge, hsz⟩ hK
    clear hxs
    have HR := Lib.hid (orR_great zs1 zs2 hG)
    have hDg : w.heap.size + 7 ≤ D := by omega
    gi_wp2
    refine ⟨by simp, .inl ⟨_, _, rfl, run_takeDeferred hK, ?_⟩⟩
    have hkP : ∀ S : Nat → Prop, ¬ S D → Keep S Wd (Wd.putObj D (.deferred none)) := fun S hS => Keep.putObj _ D (.deferred none) hS
    refine ⟨_, ret_frm22 rfl _ _ (w.heap.size + 2) (w.heap.size + 3) _ _ rfl rfl ((hkP (fun b => b = w.heap.size + 2) (by omega)).boxed hR rfl) ((hkP (fun b => b = w.heap.size + 3) (by omega)).boxed hE rfl).cell, ?_⟩
    rw [HR.out]
    exact ⟨none, 0, 0, rfl, frm_nil _, (fun a h => by cases h), ((Keep.of_below hBd).trans (hkP _ (by omega))).below (Nat.le_refl _)⟩

end Go.Proofs.YtdlofjcblcpgpaaGreatDoor.Frm

namespace Go.Proofs.YtdlofjcblcpgpaaGreatDoor.Frm
open Go.RowKit Go.Shelf Go.Sort Url Org Cls
attribute [local go_sem] Oper.semAt_some
set_option linter.unusedVariables false

/-! ### lives -/
theorem liveP1_sort : sortR [liveA] = [liveA] := by decide +kernel
/-! ### Of -/
/-! ### what is told, collected -/
end Go.Proofs.YtdlofjcblcpgpaaGreatDoor.Frm

namespace Go.Proofs.YtdlofjcblcpgpaaGreatDoor.Lbl
open Go.RowKit Go.Shelf Go.Sort Url Org Cls Frm
attribute [local go_sem] Oper.semAt_some
set_option linter.unusedVariables false

/-- The value v is the label l, in w. -/
def LabIs (w : World) (v : Value) (l : Lab) : Prop := ∃ q1 n1 c1 q2 n2 c2, v = .agg #[.slice q1 n1 c1, .slice q2 n2 c2] ∧ FrmIs w (.agg #[.slice q1 n1 c1]) l.s ∧ FrmIs w (.agg #[.slice q2 n2 c2]) l.i
theorem LabIs.below {w w' : World} {v : Value} {l : Lab} (h : LabIs w v l) (hb : Below w.heap.size w w') : LabIs w' v l := by
  obtain ⟨q1, n1, c1, q2, n2, c2, rfl, h1, h2⟩ := h
  exact ⟨q1, n1, c1, q2, n2, c2, rfl, h1.below hb, h2.below hb⟩
/-- Block B holds a label's cells. -/
def LB (B : Nat) (cs : Array Value) (X : World) : Prop := X.heap[B]? = some (.cells cs 28 (0, 0))
theorem LB.box {B : Nat} {cs : Array Value} {X : World} (h : LB B cs X) : Box B cs X := fun i x hx => by
  simp only [World.cell?, show X.heap[B]? = _ from h]; exact hx
theorem LB.frozen {B : Nat} {cs : Array Value} {X : World} (h : LB B cs X) (i : Nat) : X.frozen? ⟨B, i, none⟩ = false := by
  simp [World.frozen?, show X.heap[B]? = _ from h]
theorem LB.on {B : Nat} {cs : Array Value} {X Y : World} (h : LB B cs X) (hk : Below X.heap.size X Y) : LB B cs Y := (hk.block B (Array.getElem?_eq_some_iff.1 h).1).trans h
theorem LB.lt {B : Nat} {cs : Array Value} {X : World} (h : LB B cs X) : B < X.heap.size := (Array.getElem?_eq_some_iff.1 h).1
theorem LB.new (w : World) (cs : Array Value) : LB w.heap.size cs (w.alloc (.cells cs 28)) := World.alloc_heap_new w _
theorem LB.set {B : Nat} {cs : Array Value} {X : World} (h : LB B cs X) (i : Nat) (v : Value) : LB B (cs.setIfInBounds i v) (X.setCell ⟨B, i, none⟩ v) := by
  obtain ⟨hlt, hk⟩ := Array.getElem?_eq_some_iff.1 h
  show (X.heap.modify B _)[B]? = _
  rw [Array.getElem?_eq_getElem (by rw [Array.size_modify]; exact hlt), Array.getElem_modify_self, hk]
  rfl
/-- Both cells set, one by one. -/
theorem LB.put {B : Nat} {X : World} {a0 a1 : Value} (h : LB B #[a0, a1] X) (v0 v1 : Value) :
    ∃ Y, (X.setCell ⟨B, 0, none⟩ v0).setCell ⟨B, 1, none⟩ v1 = Y ∧ LB B #[v0, v1] Y ∧ (∀ S : Nat → Prop, ¬ S B → Keep S X Y) ∧ ∀ M, M ≤ B → Below M X Y := by
  have h8 := (h.set 0 v0).set 1 v1
  simp only [List.setIfInBounds_toArray, List.set_cons_zero, List.set_cons_succ] at h8
  refine ⟨_, rfl, h8, fun S hS => ?_, fun M hM => ?_⟩
  · exact (Keep.setCell _ _ _ hS).trans (Keep.setCell _ _ _ hS)
  · exact ((Below.refl M X).setCell (p := ⟨B, 0, none⟩) hM v0).setCell (p := ⟨B, 1, none⟩) hM v1
theorem size_lab : (Tryz.prog.info? 28).map (·.size) = some 2 := by kernel_rfl
/-- A label that lies in the result's cell is handed over. -/
theorem ret_lab {fn : Func} {p : Tmp} (h : fn.results = #[.cell p 28]) (tmps : Array Value) (w : World) (B : Nat) (cs : Array Value) (hp : tmps.getD p undef = .pointer (some ⟨B, 0, none⟩)) (hU : LB B cs w) (hs : cs.size = 2) :
    (results fn tmps).run Tryz.prog w = .ok (.agg cs) w :=
  results_cell_row h tmps w B _ cs (0, 0) _ hp hU Tryz.underlying28 rfl (by rw [size_lab, hs])
theorem ret_lab2 {fn : Func} {p u : Tmp} (h : fn.results = #[.cell p 28, .tmp u]) (tmps : Array Value) (w : World) (B : Nat) (cs : Array Value) (hp : tmps.getD p undef = .pointer (some ⟨B, 0, none⟩)) (hU : LB B cs w) (hs : cs.size = 2) :
    (results fn tmps).run Tryz.prog w = .ok (.tuple #[.agg cs, tmps.getD u undef]) w := by
  rw [results_cell_tmp h, hp]
  simp [asAddr, Result.andThen, run_loadVar_row w B 28 _ cs (0, 0) _ hU Tryz.underlying28 rfl (by rw [size_lab, hs])]

/-- A row of texts does not lie in a label's block. -/
theorem slIn_ne_lb {w : World} {q : Option Addr} {n : Nat} {xs : List (List UInt8)} {B : Nat} {s0 s1 : Value} (h : SlIn encStr w q n xs) (hB : LB B #[s0, s1] w) (h0 : ∀ x, encStr x ≠ s0) (h1 : ∀ x, encStr x ≠ s1) : ∀ a, q = some a → 0 < n → a.block ≠ B := by
  rintro a rfl hn rfl
  obtain ⟨b, o, he, _, hc⟩ := h.at hn
  cases he
  cases xs with
  | nil => have := h.1; simp at this; omega
  | cons x xs =>
    have k1 := hc 0 x rfl
    have k2 : w.heap[b]? = some (.cells #[s0, s1] 28 (0, 0)) := hB
    simp only [World.cell?, k2] at k1
    rcases (show o = 0 ∨ o = 1 ∨ 2 ≤ o by omega) with ho | ho | ho
    · subst ho; simp at k1; exact h0 x k1.symm
    · subst ho; simp at k1; exact h1 x k1.symm
    · simp at k1; rw [List.getElem?_eq_none (by simp; omega)] at k1; cases k1
/-- A formula does not mind what becomes of a label's block, its row lying elsewhere. -/
theorem FrmIs.off {w Y : World} {q : Option Addr} {n c : Nat} {f : List (List (List UInt8))} {B : Nat} {q1 q2 : Option Addr} {n1 c1 n2 c2 : Nat} (h : FrmIs w (.agg #[.slice q n c]) f) (hB : LB B #[.slice q1 n1 c1, .slice q2 n2 c2] w)
    (hq : ∀ a, q = some a → 0 < n → a.block ≠ B) (hk : Keep (fun b => b ≠ B) w Y) : FrmIs Y (.agg #[.slice q n c]) f := by
  obtain ⟨h1, h2, zs, s, z, rfl⟩ := h.row
  exact ⟨q, n, c, rfl, h1, h2, zs, s.keep hk hq, fun x hx => (z x hx).from hk fun a ha h0 => by
    obtain ⟨_, _, _, he, _, _, hs, _⟩ := (z x hx).set
    cases he
    exact slIn_ne_lb hs hB (fun x h => by cases h) (fun x h => by cases h) a ha h0, rfl⟩
/-- Few clauses on both sides. -/
def Few (l : Lab) : Prop := l.s.length ≤ 16 ∧ l.i.length ≤ 16
theorem LB.two (w : World) (cs ds : Array Value) : LB (w.heap.size + 1) ds ((w.alloc (.cells cs 28)).alloc (.cells ds 28)) := by
  have := LB.new (w.alloc (.cells cs 28)) ds
  rw [World.size_alloc] at this
  exact this

/-! ### Open, Shut, Pure -/
theorem Never_new (w : World) : Calls Tryz.prog 47 #[] w fun e w' => e = .returned (.agg #[.slice (some ⟨w.heap.size + 1, 0, none⟩) 1 1]) ∧ FrmIs w' (.agg #[.slice (some ⟨w.heap.size + 1, 0, none⟩) 1 1]) [[]] ∧ Below w.heap.size w w' := by
  obtain ⟨W, hW⟩ : ∃ W, (w.alloc (.cells #[.slice (some ⟨w.heap.size + 1, 0, none⟩) 1 1] 26)).alloc (.cells #[.slice none 0 0] 82) = W := ⟨_, rfl⟩
  have b0 : Boxed W w.heap.size 26 (.slice (some ⟨w.heap.size + 1, 0, none⟩) 1 1) := hW ▸ (Boxed.new w _ _).alloc _
  have b1 : Boxed W (w.heap.size + 1) 82 (.slice none 0 0) := by
    have := Boxed.new (w.alloc (.cells #[.slice (some ⟨w.heap.size + 1, 0, none⟩) 1 1] 26)) 82 (.slice none 0 0)
    rw [World.size_alloc] at this
    exact hW ▸ this
  have hb : Below w.heap.size w W := hW ▸ ((Below.refl _ w).alloc (Nat.le_refl _) _).alloc (by simp) _
  have HW := Lib.hid hW
  have k0 := b0.cell
  have hf : FrmIs W (.agg #[.slice (some ⟨w.heap.size + 1, 0, none⟩) 1 1]) [[]] := ⟨_, _, _, rfl, (fun h => by cases h), Nat.le_refl _, [((none, 0, 0), [])], ⟨rfl, fun _ => ⟨_, _, rfl, b1.lt, fun i x hx => by
    cases i with
    | zero => cases hx; exact b1.cell
    | succ i => simp at hx⟩⟩, fun z hz => by rw [List.mem_singleton.1 hz]; exact ⟨set_nil _, by simp⟩, rfl⟩
  clear hW b0 b1
  go_enter Tryz.func47, Tryz.ntmps47
  go_wp2
  rw [HW.out]
  refine bodyPost_ret (v := .agg #[.slice (some ⟨w.heap.size + 1, 0, none⟩) 1 1]) (by simp [results, Tryz.f47, go_sem, k0]) rfl ?_
  exact ⟨rfl, hf, hb⟩

set_option maxRecDepth 100000 in
set_option maxHeartbeats 4000000 in
theorem Open_any (w : World) : Calls Tryz.prog 28 #[] w fun e w' => ∃ v, e = .returned v ∧ LabIs w' v ⟨[], []⟩ ∧ Below w.heap.size w w' := by
  obtain ⟨W1, hW1⟩ : ∃ W1, w.alloc (.cells #[.slice none 0 0, .slice none 0 0] 28) = W1 := ⟨_, rfl⟩
  have A1 : Below w.heap.size w W1 := hW1 ▸ below_alloc _
  have b1 : LB w.heap.size #[.slice none 0 0, .slice none 0 0] W1 := hW1 ▸ LB.new w _
  have HW1 := Lib.hid hW1
  have HL1 := Lib.hid b1.lt
  clear hW1
  go_enter Tryz.func28, Tryz.ntmps28
  go_wp2_with fail
  rw [HW1.out]
  clear HW1
  have con := Always_any W1
  refine con.mono ?_
  rintro e w2 ⟨rfl, hb⟩
  have fS : FrmIs w2 (.agg #[.slice none 0 0]) [] := frm_nil _
  have nS : ∀ a, (none : Option Addr) = some a → 0 < 0 → a.block ≠ w.heap.size := fun a h => by cases h
  have b2 := b1.on hb
  have A2 := A1.trans (hb.mono A1.size)
  replace HL1 := Lib.hid b2.lt
  clear con hb b1
  have con := Always_any w2
  go_wp2_with fail
  refine con.mono ?_
  rintro e w3 ⟨rfl, hb⟩
  have fI : FrmIs w3 (.agg #[.slice none 0 0]) [] := frm_nil _
  have nI : ∀ a, (none : Option Addr) = some a → 0 < 0 → a.block ≠ w.heap.size := fun a h => by cases h
  replace fS := fS.below hb
  have b3 := b2.on hb
  have A3 := A2.trans (hb.mono A2.size)
  replace HL1 := Lib.hid b3.lt
  clear con hb b2
  have kf0 := b3.frozen 0
  have kf1 := b3.frozen 1
  have z0 := b3.box 0 _ rfl
  have z1 := b3.box 1 _ rfl
  obtain ⟨Y, hY, b4, hk, hB4⟩ := b3.put (.slice none 0 0) (.slice none 0 0)
  have HY := Lib.hid hY
  have rS := FrmIs.off fS b3 nS (hk _ (by simp))
  have rI := FrmIs.off fI b3 nI (hk _ (by simp))
  clear hY fS fI nS nI
  go_wp2
  rw [HY.out]
  refine bodyPost_ret (ret_lab rfl _ _ w.heap.size _ rfl b4 rfl) rfl ?_
  exact ⟨_, rfl, ⟨_, _, _, _, _, _, rfl, rS, rI⟩, A3.trans (hB4 _ (Nat.le_refl _))⟩

set_option maxRecDepth 100000 in
set_option maxHeartbeats 4000000 in
theorem Shut_any (w : World) : Calls Tryz.prog 24 #[] w fun e w' => ∃ v, e = .returned v ∧ LabIs w' v ⟨[[]], []⟩ ∧ Below w.heap.size w w' := by
  obtain ⟨W1, hW1⟩ : ∃ W1, w.alloc (.cells #[.slice none 0 0, .slice none 0 0] 28) = W1 := ⟨_, rfl⟩
  have A1 : Below w.heap.size w W1 := hW1 ▸ below_alloc _
  have b1 : LB w.heap.size #[.slice none 0 0, .slice none 0 0] W1 := hW1 ▸ LB.new w _
  have HW1 := Lib.hid hW1
  have HL1 := Lib.hid b1.lt
  clear hW1
  go_enter Tryz.func24, Tryz.ntmps24
  go_wp2_with fail
  rw [HW1.out]
  clear HW1
  have con := Never_new W1
  refine con.mono ?_
  rintro e w2 ⟨rfl, fS, hb⟩
  have nS : ∀ a, (some ⟨W1.heap.size + 1, 0, none⟩ : Option Addr) = some a → 0 < 1 → a.block ≠ w.heap.size := fun a h _ => by cases h; have := HL1.out; have := A1.size; simp only; omega
  obtain ⟨zS, hzS⟩ : ∃ z, W1.heap.size + 1 = z := ⟨_, rfl⟩
  rw [hzS] at fS nS ⊢
  clear hzS
  have b2 := b1.on hb
  have A2 := A1.trans (hb.mono A1.size)
  replace HL1 := Lib.hid b2.lt
  clear con hb b1
  have con := Always_any w2
  go_wp2_with fail
  refine con.mono ?_
  rintro e w3 ⟨rfl, hb⟩
  have fI : FrmIs w3 (.agg #[.slice none 0 0]) [] := frm_nil _
  have nI : ∀ a, (none : Option Addr) = some a → 0 < 0 → a.block ≠ w.heap.size := fun a h => by cases h
  replace fS := fS.below hb
  have b3 := b2.on hb
  have A3 := A2.trans (hb.mono A2.size)
  replace HL1 := Lib.hid b3.lt
  clear con hb b2
  have kf0 := b3.frozen 0
  have kf1 := b3.frozen 1
  have z0 := b3.box 0 _ rfl
  have z1 := b3.box 1 _ rfl
  obtain ⟨Y, hY, b4, hk, hB4⟩ := b3.put (.slice (some ⟨zS, 0, none⟩) 1 1) (.slice none 0 0)
  have HY := Lib.hid hY
  have rS := FrmIs.off fS b3 nS (hk _ (by simp))
  have rI := FrmIs.off fI b3 nI (hk _ (by simp))
  clear hY fS fI nS nI
  go_wp2
  rw [HY.out]
  refine bodyPost_ret (ret_lab rfl _ _ w.heap.size _ rfl b4 rfl) rfl ?_
  exact ⟨_, rfl, ⟨_, _, _, _, _, _, rfl, rS, rI⟩, A3.trans (hB4 _ (Nat.le_refl _))⟩

set_option maxRecDepth 100000 in
set_option maxHeartbeats 4000000 in
theorem Pure_any (w : World) : Calls Tryz.prog 23 #[] w fun e w' => ∃ v, e = .returned v ∧ LabIs w' v ⟨[], [[]]⟩ ∧ Below w.heap.size w w' := by
  obtain ⟨W1, hW1⟩ : ∃ W1, w.alloc (.cells #[.slice none 0 0, .slice none 0 0] 28) = W1 := ⟨_, rfl⟩
  have A1 : Below w.heap.size w W1 := hW1 ▸ below_alloc _
  have b1 : LB w.heap.size #[.slice none 0 0, .slice none 0 0] W1 := hW1 ▸ LB.new w _
  have HW1 := Lib.hid hW1
  have HL1 := Lib.hid b1.lt
  clear hW1
  go_enter Tryz.func23, Tryz.ntmps23
  go_wp2_with fail
  rw [HW1.out]
  clear HW1
  have con := Always_any W1
  refine con.mono ?_
  rintro e w2 ⟨rfl, hb⟩
  have fS : FrmIs w2 (.agg #[.slice none 0 0]) [] := frm_nil _
  have nS : ∀ a, (none : Option Addr) = some a → 0 < 0 → a.block ≠ w.heap.size := fun a h => by cases h
  have b2 := b1.on hb
  have A2 := A1.trans (hb.mono A1.size)
  replace HL1 := Lib.hid b2.lt
  clear con hb b1
  have con := Never_new w2
  go_wp2_with fail
  refine con.mono ?_
  rintro e w3 ⟨rfl, fI, hb⟩
  have nI : ∀ a, (some ⟨w2.heap.size + 1, 0, none⟩ : Option Addr) = some a → 0 < 1 → a.block ≠ w.heap.size := fun a h _ => by cases h; have := HL1.out; have := A2.size; simp only; omega
  obtain ⟨zI, hzI⟩ : ∃ z, w2.heap.size + 1 = z := ⟨_, rfl⟩
  rw [hzI] at fI nI ⊢
  clear hzI
  replace fS := fS.below hb
  have b3 := b2.on hb
  have A3 := A2.trans (hb.mono A2.size)
  replace HL1 := Lib.hid b3.lt
  clear con hb b2
  have kf0 := b3.frozen 0
  have kf1 := b3.frozen 1
  have z0 := b3.box 0 _ rfl
  have z1 := b3.box 1 _ rfl
  obtain ⟨Y, hY, b4, hk, hB4⟩ := b3.put (.slice none 0 0) (.slice (some ⟨zI, 0, none⟩) 1 1)
  have HY := Lib.hid hY
  have rS := FrmIs.off fS b3 nS (hk _ (by simp))
  have rI := FrmIs.off fI b3 nI (hk _ (by simp))
  clear hY fS fI nS nI
  go_wp2
  rw [HY.out]
  refine bodyPost_ret (ret_lab rfl _ _ w.heap.size _ rfl b4 rfl) rfl ?_
  exact ⟨_, rfl, ⟨_, _, _, _, _, _, rfl, rS, rI⟩, A3.trans (hB4 _ (Nat.le_refl _))⟩

end Go.Proofs.YtdlofjcblcpgpaaGreatDoor.Lbl

namespace Go.Proofs.YtdlofjcblcpgpaaGreatDoor.Lbl
open Go.RowKit Go.Shelf Go.Sort Url Org Cls Frm
attribute [local go_sem] Oper.semAt_some
set_option linter.unusedVariables false

set_option maxRecDepth 100000 in
set_option maxHeartbeats 8000000 in
theorem Flows_any (v1 v2 : Value) (l o : Lab) (w : World) (h1 : LabIs w v1 l) (h2 : LabIs w v2 o) (fl : Few l) (fo : Few o) :
    Calls Tryz.prog 20 #[v1, v2] w fun e w' => e = .returned (.bool (flowsB l o)) ∧ Below w.heap.size w w' := by
  obtain ⟨q1, n1, c1, q2, n2, c2, rfl, s1, i1⟩ := h1
  obtain ⟨q3, n3, c3, q4, n4, c4, rfl, s2, i2⟩ := h2
  obtain ⟨W, hW⟩ : ∃ W, (w.alloc (.cells #[.slice q1 n1 c1, .slice q2 n2 c2] 28)).alloc (.cells #[.slice q3 n3 c3, .slice q4 n4 c4] 28) = W := ⟨_, rfl⟩
  have A1 : Below w.heap.size w W := hW ▸ ((Below.refl _ w).alloc (Nat.le_refl _) _).alloc (by simp) _
  have b0 : LB w.heap.size #[.slice q1 n1 c1, .slice q2 n2 c2] W := hW ▸ (LB.new w _).on (below_alloc _)
  have b1 : LB (w.heap.size + 1) #[.slice q3 n3 c3, .slice q4 n4 c4] W := hW ▸ LB.two w _ _
  have x0 := b0.box 0 _ rfl
  have y0 := b1.box 0 _ rfl
  have con := Frm.Implies_any _ _ o.s l.s W (s2.below A1) (s1.below A1) (by have := fo.1; omega) (by have := fl.1; omega)
  have HC := Lib.hid (fun X (hb : Below w.heap.size w X) => Frm.Implies_any _ _ l.i o.i X (i1.below hb) (i2.below hb) (by have := fl.2; omega) (by have := fo.2; omega))
  have HF := Lib.hid (show flowsB l o = (impB o.s l.s && impB l.i o.i) from rfl)
  have HW := Lib.hid hW
  obtain ⟨A, hA⟩ : ∃ A, impB o.s l.s = A := ⟨_, rfl⟩
  rw [hA] at con HF
  clear hW s1 i1 s2 i2 fl fo hA
  go_enter Tryz.func20, Tryz.ntmps20
  go_wp2_with fail
  rw [HW.out]
  refine con.mono ?_
  rintro e w2 ⟨rfl, hb⟩
  have A2 := A1.trans (hb.mono A1.size)
  have x1 := (b0.on hb).box 1 _ rfl
  have y1 := (b1.on hb).box 1 _ rfl
  clear x0 y0 b0 b1 hb con HW A1
  cases A with
  | false =>
    clear HC
    go_wp2
    go_ret
    exact ⟨by rw [HF.out]; rfl, A2⟩
  | true =>
    have con := HC.out w2 A2
    go_wp2_with fail
    refine con.mono ?_
    rintro e w3 ⟨rfl, hb⟩
    have A3 := A2.trans (hb.mono A2.size)
    clear con hb x1 y1
    go_wp2
    go_ret
    exact ⟨by rw [HF.out]; rfl, A3⟩

/-- The same formulas? -/
def sameB (l o : Lab) : Bool := decide (l.s = o.s) && decide (l.i = o.i)
set_option maxRecDepth 100000 in
set_option maxHeartbeats 8000000 in
theorem Same_any (v1 v2 : Value) (l o : Lab) (w : World) (h1 : LabIs w v1 l) (h2 : LabIs w v2 o) (fl : Few l) (fo : Few o) :
    Calls Tryz.prog 22 #[v1, v2] w fun e w' => e = .returned (.bool (sameB l o)) ∧ Below w.heap.size w w' := by
  obtain ⟨q1, n1, c1, q2, n2, c2, rfl, s1, i1⟩ := h1
  obtain ⟨q3, n3, c3, q4, n4, c4, rfl, s2, i2⟩ := h2
  obtain ⟨W, hW⟩ : ∃ W, (w.alloc (.cells #[.slice q1 n1 c1, .slice q2 n2 c2] 28)).alloc (.cells #[.slice q3 n3 c3, .slice q4 n4 c4] 28) = W := ⟨_, rfl⟩
  have A1 : Below w.heap.size w W := hW ▸ ((Below.refl _ w).alloc (Nat.le_refl _) _).alloc (by simp) _
  have b0 : LB w.heap.size #[.slice q1 n1 c1, .slice q2 n2 c2] W := hW ▸ (LB.new w _).on (below_alloc _)
  have b1 : LB (w.heap.size + 1) #[.slice q3 n3 c3, .slice q4 n4 c4] W := hW ▸ LB.two w _ _
  have x0 := b0.box 0 _ rfl
  have y0 := b1.box 0 _ rfl
  have con := Frm.Same_any _ _ l.s o.s W (s1.below A1) (s2.below A1) (by have := fl.1; omega) (by have := fo.1; omega)
  have HC := Lib.hid (fun X (hb : Below w.heap.size w X) => Frm.Same_any _ _ l.i o.i X (i1.below hb) (i2.below hb) (by have := fl.2; omega) (by have := fo.2; omega))
  have HF := Lib.hid (show sameB l o = (decide (l.s = o.s) && decide (l.i = o.i)) from rfl)
  have HW := Lib.hid hW
  obtain ⟨A, hA⟩ : ∃ A, decide (l.s = o.s) = A := ⟨_, rfl⟩
  rw [hA] at con HF
  obtain ⟨B, hB⟩ : ∃ B, decide (l.i = o.i) = B := ⟨_, rfl⟩
  rw [hB] at HC HF
  clear hW s1 i1 s2 i2 fl fo hA hB
  go_enter Tryz.func22, Tryz.ntmps22
  go_wp2_with fail
  rw [HW.out]
  refine con.mono ?_
  rintro e w2 ⟨rfl, hb⟩
  have A2 := A1.trans (hb.mono A1.size)
  have x1 := (b0.on hb).box 1 _ rfl
  have y1 := (b1.on hb).box 1 _ rfl
  clear x0 y0 b0 b1 hb con HW A1
  cases A with
  | false =>
    clear HC
    go_wp2
    go_ret
    exact ⟨by rw [HF.out]; rfl, A2⟩
  | true =>
    have con := HC.out w2 A2
    go_wp2_with fail
    refine con.mono ?_
    rintro e w3 ⟨rfl, hb⟩
    have A3 := A2.trans (hb.mono A2.size)
    clear con hb x1 y1
    go_wp2
    go_ret
    exact ⟨by rw [HF.out]; rfl, A3⟩

set_option maxRecDepth 100000 in
set_option maxHeartbeats 8000000 in
theorem Text_any (v : Value) (l : Lab) (w : World) (h : LabIs w v l) (fl : Few l) (hs : (frmT l.s).length ≤ 1099511627776) (hi : (frmT l.i).length ≤ 1099511627776) :
    Calls Tryz.prog 12 #[v] w fun e w' => e = .returned (.string ⟨(labT l).toArray⟩) ∧ Below w.heap.size w w' := by
  obtain ⟨q1, n1, c1, q2, n2, c2, rfl, s1, i1⟩ := h
  obtain ⟨W, hW⟩ : ∃ W, w.alloc (.cells #[.slice q1 n1 c1, .slice q2 n2 c2] 28) = W := ⟨_, rfl⟩
  have A1 : Below w.heap.size w W := hW ▸ below_alloc _
  have b0 : LB w.heap.size #[.slice q1 n1 c1, .slice q2 n2 c2] W := hW ▸ LB.new w _
  obtain ⟨W2, hW2⟩ : ∃ Z, W.drew = Z := ⟨_, rfl⟩
  have hd : Below W.heap.size W W2 := hW2 ▸ ⟨rfl, rfl, rfl, Nat.le_refl _, fun _ _ => rfl⟩
  have A2 := A1.trans (hd.mono A1.size)
  have b2 := b0.on hd
  have con := Frm.Text_any _ l.s W2 (s1.below A2) (by have := fl.1; omega) (by omega)
  have HC := Lib.hid (fun X (hb : Below w.heap.size w X) => Frm.Text_any _ l.i X (i1.below hb) (by have := fl.2; omega) (by omega))
  have HT := Lib.hid (show labT l = frmT l.s ++ [32, 59, 32] ++ frmT l.i from rfl)
  obtain ⟨T1, hT1⟩ : ∃ T, frmT l.s = T := ⟨_, rfl⟩
  obtain ⟨T2, hT2⟩ : ∃ T, frmT l.i = T := ⟨_, rfl⟩
  rw [hT1] at con HT hs
  rw [hT2] at HC HT hi
  have HS1 := Lib.hid (mk_size T1)
  have HS2 := Lib.hid (mk_size T2)
  have HS3 := Lib.hid (show ((⟨T1.toArray⟩ : ByteArray) ++ ⟨#[32, 59, 32]⟩).size = T1.length + 3 by rw [ByteArray.size_append, mk_size]; rfl)
  have HW := Lib.hid hW
  have HW2 := Lib.hid hW2
  have x0 := b2.box 0 _ rfl
  have x1 := b2.box 1 _ rfl
  clear hW s1 i1 fl hW2 hd A1 b0 hT1 hT2
  go_enter Tryz.func12, Tryz.ntmps12
  go_wp2_with fail
  rw [HW.out]
  refine pregion_any (fun X => X.cell? ⟨w.heap.size, 0, none⟩ = some (.slice q1 n1 c1) ∧ X.cell? ⟨w.heap.size, 1, none⟩ = some (.slice q2 n2 c2)) (by kernel_rfl) ?_
  rw [HW2.out]
  refine wpAnyH_take (i := 0) (v := (.pointer (some ⟨w.heap.size, 0, none⟩))) rfl (by kernel_rfl) (by kernel_rfl) (by kernel_rfl) (fun _ _ _ h => h) (.inl ⟨by kernel_rfl, ?_⟩) ⟨x0, x1⟩ ?_
  · rintro w ⟨h1, h2⟩; go_simp <;> omega
  refine plist #[true, false, false, false, false, false, false, false, false] (by kernel_rfl) ?_
  refine wpAnyH_take (i := 1) (v := (.agg #[.slice q1 n1 c1])) rfl (by kernel_rfl) (by kernel_rfl) (by kernel_rfl) (fun _ _ _ h => h) (.inl ⟨by kernel_rfl, ?_⟩) ⟨x0, x1⟩ ?_
  · rintro w ⟨h1, h2⟩; go_simp <;> omega
  refine plist #[true, true, false, false, false, false, false, false, false] (by kernel_rfl) ?_
  refine wpAnyH_take (i := 4) (v := (.pointer (some ⟨w.heap.size, 1, none⟩))) rfl (by kernel_rfl) (by kernel_rfl) (by kernel_rfl) (fun _ _ _ h => h) (.inl ⟨by kernel_rfl, ?_⟩) ⟨x0, x1⟩ ?_
  · rintro w ⟨h1, h2⟩; go_simp <;> omega
  refine plist #[true, true, false, false, true, false, false, false, false] (by kernel_rfl) ?_
  refine wpAnyH_take (i := 5) (v := (.agg #[.slice q2 n2 c2])) rfl (by kernel_rfl) (by kernel_rfl) (by kernel_rfl) (fun _ _ _ h => h) (.inl ⟨by kernel_rfl, ?_⟩) ⟨x0, x1⟩ ?_
  · rintro w ⟨h1, h2⟩; go_simp <;> omega
  refine plist #[true, true, false, false, true, true, false, false, false] (by kernel_rfl) ?_
  refine pone 2 (by kernel_rfl) rfl fun K hK => ?_
  go_simp
  refine con.mono ?_
  rintro e w3 ⟨rfl, hb⟩
  have A3 := A2.trans (hb.mono A2.size)
  have b3 := b2.on hb
  replace x0 := b3.box 0 _ rfl
  replace x1 := b3.box 1 _ rfl
  clear con hb b2 A2
  refine hK _ _ ⟨x0, x1⟩ ?_
  clear hK K
  refine plist #[true, true, true, false, true, true, false, false, false] (by kernel_rfl) ?_
  refine wpAnyH_take (i := 3) (v := (.string (⟨T1.toArray⟩ ++ ⟨#[32, 59, 32]⟩))) rfl (by kernel_rfl) (by kernel_rfl) (by kernel_rfl) (fun _ _ _ h => h) (.inl ⟨by kernel_rfl, ?_⟩) ⟨x0, x1⟩ ?_
  · rintro w ⟨h1, h2⟩; have k1 := HS1.out; go_simp <;> omega
  refine plist #[true, true, true, true, true, true, false, false, false] (by kernel_rfl) ?_
  have con := HC.out w3 A3
  refine pone 6 (by kernel_rfl) rfl fun K hK => ?_
  go_simp
  refine con.mono ?_
  rintro e w4 ⟨rfl, hb⟩
  have A4 := A3.trans (hb.mono A3.size)
  have b4 := b3.on hb
  replace x0 := b4.box 0 _ rfl
  replace x1 := b4.box 1 _ rfl
  clear con hb b3 A3
  refine hK _ _ ⟨x0, x1⟩ ?_
  clear hK K
  refine plist #[true, true, true, true, true, true, true, false, false] (by kernel_rfl) ?_
  refine wpAnyH_take (i := 7) (v := (.string (⟨T1.toArray⟩ ++ ⟨#[32, 59, 32]⟩ ++ ⟨T2.toArray⟩))) rfl (by kernel_rfl) (by kernel_rfl) (by kernel_rfl) (fun _ _ _ h => h) (.inl ⟨by kernel_rfl, ?_⟩) ⟨x0, x1⟩ ?_
  · rintro w ⟨h1, h2⟩; have k1 := HS3.out; have k2 := HS2.out; go_simp <;> omega
  refine plist #[true, true, true, true, true, true, true, true, false] (by kernel_rfl) ?_
  refine pone 8 (by kernel_rfl) rfl fun K hK => ?_
  go_simp
  refine hK _ _ ⟨x0, x1⟩ ?_
  clear hK K
  refine pdone (by kernel_rfl) ?_ _
  have HE := Lib.hid (show ((⟨T1.toArray⟩ : ByteArray) ++ ⟨#[32, 59, 32]⟩ ++ ⟨T2.toArray⟩) = ⟨(labT l).toArray⟩ by
    rw [HT.out, show (⟨#[32, 59, 32]⟩ : ByteArray) = ⟨([32, 59, 32] : List UInt8).toArray⟩ from rfl, str_app, str_app])
  go_wp2
  go_ret
  exact ⟨by rw [HE.out]; rfl, A4⟩

end Go.Proofs.YtdlofjcblcpgpaaGreatDoor.Lbl

namespace Go.Proofs.YtdlofjcblcpgpaaGreatDoor.Lbl
open Go.RowKit Go.Shelf Go.Sort Url Org Cls Frm
attribute [local go_sem] Oper.semAt_some
set_option linter.unusedVariables false

/-- A label and no error, or open and one; what is told lies in new memory. -/
def LabOut (r : Sum Int Lab) (w : World) (e : Ending) (w' : World) : Prop :=
  ∃ q1 n1 c1 q2 n2 c2, e = .returned (.tuple #[.agg #[.slice q1 n1 c1, .slice q2 n2 c2], .int .i64 (labE r)]) ∧ FrmIs w' (.agg #[.slice q1 n1 c1]) (labV r).s ∧ FrmIs w' (.agg #[.slice q2 n2 c2]) (labV r).i ∧
    (∀ a, q1 = some a → 0 < n1 → w.heap.size ≤ a.block) ∧ (∀ a, q2 = some a → 0 < n2 → w.heap.size ≤ a.block) ∧ Below w.heap.size w w'
theorem labOut_open {w w' : World} (n : Int) (h : Below w.heap.size w w') : LabOut (.inl n) w (.returned (.tuple #[.agg #[.slice none 0 0, .slice none 0 0], .int .i64 n])) w' :=
  ⟨none, 0, 0, none, 0, 0, rfl, frm_nil _, frm_nil _, (fun a h => by cases h), (fun a h => by cases h), h⟩
def bothR (r1 r2 : Sum Int (List (List (List UInt8)))) : Sum Int Lab := match r1 with
  | .inl e => .inl e
  | .inr s => match r2 with
    | .inl e => .inl e
    | .inr i => .inr ⟨s, i⟩
theorem LB.three (w : World) (cs ds es : Array Value) : LB (w.heap.size + 2) es (((w.alloc (.cells cs 28)).alloc (.cells ds 28)).alloc (.cells es 28)) := by
  have := LB.new ((w.alloc (.cells cs 28)).alloc (.cells ds 28)) es
  rw [World.size_alloc, World.size_alloc] at this
  exact this

set_option maxRecDepth 100000 in
set_option maxHeartbeats 16000000 in
theorem both_join (v1 v2 : Value) (l o : Lab) (w : World) (h1 : LabIs w v1 l) (h2 : LabIs w v2 o) (fl : Few l) (fo : Few o) :
    Calls Tryz.prog 38 #[v1, v2, .func (.func 39) #[] #[], .func (.func 40) #[] #[]] w (LabOut (joinR l o) w) := by
  obtain ⟨q1, n1, c1, q2, n2, c2, rfl, s1, i1⟩ := h1
  obtain ⟨q3, n3, c3, q4, n4, c4, rfl, s2, i2⟩ := h2
  obtain ⟨W, hW⟩ : ∃ W, ((w.alloc (.cells #[.slice q1 n1 c1, .slice q2 n2 c2] 28)).alloc (.cells #[.slice q3 n3 c3, .slice q4 n4 c4] 28)).alloc (.cells #[.slice none 0 0, .slice none 0 0] 28) = W := ⟨_, rfl⟩
  have A1 : Below w.heap.size w W := hW ▸ (((Below.refl _ w).alloc (Nat.le_refl _) _).alloc (by simp) _).alloc (by simp; omega) _
  have b0 : LB w.heap.size #[.slice q1 n1 c1, .slice q2 n2 c2] W := hW ▸ ((LB.new w _).on (below_alloc _)).on (below_alloc _)
  have b1 : LB (w.heap.size + 1) #[.slice q3 n3 c3, .slice q4 n4 c4] W := hW ▸ (LB.two w _ _).on (below_alloc _)
  have b8 : LB (w.heap.size + 2) #[.slice none 0 0, .slice none 0 0] W := hW ▸ LB.three w _ _ _
  have HSZ := Lib.hid (show W.heap.size = w.heap.size + 3 by rw [← hW]; simp)
  have x0 := b0.box 0 _ rfl
  have y0 := b1.box 0 _ rfl
  have con := And_any _ _ l.s o.s W (s1.below A1) (s2.below A1) (by have := fl.1; have := fo.1; omega)
  have HC := Lib.hid (fun X (hb : Below w.heap.size w X) => Or_any _ _ l.i o.i X (i1.below hb) (i2.below hb) fl.2 fo.2)
  have HE1 := Lib.hid (and_err3 l.s o.s)
  have HE2 := Lib.hid (or_err3 l.i o.i)
  have HR := Lib.hid (show joinR l o = bothR (andR l.s o.s) (orR l.i o.i) from rfl)
  have HW := Lib.hid hW
  obtain ⟨r1, hr1⟩ : ∃ r, andR l.s o.s = r := ⟨_, rfl⟩
  obtain ⟨r2, hr2⟩ : ∃ r, orR l.i o.i = r := ⟨_, rfl⟩
  rw [hr1] at con HE1 HR
  rw [hr2] at HC HE2 HR
  rw [HR.out]
  clear hW s1 i1 s2 i2 fl fo hr1 hr2 HR
  go_enter Tryz.func38, Tryz.ntmps38
  go_wp2_with fail
  rw [HW.out]
  refine con.mono ?_
  rintro e w2 ⟨q5, n5, c5, rfl, f5, k5, hb⟩
  have A2 := A1.trans (hb.mono A1.size)
  have hba : Below w2.heap.size w2 (w2.alloc (.cells #[.slice q5 n5 c5] 26)) := below_alloc _
  have A3 := A2.trans (hba.mono A2.size)
  replace b0 := (b0.on hb).on hba
  replace b1 := (b1.on hb).on hba
  replace b8 := (b8.on hb).on hba
  have bx : Boxed (w2.alloc (.cells #[.slice q5 n5 c5] 26)) w2.heap.size 26 (.slice q5 n5 c5) := Boxed.new w2 _ _
  replace f5 := f5.below hba
  have K5 := Lib.hid (show ∀ a, q5 = some a → 0 < n5 → w.heap.size + 2 < a.block from fun a h _ => by have := k5 a h; have := HSZ.out; omega)
  have HS2 := Lib.hid hb.size
  clear con hb x0 y0 A1 HW k5 hba
  cases r1 with
  | inl en =>
    obtain rfl : en = 3 := HE1.out en rfl
    have kf0 := b8.frozen 0
    have kf1 := b8.frozen 1
    have z0 := b8.box 0 _ rfl
    have z1 := b8.box 1 _ rfl
    obtain ⟨Y, hY, bY, _, hBY⟩ := b8.put (.slice none 0 0) (.slice none 0 0)
    have A4 := A3.trans (hBY _ (by omega))
    have HY := Lib.hid hY
    clear hY f5 bx b0 b1 HC
    unfold frmE
    go_wp2
    rw [HY.out]
    refine bodyPost_ret (ret_lab2 rfl _ _ (w.heap.size + 2) _ rfl bY rfl) rfl ?_
    exact labOut_open 3 A4
  | inr s =>
    replace f5 : FrmIs _ (.agg #[.slice q5 n5 c5]) s := f5
    have x1 := b0.box 1 _ rfl
    have y1 := b1.box 1 _ rfl
    have con := HC.out _ A3
    have B8 := Lib.hid (show w.heap.size + 2 < w2.heap.size by have := HSZ.out; have := HS2.out; omega)
    clear HC HE1
    unfold frmE
    go_wp2_with fail
    refine con.mono ?_
    rintro e w4 ⟨q6, n6, c6, rfl, f6, k6, hb⟩
    have A4 := A3.trans (hb.mono A3.size)
    have hba : Below w4.heap.size w4 (w4.alloc (.cells #[.slice q6 n6 c6] 26)) := below_alloc _
    have A5 := A4.trans (hba.mono A4.size)
    replace b8 := (b8.on hb).on hba
    replace bx := (Keep.of_below hba).boxed ((Keep.of_below hb).boxed bx bx.lt) (Nat.lt_of_lt_of_le bx.lt hb.size)
    have by2 : Boxed (w4.alloc (.cells #[.slice q6 n6 c6] 26)) w4.heap.size 26 (.slice q6 n6 c6) := Boxed.new w4 _ _
    replace f5 := (f5.below hb).below hba
    replace f6 := f6.below hba
    have K6 := Lib.hid (show ∀ a, q6 = some a → 0 < n6 → w.heap.size + 2 < a.block from fun a h _ => by
      have h1 := k6 a h
      have h2 := A2.size
      have h3 := b8.lt
      rw [World.size_alloc] at h1
      have h4 := B8.out
      omega)
    have kf0 := b8.frozen 0
    have kf1 := b8.frozen 1
    have z0 := b8.box 0 _ rfl
    have z1 := b8.box 1 _ rfl
    clear con hb b0 b1 x1 y1 k6 hba
    cases r2 with
    | inl en =>
      obtain rfl : en = 3 := HE2.out en rfl
      obtain ⟨Y, hY, bY, _, hBY⟩ := b8.put (.slice none 0 0) (.slice none 0 0)
      have A6 := A5.trans (hBY _ (by omega))
      have HY := Lib.hid hY
      clear hY f5 f6 bx by2
      unfold frmE
      go_wp2
      rw [HY.out]
      refine bodyPost_ret (ret_lab2 rfl _ _ (w.heap.size + 2) _ rfl bY rfl) rfl ?_
      exact labOut_open 3 A6
    | inr i =>
      replace f6 : FrmIs _ (.agg #[.slice q6 n6 c6]) i := f6
      obtain ⟨Y, hY, bY, hkY, hBY⟩ := b8.put (.slice q5 n5 c5) (.slice q6 n6 c6)
      have A6 := A5.trans (hBY _ (by omega))
      have g5 := FrmIs.off f5 b8 (fun a h h0 => by have := K5.out a h h0; omega) (hkY _ (by simp))
      have g6 := FrmIs.off f6 b8 (fun a h h0 => by have := K6.out a h h0; omega) (hkY _ (by simp))
      have HY := Lib.hid hY
      have c10 := bx.cell
      have c12 := by2.cell
      clear hY f5 f6 bx by2
      unfold frmE
      go_wp2
      rw [HY.out]
      refine bodyPost_ret (ret_lab2 rfl _ _ (w.heap.size + 2) _ rfl bY rfl) rfl ?_
      exact ⟨q5, n5, c5, q6, n6, c6, rfl, g5, g6, (fun a h h0 => by have := K5.out a h h0; omega), (fun a h h0 => by have := K6.out a h h0; omega), A6⟩

set_option maxRecDepth 100000 in
set_option maxHeartbeats 16000000 in
theorem both_meet (v1 v2 : Value) (l o : Lab) (w : World) (h1 : LabIs w v1 l) (h2 : LabIs w v2 o) (fl : Few l) (fo : Few o) :
    Calls Tryz.prog 38 #[v1, v2, .func (.func 40) #[] #[], .func (.func 39) #[] #[]] w (LabOut (meetR l o) w) := by
  obtain ⟨q1, n1, c1, q2, n2, c2, rfl, s1, i1⟩ := h1
  obtain ⟨q3, n3, c3, q4, n4, c4, rfl, s2, i2⟩ := h2
  obtain ⟨W, hW⟩ : ∃ W, ((w.alloc (.cells #[.slice q1 n1 c1, .slice q2 n2 c2] 28)).alloc (.cells #[.slice q3 n3 c3, .slice q4 n4 c4] 28)).alloc (.cells #[.slice none 0 0, .slice none 0 0] 28) = W := ⟨_, rfl⟩
  have A1 : Below w.heap.size w W := hW ▸ (((Below.refl _ w).alloc (Nat.le_refl _) _).alloc (by simp) _).alloc (by simp; omega) _
  have b0 : LB w.heap.size #[.slice q1 n1 c1, .slice q2 n2 c2] W := hW ▸ ((LB.new w _).on (below_alloc _)).on (below_alloc _)
  have b1 : LB (w.heap.size + 1) #[.slice q3 n3 c3, .slice q4 n4 c4] W := hW ▸ (LB.two w _ _).on (below_alloc _)
  have b8 : LB (w.heap.size + 2) #[.slice none 0 0, .slice none 0 0] W := hW ▸ LB.three w _ _ _
  have HSZ := Lib.hid (show W.heap.size = w.heap.size + 3 by rw [← hW]; simp)
  have x0 := b0.box 0 _ rfl
  have y0 := b1.box 0 _ rfl
  have con := Or_any _ _ l.s o.s W (s1.below A1) (s2.below A1) fl.1 fo.1
  have HC := Lib.hid (fun X (hb : Below w.heap.size w X) => And_any _ _ l.i o.i X (i1.below hb) (i2.below hb) (by have := fl.2; have := fo.2; omega))
  have HE1 := Lib.hid (or_err3 l.s o.s)
  have HE2 := Lib.hid (and_err3 l.i o.i)
  have HR := Lib.hid (show meetR l o = bothR (orR l.s o.s) (andR l.i o.i) from rfl)
  have HW := Lib.hid hW
  obtain ⟨r1, hr1⟩ : ∃ r, orR l.s o.s = r := ⟨_, rfl⟩
  obtain ⟨r2, hr2⟩ : ∃ r, andR l.i o.i = r := ⟨_, rfl⟩
  rw [hr1] at con HE1 HR
  rw [hr2] at HC HE2 HR
  rw [HR.out]
  clear hW s1 i1 s2 i2 fl fo hr1 hr2 HR
  go_enter Tryz.func38, Tryz.ntmps38
  go_wp2_with fail
  rw [HW.out]
  refine con.mono ?_
  rintro e w2 ⟨q5, n5, c5, rfl, f5, k5, hb⟩
  have A2 := A1.trans (hb.mono A1.size)
  have hba : Below w2.heap.size w2 (w2.alloc (.cells #[.slice q5 n5 c5] 26)) := below_alloc _
  have A3 := A2.trans (hba.mono A2.size)
  replace b0 := (b0.on hb).on hba
  replace b1 := (b1.on hb).on hba
  replace b8 := (b8.on hb).on hba
  have bx : Boxed (w2.alloc (.cells #[.slice q5 n5 c5] 26)) w2.heap.size 26 (.slice q5 n5 c5) := Boxed.new w2 _ _
  replace f5 := f5.below hba
  have K5 := Lib.hid (show ∀ a, q5 = some a → 0 < n5 → w.heap.size + 2 < a.block from fun a h _ => by have := k5 a h; have := HSZ.out; omega)
  have HS2 := Lib.hid hb.size
  clear con hb x0 y0 A1 HW k5 hba
  cases r1 with
  | inl en =>
    obtain rfl : en = 3 := HE1.out en rfl
    have kf0 := b8.frozen 0
    have kf1 := b8.frozen 1
    have z0 := b8.box 0 _ rfl
    have z1 := b8.box 1 _ rfl
    obtain ⟨Y, hY, bY, _, hBY⟩ := b8.put (.slice none 0 0) (.slice none 0 0)
    have A4 := A3.trans (hBY _ (by omega))
    have HY := Lib.hid hY
    clear hY f5 bx b0 b1 HC
    unfold frmE
    go_wp2
    rw [HY.out]
    refine bodyPost_ret (ret_lab2 rfl _ _ (w.heap.size + 2) _ rfl bY rfl) rfl ?_
    exact labOut_open 3 A4
  | inr s =>
    replace f5 : FrmIs _ (.agg #[.slice q5 n5 c5]) s := f5
    have x1 := b0.box 1 _ rfl
    have y1 := b1.box 1 _ rfl
    have con := HC.out _ A3
    have B8 := Lib.hid (show w.heap.size + 2 < w2.heap.size by have := HSZ.out; have := HS2.out; omega)
    clear HC HE1
    unfold frmE
    go_wp2_with fail
    refine con.mono ?_
    rintro e w4 ⟨q6, n6, c6, rfl, f6, k6, hb⟩
    have A4 := A3.trans (hb.mono A3.size)
    have hba : Below w4.heap.size w4 (w4.alloc (.cells #[.slice q6 n6 c6] 26)) := below_alloc _
    have A5 := A4.trans (hba.mono A4.size)
    replace b8 := (b8.on hb).on hba
    replace bx := (Keep.of_below hba).boxed ((Keep.of_below hb).boxed bx bx.lt) (Nat.lt_of_lt_of_le bx.lt hb.size)
    have by2 : Boxed (w4.alloc (.cells #[.slice q6 n6 c6] 26)) w4.heap.size 26 (.slice q6 n6 c6) := Boxed.new w4 _ _
    replace f5 := (f5.below hb).below hba
    replace f6 := f6.below hba
    have K6 := Lib.hid (show ∀ a, q6 = some a → 0 < n6 → w.heap.size + 2 < a.block from fun a h _ => by
      have h1 := k6 a h
      have h2 := A2.size
      have h3 := b8.lt
      rw [World.size_alloc] at h1
      have h4 := B8.out
      omega)
    have kf0 := b8.frozen 0
    have kf1 := b8.frozen 1
    have z0 := b8.box 0 _ rfl
    have z1 := b8.box 1 _ rfl
    clear con hb b0 b1 x1 y1 k6 hba
    cases r2 with
    | inl en =>
      obtain rfl : en = 3 := HE2.out en rfl
      obtain ⟨Y, hY, bY, _, hBY⟩ := b8.put (.slice none 0 0) (.slice none 0 0)
      have A6 := A5.trans (hBY _ (by omega))
      have HY := Lib.hid hY
      clear hY f5 f6 bx by2
      unfold frmE
      go_wp2
      rw [HY.out]
      refine bodyPost_ret (ret_lab2 rfl _ _ (w.heap.size + 2) _ rfl bY rfl) rfl ?_
      exact labOut_open 3 A6
    | inr i =>
      replace f6 : FrmIs _ (.agg #[.slice q6 n6 c6]) i := f6
      obtain ⟨Y, hY, bY, hkY, hBY⟩ := b8.put (.slice q5 n5 c5) (.slice q6 n6 c6)
      have A6 := A5.trans (hBY _ (by omega))
      have g5 := FrmIs.off f5 b8 (fun a h h0 => by have := K5.out a h h0; omega) (hkY _ (by simp))
      have g6 := FrmIs.off f6 b8 (fun a h h0 => by have := K6.out a h h0; omega) (hkY _ (by simp))
      have HY := Lib.hid hY
      have c10 := bx.cell
      have c12 := by2.cell
      clear hY f5 f6 bx by2
      unfold frmE
      go_wp2
      rw [HY.out]
      refine bodyPost_ret (ret_lab2 rfl _ _ (w.heap.size + 2) _ rfl bY rfl) rfl ?_
      exact ⟨q5, n5, c5, q6, n6, c6, rfl, g5, g6, (fun a h h0 => by have := K5.out a h h0; omega), (fun a h h0 => by have := K6.out a h h0; omega), A6⟩

set_option maxRecDepth 100000 in
set_option maxHeartbeats 16000000 in
theorem Join_any (v1 v2 : Value) (l o : Lab) (w : World) (h1 : LabIs w v1 l) (h2 : LabIs w v2 o) (fl : Few l) (fo : Few o) :
    Calls Tryz.prog 16 #[v1, v2] w (LabOut (joinR l o) w) := by
  obtain ⟨q1, n1, c1, q2, n2, c2, rfl, s1, i1⟩ := h1
  obtain ⟨q3, n3, c3, q4, n4, c4, rfl, s2, i2⟩ := h2
  obtain ⟨W, hW⟩ : ∃ W, ((w.alloc (.cells #[.slice q1 n1 c1, .slice q2 n2 c2] 28)).alloc (.cells #[.slice q3 n3 c3, .slice q4 n4 c4] 28)).alloc (.cells #[.slice none 0 0, .slice none 0 0] 28) = W := ⟨_, rfl⟩
  have A1 : Below w.heap.size w W := hW ▸ (((Below.refl _ w).alloc (Nat.le_refl _) _).alloc (by simp) _).alloc (by simp; omega) _
  have b0 : LB w.heap.size #[.slice q1 n1 c1, .slice q2 n2 c2] W := hW ▸ ((LB.new w _).on (below_alloc _)).on (below_alloc _)
  have b1 : LB (w.heap.size + 1) #[.slice q3 n3 c3, .slice q4 n4 c4] W := hW ▸ (LB.two w _ _).on (below_alloc _)
  have b8 : LB (w.heap.size + 2) #[.slice none 0 0, .slice none 0 0] W := hW ▸ LB.three w _ _ _
  have HSZ := Lib.hid (show W.heap.size = w.heap.size + 3 by rw [← hW]; simp)
  have x0 := b0.box 0 _ rfl
  have x1 := b0.box 1 _ rfl
  have y0 := b1.box 0 _ rfl
  have y1 := b1.box 1 _ rfl
  have con := both_join _ _ l o W ⟨q1, n1, c1, q2, n2, c2, rfl, s1.below A1, i1.below A1⟩ ⟨q3, n3, c3, q4, n4, c4, rfl, s2.below A1, i2.below A1⟩ fl fo
  have HW := Lib.hid hW
  obtain ⟨r, hr⟩ : ∃ r, joinR l o = r := ⟨_, rfl⟩
  rw [hr] at con ⊢
  obtain ⟨en, hen⟩ : ∃ n, labE r = n := ⟨_, rfl⟩
  obtain ⟨rv, hrv⟩ : ∃ v, labV r = v := ⟨_, rfl⟩
  have HEN := Lib.hid hen
  have HRV := Lib.hid hrv
  unfold LabOut at con ⊢
  rw [hen, hrv] at con ⊢
  clear hW s1 i1 s2 i2 fl fo hr hen hrv
  go_enter Tryz.func16, Tryz.ntmps16
  go_wp2_with fail
  rw [HW.out]
  refine con.mono ?_
  rintro e w2 ⟨q5, n5, c5, q6, n6, c6, rfl, f5, f6, k5, k6, hb⟩
  have A2 := A1.trans (hb.mono A1.size)
  replace b8 := b8.on hb
  have K5 := Lib.hid (show ∀ a, q5 = some a → 0 < n5 → w.heap.size + 2 < a.block from fun a h h0 => by have := k5 a h h0; have := HSZ.out; omega)
  have K6 := Lib.hid (show ∀ a, q6 = some a → 0 < n6 → w.heap.size + 2 < a.block from fun a h h0 => by have := k6 a h h0; have := HSZ.out; omega)
  have kf0 := b8.frozen 0
  have kf1 := b8.frozen 1
  have z0 := b8.box 0 _ rfl
  have z1 := b8.box 1 _ rfl
  obtain ⟨Y, hY, bY, hkY, hBY⟩ := b8.put (.slice q5 n5 c5) (.slice q6 n6 c6)
  have A6 := A2.trans (hBY _ (by omega))
  have g5 := FrmIs.off f5 b8 (fun a h h0 => by have := K5.out a h h0; omega) (hkY _ (by simp))
  have g6 := FrmIs.off f6 b8 (fun a h h0 => by have := K6.out a h h0; omega) (hkY _ (by simp))
  have HY := Lib.hid hY
  clear con hb x0 x1 y0 y1 b0 b1 A1 HW k5 k6 hY f5 f6
  go_wp2
  rw [HY.out]
  refine bodyPost_ret (ret_lab2 rfl _ _ (w.heap.size + 2) _ rfl bY rfl) rfl ?_
  exact ⟨q5, n5, c5, q6, n6, c6, rfl, g5, g6, (fun a h h0 => by have := K5.out a h h0; omega), (fun a h h0 => by have := K6.out a h h0; omega), A6⟩

set_option maxRecDepth 100000 in
set_option maxHeartbeats 16000000 in
theorem Meet_any (v1 v2 : Value) (l o : Lab) (w : World) (h1 : LabIs w v1 l) (h2 : LabIs w v2 o) (fl : Few l) (fo : Few o) :
    Calls Tryz.prog 18 #[v1, v2] w (LabOut (meetR l o) w) := by
  obtain ⟨q1, n1, c1, q2, n2, c2, rfl, s1, i1⟩ := h1
  obtain ⟨q3, n3, c3, q4, n4, c4, rfl, s2, i2⟩ := h2
  obtain ⟨W, hW⟩ : ∃ W, ((w.alloc (.cells #[.slice q1 n1 c1, .slice q2 n2 c2] 28)).alloc (.cells #[.slice q3 n3 c3, .slice q4 n4 c4] 28)).alloc (.cells #[.slice none 0 0, .slice none 0 0] 28) = W := ⟨_, rfl⟩
  have A1 : Below w.heap.size w W := hW ▸ (((Below.refl _ w).alloc (Nat.le_refl _) _).alloc (by simp) _).alloc (by simp; omega) _
  have b0 : LB w.heap.size #[.slice q1 n1 c1, .slice q2 n2 c2] W := hW ▸ ((LB.new w _).on (below_alloc _)).on (below_alloc _)
  have b1 : LB (w.heap.size + 1) #[.slice q3 n3 c3, .slice q4 n4 c4] W := hW ▸ (LB.two w _ _).on (below_alloc _)
  have b8 : LB (w.heap.size + 2) #[.slice none 0 0, .slice none 0 0] W := hW ▸ LB.three w _ _ _
  have HSZ := Lib.hid (show W.heap.size = w.heap.size + 3 by rw [← hW]; simp)
  have x0 := b0.box 0 _ rfl
  have x1 := b0.box 1 _ rfl
  have y0 := b1.box 0 _ rfl
  have y1 := b1.box 1 _ rfl
  have con := both_meet _ _ l o W ⟨q1, n1, c1, q2, n2, c2, rfl, s1.below A1, i1.below A1⟩ ⟨q3, n3, c3, q4, n4, c4, rfl, s2.below A1, i2.below A1⟩ fl fo
  have HW := Lib.hid hW
  obtain ⟨r, hr⟩ : ∃ r, meetR l o = r := ⟨_, rfl⟩
  rw [hr] at con ⊢
  obtain ⟨en, hen⟩ : ∃ n, labE r = n := ⟨_, rfl⟩
  obtain ⟨rv, hrv⟩ : ∃ v, labV r = v := ⟨_, rfl⟩
  have HEN := Lib.hid hen
  have HRV := Lib.hid hrv
  unfold LabOut at con ⊢
  rw [hen, hrv] at con ⊢
  clear hW s1 i1 s2 i2 fl fo hr hen hrv
  go_enter Tryz.func18, Tryz.ntmps18
  go_wp2_with fail
  rw [HW.out]
  refine con.mono ?_
  rintro e w2 ⟨q5, n5, c5, q6, n6, c6, rfl, f5, f6, k5, k6, hb⟩
  have A2 := A1.trans (hb.mono A1.size)
  replace b8 := b8.on hb
  have K5 := Lib.hid (show ∀ a, q5 = some a → 0 < n5 → w.heap.size + 2 < a.block from fun a h h0 => by have := k5 a h h0; have := HSZ.out; omega)
  have K6 := Lib.hid (show ∀ a, q6 = some a → 0 < n6 → w.heap.size + 2 < a.block from fun a h h0 => by have := k6 a h h0; have := HSZ.out; omega)
  have kf0 := b8.frozen 0
  have kf1 := b8.frozen 1
  have z0 := b8.box 0 _ rfl
  have z1 := b8.box 1 _ rfl
  obtain ⟨Y, hY, bY, hkY, hBY⟩ := b8.put (.slice q5 n5 c5) (.slice q6 n6 c6)
  have A6 := A2.trans (hBY _ (by omega))
  have g5 := FrmIs.off f5 b8 (fun a h h0 => by have := K5.out a h h0; omega) (hkY _ (by simp))
  have g6 := FrmIs.off f6 b8 (fun a h h0 => by have := K6.out a h h0; omega) (hkY _ (by simp))
  have HY := Lib.hid hY
  clear con hb x0 x1 y0 y1 b0 b1 A1 HW k5 k6 hY f5 f6
  go_wp2
  rw [HY.out]
  refine bodyPost_ret (ret_lab2 rfl _ _ (w.heap.size + 2) _ rfl bY rfl) rfl ?_
  exact ⟨q5, n5, c5, q6, n6, c6, rfl, g5, g6, (fun a h h0 => by have := K5.out a h h0; omega), (fun a h h0 => by have := K6.out a h h0; omega), A6⟩

end Go.Proofs.YtdlofjcblcpgpaaGreatDoor.Lbl

namespace Go.Proofs.YtdlofjcblcpgpaaGreatDoor.Lbl
open Go.RowKit Go.Shelf Go.Sort Url Org Cls Frm
attribute [local go_sem] Oper.semAt_some
set_option linter.unusedVariables false

set_option maxRecDepth 100000 in
set_option maxHeartbeats 16000000 in
theorem Parse_any (q : Option Addr) (n c : Nat) (t : List UInt8) (w : World) (hby : By w (.slice q n c) t) (hn : n ≤ 1099511627775) (hp : n ≤ 4096 → (atFst 59 t).length ≤ 1300 ∧ (atSnd 59 t).length ≤ 1300) (hG : Gl w) :
    Calls Tryz.prog 9 #[.slice q n c] w (LabOut (parseL t) w) := by
  obtain ⟨W, hW⟩ : ∃ W, w.alloc (.cells #[.slice none 0 0, .slice none 0 0] 28) = W := ⟨_, rfl⟩
  have A1 : Below w.heap.size w W := hW ▸ below_alloc _
  have b8 : LB w.heap.size #[.slice none 0 0, .slice none 0 0] W := hW ▸ LB.new w _
  have HSZ := Lib.hid (show W.heap.size = w.heap.size + 1 by rw [← hW]; simp)
  obtain ⟨h1, h2, h3, h4, h5⟩ := (hby.on A1).at
  have HL := Lib.hid h1
  have HW := Lib.hid hW
  have con := At_any q n c t 59 W h1 hn h2 h4 h5
  have hGW := Lib.hid (hG.on A1)
  clear hW h1 h2 h3 h4 h5 hby hG
  go_enter Tryz.func9, Tryz.ntmps9
  by_cases hlong : 4096 < n
  · have d : decide ((4096 : Int) < (n : Int)) = true := by simp; omega
    have HR := Lib.hid (show parseL t = .inl 3 by unfold parseL; rw [if_pos (by rw [HL.out]; exact hlong)])
    have kf0 := b8.frozen 0
    have kf1 := b8.frozen 1
    have z0 := b8.box 0 _ rfl
    have z1 := b8.box 1 _ rfl
    rw [← HW.out] at kf0 kf1 z0 z1
    clear con hlong hp
    go_wp2
    rw [HW.out]
    refine bodyPost_ret (ret_lab2 rfl _ _ w.heap.size _ rfl b8 rfl) rfl ?_
    rw [HR.out]
    exact labOut_open 3 A1
  · have d : decide ((4096 : Int) < (n : Int)) = false := by simp; omega
    have hl4 : ¬ 4096 < t.length := by rw [HL.out]; exact hlong
    obtain ⟨p1, p2⟩ := hp (by omega)
    have HP2 := Lib.hid (parseL_two t hl4)
    have HP1 := Lib.hid (parseL_one t hl4)
    have HPB := Lib.hid (parseL_both t hl4)
    have HA0 := Lib.hid (show atOk 59 (atSnd 59 t) = true → atOk 59 t = true from fun h => by
      cases e : atOk 59 t with
      | true => rfl
      | false => rw [at_no_snd _ _ e, at_nil] at h; cases h)
    have HNF := Lib.hid (parseF_no (atFst 59 t))
    have HNS := Lib.hid (parseF_no (atSnd 59 t))
    obtain ⟨t1, ht1⟩ : ∃ x, atFst 59 t = x := ⟨_, rfl⟩
    obtain ⟨t2, ht2⟩ : ∃ x, atSnd 59 t = x := ⟨_, rfl⟩
    obtain ⟨k1, hk1⟩ : ∃ x, atOk 59 t = x := ⟨_, rfl⟩
    obtain ⟨r, hr⟩ : ∃ r, parseL t = r := ⟨_, rfl⟩
    rw [ht1, hk1, ht2] at con
    rw [ht1] at HNF p1
    rw [ht2] at HNS p2
    rw [hr, ht2] at HP2
    rw [hr, ht1, hk1] at HP1
    rw [hr, ht1, ht2, hk1] at HPB
    rw [ht2, hk1] at HA0
    rw [hr]
    clear hlong hp hl4 ht1 ht2 hk1 hr HL
    go_wp2_with fail
    rw [HW.out]
    refine con.mono ?_
    rintro e w2 ⟨v1, v2, rfl, r1, r2, hb⟩
    have A2 := A1.trans (hb.mono A1.size)
    have y1 := By.row r1
    have y2 := By.row r2
    obtain ⟨qa, ca, rfl⟩ := by_form y1
    obtain ⟨qb, cb, rfl⟩ := by_form y2
    replace b8 := b8.on hb
    have hG2 := Lib.hid (hGW.out.on hb)
    obtain ⟨m1, m2, m3, m4, m5⟩ := y2.at
    have con := At_any qb t2.length cb t2 59 w2 rfl (by omega) m2 m4 m5
    obtain ⟨k2, hk2⟩ : ∃ x, atOk 59 t2 = x := ⟨_, rfl⟩
    rw [hk2] at con HP2 HA0 HPB
    have Y1 := Lib.hid y1
    have Y2 := Lib.hid y2
    clear hb r1 r2 A1 HW m1 m2 m3 m4 m5 hk2 y1 y2 hGW
    go_wp2_with fail
    refine con.mono ?_
    rintro e w3 ⟨v3, v4, rfl, _, _, hb⟩
    have A3 := A2.trans (hb.mono A2.size)
    replace b8 := b8.on hb
    replace Y1 := Lib.hid (Y1.out.on hb)
    replace Y2 := Lib.hid (Y2.out.on hb)
    have hG3 := Lib.hid (hG2.out.on hb)
    have HS3 := Lib.hid (show w.heap.size < w3.heap.size from b8.lt)
    clear con hb A2 hG2
    cases k2 with
    | true =>
      have HR := HP2.out rfl
      have kf0 := b8.frozen 0
      have kf1 := b8.frozen 1
      have z0 := b8.box 0 _ rfl
      have z1 := b8.box 1 _ rfl
      obtain ⟨Y, hY, bY, _, hBY⟩ := b8.put (.slice none 0 0) (.slice none 0 0)
      have A4 := A3.trans (hBY _ (Nat.le_refl _))
      have HY := Lib.hid hY
      clear hY HP1 HPB
      subst HR
      go_wp2
      rw [HY.out]
      refine bodyPost_ret (ret_lab2 rfl _ _ w.heap.size _ rfl bY rfl) rfl ?_
      exact labOut_open 2 A4
    | false =>
      have con := Frm.Parse_any qa t1.length ca t1 w3 Y1.out (.inl p1) hG3.out
      obtain ⟨f1, hf1⟩ : ∃ r, parseF t1 = r := ⟨_, rfl⟩
      rw [hf1] at con HNF HP1 HPB
      clear HP2 HA0 hf1 Y1
      go_wp2_with fail
      refine con.mono ?_
      rintro e w4 ⟨q5, n5, c5, rfl, f5, k5, hb⟩
      have A4 := A3.trans (hb.mono A3.size)
      have hba : Below w4.heap.size w4 (w4.alloc (.cells #[.slice q5 n5 c5] 26)) := below_alloc _
      have A5 := A4.trans (hba.mono A4.size)
      replace b8 := (b8.on hb).on hba
      replace Y2 := Lib.hid ((Y2.out.on hb).on hba)
      have hG5 := Lib.hid ((hG3.out.on hb).on hba)
      have bx : Boxed (w4.alloc (.cells #[.slice q5 n5 c5] 26)) w4.heap.size 26 (.slice q5 n5 c5) := Boxed.new w4 _ _
      replace f5 := f5.below hba
      have K5 := Lib.hid (show ∀ a, q5 = some a → 0 < n5 → w.heap.size < a.block from fun a h _ => by have := k5 a h; have := HS3.out; omega)
      have HS4 := Lib.hid (show w.heap.size < w4.heap.size by have := HS3.out; have := hb.size; omega)
      have kf0 := b8.frozen 0
      have kf1 := b8.frozen 1
      have z0 := b8.box 0 _ rfl
      have z1 := b8.box 1 _ rfl
      have cx := bx.cell
      obtain ⟨Y, hY, bY, hkY, hBY⟩ := b8.put (.slice q5 n5 c5) (.slice none 0 0)
      have A6 := A5.trans (hBY _ (Nat.le_refl _))
      have g5 := FrmIs.off f5 b8 (fun a h h0 => by have := K5.out a h h0; omega) (hkY _ (by simp))
      have HY := Lib.hid hY
      clear con hb k5 hba hY hG3 A3 A4
      cases f1 with
      | inl e1 =>
        have hne : e1 ≠ 0 := by rcases HNF.out e1 rfl with h | h <;> omega
        have d2 : ((e1 : Int) != 0) = true := by unfold bne; rw [beq_eq_false_iff_ne.2 hne]; rfl
        have HR : r = .inl e1 := by
          cases k1 with
          | true => rw [HPB.out (by first | rfl | trivial) (by first | rfl | trivial)]
          | false => rw [HP1.out (by first | rfl | trivial)]
        subst HR
        clear hne HP1 HPB HNF f5 bx b8
        unfold frmE
        go_wp2
        rw [HY.out]
        refine bodyPost_ret (ret_lab2 rfl _ _ w.heap.size _ rfl bY rfl) rfl ?_
        exact ⟨q5, n5, c5, none, 0, 0, rfl, g5, frm_nil _, (fun a h h0 => by have := K5.out a h h0; omega), (fun a h => by cases h), A6⟩
      | inr f =>
        replace f5 : FrmIs _ (.agg #[.slice q5 n5 c5]) f := f5
        replace g5 : FrmIs Y (.agg #[.slice q5 n5 c5]) f := g5
        cases k1 with
        | false =>
          have HR : r = .inr ⟨f, []⟩ := by rw [HP1.out (by first | rfl | trivial)]
          subst HR
          clear HP1 HPB HNF f5 bx b8
          unfold frmE
          go_wp2
          rw [HY.out]
          refine bodyPost_ret (ret_lab2 rfl _ _ w.heap.size _ rfl bY rfl) rfl ?_
          exact ⟨q5, n5, c5, none, 0, 0, rfl, g5, frm_nil _, (fun a h h0 => by have := K5.out a h h0; omega), (fun a h => by cases h), A6⟩
        | true =>
          have con := Frm.Parse_any qb t2.length cb t2 _ Y2.out (.inl p2) hG5.out
          obtain ⟨f2, hf2⟩ : ∃ r, parseF t2 = r := ⟨_, rfl⟩
          have HPR := HPB.out (by first | rfl | trivial) (by first | rfl | trivial)
          rw [hf2] at con HNS HPR
          have HPQ := Lib.hid HPR
          clear HPR hf2 HP1 HPB HNF Y2 g5 bY hkY hBY A6 HY kf0 kf1 z0 z1 cx
          unfold frmE
          go_wp2_with fail
          refine con.mono ?_
          rintro e w6 ⟨q6, n6, c6, rfl, f6, k6, hb⟩
          have A6 := A5.trans (hb.mono A5.size)
          have hba : Below w6.heap.size w6 (w6.alloc (.cells #[.slice q6 n6 c6] 26)) := below_alloc _
          have A7 := A6.trans (hba.mono A6.size)
          replace b8 := (b8.on hb).on hba
          replace bx := (Keep.of_below hba).boxed ((Keep.of_below hb).boxed bx bx.lt) (Nat.lt_of_lt_of_le bx.lt hb.size)
          have by2 : Boxed (w6.alloc (.cells #[.slice q6 n6 c6] 26)) w6.heap.size 26 (.slice q6 n6 c6) := Boxed.new w6 _ _
          replace f5 := (f5.below hb).below hba
          replace f6 := f6.below hba
          have K6 := Lib.hid (show ∀ a, q6 = some a → 0 < n6 → w.heap.size < a.block from fun a h _ => by
            have h1 := k6 a h
            have h2 := HS4.out
            rw [World.size_alloc] at h1
            omega)
          have kf0 := b8.frozen 0
          have kf1 := b8.frozen 1
          have z0 := b8.box 0 _ rfl
          have z1 := b8.box 1 _ rfl
          clear con hb k6 hba A5 A6
          cases f2 with
          | inl e2 =>
            have hne : e2 ≠ 0 := by rcases HNS.out e2 rfl with h | h <;> omega
            have d2 : ((e2 : Int) != 0) = true := by unfold bne; rw [beq_eq_false_iff_ne.2 hne]; rfl
            have HR : r = .inl e2 := by rw [HPQ.out]
            subst HR
            obtain ⟨Y, hY, bY, _, hBY⟩ := b8.put (.slice none 0 0) (.slice none 0 0)
            have A8 := A7.trans (hBY _ (Nat.le_refl _))
            have HY := Lib.hid hY
            clear hne HPQ HNS f5 f6 bx by2 b8 hY
            unfold frmE
            go_wp2
            rw [HY.out]
            refine bodyPost_ret (ret_lab2 rfl _ _ w.heap.size _ rfl bY rfl) rfl ?_
            exact labOut_open e2 A8
          | inr g =>
            replace f6 : FrmIs _ (.agg #[.slice q6 n6 c6]) g := f6
            have HR : r = .inr ⟨f, g⟩ := by rw [HPQ.out]
            subst HR
            obtain ⟨Y, hY, bY, hkY, hBY⟩ := b8.put (.slice q5 n5 c5) (.slice q6 n6 c6)
            have A8 := A7.trans (hBY _ (Nat.le_refl _))
            have g5 := FrmIs.off f5 b8 (fun a h h0 => by have := K5.out a h h0; omega) (hkY _ (by simp))
            have g6 := FrmIs.off f6 b8 (fun a h h0 => by have := K6.out a h h0; omega) (hkY _ (by simp))
            have HY := Lib.hid hY
            have c10 := bx.cell
            have c12 := by2.cell
            clear HPQ HNS f5 f6 bx by2 b8 hY
            unfold frmE
            go_wp2
            rw [HY.out]
            refine bodyPost_ret (ret_lab2 rfl _ _ w.heap.size _ rfl bY rfl) rfl ?_
            exact ⟨q5, n5, c5, q6, n6, c6, rfl, g5, g6, (fun a h h0 => by have := K5.out a h h0; omega), (fun a h h0 => by have := K6.out a h h0; omega), A8⟩

end Go.Proofs.YtdlofjcblcpgpaaGreatDoor.Lbl

namespace Go.Proofs.YtdlofjcblcpgpaaGreatDoor.Lbl
open Go.RowKit Go.Shelf Go.Sort Url Org Cls Frm
attribute [local go_sem] Oper.semAt_some
set_option linter.unusedVariables false

/-- A box that holds a label. -/
def LX (b : Nat) (q1 : Option Addr) (n1 c1 : Nat) (q2 : Option Addr) (n2 c2 : Nat) (l : Lab) (X : World) : Prop := LB b #[.slice q1 n1 c1, .slice q2 n2 c2] X ∧ LabIs X (.agg #[.slice q1 n1 c1, .slice q2 n2 c2]) l
theorem LX.on {b : Nat} {q1 : Option Addr} {n1 c1 : Nat} {q2 : Option Addr} {n2 c2 : Nat} {l : Lab} {X Y : World} (h : LX b q1 n1 c1 q2 n2 c2 l X) (hb : Below X.heap.size X Y) : LX b q1 n1 c1 q2 n2 c2 l Y := ⟨h.1.on hb, h.2.below hb⟩
theorem LX.new {q1 : Option Addr} {n1 c1 : Nat} {q2 : Option Addr} {n2 c2 : Nat} {l : Lab} {X : World} (h : LabIs X (.agg #[.slice q1 n1 c1, .slice q2 n2 c2]) l) : LX X.heap.size q1 n1 c1 q2 n2 c2 l (X.alloc (.cells #[.slice q1 n1 c1, .slice q2 n2 c2] 28)) := ⟨LB.new X _, h.below (below_alloc _)⟩
theorem LX.c0 {b : Nat} {q1 : Option Addr} {n1 c1 : Nat} {q2 : Option Addr} {n2 c2 : Nat} {l : Lab} {X : World} (h : LX b q1 n1 c1 q2 n2 c2 l X) : X.cell? ⟨b, 0, none⟩ = some (.slice q1 n1 c1) := h.1.box 0 _ rfl
theorem LX.c1 {b : Nat} {q1 : Option Addr} {n1 c1 : Nat} {q2 : Option Addr} {n2 c2 : Nat} {l : Lab} {X : World} (h : LX b q1 n1 c1 q2 n2 c2 l X) : X.cell? ⟨b, 1, none⟩ = some (.slice q2 n2 c2) := h.1.box 1 _ rfl
theorem lok_few {l : Lab} (h : LOk l) : Few l := ⟨h.s.few, h.i.few⟩

/-! ### lives -/
def liveL : Lab := ⟨[[liveA]], []⟩
theorem liveL_parse : parseL liveA = .inr liveL := by
  have h1 : parseC liveA = .inr [liveA] := by
    unfold parseC
    rw [if_neg (by decide), if_neg (by decide +kernel), show (Ref.splitL 124 liveA).map Cls.trimB = [liveA] by decide +kernel]
    unfold ofC
    rw [if_pos (by simp [live_a]), liveP1_sort, if_pos (by decide)]
  have h2 : parseF liveA = .inr [[liveA]] := by
    have hc : clausesL [liveA] = .inr [[liveA]] := by
      unfold clausesL
      rw [h1]
      rfl
    unfold parseF
    rw [if_neg (by decide), if_neg (by decide +kernel), show Ref.splitL 38 liveA = [liveA] by decide +kernel, hc]
    show ofF _ = _
    unfold ofF
    rw [show redL [[liveA]] = [[liveA]] by decide +kernel, if_pos (by decide)]
  unfold parseL
  rw [if_neg (by decide), show Ref.splitL 59 liveA = [liveA] by decide +kernel]
  show (match parseF liveA with | .inl e => .inl e | .inr f => .inr ⟨f, []⟩ : Sum Int Lab) = _
  rw [h2]
  rfl
theorem liveL_text : labT liveL = [104, 116, 116, 112, 58, 47, 47, 97, 32, 59, 32, 97, 108, 119, 97, 121, 115] := by decide +kernel
theorem liveL_few : Few liveL := ⟨by decide, by decide⟩
theorem open_few : Few ⟨[], []⟩ := ⟨by decide, by decide⟩
theorem shut_few : Few ⟨[[]], []⟩ := ⟨by decide, by decide⟩
theorem pure_few : Few ⟨[], [[]]⟩ := ⟨by decide, by decide⟩
theorem liveL_1 : flowsB ⟨[], []⟩ liveL = true := by decide +kernel
theorem liveL_2 : flowsB liveL ⟨[[]], []⟩ = true := by decide +kernel
theorem liveL_3 : flowsB liveL ⟨[], []⟩ = false := by decide +kernel

set_option maxRecDepth 100000 in
set_option maxHeartbeats 16000000 in
theorem lives_any (w : World) (hG : Gl w) : Calls Tryz.prog 8 #[] w fun e w' => e = .returned (.bool true) ∧ Below w.heap.size w w' := by
  have kc := fun (w : World) (C : Array Value) (n c : Nat) => Lib.run_convert_bytes_const (P := Tryz.prog) w 22 5 C n c Tryz.underlying22 Tryz.underlying5
  obtain ⟨X0, hX0⟩ : ∃ X0, w.alloc (.cells #[.int .u8 104, .int .u8 116, .int .u8 116, .int .u8 112, .int .u8 58, .int .u8 47, .int .u8 47, .int .u8 97] 5 (8, 9)) = X0 := ⟨_, rfl⟩
  have B_0 : Below w.heap.size w X0 := by rw [← hX0]; exact (Below.refl _ w).alloc (Nat.le_refl _) _
  have hby : By X0 (.slice (some ⟨w.heap.size, 0, none⟩) 8 8) liveA := by rw [← hX0]; exact by_lit w #[.int .u8 104, .int .u8 116, .int .u8 116, .int .u8 112, .int .u8 58, .int .u8 47, .int .u8 47, .int .u8 97] liveA (8, 9) 8 rfl rfl (by decide)
  have con := Lbl.Parse_any (some ⟨w.heap.size, 0, none⟩) 8 8 liveA X0 hby (by omega) (fun _ => by have := Frm.at_len 59 liveA; have h8 : liveA.length = 8 := rfl; omega) (hG.on B_0)
  rw [liveL_parse] at con
  have HX0 := Lib.hid hX0
  clear hX0 hby hG
  go_enter Tryz.func8, Tryz.ntmps8
  go_wp2_with fail
  rw [HX0.out]
  refine con.mono ?_
  rintro e X1 ⟨q1, n1, c1, q2, n2, c2, rfl, f1, f2, _, _, hb⟩
  have B_1 := B_0.trans (hb.mono B_0.size)
  have hs : LabIs X1 (.agg #[.slice q1 n1 c1, .slice q2 n2 c2]) liveL := ⟨_, _, _, _, _, _, rfl, f1, f2⟩
  clear con hb B_0 HX0 f1 f2
  obtain ⟨b1, hb1⟩ : ∃ b, X1.heap.size = b := ⟨_, rfl⟩
  obtain ⟨X2, hX2⟩ : ∃ Z, X1.alloc (.cells #[.slice q1 n1 c1, .slice q2 n2 c2] 28) = Z := ⟨_, rfl⟩
  have L1 : LX b1 q1 n1 c1 q2 n2 c2 liveL X2 := by rw [← hX2, ← hb1]; exact LX.new hs
  have hb : Below X1.heap.size X1 X2 := by rw [← hX2]; exact below_alloc _
  have B_2 := B_1.trans (hb.mono B_1.size)
  have HX2 := Lib.hid hX2
  have HB1 := Lib.hid hb1
  have e1 : (([104, 116, 116, 112, 58, 47, 47, 97, 32, 59, 32, 97, 108, 119, 97, 121, 115] : List UInt8) == [104, 116, 116, 112, 58, 47, 47, 97, 32, 59, 32, 97, 108, 119, 97, 121, 115]) = true := by decide
  clear hX2 hb1 hs hb B_1
  unfold labE
  go_wp2_with fail
  rewrite [HB1.out, HX2.out]
  refine pregion_any (fun X => X.cell? ⟨b1, 0, none⟩ = some (.slice q1 n1 c1) ∧ X.cell? ⟨b1, 1, none⟩ = some (.slice q2 n2 c2)) (by kernel_rfl) ?_
  have hb : Below X2.heap.size X2 X2.drew := ⟨rfl, rfl, rfl, Nat.le_refl _, fun _ _ => rfl⟩
  obtain ⟨Yr1, hXd⟩ : ∃ Z, X2.drew = Z := ⟨_, rfl⟩
  rw [hXd] at hb ⊢
  have DY1 := B_2.trans (hb.mono B_2.size)
  replace L1 := L1.on hb
  clear hb hXd
  refine pone 0 (by kernel_rfl) rfl fun K hK => ?_
  go_simp
  refine hK _ _ ⟨L1.c0, L1.c1⟩ ?_
  clear hK K
  refine plist #[true, false, false, false, false, false, false, false, false, false, false, false, false, false, false, false, false, false, false, false, false, false, false, false] (by kernel_rfl) ?_
  refine pone 1 (by kernel_rfl) rfl fun K hK => ?_
  go_simp
  refine hK _ _ ⟨L1.c0, L1.c1⟩ ?_
  clear hK K
  refine plist #[true, true, false, false, false, false, false, false, false, false, false, false, false, false, false, false, false, false, false, false, false, false, false, false] (by kernel_rfl) ?_
  refine pone 2 (by kernel_rfl) rfl fun K hK => ?_
  go_simp
  refine hK _ _ ⟨L1.c0, L1.c1⟩ ?_
  clear hK K
  refine plist #[true, true, true, false, false, false, false, false, false, false, false, false, false, false, false, false, false, false, false, false, false, false, false, false] (by kernel_rfl) ?_
  refine wpAnyH_take (i := 3) (v := (.agg #[.slice q1 n1 c1, .slice q2 n2 c2])) rfl (by kernel_rfl) (by kernel_rfl) (by kernel_rfl) (fun _ _ _ h => h) (.inl ⟨by kernel_rfl, ?_⟩) ⟨L1.c0, L1.c1⟩ ?_
  · rintro w ⟨h1, h2⟩; go_simp <;> omega
  have con := Lbl.Text_any _ liveL Yr1 L1.2 liveL_few (by decide +kernel) (by decide +kernel)
  rewrite [liveL_text] at con
  refine plist #[true, true, true, true, false, false, false, false, false, false, false, false, false, false, false, false, false, false, false, false, false, false, false, false] (by kernel_rfl) ?_
  refine pone 4 (by kernel_rfl) rfl fun K hK => ?_
  go_simp
  refine con.mono ?_
  rintro e Yr2 ⟨rfl, hb⟩
  have DY2 := DY1.trans (hb.mono DY1.size)
  replace L1 := L1.on hb
  clear hb con DY1
  refine hK _ _ ⟨L1.c0, L1.c1⟩ ?_
  clear hK K
  refine plist #[true, true, true, true, true, false, false, false, false, false, false, false, false, false, false, false, false, false, false, false, false, false, false, false] (by kernel_rfl) ?_
  refine pone 5 (by kernel_rfl) rfl fun K hK => ?_
  go_simp
  refine hK _ _ ⟨L1.c0, L1.c1⟩ ?_
  clear hK K
  refine plist #[true, true, true, true, true, true, false, false, false, false, false, false, false, false, false, false, false, false, false, false, false, false, false, false] (by kernel_rfl) ?_
  refine pone 6 (by kernel_rfl) rfl fun K hK => ?_
  go_simp
  refine hK _ _ ⟨L1.c0, L1.c1⟩ ?_
  clear hK K
  refine plist #[true, true, true, true, true, true, true, false, false, false, false, false, false, false, false, false, false, false, false, false, false, false, false, false] (by kernel_rfl) ?_
  refine pone 7 (by kernel_rfl) rfl fun K hK => ?_
  go_simp
  refine hK _ _ ⟨L1.c0, L1.c1⟩ ?_
  clear hK K
  refine plist #[true, true, true, true, true, true, true, true, false, false, false, false, false, false, false, false, false, false, false, false, false, false, false, false] (by kernel_rfl) ?_
  refine wpAnyH_take (i := 9) (v := (.agg #[.slice q1 n1 c1, .slice q2 n2 c2])) rfl (by kernel_rfl) (by kernel_rfl) (by kernel_rfl) (fun _ _ _ h => h) (.inl ⟨by kernel_rfl, ?_⟩) ⟨L1.c0, L1.c1⟩ ?_
  · rintro w ⟨h1, h2⟩; go_simp <;> omega
  have con := Open_any Yr2
  refine plist #[true, true, true, true, true, true, true, true, false, true, false, false, false, false, false, false, false, false, false, false, false, false, false, false] (by kernel_rfl) ?_
  refine pone 8 (by kernel_rfl) rfl fun K hK => ?_
  go_simp
  refine con.mono ?_
  rintro e Yr3 ⟨v1, rfl, N1, hb⟩
  have DY3 := DY2.trans (hb.mono DY2.size)
  replace L1 := L1.on hb
  clear hb con DY2
  refine hK _ _ ⟨L1.c0, L1.c1⟩ ?_
  clear hK K
  have con := Lbl.Flows_any _ _ ⟨[], []⟩ liveL Yr3 N1 L1.2 open_few liveL_few
  rewrite [liveL_1] at con
  refine plist #[true, true, true, true, true, true, true, true, true, true, false, false, false, false, false, false, false, false, false, false, false, false, false, false] (by kernel_rfl) ?_
  refine pone 10 (by kernel_rfl) rfl fun K hK => ?_
  go_simp
  refine con.mono ?_
  rintro e Yr4 ⟨rfl, hb⟩
  have DY4 := DY3.trans (hb.mono DY3.size)
  replace L1 := L1.on hb
  replace N1 := N1.below hb
  clear hb con DY3
  refine hK _ _ ⟨L1.c0, L1.c1⟩ ?_
  clear hK K
  refine plist #[true, true, true, true, true, true, true, true, true, true, true, false, false, false, false, false, false, false, false, false, false, false, false, false] (by kernel_rfl) ?_
  refine pone 11 (by kernel_rfl) rfl fun K hK => ?_
  go_simp
  refine hK _ _ ⟨L1.c0, L1.c1⟩ ?_
  clear hK K
  refine plist #[true, true, true, true, true, true, true, true, true, true, true, true, false, false, false, false, false, false, false, false, false, false, false, false] (by kernel_rfl) ?_
  refine pone 12 (by kernel_rfl) rfl fun K hK => ?_
  go_simp
  refine hK _ _ ⟨L1.c0, L1.c1⟩ ?_
  clear hK K
  refine plist #[true, true, true, true, true, true, true, true, true, true, true, true, true, false, false, false, false, false, false, false, false, false, false, false] (by kernel_rfl) ?_
  refine wpAnyH_take (i := 13) (v := (.agg #[.slice q1 n1 c1, .slice q2 n2 c2])) rfl (by kernel_rfl) (by kernel_rfl) (by kernel_rfl) (fun _ _ _ h => h) (.inl ⟨by kernel_rfl, ?_⟩) ⟨L1.c0, L1.c1⟩ ?_
  · rintro w ⟨h1, h2⟩; go_simp <;> omega
  have con := Shut_any Yr4
  refine plist #[true, true, true, true, true, true, true, true, true, true, true, true, true, true, false, false, false, false, false, false, false, false, false, false] (by kernel_rfl) ?_
  refine pone 14 (by kernel_rfl) rfl fun K hK => ?_
  go_simp
  refine con.mono ?_
  rintro e Yr5 ⟨v2, rfl, N2, hb⟩
  have DY5 := DY4.trans (hb.mono DY4.size)
  replace L1 := L1.on hb
  replace N1 := N1.below hb
  clear hb con DY4
  refine hK _ _ ⟨L1.c0, L1.c1⟩ ?_
  clear hK K
  have con := Lbl.Flows_any _ _ liveL ⟨[[]], []⟩ Yr5 L1.2 N2 liveL_few shut_few
  rewrite [liveL_2] at con
  refine plist #[true, true, true, true, true, true, true, true, true, true, true, true, true, true, true, false, false, false, false, false, false, false, false, false] (by kernel_rfl) ?_
  refine pone 15 (by kernel_rfl) rfl fun K hK => ?_
  go_simp
  refine con.mono ?_
  rintro e Yr6 ⟨rfl, hb⟩
  have DY6 := DY5.trans (hb.mono DY5.size)
  replace L1 := L1.on hb
  replace N1 := N1.below hb
  replace N2 := N2.below hb
  clear hb con DY5
  refine hK _ _ ⟨L1.c0, L1.c1⟩ ?_
  clear hK K
  refine plist #[true, true, true, true, true, true, true, true, true, true, true, true, true, true, true, true, false, false, false, false, false, false, false, false] (by kernel_rfl) ?_
  refine pone 16 (by kernel_rfl) rfl fun K hK => ?_
  go_simp
  refine hK _ _ ⟨L1.c0, L1.c1⟩ ?_
  clear hK K
  refine plist #[true, true, true, true, true, true, true, true, true, true, true, true, true, true, true, true, true, false, false, false, false, false, false, false] (by kernel_rfl) ?_
  refine pone 17 (by kernel_rfl) rfl fun K hK => ?_
  go_simp
  refine hK _ _ ⟨L1.c0, L1.c1⟩ ?_
  clear hK K
  refine plist #[true, true, true, true, true, true, true, true, true, true, true, true, true, true, true, true, true, true, false, false, false, false, false, false] (by kernel_rfl) ?_
  refine wpAnyH_take (i := 18) (v := (.agg #[.slice q1 n1 c1, .slice q2 n2 c2])) rfl (by kernel_rfl) (by kernel_rfl) (by kernel_rfl) (fun _ _ _ h => h) (.inl ⟨by kernel_rfl, ?_⟩) ⟨L1.c0, L1.c1⟩ ?_
  · rintro w ⟨h1, h2⟩; go_simp <;> omega
  have con := Open_any Yr6
  refine plist #[true, true, true, true, true, true, true, true, true, true, true, true, true, true, true, true, true, true, true, false, false, false, false, false] (by kernel_rfl) ?_
  refine pone 19 (by kernel_rfl) rfl fun K hK => ?_
  go_simp
  refine con.mono ?_
  rintro e Yr7 ⟨v3, rfl, N3, hb⟩
  have DY7 := DY6.trans (hb.mono DY6.size)
  replace L1 := L1.on hb
  replace N1 := N1.below hb
  replace N2 := N2.below hb
  clear hb con DY6
  refine hK _ _ ⟨L1.c0, L1.c1⟩ ?_
  clear hK K
  have con := Lbl.Flows_any _ _ liveL ⟨[], []⟩ Yr7 L1.2 N3 liveL_few open_few
  rewrite [liveL_3] at con
  refine plist #[true, true, true, true, true, true, true, true, true, true, true, true, true, true, true, true, true, true, true, true, false, false, false, false] (by kernel_rfl) ?_
  refine pone 20 (by kernel_rfl) rfl fun K hK => ?_
  go_simp
  refine con.mono ?_
  rintro e Yr8 ⟨rfl, hb⟩
  have DY8 := DY7.trans (hb.mono DY7.size)
  replace L1 := L1.on hb
  replace N1 := N1.below hb
  replace N2 := N2.below hb
  replace N3 := N3.below hb
  clear hb con DY7
  refine hK _ _ ⟨L1.c0, L1.c1⟩ ?_
  clear hK K
  refine plist #[true, true, true, true, true, true, true, true, true, true, true, true, true, true, true, true, true, true, true, true, true, false, false, false] (by kernel_rfl) ?_
  refine pone 21 (by kernel_rfl) rfl fun K hK => ?_
  go_simp
  refine hK _ _ ⟨L1.c0, L1.c1⟩ ?_
  clear hK K
  refine plist #[true, true, true, true, true, true, true, true, true, true, true, true, true, true, true, true, true, true, true, true, true, true, false, false] (by kernel_rfl) ?_
  refine pone 22 (by kernel_rfl) rfl fun K hK => ?_
  go_simp
  refine hK _ _ ⟨L1.c0, L1.c1⟩ ?_
  clear hK K
  refine plist #[true, true, true, true, true, true, true, true, true, true, true, true, true, true, true, true, true, true, true, true, true, true, true, false] (by kernel_rfl) ?_
  refine pone 23 (by kernel_rfl) rfl fun K hK => ?_
  go_simp
  refine hK _ _ ⟨L1.c0, L1.c1⟩ ?_
  clear hK K
  refine pdone (by kernel_rfl) ?_ _
  go_wp2
  go_ret
  exact ⟨by first | rfl | simp | decide, DY8⟩

/-! ### Of -/
set_option maxRecDepth 100000 in
set_option maxHeartbeats 8000000 in
theorem lawOf_any (q : Option Addr) (n c : Nat) (t : List UInt8) (w : World) (hby : By w (.slice q n c) t) (hG : Gl w) :
    Calls Tryz.prog 14 #[.slice q n c] w fun e w' => ∃ q1 n1 c1 q2 n2 c2, e = .returned (.agg #[.slice q1 n1 c1, .slice q2 n2 c2]) ∧ LabIs w' (.agg #[.slice q1 n1 c1, .slice q2 n2 c2]) (labV (parseL (t.take 400))) ∧ Below w.heap.size w w' := by
  obtain ⟨h1, h2, h3, h4, h5⟩ := hby.at
  obtain ⟨W, hW⟩ : ∃ W, w.alloc (.cells #[.slice none 0 0, .slice none 0 0] 28) = W := ⟨_, rfl⟩
  have A1 : Below w.heap.size w W := hW ▸ below_alloc _
  have b8 : LB w.heap.size #[.slice none 0 0, .slice none 0 0] W := hW ▸ LB.new w _
  have HSZ := Lib.hid (show W.heap.size = w.heap.size + 1 by rw [← hW]; simp)
  have HW := Lib.hid hW
  have hsub := hby.sub (Nat.zero_le (min n 400)) (Nat.min_le_left n 400)
  rw [subA_zero, Nat.sub_zero, Nat.sub_zero] at hsub
  have et : sub t 0 (min n 400) = t.take 400 := by
    unfold sub
    rw [List.drop_zero, Nat.sub_zero, ← h1]
    rcases Nat.le_total t.length 400 with h | h
    · rw [Nat.min_eq_left h, List.take_of_length_le h, List.take_of_length_le (Nat.le_refl _)]
    · rw [Nat.min_eq_right h]
  rw [et] at hsub
  have con := Lbl.Parse_any q (min n 400) c (t.take 400) W (hsub.on A1) (by omega) (fun _ => by have h1 := Frm.at_len 59 (t.take 400); rw [List.length_take] at h1; omega) (hG.on A1)
  have HM := Lib.hid (show (min (n : Int) 400).toNat = min n 400 by omega)
  obtain ⟨r, hr⟩ : ∃ r, parseL (t.take 400) = r := ⟨_, rfl⟩
  rw [hr] at con ⊢
  unfold LabOut at con
  obtain ⟨en, hen⟩ : ∃ n, labE r = n := ⟨_, rfl⟩
  obtain ⟨rv, hrv⟩ : ∃ v, labV r = v := ⟨_, rfl⟩
  rw [hen, hrv] at con
  rw [hrv]
  clear hW hsub et hr hG h5 hby h1 hen hrv
  go_enter Tryz.func14, Tryz.ntmps14
  go_wp2_with fail
  rw [HW.out, HM.out]
  refine con.mono ?_
  rintro e w2 ⟨q5, n5, c5, q6, n6, c6, rfl, f5, f6, k5, k6, hb⟩
  have A2 := A1.trans (hb.mono A1.size)
  have hba : Below w2.heap.size w2 (w2.alloc (.cells #[.slice q5 n5 c5, .slice q6 n6 c6] 28)) := below_alloc _
  have A3 := A2.trans (hba.mono A2.size)
  replace b8 := (b8.on hb).on hba
  have bx := LB.new w2 #[.slice q5 n5 c5, .slice q6 n6 c6]
  replace f5 := f5.below hba
  replace f6 := f6.below hba
  have K5 := Lib.hid (show ∀ a, q5 = some a → 0 < n5 → w.heap.size < a.block from fun a h h0 => by have := k5 a h h0; have := HSZ.out; omega)
  have K6 := Lib.hid (show ∀ a, q6 = some a → 0 < n6 → w.heap.size < a.block from fun a h h0 => by have := k6 a h h0; have := HSZ.out; omega)
  have kf0 := b8.frozen 0
  have kf1 := b8.frozen 1
  have z0 := b8.box 0 _ rfl
  have z1 := b8.box 1 _ rfl
  have x0 := bx.box 0 _ rfl
  have x1 := bx.box 1 _ rfl
  obtain ⟨Y, hY, bY, hkY, hBY⟩ := b8.put (.slice q5 n5 c5) (.slice q6 n6 c6)
  have A6 := A3.trans (hBY _ (Nat.le_refl _))
  have g5 := FrmIs.off f5 b8 (fun a h h0 => by have := K5.out a h h0; omega) (hkY _ (by simp))
  have g6 := FrmIs.off f6 b8 (fun a h h0 => by have := K6.out a h h0; omega) (hkY _ (by simp))
  have HY := Lib.hid hY
  clear con hb A1 HW k5 k6 hba hY f5 f6 bx
  go_wp2
  rw [HY.out]
  refine bodyPost_ret (ret_lab rfl _ _ w.heap.size _ rfl bY rfl) rfl ?_
  exact ⟨q5, n5, c5, q6, n6, c6, rfl, ⟨_, _, _, _, _, _, rfl, g5, g6⟩, A6⟩

end Go.Proofs.YtdlofjcblcpgpaaGreatDoor.Lbl

namespace Go.Proofs.YtdlofjcblcpgpaaGreatDoor.Lbl
open Go.RowKit Go.Shelf Go.Sort Url Org Cls Frm
set_option linter.unusedVariables false

theorem few_of (l x : List (List (List UInt8))) (h : ofF l = .inr x) : x.length ≤ 16 := by
  unfold ofF at h
  split at h
  · rename_i hf; cases h; exact hf
  · cases h
theorem few_or (f g x : List (List (List UInt8))) (h : orR f g = .inr x) : x.length ≤ 16 := by
  unfold orR at h
  split at h
  · exact few_of _ _ h
  · cases h
theorem join_few (l o : Lab) (_ : LOk l) (_ : LOk o) (j : Lab) (h : joinR l o = .inr j) : Few j := by
  unfold joinR at h
  split at h
  · cases h
  · rename_i s hs
    split at h
    · cases h
    · rename_i i hi
      cases h
      exact ⟨few_of _ _ hs, few_or _ _ _ hi⟩
theorem meet_few (l o : Lab) (_ : LOk l) (_ : LOk o) (j : Lab) (h : meetR l o = .inr j) : Few j := by
  unfold meetR at h
  split at h
  · cases h
  · rename_i s hs
    split at h
    · cases h
    · rename_i i hi
      cases h
      exact ⟨few_or _ _ _ hs, few_of _ _ hi⟩
theorem same_flows (l o : Lab) (hl : LOk l) (ho : LOk o) : sameB l o = (flowsB l o && flowsB o l) := by
  rw [flows_same l o hl.canon ho.canon]
  unfold sameB
  rw [Bool.decide_and]
theorem pure_flows (l : Lab) : flowsB ⟨[], [[]]⟩ l = true := by
  unfold flowsB
  rw [Bool.and_eq_true]
  exact ⟨(imp_iff _ _).2 fun c hc => (by cases hc), (imp_iff _ _).2 fun c _ => ⟨[], by simp, fun p hp => (by cases hp)⟩⟩
theorem flows_shut (l : Lab) : flowsB l ⟨[[]], []⟩ = true := by
  unfold flowsB
  rw [Bool.and_eq_true]
  exact ⟨(imp_iff _ _).2 fun c _ => ⟨[], by simp, fun p hp => (by cases hp)⟩, (imp_iff _ _).2 fun c hc => (by cases hc)⟩
theorem pure_text : labT ⟨[], [[]]⟩ = [97, 108, 119, 97, 121, 115, 32, 59, 32, 110, 101, 118, 101, 114] := by decide +kernel
end Go.Proofs.YtdlofjcblcpgpaaGreatDoor.Lbl
