/- Package arena: Copy by the law's own function, that makes the same of each thing; Copy of none. Conditions: numbers of at most 2^40. -/
import Derived.Test.YtkpcakmkmkidpaaArnF
import Derived.RecoverIn
import Derived.Laws.AppendOwnNone
namespace Go.Proofs.Ytkpcakmkmkidpaa.Arn
open Go.RowKit Go.Shelf
attribute [local go_sem] Oper.semAt_some wide_fn
set_option linter.unusedVariables false

theorem row_lower {w : World} {base base' : Nat} {e : TypeId} {size : Nat} {v : Value} {n : Nat} {xs : List Value} (h : w.ownsRow base e size v n xs) (hb : base' ≤ base) : w.ownsRow base' e size v n xs := by
  refine ⟨h.1, ?_⟩
  rcases h.2 with h | ⟨g, cap, cur, h1, h2, h3⟩
  · exact .inl h
  · exact .inr ⟨g, cap, cur, h1, Nat.le_trans hb h2, h3⟩
theorem Clone_any (v : Value) (sl : List (Sl Int)) (base : Nat) (w : World) (h : w.ownsRow base 66 3 v sl.length (slsC sl)) (hn : sl.length ≤ 1024) :
    Calls Try.prog 29 #[v] w fun e w' => ∃ v', e = .returned v' ∧ w'.ownsRow w.heap.size 66 3 v' sl.length (slsC sl) ∧ Below w.heap.size w w' := by
  have q24 : ∀ (w : World) (a : Option Addr) (n c n' c' : Nat), (binOp .eql 62 (.slice a n c) (.slice none n' c')).run Try.prog w = .ok (.bool a.isNone) w := fun w a n c n' c' => Lib.run_eql_slice_nil w _ _ a n c n' c' Try.underlying62
  have hl := slsC_len sl
  have hone : ∀ u ∈ slsC sl, u.oneCell' = true := by
    clear h hn hl
    induction sl with
    | nil => intro u hu; cases hu
    | cons s r ih =>
      intro u hu
      rcases List.mem_append.1 hu with h | h
      · simp only [slC, List.mem_cons, List.not_mem_nil, or_false] at h
        rcases h with rfl | rfl | rfl <;> rfl
      · exact ih u h
  rcases h.2 with ⟨rfl, h0⟩ | ⟨g, cap, cur, rfl, hb, hg, h1, h2, h3, h4⟩
  · have hs : sl = [] := List.eq_nil_of_length_eq_zero h0
    subst hs
    clear h hl hone
    go_enter Try.func29, Try.ntmps29
    go_wp2
    go_ret
    exact ⟨_, rfl, World.ownsRow_nil _ _ _ _, Below.refl _ _⟩
  · obtain ⟨i0, hi0, hz0, hz1, hz2⟩ := info_arn info_slot
    have hc : ∀ j u, (slsC sl)[j]? = some u → (w.alloc (.cells #[] 66)).cell? ((⟨g, 0, none⟩ : Addr).add j) = some u := fun j u hu => by
      have hj := (List.getElem?_eq_some_iff.1 hu).1
      refine cell_later ?_
      rw [Go.WideShapes.add_plain, Nat.zero_add, h.cellAt j (by omega)]
      exact hu
    obtain ⟨n, hn2⟩ : ∃ n, sl.length = n := ⟨_, rfl⟩
    rw [hn2] at hl hn ⊢
    generalize slsC sl = xs at *
    have HC := Lib.hid hc
    have HO := Lib.hid hone
    have HL := Lib.hid hl
    have hm2 : (0 + n) * 24 ≤ 140737488355328 := by omega
    have hm3 : 0 + n ≤ maxLen := by unfold maxLen; omega
    clear h hn2 hc hone hl hg h1 h2 h3 h4
    go_enter Try.func29, Try.ntmps29
    go_wp2_with (at_builtin; go_must (refine wpList_append_own_at _ rfl _ _ 62 rfl w.heap.size 66 i0 (.agg #[.int .i64 0, .int .i64 0, .bool false]) 3 24 Try.underlying62 hi0 hz0 hz1 hz2 rfl (by decide) _ 0 [] rfl (World.ownsRow_made w #[] 0 (Nat.le_refl _) (Nat.zero_le _) rfl) ⟨g, 0, none⟩ n cap xs rfl HL.out HC.out HO.out hm3 hm2 (by simp) ?_); intro v1 w1 hown hgrow _ hat)
    go_wp2
    go_ret
    refine ⟨_, rfl, by simpa using hown, ((Below.refl _ w).alloc (Nat.le_refl _) _).grown hgrow (by simp) (fun k hk => by have e : some w.heap.size = some k := hk; cases e; exact Nat.le_refl _)⟩
theorem twin_any (x : Int) (w : World) : Calls Try.prog 22 #[.int .i64 x] w fun e w' => e = .returned (.int .i64 x) ∧ w = w' := by
  go_enter Try.func22, Try.ntmps22
  go_wp2
  go_ret
  exact ⟨rfl, rfl⟩
/-- The deferred function: nothing panics, nothing is recovered. -/
theorem idle_any (p : Option Addr) (w : World) (n : Nat) : CallsDIn Fence.wide n Try.prog 28 #[.pointer p] .returning w fun e u' w' => e = .returned (.tuple #[]) ∧ u' = .returning ∧ w' = w := by
  refine callsDIn_of_wpSIn Try.func28 rfl trivial fun c₀ cs hu => ?_
  apply wpSIn_seq
  apply wpSIn_region
  simp [wpOpsSIn, go_sem, recoverD, hu, Try.ntmps28]
  show Code.wpSIn _ _ _ _ _ _ _ _
  refine wpSIn_cond (t := false) rfl ?_
  refine wpSIn_of_wpIn rfl ?_
  gi_wp2
  cases c₀
  simp_all [Go.bodyPostS, results, Try.f28]
/-- To set what is there. -/
theorem setS_same {sl : List (Sl Int)} {k : Nat} {s : Sl Int} {x : Int} (hs : sl[k]? = some s) (hx : s.x = some x) (hn : sl.length ≤ 1024) : setS sl (hOf s.n k) x = sl := by
  have h := (find_is sl (hOf s.n k) k hn).2 ⟨s, x, hs, hx, rfl⟩
  unfold setS
  simp only [h, hs]
  obtain ⟨hi, rfl⟩ := List.getElem?_eq_some_iff.1 hs
  have : (⟨sl[k].n, some x⟩ : Sl Int) = sl[k] := by cases he : sl[k]; rw [he] at hx; simp only at hx ⊢; rw [hx]
  rw [this]
  exact List.set_getElem_self hi

/-- Between two rounds of Copy. -/
def CopyI (w : World) (c size bt bb pb : Nat) (sl0 : List (Sl Int)) (sl : List (Sl Int)) (k : Nat) (W : World) : Prop :=
  sl = sl0 ∧ k ≤ sl0.length ∧ Below w.heap.size w W ∧ (∃ v, At w.heap.size c size v sl0 W) ∧ Boxed W bt 48 (.func (.func 22) #[] #[]) ∧ Boxed W bb 24 (.pointer (some ⟨c, 0, none⟩)) ∧ Boxed W pb 24 (.pointer (some ⟨c, 0, none⟩))
theorem CopyI.keep {w : World} {c size bt bb pb : Nat} {sl0 sl : List (Sl Int)} {k : Nat} {W W' : World} {S : Nat → Prop} (h : CopyI w c size bt bb pb sl0 sl k W) (hk : Keep S W W') (h1 : ∀ b cs t, BL t b cs W → S b) (h2 : ∀ b, b < w.heap.size → S b) : CopyI w c size bt bb pb sl0 sl k W' := by
  obtain ⟨a1, a2, a3, ⟨v, a4⟩, a5, a6, a7⟩ := h
  refine ⟨a1, a2, a3.trans ((hk.mono fun j _ hj => h2 j hj).below a3.size), ⟨v, a4.keep hk (h1 _ _ _ a4.bl) fun b hb => ?_⟩, hk.boxed a5 (h1 _ _ _ (box_bl a5)), hk.boxed a6 (h1 _ _ _ (box_bl a6)), hk.boxed a7 (h1 _ _ _ (box_bl a7))⟩
  rcases a4.row.2 with ⟨rfl, _⟩ | ⟨g, cap, cur, rfl, _, hg, _⟩
  · cases hb
  · cases hb
    exact h1 g _ _ hg

set_option maxRecDepth 100000 in
set_option maxHeartbeats 8000000 in
theorem Copy_any (base b size : Nat) (v : Value) (sl : List (Sl Int)) (w : World) (ha : At base b size v sl w) (hf : Few 1099511627776 sl) :
    Calls Try.prog 15 #[.pointer (some ⟨b, 0, none⟩), .func (.func 22) #[] #[]] w fun e w' => ∃ c v', e = .returned (.pointer (some ⟨c, 0, none⟩)) ∧ At w.heap.size c size v' sl w' ∧ Below w.heap.size w w' := by
  have hln : sl.length ≤ 1024 := by have := ha.len; have := ha.size2; omega
  obtain ⟨Wa, hWa⟩ : ∃ Wa, (w.alloc (.cells #[.func (.func 22) #[] #[]] 48)).alloc (.cells #[.pointer none] 24) = Wa := ⟨_, rfl⟩
  have hBa : Below w.heap.size w Wa := by rw [← hWa]; exact ((Below.refl _ w).alloc (Nat.le_refl _) _).alloc (by simp) _
  have hsa : Wa.heap.size = w.heap.size + 2 := by rw [← hWa]; simp
  have bt : Boxed Wa w.heap.size 48 (.func (.func 22) #[] #[]) := by rw [← hWa]; exact (Boxed.new w _ _).alloc _
  have bb : Boxed Wa (w.heap.size + 1) 24 (.pointer none) := by
    rw [← hWa]
    have := Boxed.new (w.alloc (.cells #[.func (.func 22) #[] #[]] 48)) 24 (.pointer none)
    rwa [World.size_alloc] at this
  have haA := ha.on hBa
  have HWa := Lib.hid hWa
  have hmf : ∀ (fn : Fn) (first cap : Array Value) (w : World), (Instr.makeFunc fn first cap).run Try.prog w = .ok (.func fn first cap) w := fun _ _ _ _ => rfl
  clear hWa ha
  refine (callsIn_wide (n := 1)).1 ?_
  refine callsIn_of_wp_marks Try.func15 rfl trivial ?_ rfl
  simp only [Try.ntmps15, List.size_toArray, List.length_cons, List.length_nil, Nat.reduceAdd, Nat.reduceSub, Array.replicate_succ, Array.replicate_zero, List.push_toArray, List.append_toArray, List.nil_append, List.cons_append]
  obtain ⟨Z, hZ⟩ : ∃ Z, Wa.drew = Z := ⟨_, rfl⟩
  have hdr : Below Wa.heap.size Wa Z := by rw [← hZ]; exact (Below.refl _ _).drew
  replace haA := haA.on hdr
  replace bt := (Keep.of_below hdr).boxed bt bt.lt
  replace bb := (Keep.of_below hdr).boxed bb bb.lt
  have hBZ := hBa.trans (hdr.mono hBa.size)
  have hsz : Z.heap.size = w.heap.size + 2 := by rw [← hZ]; exact hsa
  have HZ := Lib.hid hZ
  have c0 : Z.cell? ⟨b, 0, none⟩ = some (.int .i64 size) := haA.bl.cell 0 _ rfl
  have c1 : Z.cell? ⟨b, 1, none⟩ = some v := haA.bl.cell 1 _ rfl
  have con := Clone_any v sl base Z haA.row hln
  have HA := Lib.hid haA
  have HBZ := Lib.hid hBZ
  clear hZ hdr haA hBa hBZ hsa
  gi_wp2
  rw [HWa.out]
  refine region_any (fun X => X.cell? ⟨b, 0, none⟩ = some (.int .i64 size) ∧ X.cell? ⟨b, 1, none⟩ = some v) (by kernel_rfl) ?_
  rw [HZ.out]
  refine anyH_take 0 (v := (.pointer (some ⟨b, 0, none⟩))) rfl (by kernel_rfl) (by kernel_rfl) (by kernel_rfl) (by kernel_rfl) (fun _ _ _ h => h) ⟨.inl ⟨by rfl, ?_⟩, fun _ => rfl⟩ ⟨c0, c1⟩ ?_
  · rintro w -; go_simp
  simp only [Act.put, List.getElem_toArray, List.getElem_cons_zero, List.setIfInBounds_toArray, List.set_cons_zero, List.set_cons_succ]
  refine anyH_take 1 (v := (.pointer (some ⟨b, 0, none⟩))) rfl (by kernel_rfl) (by kernel_rfl) (by kernel_rfl) (by kernel_rfl) (fun _ _ _ h => h) ⟨.inl ⟨by rfl, ?_⟩, fun _ => rfl⟩ ⟨c0, c1⟩ ?_
  · rintro w -; go_simp
  simp only [Act.put, List.getElem_toArray, List.getElem_cons_zero, List.getElem_cons_succ, List.setIfInBounds_toArray, List.set_cons_zero, List.set_cons_succ]
  refine anyH_take 2 (v := (.pointer (some ⟨b, 0, none⟩))) rfl (by kernel_rfl) (by kernel_rfl) (by kernel_rfl) (by kernel_rfl) (fun _ _ _ h => h) ⟨.inl ⟨by rfl, ?_⟩, fun _ => rfl⟩ ⟨c0, c1⟩ ?_
  · rintro w -; go_simp
  simp only [Act.put, List.getElem_toArray, List.getElem_cons_zero, List.getElem_cons_succ, List.setIfInBounds_toArray, List.set_cons_zero, List.set_cons_succ]
  refine anyH_take 3 (v := (.int .i64 size)) rfl (by kernel_rfl) (by kernel_rfl) (by kernel_rfl) (by kernel_rfl) (fun _ _ _ h => h) ⟨.inl ⟨by rfl, ?_⟩, fun _ => rfl⟩ ⟨c0, c1⟩ ?_
  · rintro w ⟨h1, h2⟩; go_simp
  simp only [Act.put, List.getElem_toArray, List.getElem_cons_zero, List.getElem_cons_succ, List.setIfInBounds_toArray, List.set_cons_zero, List.set_cons_succ]
  refine anyH_take 4 (v := (.pointer (some ⟨b, 0, none⟩))) rfl (by kernel_rfl) (by kernel_rfl) (by kernel_rfl) (by kernel_rfl) (fun _ _ _ h => h) ⟨.inl ⟨by rfl, ?_⟩, fun _ => rfl⟩ ⟨c0, c1⟩ ?_
  · rintro w -; go_simp
  simp only [Act.put, List.getElem_toArray, List.getElem_cons_zero, List.getElem_cons_succ, List.setIfInBounds_toArray, List.set_cons_zero, List.set_cons_succ]
  refine anyH_take 5 (v := (.pointer (some ⟨b, 0, none⟩))) rfl (by kernel_rfl) (by kernel_rfl) (by kernel_rfl) (by kernel_rfl) (fun _ _ _ h => h) ⟨.inl ⟨by rfl, ?_⟩, fun _ => rfl⟩ ⟨c0, c1⟩ ?_
  · rintro w -; go_simp
  simp only [Act.put, List.getElem_toArray, List.getElem_cons_zero, List.getElem_cons_succ, List.setIfInBounds_toArray, List.set_cons_zero, List.set_cons_succ]
  refine anyH_take 6 (v := (.pointer (some ⟨b, 1, none⟩))) rfl (by kernel_rfl) (by kernel_rfl) (by kernel_rfl) (by kernel_rfl) (fun _ _ _ h => h) ⟨.inl ⟨by rfl, ?_⟩, fun _ => rfl⟩ ⟨c0, c1⟩ ?_
  · rintro w -; go_simp
  simp only [Act.put, List.getElem_toArray, List.getElem_cons_zero, List.getElem_cons_succ, List.setIfInBounds_toArray, List.set_cons_zero, List.set_cons_succ]
  refine anyH_take 7 (v := v) rfl (by kernel_rfl) (by kernel_rfl) (by kernel_rfl) (by kernel_rfl) (fun _ _ _ h => h) ⟨.inl ⟨by rfl, ?_⟩, fun _ => rfl⟩ ⟨c0, c1⟩ ?_
  · rintro w ⟨h1, h2⟩; go_simp
  simp only [Act.put, List.getElem_toArray, List.getElem_cons_zero, List.getElem_cons_succ, List.setIfInBounds_toArray, List.set_cons_zero, List.set_cons_succ]
  refine anyH_one 8 (by kernel_rfl) rfl fun K hK => ?_
  go_simp
  refine (callsIn_wide.2 con).mono ?_
  rintro e W1 ⟨v', rfl, hr1, hb1⟩
  obtain ⟨q', c', rfl⟩ := row_slice hr1
  have A1 := HA.out.on hb1
  have bt1 := (Keep.of_below hb1).boxed bt bt.lt
  have bb1 := (Keep.of_below hb1).boxed bb bb.lt
  have hs1 := hb1.size
  have hB1 := HBZ.out.trans (hb1.mono HBZ.out.size)
  have d0 : W1.cell? ⟨b, 0, none⟩ = some (.int .i64 size) := A1.bl.cell 0 _ rfl
  have d1 : W1.cell? ⟨b, 1, none⟩ = some v := A1.bl.cell 1 _ rfl
  refine hK _ _ ⟨d0, d1⟩ ?_
  clear hK K con
  refine anyH_one 9 (by kernel_rfl) rfl fun K hK => ?_
  go_simp
  refine hK _ _ ⟨d0, d1⟩ ?_
  clear hK K
  have A2 := A1.on (blk_alloc (.cells #[.int .i64 size, .slice q' sl.length c'] 64))
  have bt2 := bt1.alloc (.cells #[.int .i64 size, .slice q' sl.length c'] 64)
  have bb2 := bb1.alloc (.cells #[.int .i64 size, .slice q' sl.length c'] 64)
  have n2 := BL.new 64 W1 #[.int .i64 size, .slice q' sl.length c']
  have hr2 := hr1.alloc (.cells #[.int .i64 size, .slice q' sl.length c'] 64)
  refine anyH_one 10 (by kernel_rfl) rfl fun K hK => ?_
  go_simp
  refine hK _ _ ⟨A2.bl.cell 0 _ rfl, A2.bl.cell 1 _ rfl⟩ ?_
  clear hK K
  have e0 := bb2.cell
  have e1 := bb2.frozen
  have bb3 := bb2.set (.pointer (some ⟨W1.heap.size, 0, none⟩))
  have k3 := Keep.setCell (S := fun k => k ≠ w.heap.size + 1) (W1.alloc (.cells #[.int .i64 size, .slice q' sl.length c'] 64)) ⟨w.heap.size + 1, 0, none⟩ (.pointer (some ⟨W1.heap.size, 0, none⟩)) (by simp)
  have zb := box_bl bb2
  have A3 := A2.keep k3 (fun e => BL.ne A2.bl zb (by decide) e) (fun k hk e => zb.ne_row (by decide) A2.row (e ▸ hk))
  have bt3 := k3.boxed bt2 (by omega)
  have n3 : At w.heap.size W1.heap.size size (.slice q' sl.length c') sl (((W1.alloc (.cells #[.int .i64 size, .slice q' sl.length c'] 64))).setCell ⟨w.heap.size + 1, 0, none⟩ (.pointer (some ⟨W1.heap.size, 0, none⟩))) :=
    ⟨n2.keep k3 (by omega), by omega, k3.row (row_lower hr2 (by omega)) (fun k hk e => zb.ne_row (by decide) hr2 (e ▸ hk)), HA.out.len, HA.out.size1, HA.out.size2⟩
  have hB3 := (hB1.trans ((blk_alloc (w := W1) (.cells #[.int .i64 size, .slice q' sl.length c'] 64)).mono hB1.size)).trans ((k3.mono fun j _ hj => by omega).below (Nat.le_trans hB1.size (by simp)))
  refine anyH_one 11 (by kernel_rfl) rfl fun K hK => ?_
  clear n2 hr1 hr2 A2 bt2 bb2 bb1 bt1 bt bb A1 hb1 k3 hB1 zb
  go_simp
  refine hK _ _ ⟨A3.bl.cell 0 _ rfl, A3.bl.cell 1 _ rfl⟩ ?_
  clear hK K e0 e1 d0 d1 A3
  refine anyH_done (by kernel_rfl) ?_ _
  obtain ⟨c, hc⟩ : ∃ c, W1.heap.size = c := ⟨_, rfl⟩
  rw [hc] at bb3 n3 bt3 hB3 ⊢
  obtain ⟨W3, hW3⟩ : ∃ W3, (W1.alloc (.cells #[.int .i64 size, .slice q' sl.length c'] 64)).setCell ⟨w.heap.size + 1, 0, none⟩ (.pointer (some ⟨c, 0, none⟩)) = W3 := ⟨_, rfl⟩
  rw [hW3] at bb3 n3 bt3 hB3 ⊢
  have conA := All_any (some ⟨c, 0, none⟩) W3 c rfl
  have e0 := bb3.cell
  have pb := Boxed.new W3 24 (.pointer (some ⟨c, 0, none⟩))
  have n4 := n3.on (blk_alloc (.cells #[.pointer (some ⟨c, 0, none⟩)] 24))
  have bt4 := bt3.alloc (.cells #[.pointer (some ⟨c, 0, none⟩)] 24)
  have bb4 := bb3.alloc (.cells #[.pointer (some ⟨c, 0, none⟩)] 24)
  have hB4 := hB3.trans ((blk_alloc (w := W3) (.cells #[.pointer (some ⟨c, 0, none⟩)] 24)).mono hB3.size)
  have HC0 := Lib.hid hc
  clear hc hW3 n3 bt3 bb3 hB3 HA HBZ c0 c1 hs1 hsz
  gi_wp2_with fail
  refine (callsIn_wide.2 conA).mono ?_
  rintro e W4 ⟨rfl, rfl⟩
  clear conA e0
  obtain ⟨W4, hW4⟩ : ∃ W4, W3.alloc (.cells #[.pointer (some ⟨c, 0, none⟩)] 24) = W4 := ⟨_, rfl⟩
  rw [hW4] at pb n4 bt4 bb4 hB4 ⊢
  have hs4 := hB4.size
  have hw3 : W3.heap.size < W4.heap.size := by rw [← hW4]; simp
  clear hW4
  gi_wp2
  refine rf_lawS (gf := 27) (lb := #[.pointer (some ⟨W3.heap.size, 0, none⟩)]) rfl eg_all2 (All2_iter w.heap.size c size W3.heap.size) rfl (CopyI w c size w.heap.size (w.heap.size + 1) W3.heap.size sl) sl ?_ ?_ ?_ ?_ ⟨rfl, Nat.zero_le _, hB4, ⟨_, n4⟩, bt4, bb4, pb⟩ ?round ?done
  · rintro sl' k W ⟨rfl, -, -, ha, -, -, hp⟩
    exact ⟨ha, hf, hp.cell⟩
  · rintro sl' k A B h hB
    exact h.keep (Keep.of_below hB) (fun b cs t hb => hb.lt) (fun b hb => Nat.lt_of_lt_of_le hb h.2.2.1.size)
  · rintro sl' k A B h ⟨r, hr⟩ hB hs
    exact h.keep hB (fun b cs t hb e => by subst e; unfold BL at hb; rw [hr] at hb; cases hb) (fun b hb => by omega)
  · rintro sl' k W s ⟨rfl, hk, hrest⟩ hs hx
    exact ⟨rfl, (List.getElem?_eq_some_iff.1 hs).1, hrest⟩
  case round =>
    rintro sl' k s x W ⟨rfl, hk, hb, ⟨va, ha⟩, h1, h2, h3⟩ hs hx ⟨r, hr⟩ hD
    have hk1 := (List.getElem?_eq_some_iff.1 hs).1
    have HSS := Lib.hid (setS_same hs hx hln)
    have hsn := hf s (List.mem_of_getElem? hs)
    obtain ⟨H, hH⟩ : ∃ H, hOf s.n k = H := ⟨_, rfl⟩
    have hHb : -9223372036854775808 ≤ H ∧ H ≤ 9223372036854775807 := by rw [← hH]; unfold hOf; omega
    rw [hH] at HSS ⊢
    have HDr := Lib.hid hD
    have HI := Lib.hid (show CopyI w c size w.heap.size (w.heap.size + 1) W3.heap.size sl' sl' k W from ⟨rfl, hk, hb, ⟨va, ha⟩, h1, h2, h3⟩)
    clear hs hx hH hD hb ha h1 h2 h3 hsn n4 bt4 bb4 pb hB4
    gi_wp2
    refine ⟨Keep.refl _ _, fun W2 hk2 hs2 ⟨r2, hr2⟩ => ?_⟩
    have HI2 := Lib.hid (HI.out.keep hk2 (fun b cs t hb e => by subst e; unfold BL at hb; rw [hr] at hb; cases hb) (fun b hb => by omega))
    have hD2 := hk2.heap (show W4.heap.size ≠ W4.heap.size + 1 by omega) HDr.out
    obtain ⟨Zd, hZd⟩ : ∃ Zd, W2.drew = Zd := ⟨_, rfl⟩
    have HIZ := HI2.out.keep (S := fun _ => True) (show Keep _ W2 Zd by rw [← hZd]; exact Keep.drew _ _) (fun _ _ _ _ => trivial) (fun _ _ => trivial)
    have HKZ := Lib.hid (show Keep (fun b => b = W4.heap.size ∨ b = W4.heap.size + 1) W2 Zd by rw [← hZd]; exact Keep.drew _ _)
    have HDZ := Lib.hid (show Zd.heap[W4.heap.size]? = some (.deferred (some [])) by rw [← hZd]; exact hD2)
    have HRZ := Lib.hid (show Zd.heap[W4.heap.size + 1]? = some (.loop r2) by rw [← hZd]; exact hr2)
    have HZd := Lib.hid hZd
    obtain ⟨-, -, hbz, ⟨vz, haz⟩, z1, z2, z3⟩ := HIZ
    have e1 := z1.cell
    have e2 := z2.cell
    have hbo := haz.lo
    have conS := Set_any w.heap.size c size vz sl' H x Zd haz hf hHb
    have conT := twin_any x Zd
    have efn := enters_of Try.func22 (by kernel_rfl) rfl
    have HZ3 := Lib.hid (And.intro hbz (And.intro haz (And.intro z1 (And.intro z2 z3))))
    clear hk2 hr hr2 hs2 HI HI2 hD2 hZd hbz haz z1 z2 z3
    gi_wp2
    refine region_any (fun X => X.cell? ⟨w.heap.size, 0, none⟩ = some (.func (.func 22) #[] #[]) ∧ X.cell? ⟨w.heap.size + 1, 0, none⟩ = some (.pointer (some ⟨c, 0, none⟩))) (by kernel_rfl) ?_
    rw [HZd.out]
    refine anyH_take 0 (v := (.pointer (some ⟨c, 0, none⟩))) rfl (by kernel_rfl) (by kernel_rfl) (by kernel_rfl) (by kernel_rfl) (fun _ _ _ h => h) ⟨.inl ⟨by rfl, ?_⟩, fun _ => rfl⟩ ⟨e1, e2⟩ ?_
    · rintro w ⟨h1, h2⟩; go_simp
    simp only [Act.put, List.getElem_toArray, List.getElem_cons_zero, List.setIfInBounds_toArray, List.set_cons_zero, List.set_cons_succ]
    refine anyH_take 1 (v := (.int .i64 H)) rfl (by kernel_rfl) (by kernel_rfl) (by kernel_rfl) (by kernel_rfl) (fun _ _ _ h => h) ⟨.inl ⟨by rfl, ?_⟩, fun _ => rfl⟩ ⟨e1, e2⟩ ?_
    · rintro w -; go_simp
    simp only [Act.put, List.getElem_toArray, List.getElem_cons_zero, List.getElem_cons_succ, List.setIfInBounds_toArray, List.set_cons_zero, List.set_cons_succ]
    refine anyH_take 2 (v := (.func (.func 22) #[] #[])) rfl (by kernel_rfl) (by kernel_rfl) (by kernel_rfl) (by kernel_rfl) (fun _ _ _ h => h) ⟨.inl ⟨by rfl, ?_⟩, fun _ => rfl⟩ ⟨e1, e2⟩ ?_
    · rintro w ⟨h1, h2⟩; go_simp
    simp only [Act.put, List.getElem_toArray, List.getElem_cons_zero, List.getElem_cons_succ, List.setIfInBounds_toArray, List.set_cons_zero, List.set_cons_succ]
    refine anyH_take 3 (v := (.int .i64 x)) rfl (by kernel_rfl) (by kernel_rfl) (by kernel_rfl) (by kernel_rfl) (fun _ _ _ h => h) ⟨.inl ⟨by rfl, ?_⟩, fun _ => rfl⟩ ⟨e1, e2⟩ ?_
    · rintro w -; go_simp
    simp only [Act.put, List.getElem_toArray, List.getElem_cons_zero, List.getElem_cons_succ, List.setIfInBounds_toArray, List.set_cons_zero, List.set_cons_succ]
    refine anyH_one 4 (by kernel_rfl) rfl fun K hK => ?_
    go_simp
    refine ⟨rfl, (CallsIn.inRound (W4.heap.size + 1) (callsIn_wide.2 conT)).mono ?_⟩
    rintro e w' ⟨rfl, rfl⟩
    refine hK _ _ ⟨e1, e2⟩ ?_
    clear hK K
    refine anyH_one 5 (by kernel_rfl) rfl fun K hK => ?_
    go_simp
    refine ⟨rfl, (CallsIn.inRound (W4.heap.size + 1) (callsIn_wide.2 conS)).mono ?_⟩
    rintro e W5 ⟨rfl, v5, h5, hw5⟩
    obtain ⟨hbz, haz, z1, z2, z3⟩ := HZ3.out
    rw [HSS.out] at h5
    have o1 := BL.ne haz.bl (box_bl z1) (by decide)
    have o2 := BL.ne haz.bl (box_bl z2) (by decide)
    have o3 := BL.ne haz.bl (box_bl z3) (by decide)
    have y1 := hw5.1.boxed z1 ⟨fun e => o1 e.symm, fun e => (box_bl z1).ne_row (by decide) haz.row e⟩
    have y2 := hw5.1.boxed z2 ⟨fun e => o2 e.symm, fun e => (box_bl z2).ne_row (by decide) haz.row e⟩
    have y3 := hw5.1.boxed z3 ⟨fun e => o3 e.symm, fun e => (box_bl z3).ne_row (by decide) haz.row e⟩
    refine hK _ _ ⟨y1.cell, y2.cell⟩ ?_
    clear hK K
    refine anyH_done (by kernel_rfl) ?_ _
    have hKD : Keep (fun b => b = W4.heap.size ∨ b = W4.heap.size + 1) Zd W5 := hw5.1.mono fun j _ hj => by
      have hcd : ∀ j o, Zd.heap[j]? = some o → (∀ c t f, o ≠ .cells c t f) → j ≠ c ∧ vz.ownBlock ≠ some j := fun j o ho hc => ⟨fun e => by subst e; have := haz.bl; unfold BL at this; rw [ho] at this; cases this; exact hc _ _ _ rfl, row_not_obj haz.row ho hc⟩
      rcases hj with rfl | rfl
      · exact hcd _ _ HDZ.out (by simp)
      · exact hcd _ _ HRZ.out (by simp)
    have hB5 := hbz.trans ((hw5.1.mono fun j _ hj => ⟨by omega, fun e => by have := (haz.row.lt _ e).1; omega⟩).below hbz.size)
    have HE := Lib.hid (show CopyI w c size w.heap.size (w.heap.size + 1) W3.heap.size sl' sl' (k + 1) W5 from ⟨rfl, hk1, hB5, ⟨_, h5⟩, y1, y2, y3⟩)
    have HK5 := Lib.hid hKD
    clear hbz haz z1 z2 z3 o1 o2 o3 y1 y2 y3 hw5 h5 hKD hB5 conS conT
    gi_wp2
    exact ⟨HKZ.out.trans HK5.out, sl', rfl, HE.out⟩
  case done =>
    rintro sl' W hsl ⟨rfl, hk, hb, ⟨va, ha⟩, h1, h2, h3⟩ hD hlt
    have e0 := h2.cell
    have e1 := h2.frozen
    have zb := box_bl h2
    have k1 := Keep.setCell (S := fun k => k ≠ w.heap.size + 1) W ⟨w.heap.size + 1, 0, none⟩ (.pointer (some ⟨c, 0, none⟩)) (by simp)
    have a1 := ha.keep k1 (fun e => BL.ne ha.bl zb (by decide) e) (fun k hk e => zb.ne_row (by decide) ha.row (e ▸ hk))
    have b1 := h2.set (.pointer (some ⟨c, 0, none⟩))
    have d1 := k1.heap (fun e => by unfold BL at zb; rw [← e, hD] at zb; cases zb) hD
    have hB1 := hb.trans ((k1.mono fun j _ hj => by omega).below hb.size)
    clear hb ha h1 h2 h3 hD zb k1 n4 bt4 bb4 pb hB4
    gi_wp2
    obtain ⟨We, hWe⟩ : ∃ We, W.setCell ⟨w.heap.size + 1, 0, none⟩ (.pointer (some ⟨c, 0, none⟩)) = We := ⟨_, rfl⟩
    rw [hWe] at a1 b1 d1 hB1 ⊢
    clear e0 e1 hWe
    refine ⟨by simp, .inl ⟨_, _, rfl, run_takeDeferred d1, ?_⟩⟩
    have hkP : Keep (fun j => j ≠ W4.heap.size) We (We.putObj W4.heap.size (.deferred none)) := Keep.putObj _ _ _ (by simp)
    have br4 := (hkP.boxed b1 (box_not_obj b1 d1 (by simp))).cell
    have a4 := a1.keep hkP (fun e => by have h := a1.bl; unfold BL at h; rw [e, d1] at h; cases h) (fun k hk e => row_not_obj a1.row d1 (by simp) (e ▸ hk))
    have hB4 := hB1.trans ((hkP.mono fun j _ hj => by omega).below hB1.size)
    refine ⟨by simp, .inr ⟨(fun h => by cases h), .func 28, #[.pointer (some ⟨w.heap.size + 1, 0, none⟩)], 28, #[.pointer (some ⟨w.heap.size + 1, 0, none⟩)], rfl, by simp [go_sem], fun _ _ => trivial, ?_⟩⟩
    refine (idle_any _ _ _).mono ?_
    rintro e u' w'' ⟨rfl, rfl, rfl⟩
    refine ⟨.pointer (some ⟨c, 0, none⟩), ?_, c, rfl, ⟨_, a4⟩, hB4⟩
    simp [results, Try.f15, go_sem, br4]

theorem Copy_nil (w : World) : Calls Try.prog 15 #[.pointer none, Value.nilFunc] w fun e w' => e = .returned (.pointer none) ∧ Below w.heap.size w w' := by
  have hB : Below w.heap.size w ((w.alloc (.cells #[Value.nilFunc] 48)).alloc (.cells #[.pointer none] 24)) := ((Below.refl _ w).alloc (Nat.le_refl _) _).alloc (by simp) _
  have HB := Lib.hid hB
  clear hB
  refine (callsIn_wide (n := 1)).1 ?_
  refine callsIn_of_wp_marks Try.func15 rfl trivial ?_ rfl
  simp only [Try.ntmps15, List.size_toArray, List.length_cons, List.length_nil, Nat.reduceAdd, Nat.reduceSub, Array.replicate_succ, Array.replicate_zero, List.push_toArray, List.append_toArray, List.nil_append, List.cons_append]
  have bb := Boxed.new (w.alloc (.cells #[Value.nilFunc] 48)) 24 (.pointer none)
  rw [World.size_alloc] at bb
  have cb := bb.cell
  gi_wp2
  refine ⟨.pointer none, ?_, rfl, HB.out⟩
  simp [results, Try.f15, go_sem, cb]
end Go.Proofs.Ytkpcakmkmkidpaa.Arn
