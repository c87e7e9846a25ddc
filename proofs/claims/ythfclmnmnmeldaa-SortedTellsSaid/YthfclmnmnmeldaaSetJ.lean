/- package sorted: Sub. Conditions: sets of at most 2^40 values. -/
import Derived.Test.YthfclmnmnmeldaaSetI
namespace Go.Proofs.Ythfclmnmnmeldaa
open Go.RowKit Go.Shelf
attribute [local go_sem] Oper.semAt_some

/-- Between two rounds of Sub: nothing was in the one alone; or something was. -/
def SubI {α : Type} (T : TypeId) (Bo : Nat) (RB : Nat → Prop) (W0 : World) (pre : List (Nat × α)) (Pv : Nat → Prop) (W : World) : Prop :=
  Boxed W Bo T (.bool false) ∧ (∀ b, Pv b → W0.heap.size ≤ b) ∧ Keep RB W0 W ∧ (pre.any fun p => p.1 == 1) = false
def SubX {α : Type} (T : TypeId) (Bo : Nat) (RB : Nat → Prop) (W0 : World) (c : Code) (pre : List (Nat × α)) (Pv : Nat → Prop) (W : World) : Prop :=
  c = .ret ∧ Boxed W Bo T (.bool false) ∧ (∀ b, Pv b → W0.heap.size ≤ b) ∧ Keep RB W0 W ∧ (pre.any fun p => p.1 == 1) = true

theorem SubI_abide {α : Type} (T : TypeId) (Bo : Nat) (RB : Nat → Prop) (W0 : World) (hBo : Bo < W0.heap.size) (hRB : ∀ b, RB b → b < W0.heap.size) : Abide (SubI (α := α) T Bo RB W0) := by
  rintro pre Pv Pv' A B ⟨h1, h3, h6, h7⟩ hk hp
  have hs := h6.size
  refine ⟨hk.boxed h1 (fun h => by have := h3 _ h; omega), fun b hb => ?_, h6.trans (hk.mono fun b _ hb hpb => by have := h3 b hpb; have := hRB b hb; omega), h7⟩
  rcases (hp b hb).1 with h | h
  · exact h3 b h
  · omega
theorem SubX_abide {α : Type} (T : TypeId) (Bo : Nat) (RB : Nat → Prop) (W0 : World) (hBo : Bo < W0.heap.size) (hRB : ∀ b, RB b → b < W0.heap.size) (c : Code) : Abide (SubX (α := α) T Bo RB W0 c) := by
  rintro pre Pv Pv' A B ⟨h0, h1, h3, h6, h7⟩ hk hp
  have hs := h6.size
  refine ⟨h0, hk.boxed h1 (fun h => by have := h3 _ h; omega), fun b hb => ?_, h6.trans (hk.mono fun b _ hb hpb => by have := h3 b hpb; have := hRB b hb; omega), h7⟩
  rcases (hp b hb).1 with h | h
  · exact h3 b h
  · omega

set_option maxRecDepth 100000 in
set_option maxHeartbeats 2000000 in
theorem Sub_any (v1 v2 : Value) (xs ys : List Int) (w : World) (h1 : SetIs (Value.int .i64) w v1 xs) (h2 : SetIs (Value.int .i64) w v2 ys) (_hm1 : xs.length ≤ 1099511627776) (_hm2 : ys.length ≤ 1099511627776) :
    Calls Try.prog 20 #[v1, v2] w fun e w' => e = .returned (.bool (subB xs ys)) ∧ Below w.heap.size w w' := by
  obtain ⟨q1, n1, c1, rfl, hn1, _, hs1, hr1⟩ := h1
  obtain ⟨q2, n2, c2, rfl, hn2, _, hs2, hr2⟩ := h2
  obtain rfl := hs1.1
  obtain rfl := hs2.1
  have HSB := Lib.hid (subB_of xs ys hr1 hr2)
  clear hr1 hr2
  refine (callsIn_wide (n := 1)).1 ?_
  refine callsIn_of_wp_marks Try.func20 rfl trivial ?_ rfl
  simp only [Try.ntmps20, List.size_toArray, List.length_cons, List.length_nil, Nat.reduceAdd, Nat.reduceSub, Array.replicate_succ, Array.replicate_zero, List.push_toArray, List.append_toArray, List.nil_append, List.cons_append]
  have con := fun W => both_any q1 q2 xs.length c1 ys.length c2 W
  gi_wp2_with fail
  refine ⟨trivial, (callsIn_wide.2 (con _)).mono ?_⟩
  rintro e w' ⟨rfl, rfl⟩
  gi_wp2
  obtain ⟨W1, hW1, a0, a1, a2, a3, a4, hsz, hk1⟩ : ∃ W1, ((((w.alloc (.cells #[.slice q1 xs.length c1] 25)).alloc (.cells #[.slice q2 ys.length c2] 25)).alloc (.cells #[.bool false] 4)).alloc (.cells #[.slice q1 xs.length c1] 25)).alloc (.cells #[.slice q2 ys.length c2] 25) = W1 ∧
      Boxed W1 w.heap.size 25 (.slice q1 xs.length c1) ∧ Boxed W1 (w.heap.size + 1) 25 (.slice q2 ys.length c2) ∧ Boxed W1 (w.heap.size + 1 + 1) 4 (.bool false) ∧ Boxed W1 (w.heap.size + 1 + 1 + 1) 25 (.slice q1 xs.length c1) ∧ Boxed W1 (w.heap.size + 1 + 1 + 1 + 1) 25 (.slice q2 ys.length c2) ∧ W1.heap.size = w.heap.size + 5 ∧ ∀ S, Keep S w W1 := by
    obtain ⟨W1, h1, h2, h3, h4, h5, h6, h7, h8⟩ := five_boxes w 25 25 4 25 25 (.slice q1 xs.length c1) (.slice q2 ys.length c2) (.bool false) (.slice q1 xs.length c1) (.slice q2 ys.length c2)
    rw [← h1] at h2 h3 h4 h5 h6 h7
    exact ⟨_, rfl, h2, h3, h4, h5, h6, h7, fun S => ((((Keep.alloc S _ _).trans (Keep.alloc S _ _)).trans (Keep.alloc S _ _)).trans (Keep.alloc S _ _)).trans (Keep.alloc S _ _)⟩
  rw [hW1]
  clear hW1 con
  obtain ⟨RB, hRB⟩ : ∃ RB : Nat → Prop, RB = fun b => b < W1.heap.size ∧ b ≠ w.heap.size + 1 + 1 := ⟨_, rfl⟩
  have hRl : ∀ b, RB b → b < W1.heap.size := fun b hb => by rw [hRB] at hb; exact hb.1
  have hRo : ∀ b, b < w.heap.size → RB b := fun b hb => by rw [hRB]; omega
  have hRn : ¬ RB (w.heap.size + 1 + 1) := fun hb => by rw [hRB] at hb; exact hb.2 rfl
  have r3 : RB (w.heap.size + 1 + 1 + 1) := by rw [hRB]; omega
  have r4 : RB (w.heap.size + 1 + 1 + 1 + 1) := by rw [hRB]; omega
  clear hRB
  have g1 : SlIn (Value.int .i64) W1 q1 xs.length xs := hs1.keep (hk1 (fun _ => True)) fun _ _ _ => trivial
  have g2 : SlIn (Value.int .i64) W1 q2 ys.length ys := hs2.keep (hk1 (fun _ => True)) fun _ _ _ => trivial
  refine rf_law (gf := 49) (lb := #[.pointer (some ⟨w.heap.size + 1 + 1 + 1, 0, none⟩), .pointer (some ⟨w.heap.size + 1 + 1 + 1 + 1, 0, none⟩)]) rfl (enters_of Try.func49 (by kernel_rfl) rfl)
    (both1_iter _ _ q1 q2 xs.length c1 ys.length c2 xs ys RB W1 hn1 hn2 (by omega) (by omega) g1 g2 (fun a h h' => hRo _ (hs1.lt a h h')) (fun a h h' => hRo _ (hs2.lt a h h')) a3 a4 r3 r4) (Keep.refl _ _) hRl (fun x args G W h => by rw [h.1]; rfl)
    (SubI 4 (w.heap.size + 1 + 1) RB W1) (SubX 4 (w.heap.size + 1 + 1) RB W1) (SubI_abide _ _ _ _ (by omega) hRl) (SubX_abide _ _ _ _ (by omega) hRl)
    ⟨a2, (fun _ h => h.elim), Keep.refl _ _, rfl⟩ ?round ?done ?stop
  case round =>
    rintro ll pre ⟨cc, x⟩ rest Pv G args Wr hll hxs ⟨hbx, hge, hKW, hany⟩ hPl hGl hPb hGP ⟨rfl, rfl⟩
    gi_wp2
    refine ⟨Keep.refl _ _, fun W2 hk2 hs2 r hr => ?_⟩
    have hnP : ∀ b, b < W1.heap.size → ¬ Pv b := fun b hb h => by have := hge b h; omega
    have hk2' : Keep (fun b => ¬ Pv b) Wr W2 := hk2.mono fun b _ hb h => hb (h ▸ hPl)
    replace hbx := hk2'.boxed hbx (hnP _ (by omega))
    have hK2 : Keep RB W1 W2 := hKW.trans (hk2'.mono fun b _ hb => hnP b (hRl b hb))
    have cB := hbx.cell
    have fB := hbx.frozen
    have HA := Lib.hid hany
    clear hxs hr hk2 hk2' hs2 hKW hany
    by_cases hc : cc = 1
    · subst hc
      have hkS : Keep (fun b => RB b ∨ Pv b) W2 (W2.setCell ⟨w.heap.size + 1 + 1, 0, none⟩ (.bool false)) := Keep.setCell _ _ _ (fun h => h.elim hRn fun h => hnP (w.heap.size + 1 + 1) (by omega) h)
      have hbx' := hbx.set (.bool false)
      gi_wp2
      exact ⟨hkS, rfl, hbx', hge, hK2.trans (hkS.mono fun b _ h => .inl h), by rw [List.any_append]; simp⟩
    · have hc' : ((cc : Int) == 1) = false := by rw [beq_eq_false_iff_ne]; omega
      have HA2 := Lib.hid (show ((pre ++ [(cc, x)]).any fun p => p.1 == 1) = false by rw [List.any_append, HA.out]; simp [hc])
      clear hc
      gi_wp2
      exact ⟨Keep.refl _ _, hbx, hge, hK2, HA2.out⟩
  case done =>
    rintro D Pv Wd hD hPD hPl ⟨hbx, hge, hKW, hany⟩ hK
    have cB := hbx.cell
    have fB := hbx.frozen
    have H := Lib.hid (show subB xs ys = true by rw [HSB.out, hany]; rfl)
    have hbx2 := hbx.set (.bool true)
    have hk2 := fun (S : Nat → Prop) (hS : ¬ S (w.heap.size + 1 + 1)) => Keep.setCell (S := S) Wd ⟨w.heap.size + 1 + 1, 0, none⟩ (.bool true) hS
    have hD2 := (hk2 (fun b => b ≠ w.heap.size + 1 + 1) (by simp)).heap (by omega) hK
    have hB2 : Keep (fun b => b < w.heap.size) w (Wd.setCell ⟨w.heap.size + 1 + 1, 0, none⟩ (.bool true)) := ((hk1 _).trans (hKW.mono fun b _ h => hRo b h)).trans (hk2 _ (by omega))
    clear hk2 hany
    gi_wp2
    generalize Wd.setCell ⟨w.heap.size + 1 + 1, 0, none⟩ (.bool true) = We at *
    refine ⟨by simp, .inl ⟨_, _, rfl, run_takeDeferred hD2, ?_⟩⟩
    have hkP : ∀ S : Nat → Prop, ¬ S D → Keep S We (We.putObj D (.deferred none)) := fun S hS => Keep.putObj We D _ hS
    have hbr3 := ((hkP (fun b => b ≠ D) (by simp)).boxed hbx2 (by omega)).cell
    refine ⟨.bool true, ?_, by rw [H.out], (hB2.trans (hkP _ (by omega))).below (Nat.le_refl _)⟩
    simp [results, Try.f20, go_sem, hbr3]
  case stop =>
    rintro D c pre rest Pv Wd hD hPD hPl hxs ⟨rfl, hbx, hge, hKW, hany⟩ hK
    have H := Lib.hid (show subB xs ys = false by rw [HSB.out, hxs, List.any_append, hany]; rfl)
    have hB2 : Keep (fun b => b < w.heap.size) w Wd := (hk1 _).trans (hKW.mono fun b _ h => hRo b h)
    clear hany hxs
    gi_wp2
    refine ⟨by simp, .inl ⟨_, _, rfl, run_takeDeferred hK, ?_⟩⟩
    have hkP : ∀ S : Nat → Prop, ¬ S D → Keep S Wd (Wd.putObj D (.deferred none)) := fun S hS => Keep.putObj Wd D _ hS
    have hbr3 := ((hkP (fun b => b ≠ D) (by simp)).boxed hbx (by omega)).cell
    refine ⟨.bool false, ?_, by rw [H.out], (hB2.trans (hkP _ (by omega))).below (Nat.le_refl _)⟩
    simp [results, Try.f20, go_sem, hbr3]

end Go.Proofs.Ythfclmnmnmeldaa
