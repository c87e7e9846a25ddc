/- package sorted at texts: the values of two sets at some places; what is left. Conditions: sets of at most 2^40 values. -/
import Derived.Test.YthfclmnmnmeldaaTxtB
namespace Go.Proofs.Ythfclmnmnmeldaa.S
open Go.RowKit Go.Shelf
attribute [local go_sem] Oper.semAt_some

theorem both_any (q1 q2 : Option Addr) (n1 c1 n2 c2 : Nat) (w : World) :
    Calls Try.prog 66 #[.agg #[.slice q1 n1 c1], .agg #[.slice q2 n2 c2]] w fun e w' => e = .returned (.func (.func 85) #[] #[.pointer (some ⟨w.heap.size, 0, none⟩), .pointer (some ⟨w.heap.size + 1, 0, none⟩)]) ∧
      w' = (w.alloc (.cells #[.slice q1 n1 c1] 43)).alloc (.cells #[.slice q2 n2 c2] 43) := by
  go_enter Try.func66, Try.ntmps66
  go_wp2
  go_ret
  exact ⟨rfl, rfl⟩

theorem info_str : (Try.prog.info? 9).map (fun i => (i.zero, i.size, i.bytes)) = some (some (.string ByteArray.empty), 1, 16) := by kernel_rfl

set_option maxRecDepth 100000 in
set_option maxHeartbeats 2000000 in
theorem pick_any (q1 q2 qw : Option Addr) (n1 c1 n2 c2 nw cw : Nat) (xs ys : List (List UInt8)) (ws : List Nat) (w : World) (hn1 : n1 ≤ c1) (hn2 : n2 ≤ c2) (hm1 : n1 ≤ 1099511627776) (hm2 : n2 ≤ 1099511627776) (hmw : nw ≤ 140737488355328)
    (h1 : SlIn encStr w q1 n1 xs) (h2 : SlIn encStr w q2 n2 ys) (hw : SlIn encW w qw nw ws) :
    Calls Try.prog 57 #[.agg #[.slice q1 n1 c1], .agg #[.slice q2 n2 c2], .slice qw nw cw] w fun e w' => ∃ q c, e = .returned (.agg #[.slice q (pickL ws xs ys).length c]) ∧ (pickL ws xs ys).length ≤ c ∧
      SlIn encStr w' q (pickL ws xs ys).length (pickL ws xs ys) ∧ (∀ a, q = some a → w.heap.size ≤ a.block) ∧ Below w.heap.size w w' := by
  obtain ⟨i0, hi0, hz0, hz1, hz2⟩ := info_parts info_str
  refine (callsIn_wide (n := 1)).1 ?_
  refine callsIn_of_wp_marks Try.func57 rfl trivial ?_ rfl
  simp only [Try.ntmps57, List.size_toArray, List.length_cons, List.length_nil, Nat.reduceAdd, Nat.reduceSub, Array.replicate_succ, Array.replicate_zero, List.push_toArray, List.append_toArray, List.nil_append, List.cons_append]
  have con := fun W => both_any q1 q2 n1 c1 n2 c2 W
  gi_wp2_with fail
  refine ⟨trivial, (callsIn_wide.2 (con _)).mono ?_⟩
  rintro e w' ⟨rfl, rfl⟩
  gi_wp2
  obtain ⟨W1, hW1, a0, a1, a2, a3, a4, a5, a6, hsz, hk1⟩ := seven_boxes w 43 43 72 43 41 43 43 (.slice q1 n1 c1) (.slice q2 n2 c2) (.slice qw nw cw) (.slice none 0 0) (.slice none 0 0) (.slice q1 n1 c1) (.slice q2 n2 c2)
  rw [hW1]
  clear hW1 con
  obtain ⟨RB, hRB⟩ : ∃ RB : Nat → Prop, RB = fun b => b < W1.heap.size ∧ b ≠ w.heap.size + 1 + 1 + 1 + 1 := ⟨_, rfl⟩
  have hRl : ∀ b, RB b → b < W1.heap.size := fun b hb => by rw [hRB] at hb; exact hb.1
  have hRo : ∀ b, b < w.heap.size → RB b := fun b hb => by rw [hRB]; omega
  have hRn : ¬ RB (w.heap.size + 1 + 1 + 1 + 1) := fun hb => by rw [hRB] at hb; exact hb.2 rfl
  have r2 : RB (w.heap.size + 1 + 1) := by rw [hRB]; omega
  have r3 : RB (w.heap.size + 1 + 1 + 1) := by rw [hRB]; omega
  have r5 : RB (w.heap.size + 1 + 1 + 1 + 1 + 1) := by rw [hRB]; omega
  have r6 : RB (w.heap.size + 1 + 1 + 1 + 1 + 1 + 1) := by rw [hRB]; omega
  clear hRB
  have g1 : SlIn encStr W1 q1 n1 xs := h1.keep (hk1 (fun _ => True)) fun _ _ _ => trivial
  have g2 : SlIn encStr W1 q2 n2 ys := h2.keep (hk1 (fun _ => True)) fun _ _ _ => trivial
  have gw : SlIn encW W1 qw nw ws := hw.keep (hk1 (fun _ => True)) fun _ _ _ => trivial
  have hN := mrg_length xs ys
  have hx1 := h1.1
  have hx2 := h2.1
  refine rf_law (gf := 85) (lb := #[.pointer (some ⟨w.heap.size + 1 + 1 + 1 + 1 + 1, 0, none⟩), .pointer (some ⟨w.heap.size + 1 + 1 + 1 + 1 + 1 + 1, 0, none⟩)]) rfl (enters_of Try.func85 (by kernel_rfl) rfl)
    (both1_iter _ _ q1 q2 n1 c1 n2 c2 xs ys RB W1 hn1 hn2 (by omega) (by omega) g1 g2 (fun a h h' => hRo _ (h1.lt a h h')) (fun a h h' => hRo _ (h2.lt a h h')) a5 a6 r5 r6) (Keep.refl _ _) hRl (fun x args G W h => by rw [h.1]; rfl)
    (PickI encStr 41 9 ws (w.heap.size + 1 + 1 + 1 + 1) RB W1) (fun _ _ _ _ => False) (PickI_abide _ _ _ _ _ _ _ (by omega) hRl) (fun _ _ _ _ _ _ h _ _ => h)
    ⟨_, a4, World.ownsRow_nil _ _ _ _, (fun _ h => h.elim), (fun _ h => by cases h), Keep.refl _ _⟩ ?round ?done ?stop
  case round =>
    rintro ll pre ⟨cc, x⟩ rest Pv G args Wr hll hxs ⟨v, hbx, hrow, hge, hnv, hKW⟩ hPl hGl hPb hGP ⟨rfl, rfl⟩
    have hpl := picked_length ws pre
    have hlen : pre.length + rest.length + 1 = (mrg xs ys).length := by rw [hxs]; simp; omega
    gi_wp2
    refine ⟨Keep.refl _ _, fun W2 hk2 hs2 r hr => ?_⟩
    have hnP : ∀ b, b < W1.heap.size → ¬ Pv b := fun b hb h => by have := hge b h; omega
    have hk2' : Keep (fun b => ¬ Pv b) Wr W2 := hk2.mono fun b _ hb h => hb (h ▸ hPl)
    replace hbx := hk2'.boxed hbx (hnP _ (by omega))
    replace hrow := hk2'.row hrow hnv
    have hK2 : Keep RB W1 W2 := hKW.trans (hk2'.mono fun b _ hb => hnP b (hRl b hb))
    have cw' := (hK2.boxed a2 r2).cell
    have gw2 : SlIn encW W2 qw nw ws := gw.keep hK2 fun a h h' => hRo _ (hw.lt a h h')
    have con := fun k => Contains_any qw nw cw cc ws (W2.drewN k) (gw2.drewN k) hmw
    have cB := hbx.cell
    have fB := hbx.frozen
    have hPl2 : ∀ b, Pv b → b < W2.heap.size := fun b hb => by rw [hs2]; exact hPb b hb
    clear hxs hr hk2 hk2' gw2 hs2 hKW
    by_cases hin : isIn ws cc = true
    · rw [hin] at con
      have HP := Lib.hid (picked_snoc_in ws pre cc x hin)
      gi_wp2_with fail
      refine ⟨trivial, rfl, (CallsIn.inRound ll (callsIn_wide.2 (con 0))).mono ?_⟩
      rintro e w' ⟨rfl, rfl⟩
      have cB' : (W2.drewN 0).cell? ⟨w.heap.size + 1 + 1 + 1 + 1, 0, none⟩ = some v := cB
      have fB' : (W2.drewN 0).frozen? ⟨w.heap.size + 1 + 1 + 1 + 1, 0, none⟩ = false := fB
      have hxl : (xs.length : Nat) + ys.length ≤ 2199023255552 := by omega
      have hszW := hK2.size
      gi_wp2_with (gi_at_builtin; go_must (refine wpListIn_append_own_at _ rfl _ _ 41 rfl W1.heap.size 9 i0 (.string ByteArray.empty) 1 16 Try.underlying41 hi0 hz0 hz1 hz2 rfl (by decide) _ _ _ rfl (hrow.alloc _) ⟨W2.heap.size, 0, none⟩ 1 1 [.string ⟨x.toArray⟩] rfl rfl (cell_one_new _ _ _) (by simp [Value.oneCell']) (by unfold maxLen; omega) (by omega) (by simp; omega) ?_); intro v' w1 hown' hgrow _ hat; obtain ⟨g', cap', rfl⟩ := ownsRow_succ hown'; obtain ⟨hv1, hv2, hr2, hkk⟩ := appended_keep (S := fun b => RB b ∨ Pv b) hbx (by decide) hrow (fun h => h.elim hRn fun h => hnP _ (by omega) h) (fun b hb h => h.elim (fun h => by have := (hrow.lt b hb).1; have := hRl b h; omega) fun h => hnv b hb h) hown' hgrow; have hc1 := hv1.cell; have hf1 := hv1.frozen)
      refine ⟨hkk, _, hv2, ?_, fun b hb => hge b hb, fun b hb hp => ?_, hK2.trans (hkk.mono fun b _ h => .inl h)⟩
      · rw [HP.out]; simpa using hr2
      · rcases hat with h | h
        · exact hnv b (h ▸ hb) hp
        · rw [h] at hb; cases hb; have := hPl2 _ hp; simp at this; omega
    · have hin' : isIn ws cc = false := by simpa using hin
      rw [hin'] at con
      have HP := Lib.hid (picked_snoc_out ws pre cc x hin')
      clear hin hin'
      gi_wp2_with fail
      refine ⟨trivial, rfl, (CallsIn.inRound ll (callsIn_wide.2 (con 0))).mono ?_⟩
      rintro e w' ⟨rfl, rfl⟩
      gi_wp2
      refine ⟨Keep.refl _ _, v, hbx, ?_, fun b hb => hge b hb, fun b hb hp => hnv b hb hp, hK2⟩
      rw [HP.out]; exact hrow
  case done =>
    rintro D Pv Wd hD hPD hPl ⟨v, hbx, hrow, hge, hnv, hKW⟩ hK
    have cB := hbx.cell
    obtain ⟨q, c, rfl, hnc, hcm, hsl, hqb⟩ := slIn_of_owns hrow
    have hbr := hKW.boxed a3 r3
    have cR := hbr.cell
    have fR := hbr.frozen
    gi_wp2
    have hkS : ∀ S : Nat → Prop, ¬ S (w.heap.size + 1 + 1 + 1) → Keep S Wd (Wd.setCell ⟨w.heap.size + 1 + 1 + 1, 0, none⟩ (.slice q (picked ws (mrg xs ys)).length c)) := fun S hS => Keep.setCell _ _ _ hS
    have hbr2 := hbr.set (.slice q (picked ws (mrg xs ys)).length c)
    have hK2 := (hkS (fun b => b ≠ w.heap.size + 1 + 1 + 1) (by simp)).heap (by omega) hK
    have hsl2 := hsl.keep (hkS (fun b => W1.heap.size ≤ b) (by omega)) fun a h _ => (hqb a h).1
    have hB2 : Keep (fun b => b < w.heap.size) w (Wd.setCell ⟨w.heap.size + 1 + 1 + 1, 0, none⟩ (.slice q (picked ws (mrg xs ys)).length c)) := ((hk1 _).trans (hKW.mono fun b _ h => hRo b h)).trans (hkS _ (by omega))
    generalize Wd.setCell ⟨w.heap.size + 1 + 1 + 1, 0, none⟩ (.slice q (picked ws (mrg xs ys)).length c) = We at *
    refine ⟨by simp, .inl ⟨_, _, rfl, run_takeDeferred hK2, ?_⟩⟩
    have hkP : ∀ S : Nat → Prop, ¬ S D → Keep S We (We.putObj D (.deferred none)) := fun S hS => Keep.putObj We D _ hS
    have hbr3 := ((hkP (fun b => b ≠ D) (by simp)).boxed hbr2 (by omega)).cell
    have hpo : ¬ (w.heap.size + 1 + 1 + 1 = D) := by omega
    refine ⟨.agg #[.slice q (picked ws (mrg xs ys)).length c], ?_, q, c, rfl, hnc, ?_, (fun a h => by have := (hqb a h).1; omega), ?_⟩
    · clear hsl hsl2 hbr hbr2 cR fR
      simp [results, Try.f57, go_sem, hbr3]
    · refine hsl2.keep (hkP (fun b => b ≠ D) (by simp)) fun a h _ => ?_
      rintro hab
      exact hnv a.block (hqb a h).2.2 (hab ▸ hPD)
    · exact (hB2.trans (hkP _ (by omega))).below (Nat.le_refl _)
  case stop =>
    rintro D c pre rest Pv Wd _ _ _ _ h _
    exact h.elim

set_option maxRecDepth 100000 in
set_option maxHeartbeats 1000000 in
theorem Minus_any (v1 v2 : Value) (xs ys : List (List UInt8)) (w : World) (h1 : SetIs encStr w v1 xs) (h2 : SetIs encStr w v2 ys) (hm1 : xs.length ≤ 1099511627776) (hm2 : ys.length ≤ 1099511627776) :
    Calls Try.prog 42 #[v1, v2] w fun e w' => ∃ v, e = .returned v ∧ SetIs encStr w' v (pickL [1] xs ys) ∧ Below w.heap.size w w' := by
  obtain ⟨q1, n1, c1, rfl, hc1, _, hs1, hr1⟩ := h1
  obtain ⟨q2, n2, c2, rfl, hc2, _, hs2, hr2⟩ := h2
  obtain rfl := hs1.1
  obtain rfl := hs2.1
  obtain ⟨W3, hW3⟩ : ∃ W3, ((w.alloc (.cells #[.slice q1 xs.length c1] 43)).alloc (.cells #[.slice q2 ys.length c2] 43)).alloc (.cells #[.slice none 0 0] 43) = W3 := ⟨_, rfl⟩
  have hB3 : Below w.heap.size w W3 := by rw [← hW3]; exact (((Below.refl _ w).alloc (Nat.le_refl _) _).alloc (by simp) _).alloc (by simp; omega) _
  have hsz : W3.heap.size = w.heap.size + 3 := by rw [← hW3]; simp
  have hbx : Boxed W3 (w.heap.size + 1 + 1) 43 (.slice none 0 0) := by
    rw [← hW3]
    have := Boxed.new ((w.alloc (.cells #[.slice q1 xs.length c1] 43)).alloc (.cells #[.slice q2 ys.length c2] 43)) 43 (.slice none 0 0)
    rwa [World.size_alloc, World.size_alloc] at this
  have g1 := hs1.below hB3 hs1.lt
  have g2 := hs2.below hB3 hs2.lt
  have con := pick_any q1 q2 (some ⟨W3.heap.size, 0, none⟩) xs.length c1 ys.length c2 1 1 xs ys [1] (W3.alloc (.cells #[.int .u8 1] 59)) hc1 hc2 hm1 hm2 (by omega) (g1.alloc _) (g2.alloc _) (places_new W3 [1])
  have hbx4 := hbx.alloc (.cells #[.int .u8 1] 59)
  have hB4 := hB3.alloc hB3.size (.cells #[.int .u8 1] 59)
  have hpl : (pickL [1] xs ys).length ≤ 2199023255552 := Nat.le_trans (picked_length _ _) (Nat.le_trans (mrg_length xs ys) (by omega))
  have HR := Lib.hid (pickL_rises [1] xs ys hr1 hr2)
  have hz4 : (W3.alloc (.cells #[.int .u8 1] 59)).heap.size = w.heap.size + 4 := by simp [hsz]
  generalize pickL [1] xs ys = zs at con hpl HR ⊢
  clear hs1 hs2 hr1 hr2 g1 g2 hbx hB3
  have HZ := Lib.hid hz4
  clear hz4
  have HS := Lib.hid hsz
  clear hsz
  have HW3 := Lib.hid hW3
  clear hW3
  go_enter Try.func42, Try.ntmps42
  go_wp2_with fail
  rw [HW3.out]
  have HS' : w.heap.size + 1 + 1 + 1 = W3.heap.size := by rw [HS.out]
  rw [HS']
  clear HS'
  refine con.mono ?_
  rintro e w' ⟨q, c, rfl, hnc, hsl, hqb, hbel⟩
  have hbr := (Keep.of_below hbel).boxed hbx4 (by rw [HZ.out]; omega)
  have cR := hbr.cell
  have fR := hbr.frozen
  have hsz' := hbel.size
  have hB5 := hB4.trans (hbel.mono (by rw [HZ.out]; omega))
  go_wp2
  have hbr2 := (hbr.set (.slice q zs.length c)).cell
  refine bodyPost_ret (v := .agg #[.slice q zs.length c]) (by simp [results, Try.f42, go_sem, hbr2]) rfl ⟨_, rfl, ⟨q, zs.length, c, rfl, hnc, by omega, ?_, HR.out⟩, ?_⟩
  · exact hsl.keep (Keep.setCell (S := fun b => w.heap.size + 4 ≤ b) _ _ _ (by simp)) fun a h _ => by have := hqb a h; rw [HZ.out] at this; exact this
  · exact hB5.setCell (by simp; omega) _

end Go.Proofs.Ythfclmnmnmeldaa.S
