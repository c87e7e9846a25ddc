/- package sorted: both, and the values of two sets at some places. Conditions: a row is of at most the model's greatest length. -/
import Derived.Test.YthfclmnmnmeldaaSetC
import Derived.Maps.AppendAt
import Derived.Maps.OwnIn
import Derived.RangeFuncBox
namespace Go.Proofs.Ythfclmnmnmeldaa
open Go.RowKit Go.Shelf
attribute [local go_sem] Oper.semAt_some

theorem both_any (q1 q2 : Option Addr) (n1 c1 n2 c2 : Nat) (w : World) :
    Calls Try.prog 36 #[.agg #[.slice q1 n1 c1], .agg #[.slice q2 n2 c2]] w fun e w' => e = .returned (.func (.func 49) #[] #[.pointer (some ⟨w.heap.size, 0, none⟩), .pointer (some ⟨w.heap.size + 1, 0, none⟩)]) ∧
      w' = (w.alloc (.cells #[.slice q1 n1 c1] 25)).alloc (.cells #[.slice q2 n2 c2] 25) := by
  go_enter Try.func36, Try.ntmps36
  go_wp2
  go_ret
  exact ⟨rfl, rfl⟩

theorem info_int : (Try.prog.info? 3).map (fun i => (i.zero, i.size, i.bytes)) = some (some (.int .i64 0), 1, 8) := by kernel_rfl

/-- Seven boxes laid. -/
theorem seven_boxes (W : World) (t0 t1 t2 t3 t4 t5 t6 : TypeId) (v0 v1 v2 v3 v4 v5 v6 : Value) :
    ∃ W1, (((((((W.alloc (.cells #[v0] t0)).alloc (.cells #[v1] t1)).alloc (.cells #[v2] t2)).alloc (.cells #[v3] t3)).alloc (.cells #[v4] t4)).alloc (.cells #[v5] t5)).alloc (.cells #[v6] t6)) = W1 ∧ Boxed W1 (W.heap.size) t0 v0 ∧ Boxed W1 (W.heap.size + 1) t1 v1 ∧ Boxed W1 (W.heap.size + 1 + 1) t2 v2 ∧ Boxed W1 (W.heap.size + 1 + 1 + 1) t3 v3 ∧ Boxed W1 (W.heap.size + 1 + 1 + 1 + 1) t4 v4 ∧ Boxed W1 (W.heap.size + 1 + 1 + 1 + 1 + 1) t5 v5 ∧ Boxed W1 (W.heap.size + 1 + 1 + 1 + 1 + 1 + 1) t6 v6 ∧ W1.heap.size = W.heap.size + 7 ∧ ∀ S, Keep S W W1 := by
  refine ⟨_, rfl, ?_, ?_, ?_, ?_, ?_, ?_, ?_, ?_, fun S => ?_⟩
  · exact ((((((Boxed.new W t0 v0).alloc (.cells #[v1] t1)).alloc (.cells #[v2] t2)).alloc (.cells #[v3] t3)).alloc (.cells #[v4] t4)).alloc (.cells #[v5] t5)).alloc (.cells #[v6] t6)
  · have := (((((Boxed.new (W.alloc (.cells #[v0] t0)) t1 v1).alloc (.cells #[v2] t2)).alloc (.cells #[v3] t3)).alloc (.cells #[v4] t4)).alloc (.cells #[v5] t5)).alloc (.cells #[v6] t6)
    rwa [World.size_alloc] at this
  · have := ((((Boxed.new ((W.alloc (.cells #[v0] t0)).alloc (.cells #[v1] t1)) t2 v2).alloc (.cells #[v3] t3)).alloc (.cells #[v4] t4)).alloc (.cells #[v5] t5)).alloc (.cells #[v6] t6)
    rwa [World.size_alloc, World.size_alloc] at this
  · have := (((Boxed.new (((W.alloc (.cells #[v0] t0)).alloc (.cells #[v1] t1)).alloc (.cells #[v2] t2)) t3 v3).alloc (.cells #[v4] t4)).alloc (.cells #[v5] t5)).alloc (.cells #[v6] t6)
    rwa [World.size_alloc, World.size_alloc, World.size_alloc] at this
  · have := ((Boxed.new ((((W.alloc (.cells #[v0] t0)).alloc (.cells #[v1] t1)).alloc (.cells #[v2] t2)).alloc (.cells #[v3] t3)) t4 v4).alloc (.cells #[v5] t5)).alloc (.cells #[v6] t6)
    rwa [World.size_alloc, World.size_alloc, World.size_alloc, World.size_alloc] at this
  · have := (Boxed.new (((((W.alloc (.cells #[v0] t0)).alloc (.cells #[v1] t1)).alloc (.cells #[v2] t2)).alloc (.cells #[v3] t3)).alloc (.cells #[v4] t4)) t5 v5).alloc (.cells #[v6] t6)
    rwa [World.size_alloc, World.size_alloc, World.size_alloc, World.size_alloc, World.size_alloc] at this
  · have := Boxed.new ((((((W.alloc (.cells #[v0] t0)).alloc (.cells #[v1] t1)).alloc (.cells #[v2] t2)).alloc (.cells #[v3] t3)).alloc (.cells #[v4] t4)).alloc (.cells #[v5] t5)) t6 v6
    rwa [World.size_alloc, World.size_alloc, World.size_alloc, World.size_alloc, World.size_alloc, World.size_alloc] at this
  · show (World.heap _).size = _
    simp
  · exact (((((((Keep.alloc S _ _).trans (Keep.alloc S _ _)).trans (Keep.alloc S _ _)).trans (Keep.alloc S _ _)).trans (Keep.alloc S _ _)).trans (Keep.alloc S _ _)).trans (Keep.alloc S _ _))

/-- Between two rounds: what was picked lies in the row of one's own. -/
def PickI {α : Type} (enc : α → Value) (T e : TypeId) (ws : List Nat) (Bo : Nat) (RB : Nat → Prop) (W0 : World) (pre : List (Nat × α)) (Pv : Nat → Prop) (W : World) : Prop :=
  ∃ v, Boxed W Bo T v ∧ W.ownsRow W0.heap.size e 1 v (picked ws pre).length ((picked ws pre).map enc) ∧ (∀ b, Pv b → W0.heap.size ≤ b) ∧ (∀ b, v.ownBlock = some b → ¬ Pv b) ∧ Keep RB W0 W

theorem PickI_abide {α : Type} (enc : α → Value) (T e : TypeId) (ws : List Nat) (Bo : Nat) (RB : Nat → Prop) (W0 : World) (hBo : Bo < W0.heap.size) (hRB : ∀ b, RB b → b < W0.heap.size) : Abide (PickI enc T e ws Bo RB W0) := by
  rintro pre Pv Pv' A B ⟨v, h1, h2, h3, h5, h6⟩ hk hp
  have hs := h6.size
  refine ⟨v, hk.boxed h1 (fun h => by have := h3 _ h; omega), hk.row h2 h5, fun b hb => ?_, fun b hb hp' => ?_, h6.trans (hk.mono fun b _ hb hpb => by have := h3 b hpb; have := hRB b hb; omega)⟩
  · rcases (hp b hb).1 with h | h
    · exact h3 b h
    · omega
  · rcases (hp _ hp').1 with h | h
    · exact h5 b hb h
    · have := (h2.lt b hb).2; omega

theorem appended_keep {W w1 : World} {n₀ B : Nat} {t e : TypeId} {size : Nat} {v v' : Value} {k m : Nat} {xs ys : List Value} {tmp : Obj} {S : Nat → Prop}
    (hv : Boxed W B t v) (hte : t ≠ e) (hrow : W.ownsRow n₀ e size v k xs) (hS : ¬ S B) (hSo : ∀ b, v.ownBlock = some b → ¬ S b) (hown' : w1.ownsRow n₀ e size v' m ys) (hgrow : (W.alloc tmp).grownBy w1 v.ownBlock) :
    Boxed w1 B t v ∧ Boxed (w1.setCell ⟨B, 0, none⟩ v') B t v' ∧ (w1.setCell ⟨B, 0, none⟩ v').ownsRow n₀ e size v' m ys ∧ Keep S W (w1.setCell ⟨B, 0, none⟩ v') := by
  have hv1 : Boxed w1 B t v := (hv.alloc tmp).kept hgrow (hv.not_row hte hrow)
  exact ⟨hv1, hv1.set v', hown'.kept (grownBy_setCell' w1 B v') (.inr (hv1.not_row hte hown').symm), ((Keep.alloc S W tmp).trans (Keep.of_grownBy hgrow hSo)).trans (Keep.setCell _ _ _ hS)⟩

/-- A row of one's own is a row. -/
theorem slIn_of_owns {α : Type} {enc : α → Value} {W : World} {base n : Nat} {e : TypeId} {v : Value} {xs : List α} (h : W.ownsRow base e 1 v n (xs.map enc)) :
    ∃ q c, v = .slice q n c ∧ n ≤ c ∧ c ≤ maxLen ∧ SlIn enc W q n xs ∧ (∀ a, q = some a → base ≤ a.block ∧ a.block < W.heap.size ∧ v.ownBlock = some a.block) := by
  have hl : xs.length = n := by have := h.1; simpa using this
  rcases h.2 with ⟨rfl, rfl⟩ | ⟨g, cap, cur, rfl, hb, hg, h1, h2, h3, h4⟩
  · exact ⟨none, 0, rfl, Nat.le_refl _, Nat.zero_le _, ⟨hl, fun h => absurd h (by omega)⟩, by intro a ha; cases ha⟩
  · have hlt := (Array.getElem?_eq_some_iff.1 hg).1
    refine ⟨some ⟨g, 0, none⟩, cap, rfl, h1, h2, ⟨hl, fun _ => ⟨g, 0, rfl, hlt, fun i x hx => ?_⟩⟩, fun a ha => by cases ha; exact ⟨hb, hlt, rfl⟩⟩
    have hi : i < xs.length := (List.getElem?_eq_some_iff.1 hx).1
    have hcur : cur[i]? = some (enc x) := by
      have : (cur.toList.take (n * 1))[i]? = some (enc x) := by
        rw [h4, List.getElem?_map, hx]; rfl
      rw [List.getElem?_take, if_pos (by omega)] at this
      simpa using this
    simp only [World.cell?, hg, Nat.zero_add]
    exact hcur

/-- The value v is the set xs, in w. -/
def SetIs {α : Type} [LT α] (enc : α → Value) (w : World) (v : Value) (xs : List α) : Prop :=
  ∃ q n c, v = .agg #[.slice q n c] ∧ n ≤ c ∧ n ≤ 140737488355328 ∧ SlIn enc w q n xs ∧ Rises xs

set_option maxRecDepth 100000 in
set_option maxHeartbeats 2000000 in
theorem pick_any (q1 q2 qw : Option Addr) (n1 c1 n2 c2 nw cw : Nat) (xs ys : List Int) (ws : List Nat) (w : World) (hn1 : n1 ≤ c1) (hn2 : n2 ≤ c2) (hm1 : n1 ≤ 1099511627776) (hm2 : n2 ≤ 1099511627776) (hmw : nw ≤ 140737488355328)
    (h1 : SlIn (Value.int .i64) w q1 n1 xs) (h2 : SlIn (Value.int .i64) w q2 n2 ys) (hw : SlIn encW w qw nw ws) :
    Calls Try.prog 34 #[.agg #[.slice q1 n1 c1], .agg #[.slice q2 n2 c2], .slice qw nw cw] w fun e w' => ∃ q c, e = .returned (.agg #[.slice q (pickL ws xs ys).length c]) ∧ (pickL ws xs ys).length ≤ c ∧
      SlIn (Value.int .i64) w' q (pickL ws xs ys).length (pickL ws xs ys) ∧ (∀ a, q = some a → w.heap.size ≤ a.block) ∧ Below w.heap.size w w' := by
  obtain ⟨i0, hi0, hz0, hz1, hz2⟩ := info_parts info_int
  refine (callsIn_wide (n := 1)).1 ?_
  refine callsIn_of_wp_marks Try.func34 rfl trivial ?_ rfl
  simp only [Try.ntmps34, List.size_toArray, List.length_cons, List.length_nil, Nat.reduceAdd, Nat.reduceSub, Array.replicate_succ, Array.replicate_zero, List.push_toArray, List.append_toArray, List.nil_append, List.cons_append]
  have con := fun W => both_any q1 q2 n1 c1 n2 c2 W
  gi_wp2_with fail
  refine ⟨trivial, (callsIn_wide.2 (con _)).mono ?_⟩
  rintro e w' ⟨rfl, rfl⟩
  gi_wp2
  obtain ⟨W1, hW1, a0, a1, a2, a3, a4, a5, a6, hsz, hk1⟩ := seven_boxes w 25 25 72 25 22 25 25 (.slice q1 n1 c1) (.slice q2 n2 c2) (.slice qw nw cw) (.slice none 0 0) (.slice none 0 0) (.slice q1 n1 c1) (.slice q2 n2 c2)
  rw [hW1]
  clear hW1 con
  obtain ⟨RB, hRB⟩ : ∃ RB : Nat → Prop, RB = fun b => b < W1.heap.size ∧ b ≠ w.heap.size + 1 + 1 + 1 + 1 := ⟨_, rfl⟩
  have hRl : ∀ b, RB b → b < W1.heap.size := fun b hb => by rw [hRB] at hb; exact hb.1
  have hRo : ∀ b, b < w.heap.size → RB b := fun b hb => by rw [hRB]; omega
  have hRn : ¬ RB (w.heap.size + 1 + 1 + 1 + 1) := fun hb => by rw [hRB] at hb; exact hb.2 rfl
  have r2 : RB (w.heap.size + 1 + 1) := by rw [hRB]; omega
  have r3 : RB (w.heap.size + 1 + 1 + 1) := by rw [hRB]; omega
  have r5 : RB (w.heap.size + 1 + 1 + 1 + 1 + 1) := by rw [hRB]; omega
  have r6 : RB (w.heap.size + 1 + 1 + 1 + 1 + 1 + 1) := by rw [hRB]; omega
  clear hRB
  have g1 : SlIn (Value.int .i64) W1 q1 n1 xs := h1.keep (hk1 (fun _ => True)) fun _ _ _ => trivial
  have g2 : SlIn (Value.int .i64) W1 q2 n2 ys := h2.keep (hk1 (fun _ => True)) fun _ _ _ => trivial
  have gw : SlIn encW W1 qw nw ws := hw.keep (hk1 (fun _ => True)) fun _ _ _ => trivial
  have hN := mrg_length xs ys
  have hx1 := h1.1
  have hx2 := h2.1
  refine rf_law (gf := 49) (lb := #[.pointer (some ⟨w.heap.size + 1 + 1 + 1 + 1 + 1, 0, none⟩), .pointer (some ⟨w.heap.size + 1 + 1 + 1 + 1 + 1 + 1, 0, none⟩)]) rfl (enters_of Try.func49 (by kernel_rfl) rfl)
    (both1_iter _ _ q1 q2 n1 c1 n2 c2 xs ys RB W1 hn1 hn2 (by omega) (by omega) g1 g2 (fun a h h' => hRo _ (h1.lt a h h')) (fun a h h' => hRo _ (h2.lt a h h')) a5 a6 r5 r6) (Keep.refl _ _) hRl (fun x args G W h => by rw [h.1]; rfl)
    (PickI (Value.int .i64) 22 3 ws (w.heap.size + 1 + 1 + 1 + 1) RB W1) (fun _ _ _ _ => False) (PickI_abide _ _ _ _ _ _ _ (by omega) hRl) (fun _ _ _ _ _ _ h _ _ => h)
    ⟨_, a4, World.ownsRow_nil _ _ _ _, (fun _ h => h.elim), (fun _ h => by cases h), Keep.refl _ _⟩ ?round ?done ?stop
  case round =>
    rintro ll pre ⟨cc, x⟩ rest Pv G args Wr hll hxs ⟨v, hbx, hrow, hge, hnv, hKW⟩ hPl hGl hPb hGP ⟨rfl, rfl⟩
    have hpl := picked_length ws pre
    have hlen : pre.length + rest.length + 1 = (mrg xs ys).length := by rw [hxs]; simp; omega
    gi_wp2
    refine ⟨Keep.refl _ _, fun W2 hk2 hs2 r hr => ?_⟩
    have hnP : ∀ b, b < W1.heap.size → ¬ Pv b := fun b hb h => by have := hge b h; omega
    have hk2' : Keep (fun b => ¬ Pv b) Wr W2 := hk2.mono fun b _ hb h => hb (h ▸ hPl)
    replace hbx := hk2'.boxed hbx (hnP _ (by omega))
    replace hrow := hk2'.row hrow hnv
    have hK2 : Keep RB W1 W2 := hKW.trans (hk2'.mono fun b _ hb => hnP b (hRl b hb))
    have cw' := (hK2.boxed a2 r2).cell
    have gw2 : SlIn encW W2 qw nw ws := gw.keep hK2 fun a h h' => hRo _ (hw.lt a h h')
    have con := fun k => Contains_any qw nw cw cc ws (W2.drewN k) (gw2.drewN k) hmw
    have cB := hbx.cell
    have fB := hbx.frozen
    have hPl2 : ∀ b, Pv b → b < W2.heap.size := fun b hb => by rw [hs2]; exact hPb b hb
    clear hxs hr hk2 hk2' gw2 hs2 hKW
    by_cases hin : isIn ws cc = true
    · rw [hin] at con
      have HP := Lib.hid (picked_snoc_in ws pre cc x hin)
      gi_wp2_with fail
      refine ⟨trivial, rfl, (CallsIn.inRound ll (callsIn_wide.2 (con 0))).mono ?_⟩
      rintro e w' ⟨rfl, rfl⟩
      have cB' : (W2.drewN 0).cell? ⟨w.heap.size + 1 + 1 + 1 + 1, 0, none⟩ = some v := cB
      have fB' : (W2.drewN 0).frozen? ⟨w.heap.size + 1 + 1 + 1 + 1, 0, none⟩ = false := fB
      have hxl : (xs.length : Nat) + ys.length ≤ 2199023255552 := by omega
      have hszW := hK2.size
      gi_wp2_with (gi_at_builtin; go_must (refine wpListIn_append_own_at _ rfl _ _ 22 rfl W1.heap.size 3 i0 (.int .i64 0) 1 8 Try.underlying22 hi0 hz0 hz1 hz2 rfl (by decide) _ _ _ rfl (hrow.alloc _) ⟨W2.heap.size, 0, none⟩ 1 1 [.int .i64 x] rfl rfl (cell_one_new _ _ _) (by simp [Value.oneCell']) (by unfold maxLen; omega) (by omega) (by simp; omega) ?_); intro v' w1 hown' hgrow _ hat; obtain ⟨g', cap', rfl⟩ := ownsRow_succ hown'; obtain ⟨hv1, hv2, hr2, hkk⟩ := appended_keep (S := fun b => RB b ∨ Pv b) hbx (by decide) hrow (fun h => h.elim hRn fun h => hnP _ (by omega) h) (fun b hb h => h.elim (fun h => by have := (hrow.lt b hb).1; have := hRl b h; omega) fun h => hnv b hb h) hown' hgrow; have hc1 := hv1.cell; have hf1 := hv1.frozen)
      refine ⟨hkk, _, hv2, ?_, fun b hb => hge b hb, fun b hb hp => ?_, hK2.trans (hkk.mono fun b _ h => .inl h)⟩
      · rw [HP.out]; simpa using hr2
      · rcases hat with h | h
        · exact hnv b (h ▸ hb) hp
        · rw [h] at hb; cases hb; have := hPl2 _ hp; simp at this; omega
    · have hin' : isIn ws cc = false := by simpa using hin
      rw [hin'] at con
      have HP := Lib.hid (picked_snoc_out ws pre cc x hin')
      clear hin hin'
      gi_wp2_with fail
      refine ⟨trivial, rfl, (CallsIn.inRound ll (callsIn_wide.2 (con 0))).mono ?_⟩
      rintro e w' ⟨rfl, rfl⟩
      gi_wp2
      refine ⟨Keep.refl _ _, v, hbx, ?_, fun b hb => hge b hb, fun b hb hp => hnv b hb hp, hK2⟩
      rw [HP.out]; exact hrow
  case done =>
    rintro D Pv Wd hD hPD hPl ⟨v, hbx, hrow, hge, hnv, hKW⟩ hK
    have cB := hbx.cell
    obtain ⟨q, c, rfl, hnc, hcm, hsl, hqb⟩ := slIn_of_owns hrow
    have hbr := hKW.boxed a3 r3
    have cR := hbr.cell
    have fR := hbr.frozen
    gi_wp2
    have hkS : ∀ S : Nat → Prop, ¬ S (w.heap.size + 1 + 1 + 1) → Keep S Wd (Wd.setCell ⟨w.heap.size + 1 + 1 + 1, 0, none⟩ (.slice q (picked ws (mrg xs ys)).length c)) := fun S hS => Keep.setCell _ _ _ hS
    have hbr2 := hbr.set (.slice q (picked ws (mrg xs ys)).length c)
    have hK2 := (hkS (fun b => b ≠ w.heap.size + 1 + 1 + 1) (by simp)).heap (by omega) hK
    have hsl2 := hsl.keep (hkS (fun b => W1.heap.size ≤ b) (by omega)) fun a h _ => (hqb a h).1
    have hB2 : Keep (fun b => b < w.heap.size) w (Wd.setCell ⟨w.heap.size + 1 + 1 + 1, 0, none⟩ (.slice q (picked ws (mrg xs ys)).length c)) := ((hk1 _).trans (hKW.mono fun b _ h => hRo b h)).trans (hkS _ (by omega))
    generalize Wd.setCell ⟨w.heap.size + 1 + 1 + 1, 0, none⟩ (.slice q (picked ws (mrg xs ys)).length c) = We at *
    refine ⟨by simp, .inl ⟨_, _, rfl, run_takeDeferred hK2, ?_⟩⟩
    have hkP : ∀ S : Nat → Prop, ¬ S D → Keep S We (We.putObj D (.deferred none)) := fun S hS => Keep.putObj We D _ hS
    have hbr3 := ((hkP (fun b => b ≠ D) (by simp)).boxed hbr2 (by omega)).cell
    have hpo : ¬ (w.heap.size + 1 + 1 + 1 = D) := by omega
    refine ⟨.agg #[.slice q (picked ws (mrg xs ys)).length c], ?_, q, c, rfl, hnc, ?_, (fun a h => by have := (hqb a h).1; omega), ?_⟩
    · clear hsl hsl2 hbr hbr2 cR fR
      simp [results, Try.f34, go_sem, hbr3]
    · refine hsl2.keep (hkP (fun b => b ≠ D) (by simp)) fun a h _ => ?_
      rintro hab
      exact hnv a.block (hqb a h).2.2 (hab ▸ hPD)
    · exact (hB2.trans (hkP _ (by omega))).below (Nat.le_refl _)
  case stop =>
    rintro D c pre rest Pv Wd _ _ _ _ h _
    exact h.elim

end Go.Proofs.Ythfclmnmnmeldaa
