/- The law's own helper all: it collects what an iterator tells, and whether it counts. Conditions: at most 2^40 values. -/
import Derived.Test.YthfclmnmnmeldaaSetK
namespace Go.Proofs.Ythfclmnmnmeldaa
open Go.RowKit Go.Shelf
attribute [local go_sem] Oper.semAt_some

theorem row_base {W : World} {base base' : Nat} {e : TypeId} {size : Nat} {v : Value} {n : Nat} {xs : List Value} (h : W.ownsRow base e size v n xs) (hb : base' ≤ base) : W.ownsRow base' e size v n xs := by
  refine ⟨h.1, ?_⟩
  rcases h.2 with hn | ⟨g, cap, cur, hv, hg, rest⟩
  · exact .inl hn
  · exact .inr ⟨g, cap, cur, hv, Nat.le_trans hb hg, rest⟩

/-- Between two rounds: what has come lies in the one box's row; the other one says true. -/
def CollI {α : Type} (enc : α → Value) (T e Tb : TypeId) (Bo Bk : Nat) (RB : Nat → Prop) (W0 : World) (pre : List (Nat × α)) (Pv : Nat → Prop) (W : World) : Prop :=
  ∃ v, Boxed W Bo T v ∧ Boxed W Bk Tb (.bool true) ∧ W.ownsRow W0.heap.size e 1 v pre.length ((pre.map Prod.snd).map enc) ∧ (∀ b, Pv b → W0.heap.size ≤ b) ∧ (∀ b, v.ownBlock = some b → ¬ Pv b) ∧ Keep RB W0 W

theorem CollI_abide {α : Type} (enc : α → Value) (T e Tb : TypeId) (Bo Bk : Nat) (RB : Nat → Prop) (W0 : World) (hBo : Bo < W0.heap.size) (hBk : Bk < W0.heap.size) (hRB : ∀ b, RB b → b < W0.heap.size) : Abide (CollI enc T e Tb Bo Bk RB W0) := by
  rintro pre Pv Pv' A B ⟨v, h1, h1', h2, h3, h5, h6⟩ hk hp
  have hs := h6.size
  refine ⟨v, hk.boxed h1 (fun h => by have := h3 _ h; omega), hk.boxed h1' (fun h => by have := h3 _ h; omega), hk.row h2 h5, fun b hb => ?_, fun b hb hp' => ?_, h6.trans (hk.mono fun b _ hb hpb => by have := h3 b hpb; have := hRB b hb; omega)⟩
  · rcases (hp b hb).1 with h | h
    · exact h3 b h
    · omega
  · rcases (hp _ hp').1 with h | h
    · exact h5 b hb h
    · have := (h2.lt b hb).2; omega

set_option maxRecDepth 100000 in
set_option maxHeartbeats 2000000 in
theorem all_any (gf : Nat) (lb : Array Value) (xs : List Int) (RB : Nat → Prop) (w : World) (eg : ∀ args w, (callFunc gf args).run Try.prog w = .ok (.enter gf args) w)
    (hi : IterC Try.prog gf lb (NumArg (Value.int .i64)) (nums 0 xs) RB w) (hRs : ∀ b, RB b → b < w.heap.size) (hN : xs.length ≤ 1099511627776) :
    Calls Try.prog 32 #[.func (.func gf) #[] lb] w fun e w' => ∃ v, e = .returned (.tuple #[v, .bool true]) ∧ w'.ownsRow w.heap.size 3 1 v xs.length (xs.map (Value.int .i64)) ∧ Below w.heap.size w w' := by
  obtain ⟨i0, hi0, hz0, hz1, hz2⟩ := info_parts info_int
  have hns := nums_length 0 xs
  have hn2 := nums_snd 0 xs
  refine (callsIn_wide (n := 1)).1 ?_
  refine callsIn_of_wp_marks Try.func32 rfl trivial ?_ rfl
  simp only [Try.ntmps32, List.size_toArray, List.length_cons, List.length_nil, Nat.reduceAdd, Nat.reduceSub, Array.replicate_succ, Array.replicate_zero, List.push_toArray, List.append_toArray, List.nil_append, List.cons_append]
  have hnf : ∀ w' : World, (binOp .eql 56 (.func (.func gf) #[] lb) .nilFunc).run Try.prog w' = .ok (.bool false) w' := fun _ => by kernel_rfl
  have HNS := Lib.hid hns
  have HN2 := Lib.hid hn2
  clear hns hn2
  gi_wp2
  obtain ⟨W0, hW0⟩ : ∃ W0, (w.alloc (.cells #[.slice none 0 0] 22)).alloc (.cells #[.bool true] 4) = W0 := ⟨_, rfl⟩
  have b0 : Boxed W0 w.heap.size 22 (.slice none 0 0) := by rw [← hW0]; exact (Boxed.new w _ _).alloc _
  have b1 : Boxed W0 (w.heap.size + 1) 4 (.bool true) := by
    rw [← hW0]
    have := Boxed.new (w.alloc (.cells #[.slice none 0 0] 22)) 4 (.bool true)
    rwa [World.size_alloc] at this
  have hB0 : Below w.heap.size w W0 := by rw [← hW0]; exact (below_alloc _).trans ((below_alloc _).mono (by simp))
  have hs0 : W0.heap.size = w.heap.size + 2 := by rw [← hW0]; simp
  rw [hW0]
  clear hW0 hnf
  have hRl : ∀ b, RB b → b < W0.heap.size := fun b hb => by have := hRs b hb; omega
  refine rf_law (gf := gf) (lb := lb) rfl eg hi ((Keep.of_below hB0).mono fun b _ hb => hRs b hb) hRl (fun x args G W h => by rw [h.1]; rfl)
    (CollI (Value.int .i64) 22 3 4 w.heap.size (w.heap.size + 1) (fun b => b < w.heap.size) W0) (fun _ _ _ _ => False) (CollI_abide _ _ _ _ _ _ _ _ (by omega) (by omega) (fun b hb => by omega)) (fun _ _ _ _ _ _ h _ _ => h)
    ⟨_, b0, b1, World.ownsRow_nil _ _ _ _, (fun _ h => h.elim), (fun _ h => by cases h), Keep.refl _ _⟩ ?round ?done ?stop
  case round =>
    rintro ll pre ⟨i, x⟩ rest Pv G args Wr hll hxs ⟨v, hbx, hbk, hrow, hge, hnv, hKW⟩ hPl hGl hPb hGP ⟨rfl, rfl⟩
    have hlen : pre.length + rest.length + 1 = (nums 0 xs).length := by rw [hxs]; simp; omega
    have hi0' := nums_fst 0 xs pre (i, x) rest hxs
    obtain rfl : i = pre.length := by simpa using hi0'
    clear hi0'
    have hN' := HNS.out
    have hpl : pre.length + 1 ≤ 1099511627776 := by omega
    clear hlen hN'
    gi_wp2
    refine ⟨Keep.refl _ _, fun W2 hk2 hs2 r hr => ?_⟩
    have hnP : ∀ b, b < W0.heap.size → ¬ Pv b := fun b hb h => by have := hge b h; omega
    have hk2' : Keep (fun b => ¬ Pv b) Wr W2 := hk2.mono fun b _ hb h => hb (h ▸ hPl)
    replace hbx := hk2'.boxed hbx (hnP _ (by omega))
    replace hbk := hk2'.boxed hbk (hnP _ (by omega))
    replace hrow := hk2'.row hrow hnv
    have hK2 : Keep (fun b => b < w.heap.size) W0 W2 := hKW.trans (hk2'.mono fun b _ hb => hnP b (by omega))
    have hPl2 : ∀ b, Pv b → b < W2.heap.size := fun b hb => by rw [hs2]; exact hPb b hb
    have cK := hbk.cell
    have fK := hbk.frozen
    have cB := hbx.cell
    have hkS := fun (S : Nat → Prop) (hS : ¬ S (w.heap.size + 1)) => Keep.setCell (S := S) W2 ⟨w.heap.size + 1, 0, none⟩ (.bool true) hS
    have hbk3 := hbk.set (.bool true)
    have hbx3 := (hkS (fun b => b ≠ w.heap.size + 1) (by simp)).boxed hbx (by omega)
    have hrow3 := (hkS (fun b => W0.heap.size ≤ b) (by omega)).row hrow (fun b hb => (hrow.lt b hb).1)
    have hK3 := hK2.trans (hkS (fun b => b < w.heap.size) (by omega))
    have hKS3 := hkS (fun b => RB b ∨ Pv b) (fun h => h.elim (fun h => by have := hRs _ h; omega) fun h => hnP _ (by omega) h)
    have cB3 := hbx3.cell
    have fB3 := hbx3.frozen
    have hsz3 : (W2.setCell ⟨w.heap.size + 1, 0, none⟩ (.bool true)).heap.size = W2.heap.size := (World.size_setCell _ _ _)
    obtain ⟨q, c, rfl, hqc, _, _, _⟩ := slIn_of_owns hrow
    have hszW := hK2.size
    clear hxs hr hk2 hk2' hs2 hKW
    obtain ⟨W3, hW3⟩ : ∃ W3, W2.setCell ⟨w.heap.size + 1, 0, none⟩ (.bool true) = W3 := ⟨_, rfl⟩
    rw [hW3] at hbk3 hbx3 hrow3 hK3 hKS3 cB3 fB3 hsz3
    clear hkS
    have HW3 := Lib.hid hW3
    have HS3 := Lib.hid hsz3
    clear hW3 hsz3
    gi_wp2_with (gi_at_builtin; rw [HW3.out]; go_must (refine wpListIn_append_own_at _ rfl _ _ 22 rfl W0.heap.size 3 i0 (.int .i64 0) 1 8 Try.underlying22 hi0 hz0 hz1 hz2 rfl (by decide) _ _ _ rfl (hrow3.alloc _) ⟨W3.heap.size, 0, none⟩ 1 1 [.int .i64 x] (by rw [HS3.out]; rfl) rfl (cell_one_new _ _ _) (by simp [Value.oneCell']) (by unfold maxLen; omega) (by omega) (by simp; have := HS3.out; omega) ?_); intro v' w1 hown' hgrow _ hat; obtain ⟨g', cap', rfl⟩ := ownsRow_succ hown'; obtain ⟨hv1, hv2, hr2, hkk⟩ := appended_keep (S := fun b => RB b ∨ Pv b ∨ b = w.heap.size + 1 ∨ b < w.heap.size) hbx3 (by decide) hrow3 (fun h => by rcases h with h | h | h | h; (have := hRs _ h; omega); exact hnP w.heap.size (by omega) h; omega; omega) (fun b hb h => by have h0 := (hrow3.lt b hb).1; rcases h with h | h | h | h; (have := hRs _ h; omega); exact hnv b hb h; omega; omega) hown' hgrow; have hc1 := hv1.cell; have hf1 := hv1.frozen)
    refine ⟨hKS3.trans (hkk.mono fun b _ h => h.elim .inl fun h => .inr (.inl h)), _, hv2, hkk.boxed hbk3 (.inr (.inr (.inl rfl))), ?_, fun b hb => hge b hb, fun b hb hp => ?_, hK3.trans (hkk.mono fun b _ h => .inr (.inr (.inr h)))⟩
    · simpa using hr2
    · rcases hat with h | h
      · exact hnv b (h ▸ hb) hp
      · rw [h] at hb; cases hb; have h5 := hPl2 _ hp; have h6 := HS3.out; simp at h5; omega
  case done =>
    rintro D Pv Wd hD hPD hPl ⟨v, hbx, hbk, hrow, hge, hnv, hKW⟩ hK
    rw [HNS.out, HN2.out] at hrow
    have cB := hbx.cell
    have cK := hbk.cell
    gi_wp2_with (gi_quiet (fail))
    have hK' : (Wd.drewN nq).heap[D]? = some (.deferred (some [])) := hK
    have hrow' : (Wd.drewN nq).ownsRow W0.heap.size 3 1 v xs.length (xs.map (Value.int .i64)) := hrow
    have hB : Keep (fun b => b < w.heap.size) w (Wd.drewN nq) := ((Keep.of_below hB0).trans hKW).trans (Keep.drewN _ _ _)
    generalize Wd.drewN nq = We at *
    refine ⟨by simp, .inl ⟨_, _, rfl, run_takeDeferred hK', ?_⟩⟩
    refine ⟨_, results_tmp2 rfl _ _ _, v, rfl, row_base ((Keep.putObj (S := fun b => ¬ Pv b) We D _ (fun h => h hPD)).row hrow' hnv) (by omega), (hB.trans (Keep.putObj _ _ _ (by omega))).below (Nat.le_refl _)⟩
  case stop =>
    rintro D c pre rest Pv Wd _ _ _ _ h _
    exact h.elim

end Go.Proofs.Ythfclmnmnmeldaa
