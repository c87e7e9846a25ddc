/- cut.Lines: its iterator tells the lines. Conditions: a text is of at most the model's greatest length. -/
import Derived.Test.YtefgccdpgfdelaaCutF
namespace Go.Proofs.Ytefgccdpgfdelaa
open Go.RowKit Go.Shelf
attribute [local go_sem] Oper.semAt_some

theorem spansGo_from (p : UInt8 → Bool) : ∀ (l : List UInt8) (i f : Nat), f ≤ i → ∀ x ∈ spansGo p l i f, f ≤ x.1 ∧ x.1 ≤ x.2 ∧ x.2 ≤ i + l.length
  | [], i, f, h, x, hx => by
    simp [spansGo] at hx; subst hx; simp; exact h
  | b :: r, i, f, h, x, hx => by
    unfold spansGo at hx
    split at hx
    · rcases List.mem_cons.1 hx with rfl | hx
      · simp; omega
      · have := spansGo_from p r (i + 1) (i + 1) (Nat.le_refl _) x hx
        simp only [List.length_cons]; omega
    · have := spansGo_from p r (i + 1) f (by omega) x hx
      simp only [List.length_cons]; omega
theorem spansGo_rise (p : UInt8 → Bool) : ∀ (l : List UInt8) (i f : Nat), f ≤ i → ∀ pre x rest, spansGo p l i f = pre ++ x :: rest → ∀ y ∈ rest, x.1 ≤ y.1
  | [], i, f, h, pre, x, rest, hx => by
    cases pre with
    | nil => simp [spansGo] at hx; obtain ⟨_, rfl⟩ := hx; intro y hy; cases hy
    | cons a r => simp [spansGo] at hx
  | b :: r, i, f, h, pre, x, rest, hx => by
    unfold spansGo at hx
    split at hx
    · cases pre with
      | nil =>
        simp at hx
        obtain ⟨rfl, rfl⟩ := hx
        intro y hy
        have := spansGo_from p r (i + 1) (i + 1) (Nat.le_refl _) y hy
        simp only; omega
      | cons a t =>
        simp at hx
        exact spansGo_rise p r (i + 1) (i + 1) (Nat.le_refl _) t x rest hx.2
    · exact spansGo_rise p r (i + 1) f (by omega) pre x rest hx

theorem spansL_bounds (p : UInt8 → Bool) (l : List UInt8) (x : Nat × Nat) (h : x ∈ spansL p l) : x.1 ≤ x.2 ∧ x.2 ≤ l.length := by
  have := spansGo_from p l 0 0 (Nat.le_refl _) x h
  omega

/-- The lines of a text, out of the pieces' bounds. -/
def linesOf (l : List UInt8) (xs : List (Nat × Nat)) : List (List UInt8) := (xs.filter fun x => decide (x.1 < l.length)).map fun x => chomp (sub l x.1 x.2)
def linesL (l : List UInt8) : List (List UInt8) := linesOf l (spansL (isB 10) l)
theorem linesOf_snoc (l : List UInt8) (pre : List (Nat × Nat)) (x : Nat × Nat) (h : x.1 < l.length) : linesOf l (pre ++ [x]) = linesOf l pre ++ [chomp (sub l x.1 x.2)] := by
  unfold linesOf
  simp [List.filter_append, h]
theorem linesOf_end (l : List UInt8) (pre : List (Nat × Nat)) (x : Nat × Nat) (rest : List (Nat × Nat)) (hx : spansL (isB 10) l = pre ++ x :: rest) (h : ¬ x.1 < l.length) : linesL l = linesOf l pre := by
  unfold linesL
  rw [hx]
  unfold linesOf
  rw [List.filter_append, List.filter_cons, if_neg (by simpa using h)]
  have : rest.filter (fun x => decide (x.1 < l.length)) = [] := by
    rw [List.filter_eq_nil_iff]
    intro y hy
    have := spansGo_rise (isB 10) l 0 0 (Nat.le_refl _) pre x rest hx y hy
    simp; omega
  rw [this, List.append_nil]
theorem linesOf_mid (l : List UInt8) (pre : List (Nat × Nat)) (x : Nat × Nat) (rest : List (Nat × Nat)) (hx : spansL (isB 10) l = pre ++ x :: rest) (h : x.1 < l.length) : ∃ r, linesL l = linesOf l pre ++ chomp (sub l x.1 x.2) :: r := by
  refine ⟨linesOf l rest, ?_⟩
  unfold linesL
  rw [hx]
  unfold linesOf
  simp [List.filter_append, List.filter_cons, h]

theorem isByte10 (w : World) :
    Calls Try.prog 31 #[.int .u8 10] w fun e w' => e = .returned (.func (.func 47) #[] #[.pointer (some ⟨w.heap.size, 0, none⟩)]) ∧ w' = w.alloc (.cells #[.int .u8 10] 5) := isByte_any 10 w

set_option maxRecDepth 100000 in
set_option maxHeartbeats 2000000 in
theorem Lines1_iter (B : Nat) (q : Option Addr) (n c : Nat) (l : List UInt8) (RB : Nat → Prop) (w0 : World)
    (hl : l.length = n) (hn : n ≤ 140737488355328) (hnc : n ≤ c) (hb : Lib.BytesIn w0 q n (Lib.numsL l)) (hq : ∀ a, q = some a → 0 < n → RB a.block)
    (hB : Boxed w0 B 22 (.slice q n c)) (hRB : RB B) (hRs : ∀ b, RB b → b < w0.heap.size) :
    IterC Try.prog 44 #[.pointer (some ⟨B, 0, none⟩)] RowArg (linesL l) RB w0 := by
  intro l' J Jx W hW hJ hJx hY h0
  refine (callsIn_wide (n := 1)).1 ?_
  refine callsIn_of_wp_marks Try.func44 rfl trivial ?_ rfl
  simp only [Try.ntmps44, List.size_toArray, List.length_cons, List.length_nil, Nat.reduceAdd, Nat.reduceSub, Array.replicate_succ, Array.replicate_zero, List.push_toArray, List.append_toArray, List.nil_append, List.cons_append]
  have bB := (hW.boxed hB hRB).cell
  gi_wp2
  have bB1 : ∀ o, (W.alloc o).cell? ⟨B, 0, none⟩ = some (.slice q n c) := fun o => ((hW.boxed hB hRB).alloc o).cell
  have bB2 : ∀ o o', ((W.alloc o).alloc o').cell? ⟨B, 0, none⟩ = some (.slice q n c) := fun o o' => (((hW.boxed hB hRB).alloc o).alloc o').cell
  gi_region_with (first | (refine ⟨trivial, ?_⟩; gi_at_call 31; refine (callsIn_wide.2 (isByte10 _)).mono ?_; rintro e w' ⟨rfl, rfl⟩) | (refine ⟨trivial, ?_⟩; gi_at_call 30; refine (callsIn_wide.2 (spans_any _ _ _ _ _ _)).mono ?_; rintro e w' ⟨rfl, rfl⟩))
  all_goals
    gi_wp2
    obtain ⟨W1, hW1, a0, a1, a2, a3, hsz, hk1⟩ := four_boxes W 40 5 22 56 (.func (.yield l') #[] #[]) (.int .u8 10) (.slice q n c) (.func (.func 47) #[] #[.pointer (some ⟨W.heap.size + 1, 0, none⟩)])
    rw [hW1]
    clear hW1 bB1 bB2
    obtain ⟨RBin, hRBin⟩ : ∃ RBin : Nat → Prop, RBin = fun b => RB b ∨ b = W.heap.size ∨ b = W.heap.size + 1 ∨ b = W.heap.size + 1 + 1 ∨ b = W.heap.size + 1 + 1 + 1 := ⟨_, rfl⟩
    obtain ⟨Ow, hOw⟩ : ∃ Ow : Nat → Prop, Ow = fun b => b = W.heap.size ∨ b = W.heap.size + 1 ∨ b = W.heap.size + 1 + 1 ∨ b = W.heap.size + 1 + 1 + 1 := ⟨_, rfl⟩
    have hW0 := hW.size
    have hRl : ∀ b, RBin b → b < W1.heap.size := fun b hb => by rw [hRBin] at hb; rcases hb with hb | hb; (have := hRs b hb; omega); omega
    have hRBo : ∀ b, RB b → RBin b := fun b hb => by rw [hRBin]; exact .inl hb
    have hOwR : ∀ b, RBin b → RB b ∨ Ow b := fun b hb => by rw [hRBin] at hb; rw [hOw]; exact hb
    have hOwI : ∀ b, Ow b → RBin b := fun b hb => by rw [hRBin]; rw [hOw] at hb; exact .inr hb
    have hOwl : ∀ b, Ow b → W.heap.size ≤ b ∧ b < W1.heap.size := fun b hb => by rw [hOw] at hb; omega
    have o0 : Ow W.heap.size := by rw [hOw]; exact .inl rfl
    have o1 : Ow (W.heap.size + 1) := by rw [hOw]; exact .inr (.inl rfl)
    have o2 : Ow (W.heap.size + 1 + 1) := by rw [hOw]; exact .inr (.inr (.inl rfl))
    have o3 : Ow (W.heap.size + 1 + 1 + 1) := by rw [hOw]; exact .inr (.inr (.inr rfl))
    clear hRBin hOw
    have hb1 : Lib.BytesIn W1 q n (Lib.numsL l) := fun h => by
      obtain ⟨b, o, rfl, hc⟩ := hb.at h
      exact ⟨b, o, rfl, fun i hi => (World.cell?_of_block ((hW.trans (hk1 RB)).block b (World.block_lt_of_cell? w0 _ (hc i hi)) (hq _ rfl h))).trans (hc i hi)⟩
    have aB := (hW.trans (hk1 RB)).boxed hB hRB
    refine rf_law (gf := 46) (lb := #[.pointer (some ⟨W.heap.size + 1 + 1, 0, none⟩), .pointer (some ⟨W.heap.size + 1 + 1 + 1, 0, none⟩)]) rfl (enters_of Try.func46 (by kernel_rfl) rfl)
      (spans1_iter (W.heap.size + 1 + 1) (W.heap.size + 1 + 1 + 1) q n c 47 #[.pointer (some ⟨W.heap.size + 1, 0, none⟩)] l (isB 10) RBin W1 hl hn hb1 (fun a h1 h2 => hRBo _ (hq a h1 h2)) a2 a3 (hOwI _ o2) (hOwI _ o3)
        (isByte_tests 10 (W.heap.size + 1) RBin W1 a1 (hOwI _ o1))) (Keep.refl _ _) hRl (fun x args G W h => by rw [h.1]; rfl)
      (AdI RBin Ow W1 J (linesOf l) (fun _ _ => True)) (AdX J Jx (linesL l)) (AdI_abide hJ hRl (fun _ _ _ _ h => h)) (AdX_abide hJ hJx)
      ⟨Keep.refl _ _, (fun _ h => h.elim), trivial, Ow, hJ _ _ _ _ _ h0 (hk1 _) (fun b hb => ⟨.inr (hOwl b hb).1, (hOwl b hb).2⟩), (fun _ h => h.elim), (fun _ h => h), (fun b hb => (hOwl b hb).2)⟩ ?round ?done ?stop
    case round =>
      rintro ll pre ⟨f, t⟩ rest Pv G args Wr hll hxs ⟨hKI, hge, _, Q, hj, hPQ, hOQ, hQl⟩ hPl hGl hPb hGP ⟨rfl, rfl⟩
      gi_wp2
      refine ⟨Keep.refl _ _, fun W2 hk2 hs2 r hr => ?_⟩
      have hbd := spansL_bounds (isB 10) l (f, t) (by rw [hxs]; simp)
      simp only at hbd
      have hlW : W1.heap.size ≤ ll := hge ll hPl
      have j2 : J (linesOf l pre) Q W2 := hJ _ _ _ _ _ hj (hk2.mono fun b _ hb => by rintro rfl; exact hb (hPQ _ hPl)) fun b hb => ⟨.inl hb, by have := hQl b hb; omega⟩
      have k2 : Keep RBin W1 W2 := hKI.trans (hk2.mono fun b _ hb => by have := hRl b hb; omega)
      have hQ2 : ∀ b, Q b → b < W2.heap.size := fun b hb => by have := hQl b hb; omega
      have b0 := k2.boxed a0 (hOwI _ o0)
      have bB := k2.boxed aB (hRBo _ hRB)
      have c0 := b0.cell
      have cB := bB.cell
      have hsl := run_slice_sub q n c f t
      by_cases hf : f < l.length
      · have hT : ((f : Int) == (n : Int)) = false := by rw [beq_eq_false_iff_ne]; omega
        obtain ⟨r, hys⟩ := linesOf_mid l pre (f, t) rest hxs hf
        have key := fun (w4 : World) (v4 : Value) (m : Nat) => yield_row (w4 := w4) (v4 := v4) (n := m) hJ hY hys j2 hQ2
        have hbs : Lib.BytesIn W2 (subA q c f) (t - f) (Lib.numsL (sub l f t)) := bytes_sub (bytes_keep hb1 k2 (fun a h1 h2 => hRBo _ (hq a h1 h2))) hl hbd.1 (by omega) hnc
        have hm := sub_length l f t hbd.2
        have con1 := withoutReturn_any (subA q c f) (t - f) (c - f) (sub l f t) W2.drew hm (by omega) (by omega) hbs (bytes_lt hbs)
        obtain ⟨k, hk, hck, hkl⟩ := chomp_prefix (sub l f t)
        have hbs2 : Lib.BytesIn (W2.alloc (.cells #[.int .u8 13] 5)).drew (subA q c f) (chomp (sub l f t)).length (Lib.numsL (chomp (sub l f t))) := by
          have h := bytes_take hbs hm (k := k) (by omega)
          rw [← hck, ← hkl] at h
          exact bytes_keep h ((Keep.alloc (fun _ => True) W2 _).trans (Keep.drew _ _)) (fun _ _ _ => trivial)
        have con2 := Clone_any (subA q c f) (chomp (sub l f t)).length (c - f) (chomp (sub l f t)) (W2.alloc (.cells #[.int .u8 13] 5)).drew rfl (by omega) hbs2
        have hys' := hys
        have hf' := hf
        obtain ⟨y, HYY⟩ : ∃ y, Hid (y = chomp (sub l f t)) := ⟨_, rfl⟩
        rw [← HYY.out] at con1 con2 hbs2 key hkl hys'
        have hft : f ≤ t := hbd.1
        have htc : t ≤ c := by omega
        have HSL := fun W => hsl W hft htc
        have c0a : ∀ o, (W2.alloc o).cell? ⟨W.heap.size, 0, none⟩ = some (.func (.yield l') #[] #[]) := fun o => (b0.alloc o).cell
        have cBa : ∀ o, (W2.alloc o).cell? ⟨B, 0, none⟩ = some (.slice q n c) := fun o => (bB.alloc o).cell
        have after : ∀ w4 v4, w4.ownsRow (W2.heap.size + 1) 5 1 v4 y.length ((Lib.numsL y).map (Value.int .u8)) → Below (W2.heap.size + 1) (W2.alloc (.cells #[.int .u8 13] 5)).drew w4 →
            w4.cell? ⟨W.heap.size, 0, none⟩ = some (.func (.yield l') #[] #[]) ∧ w4.cell? ⟨B, 0, none⟩ = some (.slice q n c) ∧ YieldAt Fence.wide 0 Try.prog l' #[v4] w4 fun e W' => ∃ ok : Bool, e = .returned (.bool ok) ∧ RowPost J Jx (linesOf l pre ++ [y]) RB Q W2 ok W' := by
          intro w4 v4 h1 h2
          have hbw : Below W2.heap.size W2 w4 := (((Below.refl _ W2).alloc (Nat.le_refl _) (.cells #[.int .u8 13] 5)).drew).trans (h2.mono (by omega))
          exact ⟨((Keep.of_below hbw).boxed b0 b0.lt).cell, ((Keep.of_below hbw).boxed bB bB.lt).cell, key w4 v4 y.length hbw rfl (row_base h1 (by omega))⟩
        have HS2 := Lib.hid (show (W2.alloc (.cells #[.int .u8 13] 5)).drew.heap.size = W2.heap.size + 1 by show (W2.alloc _).heap.size = _; simp)
        clear key hbs hbs2 hbd hk hck hkl hb1 hf hxs hys hsl hY hb hq hm
        gi_wp2_with fail
        refine region_any (fun w => w.cell? ⟨W.heap.size, 0, none⟩ = some (.func (.yield l') #[] #[]) ∧ w.cell? ⟨B, 0, none⟩ = some (.slice q n c)) (by kernel_rfl) ?_
        refine anyH_take 0 (v := .func (.yield l') #[] #[]) rfl (by kernel_rfl) (by kernel_rfl) (by kernel_rfl) (by kernel_rfl) (fun _ _ _ h => h) ⟨.inl ⟨by rfl, ?_⟩, fun _ => rfl⟩ ⟨c0, cB⟩ ?_
        · rintro w ⟨h1, h2⟩; go_simp
        refine anyH_take 1 (v := .slice q n c) rfl (by kernel_rfl) (by kernel_rfl) (by kernel_rfl) (by kernel_rfl) (fun _ _ _ h => h) ⟨.inl ⟨by rfl, ?_⟩, fun _ => rfl⟩ ⟨c0, cB⟩ ?_
        · rintro w ⟨h1, h2⟩; go_simp
        refine anyH_take 2 (v := .int .i64 f) rfl (by kernel_rfl) (by kernel_rfl) (by kernel_rfl) (by kernel_rfl) (fun _ _ _ h => h) ⟨.inl ⟨by rfl, ?_⟩, fun _ => rfl⟩ ⟨c0, cB⟩ ?_
        · rintro w ⟨h1, h2⟩; go_simp
        refine anyH_take 3 (v := .int .i64 t) rfl (by kernel_rfl) (by kernel_rfl) (by kernel_rfl) (by kernel_rfl) (fun _ _ _ h => h) ⟨.inl ⟨by rfl, ?_⟩, fun _ => rfl⟩ ⟨c0, cB⟩ ?_
        · rintro w ⟨h1, h2⟩; go_simp
        refine anyH_take 4 (v := .slice (subA q c f) (t - f) (c - f)) rfl (by kernel_rfl) (by kernel_rfl) (by kernel_rfl) (by kernel_rfl) (fun _ _ _ h => h) ⟨.inl ⟨by rfl, ?_⟩, fun _ => rfl⟩ ⟨c0, cB⟩ ?_
        · rintro w ⟨h1, h2⟩; go_simp
        refine anyH_one 5 (by kernel_rfl) rfl fun K hK => ?_
        go_simp
        refine ⟨trivial, rfl, (CallsIn.inRound ll (callsIn_wide.2 con1)).mono ?_⟩
        rintro e w' ⟨rfl, rfl⟩
        refine hK _ _ ⟨c0a _, cBa _⟩ ?_
        clear hK K
        refine anyH_one 6 (by kernel_rfl) rfl fun K hK => ?_
        go_simp
        refine ⟨trivial, rfl, (CallsIn.inRound ll (callsIn_wide.2 con2)).mono ?_⟩
        rintro e w4 ⟨v4, rfl, hrow4, hbel4⟩
        rw [HS2.out] at hrow4 hbel4
        obtain ⟨d0, dB, fn, tmps, assign, body, hy, hR⟩ := after w4 v4 hrow4 hbel4
        refine hK _ _ ⟨d0, dB⟩ ?_
        clear hK K
        refine anyH_one 7 (by kernel_rfl) rfl fun K hK => ?_
        go_simp
        refine ⟨rfl, RoundIn.mono hR ?_⟩
        rintro e W5 ⟨ok, rfl, hpost⟩
        refine hK _ _ ⟨(hpost.1.boxed b0 (.inr (hOQ _ o0))).cell, (hpost.1.boxed bB (.inl hRB)).cell⟩ ?_
        clear hK K
        refine anyH_take 8 (v := .bool (!ok)) rfl (by kernel_rfl) (by kernel_rfl) (by kernel_rfl) (by kernel_rfl) (fun _ _ _ h => h) ⟨.inl ⟨by rfl, ?_⟩, fun _ => rfl⟩ ⟨(hpost.1.boxed b0 (.inr (hOQ _ o0))).cell, (hpost.1.boxed bB (.inl hRB)).cell⟩ ?_
        · rintro w ⟨h1, h2⟩; go_simp
        refine anyH_done (by kernel_rfl) ?_ _
        obtain ⟨hkp, Q', hQQ, hQl', hpost⟩ := hpost
        have hs5 := hkp.size
        have hkk : Keep (fun b => RBin b ∨ Pv b) W2 W5 := hkp.mono fun b _ h => h.elim (fun h => (hOwR b h).imp id (hOQ b)) (fun h => .inr (hPQ b h))
        have HX2 := Lib.hid (linesOf_snoc l pre (f, t) hf')
        have HY := Lib.hid hys'
        clear hkp after con1 con2 HSL hy hR hrow4 hbel4 d0 dB c0a cBa hys' hf'
        cases ok with
        | true =>
          have hj5 := hpost.resolve_right (by simp)
          gi_wp2
          refine ⟨hkk, k2.trans (hkk.mono fun b _ h => .inl h), fun b hb => hge b hb, trivial, Q', ?_, fun b hb => hQQ b (hPQ b hb), fun b hb => hQQ b (hOQ b hb), hQl'⟩
          rw [HX2.out]
          exact HYY.out ▸ hj5.2
        | false =>
          have hj5 := hpost.resolve_left (by simp)
          gi_wp2
          exact ⟨hkk, rfl, Q', fun b hb => hQQ b (hPQ b hb), hQl', .inr ⟨_, r, by rw [HY.out, List.append_assoc]; rfl, hj5.2⟩⟩
      · have hT : ((f : Int) == (n : Int)) = true := by rw [beq_iff_eq]; omega
        have hend := linesOf_end l pre (f, t) rest hxs hf
        clear hf hbd
        gi_wp2
        exact ⟨Keep.refl _ _, rfl, Q, fun b hb => hPQ b hb, hQ2, .inl (by rw [hend]; exact j2)⟩
    case done =>
      rintro D Pv Wd hD hPD hPl ⟨_, hge, _, Q, hj, hPQ, hOQ, hQl⟩ hK
      gi_wp2
      refine ⟨by simp, .inl ⟨_, _, rfl, run_takeDeferred hK, ?_⟩⟩
      refine ⟨_, results_none rfl _ _ _, ⟨_, rfl⟩, Q, ?_, .inl ?_⟩
      · intro b hb; rw [World.putObj_size]; exact hQl b hb
      · exact hJ _ _ _ _ _ hj (Keep.putObj _ _ _ (fun h => h (hPQ D hPD))) (fun b hb => ⟨.inl hb, by rw [World.putObj_size]; exact hQl b hb⟩)
    case stop =>
      rintro D cc pre rest Pv Wd hD hPD hPl hxs ⟨rfl, Q, hPQ, hQl, hj⟩ hK
      gi_wp2
      refine ⟨by simp, .inl ⟨_, _, rfl, run_takeDeferred hK, ?_⟩⟩
      refine ⟨_, results_none rfl _ _ _, ⟨_, rfl⟩, Q, ?_, ?_⟩
      · intro b hb; rw [World.putObj_size]; exact hQl b hb
      · have hkp : Keep (fun b => ¬ Q b) Wd (Wd.putObj D (.deferred none)) := Keep.putObj _ _ _ (fun h => h (hPQ D hPD))
        have hqp : ∀ b, Q b → (Q b ∨ Wd.heap.size ≤ b) ∧ b < (Wd.putObj D (.deferred none)).heap.size := fun b hb => ⟨.inl hb, by rw [World.putObj_size]; exact hQl b hb⟩
        rcases hj with hj | ⟨pre', rest', he, hj⟩
        · exact .inl (hJ _ _ _ _ _ hj hkp hqp)
        · exact .inr ⟨pre', rest', he, hJx _ _ _ _ _ hj hkp hqp⟩

end Go.Proofs.Ytefgccdpgfdelaa
