/- cut.Split: its iterator tells the pieces, counted. Conditions: a text is of at most the model's greatest length. -/
import Derived.Test.YtcahakelihigdaaCutG
namespace Go.Proofs.Ytcahakelihigdaa
open Go.RowKit Go.Shelf
attribute [local go_sem] Oper.semAt_some

/-- A number and a piece that is handed over with its memory. -/
def NumRowArg (x : Nat × List UInt8) (args : Array Value) (G : Nat → Prop) (W : World) : Prop :=
  ∃ v, args = #[.int .i64 x.1, v] ∧ W.ownsRow 0 5 1 v x.2.length ((Lib.numsL x.2).map (Value.int .u8)) ∧ G = fun b => v.ownBlock = some b

/-- The pieces of a text, counted, out of their bounds. -/
def splitOf (l : List UInt8) (xs : List (Nat × Nat)) : List (Nat × List UInt8) := xs.zipIdx.map fun x => (x.2, sub l x.1.1 x.1.2)
def splitX (c : UInt8) (l : List UInt8) : List (Nat × List UInt8) := splitOf l (spansL (isB c) l)
theorem splitOf_snoc (l : List UInt8) (pre : List (Nat × Nat)) (x : Nat × Nat) : splitOf l (pre ++ [x]) = splitOf l pre ++ [(pre.length, sub l x.1 x.2)] := by
  unfold splitOf
  simp [List.zipIdx_append]
theorem splitOf_mid (c : UInt8) (l : List UInt8) (pre : List (Nat × Nat)) (x : Nat × Nat) (rest : List (Nat × Nat)) (hx : spansL (isB c) l = pre ++ x :: rest) : ∃ r, splitX c l = splitOf l pre ++ (pre.length, sub l x.1 x.2) :: r := by
  unfold splitX splitOf
  rw [hx]
  simp [List.zipIdx_append]
theorem spansGo_len (p : UInt8 → Bool) : ∀ (l : List UInt8) (i f : Nat), (spansGo p l i f).length ≤ l.length + 1
  | [], i, f => by simp [spansGo]
  | b :: r, i, f => by
    unfold spansGo
    split
    · have := spansGo_len p r (i + 1) (i + 1); simp; omega
    · have := spansGo_len p r (i + 1) f; simp; omega

theorem Split_any (q : Option Addr) (n c : Nat) (by_ : UInt8) (l : List UInt8) (w : World) (hl : l.length = n) (hn : n ≤ 140737488355328) (h : Lib.BytesIn w q n (Lib.numsL l)) :
    Calls Try.prog 25 #[.slice q n c, .int .u8 (by_.toNat : Int)] w fun e w' => ∃ B v', e = .returned (.func (.func 37) #[] #[.pointer (some ⟨B, 0, none⟩), .pointer (some ⟨w.heap.size, 0, none⟩)]) ∧
      Boxed w' B 22 v' ∧ Boxed w' w.heap.size 5 (.int .u8 (by_.toNat : Int)) ∧ w'.ownsRow (w.heap.size + 1) 5 1 v' n ((Lib.numsL l).map (Value.int .u8)) ∧ w.heap.size + 1 ≤ B ∧ Below w.heap.size w w' := by
  have hb2 := bytes_keep h (Keep.alloc (fun _ => True) w (.cells #[.int .u8 (by_.toNat : Int)] 5)) (fun _ _ _ => trivial)
  have hcon := Clone_any q n c l _ hl hn hb2
  have b1 := Boxed.new w 5 (.int .u8 (by_.toNat : Int))
  have hB1 := (Below.refl w.heap.size w).alloc (Nat.le_refl _) (.cells #[.int .u8 (by_.toNat : Int)] 5)
  rw [World.size_alloc] at hcon
  clear h hb2
  go_enter Try.func25, Try.ntmps25
  go_wp2_with fail
  refine hcon.mono ?_
  rintro e w1 ⟨v', rfl, hrow, hbel⟩
  obtain ⟨q', c', rfl, _, _, _, _, hblk⟩ := row_open hrow
  have b2 := (Keep.of_below hbel).boxed b1 (Nat.lt_succ_self _)
  have hB2 := hB1.trans (hbel.mono (Nat.le_succ _))
  have hsz := hbel.size
  clear b1 hB1
  go_wp2
  go_ret
  exact ⟨w1.heap.size, _, rfl, Boxed.new w1 _ _, b2.alloc _, hrow.alloc _, by simpa using hsz, hB2.alloc hB2.size _⟩

set_option maxRecDepth 100000 in
set_option maxHeartbeats 2000000 in
theorem Split1_iter (B Bc : Nat) (by_ : UInt8) (q : Option Addr) (n c : Nat) (l : List UInt8) (RB : Nat → Prop) (w0 : World)
    (hl : l.length = n) (hn : n ≤ 140737488355328) (hnc : n ≤ c) (hb : Lib.BytesIn w0 q n (Lib.numsL l)) (hq : ∀ a, q = some a → 0 < n → RB a.block)
    (hB : Boxed w0 B 22 (.slice q n c)) (hRB : RB B) (hBc : Boxed w0 Bc 5 (.int .u8 (by_.toNat : Int))) (hRBc : RB Bc) (hRs : ∀ b, RB b → b < w0.heap.size) :
    IterC Try.prog 37 #[.pointer (some ⟨B, 0, none⟩), .pointer (some ⟨Bc, 0, none⟩)] NumRowArg (splitX by_ l) RB w0 := by
  intro l' J Jx W hW hJ hJx hY h0
  refine (callsIn_wide (n := 1)).1 ?_
  refine callsIn_of_wp_marks Try.func37 rfl trivial ?_ rfl
  simp only [Try.ntmps37, List.size_toArray, List.length_cons, List.length_nil, Nat.reduceAdd, Nat.reduceSub, Array.replicate_succ, Array.replicate_zero, List.push_toArray, List.append_toArray, List.nil_append, List.cons_append]
  have aB0 := hW.boxed hB hRB
  have aBc0 := hW.boxed hBc hRBc
  have bB := aB0.cell
  have bBc := aBc0.cell
  gi_wp2
  have ccB : ∀ o o', ((W.alloc o).alloc o').cell? ⟨B, 0, none⟩ = some (.slice q n c) := fun o o' => ((aB0.alloc o).alloc o').cell
  have ccC : ∀ o o', ((W.alloc o).alloc o').cell? ⟨Bc, 0, none⟩ = some (.int .u8 (by_.toNat : Int)) := fun o o' => ((aBc0.alloc o).alloc o').cell
  have ccB3 : ∀ o o' o'', (((W.alloc o).alloc o').alloc o'').cell? ⟨B, 0, none⟩ = some (.slice q n c) := fun o o' o'' => (((aB0.alloc o).alloc o').alloc o'').cell
  have ccC3 : ∀ o o' o'', (((W.alloc o).alloc o').alloc o'').cell? ⟨Bc, 0, none⟩ = some (.int .u8 (by_.toNat : Int)) := fun o o' o'' => (((aBc0.alloc o).alloc o').alloc o'').cell
  have ccB5 : ∀ o o' o'' p p', (((((W.alloc o).alloc o').alloc o'').alloc p).alloc p').cell? ⟨B, 0, none⟩ = some (.slice q n c) := fun o o' o'' p p' => (((((aB0.alloc o).alloc o').alloc o'').alloc p).alloc p').cell
  have ccC5 : ∀ o o' o'' p p', (((((W.alloc o).alloc o').alloc o'').alloc p).alloc p').cell? ⟨Bc, 0, none⟩ = some (.int .u8 (by_.toNat : Int)) := fun o o' o'' p p' => (((((aBc0.alloc o).alloc o').alloc o'').alloc p).alloc p').cell
  refine region_any (fun w => w.cell? ⟨B, 0, none⟩ = some (.slice q n c) ∧ w.cell? ⟨Bc, 0, none⟩ = some (.int .u8 (by_.toNat : Int))) (by kernel_rfl) ?_
  refine anyH_take 0 (v := .slice q n c) rfl (by kernel_rfl) (by kernel_rfl) (by kernel_rfl) (by kernel_rfl) (fun _ _ _ h => h) ⟨.inl ⟨by rfl, ?_⟩, fun _ => rfl⟩ ⟨ccB _ _, ccC _ _⟩ ?_
  · rintro w ⟨h1, h2⟩; go_simp
  refine anyH_take 1 (v := .int .u8 (by_.toNat : Int)) rfl (by kernel_rfl) (by kernel_rfl) (by kernel_rfl) (by kernel_rfl) (fun _ _ _ h => h) ⟨.inl ⟨by rfl, ?_⟩, fun _ => rfl⟩ ⟨ccB _ _, ccC _ _⟩ ?_
  · rintro w ⟨h1, h2⟩; go_simp
  refine anyH_one 2 (by kernel_rfl) rfl fun K hK => ?_
  go_simp
  refine ⟨trivial, (callsIn_wide.2 (isByte_any by_ _)).mono ?_⟩
  rintro e w' ⟨rfl, rfl⟩
  refine hK _ _ ⟨ccB3 _ _ _, ccC3 _ _ _⟩ ?_
  clear hK K
  refine anyH_one 3 (by kernel_rfl) rfl fun K hK => ?_
  go_simp
  refine ⟨trivial, (callsIn_wide.2 (spans_any _ _ _ _ _ _)).mono ?_⟩
  rintro e w' ⟨rfl, rfl⟩
  refine hK _ _ ⟨ccB5 _ _ _ _ _, ccC5 _ _ _ _ _⟩ ?_
  clear hK K
  refine anyH_done (by kernel_rfl) ?_ _
  clear ccB ccC ccB3 ccC3 ccB5 ccC5
  simp only [drew_alloc, drew_size, World.size_alloc]
  gi_wp2
  obtain ⟨W1, hW1, a0, ai, a2, a3, a4, hsz, hk1⟩ := five_boxes W 57 3 5 22 44 (.func (.yield l') #[] #[]) (.int .i64 0) (.int .u8 (by_.toNat : Int)) (.slice q n c) (.func (.func 44) #[] #[.pointer (some ⟨W.heap.size + 1 + 1, 0, none⟩)])
  rw [hW1]
  clear hW1
  obtain ⟨RBin, hRBin⟩ : ∃ RBin : Nat → Prop, RBin = fun b => RB b ∨ b = W.heap.size ∨ b = W.heap.size + 1 + 1 ∨ b = W.heap.size + 1 + 1 + 1 ∨ b = W.heap.size + 1 + 1 + 1 + 1 := ⟨_, rfl⟩
  obtain ⟨Ow, hOw⟩ : ∃ Ow : Nat → Prop, Ow = fun b => W.heap.size ≤ b ∧ b < W1.heap.size := ⟨_, rfl⟩
  have hW0 := hW.size
  have hRl : ∀ b, RBin b → b < W1.heap.size := fun b hb => by rw [hRBin] at hb; rcases hb with hb | hb; (have := hRs b hb; omega); omega
  have hRi : ¬ RBin (W.heap.size + 1) := fun hb => by rw [hRBin] at hb; rcases hb with hb | hb; (have := hRs _ hb; omega); omega
  have hRBo : ∀ b, RB b → RBin b := fun b hb => by rw [hRBin]; exact .inl hb
  have hOwR : ∀ b, RBin b → RB b ∨ Ow b := fun b hb => by
    have h1 := hRl b hb
    rw [hRBin] at hb; rw [hOw]
    rcases hb with hb | hb
    · exact .inl hb
    · exact .inr ⟨by omega, h1⟩
  have r0 : RBin W.heap.size := by rw [hRBin]; exact .inr (.inl rfl)
  have r2 : RBin (W.heap.size + 1 + 1) := by rw [hRBin]; exact .inr (.inr (.inl rfl))
  have r3 : RBin (W.heap.size + 1 + 1 + 1) := by rw [hRBin]; exact .inr (.inr (.inr (.inl rfl)))
  have r4 : RBin (W.heap.size + 1 + 1 + 1 + 1) := by rw [hRBin]; exact .inr (.inr (.inr (.inr rfl)))
  have hOwl : ∀ b, Ow b → W.heap.size ≤ b ∧ b < W1.heap.size := fun b hb => by rw [hOw] at hb; exact hb
  have o0 : Ow W.heap.size := by rw [hOw]; exact ⟨Nat.le_refl _, by omega⟩
  have oi : Ow (W.heap.size + 1) := by rw [hOw]; exact ⟨by omega, by omega⟩
  clear hRBin hOw
  have hil : W.heap.size + 1 < W1.heap.size := by omega
  have hb1 : Lib.BytesIn W1 q n (Lib.numsL l) := bytes_keep hb (hW.trans (hk1 RB)) hq
  have aB := (hk1 RB).boxed aB0 hRB
  refine rf_law (gf := 43) (lb := #[.pointer (some ⟨W.heap.size + 1 + 1 + 1, 0, none⟩), .pointer (some ⟨W.heap.size + 1 + 1 + 1 + 1, 0, none⟩)]) rfl (enters_of Try.func43 (by kernel_rfl) rfl)
    (spans1_iter (W.heap.size + 1 + 1 + 1) (W.heap.size + 1 + 1 + 1 + 1) q n c 44 #[.pointer (some ⟨W.heap.size + 1 + 1, 0, none⟩)] l (isB by_) RBin W1 hl hn hb1 (fun a h1 h2 => hRBo _ (hq a h1 h2)) a3 a4 r3 r4
      (isByte_tests by_ (W.heap.size + 1 + 1) RBin W1 a2 r2)) (Keep.refl _ _) hRl (fun x args G W h => by rw [h.1]; rfl)
    (AdI RBin Ow W1 J (splitOf l) (fun pre Wr => Boxed Wr (W.heap.size + 1) 3 (.int .i64 pre.length))) (AdX J Jx (splitX by_ l)) (AdI_abide hJ hRl (fun _ _ _ hk h => hk.boxed h hil)) (AdX_abide hJ hJx)
    ⟨Keep.refl _ _, (fun _ h => h.elim), ai, Ow, hJ _ _ _ _ _ h0 (hk1 _) (fun b hb => ⟨.inr (hOwl b hb).1, (hOwl b hb).2⟩), (fun _ h => h.elim), (fun _ h => h), (fun b hb => (hOwl b hb).2)⟩ ?round ?done ?stop
  case round =>
    rintro ll pre ⟨f, t⟩ rest Pv G args Wr hll hxs ⟨hKI, hge, hEi, Q, hj, hPQ, hOQ, hQl⟩ hPl hGl hPb hGP ⟨rfl, rfl⟩
    gi_wp2
    refine ⟨Keep.refl _ _, fun W2 hk2 hs2 r hr => ?_⟩
    have hbd := spansL_bounds (isB by_) l (f, t) (by rw [hxs]; simp)
    have hpl : pre.length ≤ n := by
      have h1 := spansGo_len (isB by_) l 0 0
      have h2 : (spansL (isB by_) l).length = pre.length + (rest.length + 1) := by rw [hxs]; simp
      unfold spansL at h2
      omega
    simp only at hbd
    have hlW : W1.heap.size ≤ ll := hge ll hPl
    have hPi : ¬ Pv (W.heap.size + 1) := fun h => by have := hge _ h; omega
    have j2 : J (splitOf l pre) Q W2 := hJ _ _ _ _ _ hj (hk2.mono fun b _ hb => by rintro rfl; exact hb (hPQ _ hPl)) fun b hb => ⟨.inl hb, by have := hQl b hb; omega⟩
    have k2 : Keep RBin W1 W2 := hKI.trans (hk2.mono fun b _ hb => by have := hRl b hb; omega)
    have hQ2 : ∀ b, Q b → b < W2.heap.size := fun b hb => by have := hQl b hb; omega
    have b0 := k2.boxed a0 r0
    have bi := hk2.boxed hEi (by omega)
    have bB := k2.boxed aB (hRBo _ hRB)
    have c0 := b0.cell
    have ci := bi.cell
    have cB := bB.cell
    have hsl := run_slice_sub q n c f t
    obtain ⟨r, hys⟩ := splitOf_mid by_ l pre (f, t) rest hxs
    have hbs : Lib.BytesIn W2 (subA q c f) (t - f) (Lib.numsL (sub l f t)) := bytes_sub (bytes_keep hb1 k2 (fun a h1 h2 => hRBo _ (hq a h1 h2))) hl hbd.1 (by omega) hnc
    have hm := sub_length l f t hbd.2
    have con2 := Clone_any (subA q c f) (t - f) (c - f) (sub l f t) W2.drew hm (by omega) hbs
    have hft : f ≤ t := hbd.1
    have htc : t ≤ c := by omega
    have HSL := fun W => hsl W hft htc
    have after : ∀ w4 v4, w4.ownsRow W2.heap.size 5 1 v4 (t - f) ((Lib.numsL (sub l f t)).map (Value.int .u8)) → Below W2.heap.size W2 w4 →
        w4.cell? ⟨W.heap.size, 0, none⟩ = some (.func (.yield l') #[] #[]) ∧ w4.cell? ⟨W.heap.size + 1, 0, none⟩ = some (.int .i64 pre.length) ∧ w4.cell? ⟨B, 0, none⟩ = some (.slice q n c) ∧
        YieldAt Fence.wide 0 Try.prog l' #[.int .i64 pre.length, v4] w4 fun e W' => ∃ ok : Bool, e = .returned (.bool ok) ∧ RowPost J Jx (splitOf l pre ++ [(pre.length, sub l f t)]) RB Q W2 ok W' := by
      intro w4 v4 h1 hbw
      refine ⟨((Keep.of_below hbw).boxed b0 b0.lt).cell, ((Keep.of_below hbw).boxed bi bi.lt).cell, ((Keep.of_below hbw).boxed bB bB.lt).cell, ?_⟩
      exact yield_arg (v4 := v4) hJ hY hys j2 hQ2 hbw (fun b h => h1.lt b h) ⟨v4, rfl, by rw [show (sub l f t).length = t - f from hm]; exact row_base h1 (Nat.zero_le _), rfl⟩
    have HX2 := Lib.hid (splitOf_snoc l pre (f, t))
    have HY := Lib.hid hys
    clear hbs hbd hb1 hxs hys hsl hY hb hq hs2
    gi_wp2_with fail
    refine region_any (fun w => w.cell? ⟨W.heap.size, 0, none⟩ = some (.func (.yield l') #[] #[]) ∧ w.cell? ⟨W.heap.size + 1, 0, none⟩ = some (.int .i64 pre.length) ∧ w.cell? ⟨B, 0, none⟩ = some (.slice q n c)) (by kernel_rfl) ?_
    refine anyH_take 0 (v := .func (.yield l') #[] #[]) rfl (by kernel_rfl) (by kernel_rfl) (by kernel_rfl) (by kernel_rfl) (fun _ _ _ h => h) ⟨.inl ⟨by rfl, ?_⟩, fun _ => rfl⟩ ⟨c0, ci, cB⟩ ?_
    · rintro w ⟨h1, h2, h3⟩; go_simp
    refine anyH_take 1 (v := .int .i64 pre.length) rfl (by kernel_rfl) (by kernel_rfl) (by kernel_rfl) (by kernel_rfl) (fun _ _ _ h => h) ⟨.inl ⟨by rfl, ?_⟩, fun _ => rfl⟩ ⟨c0, ci, cB⟩ ?_
    · rintro w ⟨h1, h2, h3⟩; go_simp
    refine anyH_take 2 (v := .slice q n c) rfl (by kernel_rfl) (by kernel_rfl) (by kernel_rfl) (by kernel_rfl) (fun _ _ _ h => h) ⟨.inl ⟨by rfl, ?_⟩, fun _ => rfl⟩ ⟨c0, ci, cB⟩ ?_
    · rintro w ⟨h1, h2, h3⟩; go_simp
    refine anyH_take 3 (v := .int .i64 f) rfl (by kernel_rfl) (by kernel_rfl) (by kernel_rfl) (by kernel_rfl) (fun _ _ _ h => h) ⟨.inl ⟨by rfl, ?_⟩, fun _ => rfl⟩ ⟨c0, ci, cB⟩ ?_
    · rintro w ⟨h1, h2, h3⟩; go_simp
    refine anyH_take 4 (v := .int .i64 t) rfl (by kernel_rfl) (by kernel_rfl) (by kernel_rfl) (by kernel_rfl) (fun _ _ _ h => h) ⟨.inl ⟨by rfl, ?_⟩, fun _ => rfl⟩ ⟨c0, ci, cB⟩ ?_
    · rintro w ⟨h1, h2, h3⟩; go_simp
    refine anyH_take 5 (v := .slice (subA q c f) (t - f) (c - f)) rfl (by kernel_rfl) (by kernel_rfl) (by kernel_rfl) (by kernel_rfl) (fun _ _ _ h => h) ⟨.inl ⟨by rfl, ?_⟩, fun _ => rfl⟩ ⟨c0, ci, cB⟩ ?_
    · rintro w ⟨h1, h2, h3⟩; go_simp
    refine anyH_one 6 (by kernel_rfl) rfl fun K hK => ?_
    go_simp
    refine ⟨trivial, rfl, (CallsIn.inRound ll (callsIn_wide.2 con2)).mono ?_⟩
    rintro e w4 ⟨v4, rfl, hrow4, hbel4⟩
    obtain ⟨d0, di, dB, fn, tmps, assign, body, hy, hR⟩ := after w4 v4 hrow4 ⟨hbel4.os, hbel4.tape, hbel4.output, hbel4.size, hbel4.block⟩
    refine hK _ _ ⟨d0, di, dB⟩ ?_
    clear hK K
    refine anyH_one 7 (by kernel_rfl) rfl fun K hK => ?_
    go_simp
    refine ⟨rfl, RoundIn.mono hR ?_⟩
    rintro e W5 ⟨ok, rfl, hpost⟩
    have ei := hpost.1.boxed bi (.inr (hOQ _ oi))
    have eS := And.intro (hpost.1.boxed b0 (.inr (hOQ _ o0))).cell (And.intro ei.cell (hpost.1.boxed bB (.inl hRB)).cell)
    refine hK _ _ eS ?_
    clear hK K
    refine anyH_take 8 (v := .bool (!ok)) rfl (by kernel_rfl) (by kernel_rfl) (by kernel_rfl) (by kernel_rfl) (fun _ _ _ h => h) ⟨.inl ⟨by rfl, ?_⟩, fun _ => rfl⟩ eS ?_
    · rintro w ⟨h1, h2, h3⟩; go_simp
    refine anyH_done (by kernel_rfl) ?_ _
    obtain ⟨hkp, Q', hQQ, hQl', hpost⟩ := hpost
    have hkk : Keep (fun b => RBin b ∨ Pv b) W2 W5 := hkp.mono fun b _ h => h.elim (fun h => (hOwR b h).imp id (hOQ b)) (fun h => .inr (hPQ b h))
    have fi := ei.frozen
    have ci5 := ei.cell
    clear hkp after con2 HSL hy hR hrow4 hbel4 d0 di dB eS c0 ci cB
    cases ok with
    | true =>
      have hj5 := (hpost.resolve_right (by simp)).2
      clear hpost
      gi_wp2
      have kst : ∀ S : Nat → Prop, ¬ S (W.heap.size + 1) → Keep S W5 (W5.setCell ⟨W.heap.size + 1, 0, none⟩ (.int .i64 (pre.length + 1))) := fun S h => Keep.setCell _ _ _ h
      refine ⟨hkk.trans (kst _ (fun h => h.elim hRi hPi)), k2.trans ((hkk.mono fun b _ h => .inl h).trans (kst _ hRi)), fun b hb => hge b hb, ?_, Q', ?_, fun b hb => hQQ b (hPQ b hb), fun b hb => hQQ b (hOQ b hb), fun b hb => ?_⟩
      · have := ei.set (.int .i64 ((pre.length : Int) + 1))
        simpa using this
      · rw [HX2.out]
        exact hJ _ _ _ _ _ hj5 (kst _ (fun h => h (hQQ _ (hOQ _ oi)))) (fun b hb => ⟨.inl hb, Nat.lt_of_lt_of_le (hQl' b hb) (kst (fun _ => False) (fun h => h)).size⟩)
      · exact Nat.lt_of_lt_of_le (hQl' b hb) (kst (fun _ => False) (fun h => h)).size
    | false =>
      have hj5 := (hpost.resolve_left (by simp)).2
      clear hpost
      gi_wp2
      exact ⟨hkk, rfl, Q', fun b hb => hQQ b (hPQ b hb), hQl', .inr ⟨_, r, by rw [HY.out, List.append_assoc]; rfl, hj5⟩⟩
  case done =>
    rintro D Pv Wd hD hPD hPl ⟨_, hge, _, Q, hj, hPQ, hOQ, hQl⟩ hK
    gi_wp2
    refine ⟨by simp, .inl ⟨_, _, rfl, run_takeDeferred hK, ?_⟩⟩
    refine ⟨_, results_none rfl _ _ _, ⟨_, rfl⟩, Q, ?_, .inl ?_⟩
    · intro b hb; rw [World.putObj_size]; exact hQl b hb
    · exact hJ _ _ _ _ _ hj (Keep.putObj _ _ _ (fun h => h (hPQ D hPD))) (fun b hb => ⟨.inl hb, by rw [World.putObj_size]; exact hQl b hb⟩)
  case stop =>
    rintro D cc pre rest Pv Wd hD hPD hPl hxs ⟨rfl, Q, hPQ, hQl, hj⟩ hK
    gi_wp2
    refine ⟨by simp, .inl ⟨_, _, rfl, run_takeDeferred hK, ?_⟩⟩
    refine ⟨_, results_none rfl _ _ _, ⟨_, rfl⟩, Q, ?_, ?_⟩
    · intro b hb; rw [World.putObj_size]; exact hQl b hb
    · have hkp : Keep (fun b => ¬ Q b) Wd (Wd.putObj D (.deferred none)) := Keep.putObj _ _ _ (fun h => h (hPQ D hPD))
      have hqp : ∀ b, Q b → (Q b ∨ Wd.heap.size ≤ b) ∧ b < (Wd.putObj D (.deferred none)).heap.size := fun b hb => ⟨.inl hb, by rw [World.putObj_size]; exact hQl b hb⟩
      rcases hj with hj | ⟨pre', rest', he, hj⟩
      · exact .inl (hJ _ _ _ _ _ hj hkp hqp)
      · exact .inr ⟨pre', rest', he, hJx _ _ _ _ _ hj hkp hqp⟩

end Go.Proofs.Ytcahakelihigdaa
