/- The texts that these laws rest on, put together, part 3. Conditions: as each says. -/
import Derived.Test.YtdgejnnapfbaeaaDoorBaseB

namespace Go.Proofs.YtdgejnnapfbaeaaDoor.Url
open Go.RowKit Go.Shelf
attribute [local go_sem] Oper.semAt_some

theorem info_sl : (Tryd.prog.info? 22).map (fun i => (i.zero, i.size, i.bytes)) = some (some (.slice none 0 0), 1, 24) := by kernel_rfl
/-- A path and an error's number, out of their cells. -/
theorem results_path {fn : Func} {p r : Tmp} (h : fn.results = #[.cell p 22, .cell r 26]) (tmps : Array Value) (w : World) (B C : Nat) (v u : Value) (hp : tmps.getD p undef = .pointer (some ⟨B, 0, none⟩)) (hr : tmps.getD r undef = .pointer (some ⟨C, 0, none⟩)) (hb : w.cell? ⟨B, 0, none⟩ = some v) (hc : w.cell? ⟨C, 0, none⟩ = some u) :
    (results fn tmps).run Tryd.prog w = .ok (.tuple #[v, u]) w := by
  have hp' : tmps[p]?.getD undef = .pointer (some ⟨B, 0, none⟩) := by simpa using hp
  have hr' : tmps[r]?.getD undef = .pointer (some ⟨C, 0, none⟩) := by simpa using hr
  have ha : ∀ w', (isAgg 22).run Tryd.prog w' = .ok false w' := Tryd.isAgg22
  have hd : ∀ w', (isAgg 26).run Tryd.prog w' = .ok false w' := Tryd.isAgg26
  have hl : (load ⟨B, 0, none⟩).run Tryd.prog w = .ok v w := by simp [go_sem, hb]
  have hm : (load ⟨C, 0, none⟩).run Tryd.prog w = .ok u w := by simp [go_sem, hc]
  simp [results, h, hp', hr', asAddr, loadVar, ha, hd, hl, hm, Result.andThen]

theorem own_len (q : Option Addr) (n m c d : Nat) : (Value.slice q n c).ownBlock = (Value.slice q m d).ownBlock := by cases q <;> rfl
theorem rows_slice {W : World} {base : Nat} {v : Value} {vs : List Value} {ks : List (List UInt8)} (h : RowsOf W base v vs ks) : ∃ q c, v = .slice q ks.length c ∧ ks.length ≤ c ∧ c ≤ maxLen := by
  rcases h.1.2 with ⟨rfl, hz⟩ | ⟨g, cap, cur, rfl, _, _, h1, h2, _⟩
  · exact ⟨none, 0, by rw [hz], by omega, Nat.zero_le _⟩
  · exact ⟨_, cap, rfl, h1, h2⟩
theorem run_rows_to (q : Option Addr) (n c j : Nat) (W : World) (hj : j ≤ c) :
    (Instr.slice 52 (.slice q n c) none (some (.int .i64 (j : Int))) none).run Tryd.prog W = .ok (.slice q j c) W := by
  have hs : ∀ w, (Go.sizeOf 22).run Tryd.prog w = .ok 1 w := Tryd.sizeOf22
  have he : Tryd.prog.elem 52 = 22 := by kernel_rfl
  have h := run_slice_h (P := Tryd.prog) (w := W) 52 q n c (by rw [he]; exact Tryd.underlying52) .i64 j (by omega) (by omega)
  rw [h, he, hs]
  have h0 := subA_zero q c
  unfold subA at h0
  simp only [Result.andThen, sliced, Int.toNat_natCast, Nat.sub_zero, Nat.mul_one, h0]
theorem strs_eq (l m : List UInt8) : ((⟨l.toArray⟩ : ByteArray).toList == (⟨m.toArray⟩ : ByteArray).toList) = decide (l = m) := by
  rw [Lib.toList_data, Lib.toList_data, Bool.eq_iff_iff, beq_iff_eq, decide_eq_true_iff]
theorem conv_bytes {W : World} {q : Option Addr} {n c : Nat} {l : List UInt8} (h : Lib.BytesIn W q n (Lib.numsL l)) (hl : l.length = n) : (convert 22 9 (.slice q n c)).run Tryd.prog W = .ok (.string ⟨l.toArray⟩) W := by
  have h := h.convert (P := Tryd.prog) (by rw [Lib.numsL_length, hl]) c 22 5 9 Tryd.underlying22 Tryd.underlying5 Tryd.underlying9
  rwa [strOfNums_numsL] at h
theorem stack_len : ∀ (ps st : List (List UInt8)), (stackL st ps).length ≤ st.length + ps.length
  | [], st => by simp [stackL]
  | p :: r, st => by
    rw [stackL]
    have ih := stack_len r (if p = [46] then st else if p = [46, 46] then st.dropLast else st ++ [p])
    have hs : (if p = [46] then st else if p = [46, 46] then st.dropLast else st ++ [p]).length ≤ st.length + 1 := by
      split
      · omega
      · split
        · rw [List.length_dropLast]; omega
        · simp
    rw [List.length_cons]; omega

theorem wpListIn_append_by {F : Fence} {nF : Nat} {ops : Array Oper} {rest : List Oper} {o : Oper} {a : Act} {w : World} {Q : Exit → Act → World → Prop} (hgd : o.guard = none) (s x : Operand)
    (ho : o.op = .call { callee := .builtin .append, args := #[s, x], argTypes := #[22, 22] })
    (base : Nat) (v : Value) (n : Nat) (xs : List Value) (hs : a.eval s = v) (hown : w.ownsRow base 5 1 v n xs) (vx : Value) (bs : List UInt8) (hx : a.eval x = vx) (hb : By w vx bs) (h47 : n + bs.length ≤ 140737488355328) (hbase : base ≤ w.heap.size)
    (h : ∀ v' w', w'.ownsRow base 5 1 v' (n + bs.length) (xs ++ byV bs) → w.grownBy w' v.ownBlock → wpListIn F nF Tryd.prog ops Q rest (a.put o.dst v') w') : wpListIn F nF Tryd.prog ops Q (o :: rest) a w := by
  refine wpListIn_plain hgd fun K hK => ?_
  obtain ⟨v', w', hr, h1, h2⟩ := run_append_by o.type base v n xs w hown vx bs hb h47 hbase
  unfold Oper.wpIn
  refine ⟨by simp [Oper.about, ho, resolve, Target.leads, Sem.run_pure], ?_⟩
  rw [Oper.semAt_plain F _ _ (by rw [ho]; intro c hc'; cases hc')]
  simp [execOp, ho, resolve, invoke, builtin, hs, hx, hr, Result.andThen]
  exact hK _ _ (h v' w' h1 h2)
/-- A new row of one byte is one's own. -/
theorem own_lit (w : World) (b : UInt8) : (w.alloc (.cells #[.int .u8 (b.toNat : Int)] 5)).ownsRow w.heap.size 5 1 (.slice (some ⟨w.heap.size, 0, none⟩) 1 1) 1 (byV [b]) :=
  ⟨rfl, .inr ⟨w.heap.size, 1, #[.int .u8 (b.toNat : Int)], rfl, Nat.le_refl _, World.alloc_heap_new w _, Nat.le_refl _, by decide, rfl, rfl⟩⟩

/-- What lies while the pieces are gone through. -/
def PthI (w W1 : World) (pre : List (Nat × List UInt8)) (Pv : Nat → Prop) (W : World) : Prop :=
  ∃ cs v vs, Boxed W w.heap.size 22 (.slice none 0 0) ∧ Boxed W (w.heap.size + 1) 26 (.int .i64 0) ∧ Boxed W (w.heap.size + 1 + 1) 52 v ∧ Boxed W (w.heap.size + 1 + 1 + 1) 4 (.bool (dotB (cs.getLastD []))) ∧
    RowsOf W W1.heap.size v vs (stackL [] cs) ∧ (∀ b, KB v vs b → ¬ Pv b) ∧ (∀ b, Pv b → W1.heap.size ≤ b) ∧ Keep (fun _ => False) W1 W ∧ Hid (formsL (tailsX pre) = some cs) ∧ cs.length ≤ pre.length ∧ Below w.heap.size w W
theorem PthI_abide {w W1 : World} (h : w.heap.size + 4 ≤ W1.heap.size) : Abide (PthI w W1) := by
  rintro pre Pv Pv' A B ⟨cs, v, vs, h1, h2, h3, h4, h5, h6, h7, h8, h9, h10, h11⟩ hk hp
  have kk : ∀ b, b < W1.heap.size → ¬ Pv b := fun b hb hn => by have := h7 b hn; omega
  have hs := h8.size
  refine ⟨cs, v, vs, hk.boxed h1 (kk _ (by omega)), hk.boxed h2 (kk _ (by omega)), hk.boxed h3 (kk _ (by omega)), hk.boxed h4 (kk _ (by omega)), h5.keep hk h6, fun b hb hp' => ?_, fun b hb => ?_, h8.trans (hk.mono fun _ _ h => h.elim), h9, h10, h11.trans ((hk.mono fun b _ hb => kk b (by omega)).below h11.size)⟩
  · rcases (hp b hp').1 with h' | h'
    · exact h6 b hb h'
    · have := (h5.lt b hb).2; omega
  · rcases (hp b hb).1 with h' | h'
    · exact h7 b h'
    · omega
/-- What lies behind a piece that has no form. -/
def PthE (w : World) (l : List UInt8) (_ : List (Nat × List UInt8)) (W : World) : Prop :=
  Boxed W w.heap.size 22 (.slice none 0 0) ∧ Boxed W (w.heap.size + 1) 26 (.int .i64 2) ∧ Hid (pathL l = none) ∧ Below w.heap.size w W

set_option maxRecDepth 100000 in
set_option maxHeartbeats 8000000 in
theorem canonOfPath_any (q : Option Addr) (n c : Nat) (l : List UInt8) (w : World) (hby : By w (.slice q n c) l) (hn : n ≤ 1048576) (hform : l = [] ∨ ∃ r, l = 47 :: r) :
    Calls Tryd.prog 20 #[.slice q n c] w fun e w' => Pct.TextPost (pathL l) w e w' := by
  obtain ⟨i1, hi1, hz0, hz1, hz2⟩ := info_parts info_sl
  refine (callsIn_wide (n := 1)).1 ?_
  refine callsIn_of_wp_marks Tryd.func20 rfl trivial ?_ rfl
  simp only [Tryd.ntmps20, List.size_toArray, List.length_cons, List.length_nil, Nat.reduceAdd, Nat.reduceSub, Array.replicate_succ, Array.replicate_zero, List.push_toArray, List.append_toArray, List.nil_append, List.cons_append]
  obtain ⟨W0', hW0', b0, b1, b2, b3, hs0', hk0⟩ := four_boxes w 22 26 52 4 (.slice none 0 0) (.int .i64 0) (.slice none 0 0) (.bool false)
  clear hW0' b0 b1 b2 b3 hs0' hk0
  obtain ⟨W0, hW0⟩ : ∃ W0, (((w.alloc (.cells #[.slice none 0 0] 22)).alloc (.cells #[.int .i64 0] 26)).alloc (.cells #[.slice none 0 0] 52)).alloc (.cells #[.bool false] 4) = W0 := ⟨_, rfl⟩
  have b0 : Boxed W0 w.heap.size 22 (.slice none 0 0) := hW0 ▸ (((Boxed.new w _ _).alloc _).alloc _).alloc _
  have b1 : Boxed W0 (w.heap.size + 1) 26 (.int .i64 0) := by
    have := ((Boxed.new (w.alloc (.cells #[.slice none 0 0] 22)) 26 (.int .i64 0)).alloc (.cells #[.slice none 0 0] 52)).alloc (.cells #[.bool false] 4)
    rw [World.size_alloc] at this
    exact hW0 ▸ this
  have b2 : Boxed W0 (w.heap.size + 1 + 1) 52 (.slice none 0 0) := by
    have := (Boxed.new ((w.alloc (.cells #[.slice none 0 0] 22)).alloc (.cells #[.int .i64 0] 26)) 52 (.slice none 0 0)).alloc (.cells #[.bool false] 4)
    rw [World.size_alloc, World.size_alloc] at this
    exact hW0 ▸ this
  have b3 : Boxed W0 (w.heap.size + 1 + 1 + 1) 4 (.bool false) := by
    have := Boxed.new (((w.alloc (.cells #[.slice none 0 0] 22)).alloc (.cells #[.int .i64 0] 26)).alloc (.cells #[.slice none 0 0] 52)) 4 (.bool false)
    rw [World.size_alloc, World.size_alloc, World.size_alloc] at this
    exact hW0 ▸ this
  have hB0 : Below w.heap.size w W0 := hW0 ▸ ((((Below.refl _ w).alloc (Nat.le_refl _) _).alloc (by simp) _).alloc (by simp only [World.size_alloc]; omega) _).alloc (by simp only [World.size_alloc]; omega) _
  have hs0 : W0.heap.size = w.heap.size + 1 + 1 + 1 + 1 := by rw [← hW0]; simp
  obtain ⟨hl, hnc0, hcm0, hnil0, h⟩ := hby.at
  have hb0 := bytes_on h hB0
  have con := Split_any q n c 47 l W0 hl (by omega) hb0
  have hsmall := splitX_small 47 l n hl
  have hlenX := splitX_len 47 l
  have hnum := splitX_num 47 l
  rw [hl] at hlenX
  have HW0 := Lib.hid hW0
  have HPS := Lib.hid (path_split l hform)
  have HTS := Lib.hid (tails_split l)
  have HWT := Lib.hid (weight_split 47 l)
  have HL := Lib.hid hl
  clear hW0 hb0 hl hby h hform
  gi_wp2_with fail
  rw [HW0.out]
  refine ⟨trivial, (callsIn_wide.2 con).mono ?_⟩
  rintro e W1 ⟨B, v', rfl, hB, hBc, hrow, hBl, hbel⟩
  have hit := Split_iter (by omega) hB hBc hrow
  have hRl0 : ∀ b, (b = B ∨ b = W0.heap.size ∨ v'.ownBlock = some b) → w.heap.size + 4 ≤ b ∧ b < W1.heap.size := fun b hb => by
    rcases hb with rfl | rfl | hb
    · exact ⟨by omega, hB.lt⟩
    · exact ⟨by omega, hBc.lt⟩
    · have := hrow.lt b hb; exact ⟨by omega, this.2⟩
  obtain ⟨RB, hRB⟩ : ∃ RB : Nat → Prop, RB = fun b => b = B ∨ b = W0.heap.size ∨ v'.ownBlock = some b := ⟨_, rfl⟩
  rw [← hRB, hs0] at hit
  have hRl : ∀ b, RB b → w.heap.size + 4 ≤ b ∧ b < W1.heap.size := fun b hb => hRl0 b (by rw [hRB] at hb; exact hb)
  clear hRB hRl0
  replace b0 := (Keep.of_below hbel).boxed b0 (by omega)
  replace b1 := (Keep.of_below hbel).boxed b1 (by omega)
  replace b2 := (Keep.of_below hbel).boxed b2 (by omega)
  replace b3 := (Keep.of_below hbel).boxed b3 (by omega)
  have hB1 := hB0.trans (hbel.mono hB0.size)
  have hs1 := hbel.size
  clear con hB hBc hrow hBl hbel HW0 hB0
  generalize splitX 47 l = xs at *
  gi_wp2
  rw [hs0] at hs1
  clear hs0
  refine rf_law (gf := 55) (lb := #[.pointer (some ⟨B, 0, none⟩), .pointer (some ⟨w.heap.size + 1 + 1 + 1 + 1, 0, none⟩)]) rfl (enters_of Tryd.func55 (by kernel_rfl) rfl)
    hit (Keep.refl _ _) (fun b hb => (hRl b hb).2) (fun x args G W h => by obtain ⟨v, rfl, _⟩ := h; rfl)
    (PthI w W1) (Host.EvX W1 (PthE w l)) (PthI_abide hs1) (Host.EvX_abide ?e2)
    ⟨[], .slice none 0 0, [], b0, b1, b2, b3, RowsOf.nil _ _, (fun _ _ h => h), (fun _ h => h.elim), Keep.refl _ _, Lib.hid rfl, Nat.zero_le _, hB1⟩ ?round ?done ?stop
  case e2 =>
    rintro pre A B hk ⟨h1, h2, h3, h4⟩
    exact ⟨hk.boxed h1 (by omega), hk.boxed h2 (by omega), h3, h4.trans ((hk.mono fun b _ hb => by omega).below h4.size)⟩
  case round =>
    rintro ll pre ⟨xi, x⟩ rest Pv G args Wr hll hxs ⟨cs, v, vs, hE0, hE1, hE2, hE3, hR, hnk, hge, hK1, HF, hcl, hE8⟩ hPl hGl hPb hGP ⟨p, rfl, hp, rfl⟩
    have hxm : (xi, x) ∈ xs := by rw [hxs]; simp
    have hxl := hsmall _ hxm
    have hxi := hnum pre (xi, x) rest hxs
    simp only at hxl hp hxi
    subst hxi
    obtain ⟨qx, cx, rfl, _, hnc, hcm, hbs, hblk⟩ := row_open hp
    have hlen : pre.length + rest.length + 1 = xs.length := by rw [hxs]; simp; omega
    gi_wp2
    refine ⟨Keep.refl _ _, fun W2 hk2 hs2 r hr => ?_⟩
    have k2 : Keep (fun b => b < W1.heap.size) Wr W2 := hk2.mono fun b _ hb h => by omega
    have kP : Keep (fun b => ¬ Pv b) Wr W2 := hk2.mono fun b _ hb h => hb (h ▸ hPl)
    have f0 := k2.boxed hE0 (by omega)
    have f1 := k2.boxed hE1 (by omega)
    have f2 := k2.boxed hE2 (by omega)
    have f3 := k2.boxed hE3 (by omega)
    have hR2 := hR.keep kP hnk
    have gx : Keep (fun b => (Value.slice qx x.length cx).ownBlock = some b) Wr W2 := hk2.mono fun b _ hb h => hGl (h ▸ hb)
    have hbs2 : Lib.BytesIn W2 qx x.length (Lib.numsL x) := bytes_keep hbs gx (fun a ha _ => (hblk a ha).2.2)
    have hW2 := hE8.trans ((k2.mono fun b _ h => by omega).below hE8.size)
    have hs2' := hE8.size
    have hK2 := hK1.trans (hk2.mono fun _ _ h => h.elim)
    have hPl2 : ∀ b, Pv b → b < W2.heap.size := fun b hb => by rw [hs2]; exact hPb b hb
    have con2 := Pct.Canon_any qx x.length cx x 1 W2 rfl (by omega) hbs2
    have hszW := hW2.size
    have hs12 := hK2.size
    clear hbs hp hbs2 hblk hk2 gx hE0 hE1 hE2 hE3 hR kP k2 hK1 hE8
    by_cases hp0 : pre = []
    · have e0 : ((pre.length : Int) == 0) = true := by rw [beq_iff_eq, hp0]; rfl
      have HF2 := Lib.hid (show formsL (tailsX (pre ++ [(pre.length, x)])) = some cs by rw [hp0, tails_one]; have := HF.out; rw [hp0] at this; exact this)
      have hcl2 : cs.length ≤ (pre ++ [(pre.length, x)]).length := by rw [List.length_append]; omega
      clear con2 hxs
      gi_wp2
      exact ⟨Keep.refl _ _, cs, v, vs, f0, f1, f2, f3, hR2, fun b hb h => hnk b hb h.1, fun b hb => hge b hb.1, hK2, HF2, hcl2, hW2⟩
    · have e0 : ((pre.length : Int) == 0) = false := by
        rw [beq_eq_false_iff_ne]
        have := List.length_pos_iff.2 hp0
        omega
      have HXS := Lib.hid (show tailsX xs = tailsX pre ++ x :: rest.map Prod.snd by
        rw [hxs]; unfold tailsX
        rw [List.map_append, List.tail_append_of_ne_nil (by simpa using hp0)]; rfl)
      have HTS1 := Lib.hid (tails_snoc pre (pre.length, x) hp0)
      clear hxs hp0
      cases hf : formL 1 x with
      | none =>
        have HPN := Lib.hid (show pathL l = none by rw [HPS.out, ← HTS.out, HXS.out, forms_bad _ _ _ hf]; rfl)
        have hf' : (Pct.itemsL x).map (Pct.canL 1) = none := hf
        rw [hf'] at con2
        clear hf hf' HXS HTS1
        gi_wp2_with fail
        refine ⟨trivial, rfl, (CallsIn.inRound ll (callsIn_wide.2 con2)).mono ?_⟩
        rintro e W3 ⟨v3, n3, rfl, hn3, hr3, hb3⟩
        obtain rfl : n3 = 2 := hn3.out
        obtain ⟨q3, c3, rfl, _, _, _, _, _⟩ := row_open hr3
        have g0 := (Keep.of_below hb3).boxed f0 f0.lt
        have g1 := (Keep.of_below hb3).boxed f1 f1.lt
        have x0 := g0.cell
        have x1 := g1.cell
        have z0 := g0.frozen
        have z1 := g1.frozen
        have hW3 := hW2.trans (hb3.mono hszW)
        clear con2 hr3 hn3 f2 f3 hR2
        gi_wp2
        have kst : ∀ S : Nat → Prop, ¬ S w.heap.size → ¬ S (w.heap.size + 1) → Keep S W3 ((W3.setCell ⟨w.heap.size, 0, none⟩ (.slice none 0 0)).setCell ⟨w.heap.size + 1, 0, none⟩ (.int .i64 2)) := fun S h h' => (Keep.setCell _ _ _ h).trans (Keep.setCell _ _ _ h')
        refine ⟨((Keep.of_below hb3).mono fun b hb _ => hb).trans (kst _ (fun h => ?_) (fun h => ?_)), rfl, fun b hb => hge b hb.1, (hK2.trans ((Keep.of_below hb3).mono fun _ _ h => h.elim)).trans (kst _ (fun h => h) (fun h => h)), ?_, ?_, HPN.out, ?_⟩
        · rcases h with h | h
          · have := (hRl _ h).1; omega
          · have := hge _ h.1; omega
        · rcases h with h | h
          · have := (hRl _ h).1; omega
          · have := hge _ h.1; omega
        · exact (Keep.setCell (S := fun b => b = w.heap.size) _ ⟨w.heap.size + 1, 0, none⟩ _ (by simp)).boxed (g0.set _) rfl
        · exact ((Keep.setCell (S := fun b => b = w.heap.size + 1) W3 ⟨w.heap.size, 0, none⟩ _ (by simp)).boxed g1 rfl).set _
        · exact (hW3.setCell (p := ⟨w.heap.size, 0, none⟩) (Nat.le_refl _) _).setCell (p := ⟨w.heap.size + 1, 0, none⟩) (Nat.le_succ _) _
      | some cc =>
        have hf' : (Pct.itemsL x).map (Pct.canL 1) = some cc := hf
        rw [hf'] at con2
        have HF2 := Lib.hid (show formsL (tailsX (pre ++ [(pre.length, x)])) = some (cs ++ [cc]) by rw [HTS1.out]; exact forms_snoc _ _ _ _ HF.out hf)
        have hcl2 : (cs ++ [cc]).length ≤ (pre ++ [(pre.length, x)]).length := by rw [List.length_append, List.length_append]; simp; omega
        have hkl := stack_len cs []
        clear hf hf' HXS HTS1 HF
        obtain ⟨qv, cv, rfl, hv1, hv2⟩ := rows_slice hR2
        obtain ⟨ks, hks⟩ : ∃ ks, stackL [] cs = ks := ⟨_, rfl⟩
        rw [hks] at hR2 hv1 hkl hnk f2
        have HKS := Lib.hid hks
        have HSN := Lib.hid (stack_snoc cs cc)
        rw [hks] at HSN
        have HLN := Lib.hid (last_snoc cs cc)
        obtain ⟨m, hm⟩ : ∃ m, ks.length = m := ⟨_, rfl⟩
        rw [hm] at hv1 hkl hnk f2 hR2
        have HM := Lib.hid hm
        simp only [List.length_nil, Nat.zero_add] at hkl
        clear hks
        gi_wp2_with fail
        refine ⟨trivial, rfl, (CallsIn.inRound ll (callsIn_wide.2 con2)).mono ?_⟩
        rintro e W3 ⟨v3, n3, rfl, hn3, hr3, hb3⟩
        obtain rfl : n3 = 0 := hn3.out
        replace hr3 : W3.ownsRow W2.heap.size 5 1 v3 cc.length (byV cc) := hr3
        obtain ⟨q3, c3, rfl, _, _, _, hbb, hblk3⟩ := row_open hr3
        have hcv := conv_bytes (c := c3) hbb rfl
        have g0 := (Keep.of_below hb3).boxed f0 f0.lt
        have g1 := (Keep.of_below hb3).boxed f1 f1.lt
        have g2 := (Keep.of_below hb3).boxed f2 f2.lt
        have g3 := (Keep.of_below hb3).boxed f3 f3.lt
        have hR3 := hR2.keep (Keep.of_below hb3) (fun b hb => (hR2.lt b hb).2)
        have x2 := g2.cell
        have x3 := g3.cell
        have z2 := g2.frozen
        have z3 := g3.frozen
        have hW3 := hW2.trans (hb3.mono hszW)
        have hs23 := hb3.size
        have hK3 : Keep (fun _ => False) W1 W3 := hK2.trans ((Keep.of_below hb3).mono fun _ _ h => h.elim)
        have hkk : Keep (fun b => RB b ∨ Pv b ∧ ¬(Value.slice qx x.length cx).ownBlock = some b) W2 W3 := (Keep.of_below hb3).mono fun b hb _ => hb
        have hPl3 : ∀ b, Pv b → b < W2.heap.size := hPl2
        have hnb : ∀ b, b < w.heap.size + 4 → ¬ (RB b ∨ Pv b ∧ ¬(Value.slice qx x.length cx).ownBlock = some b) := fun b hb h => by
          rcases h with h | h
          · have := (hRl _ h).1; omega
          · have := hge _ h.1; omega
        clear con2 hn3 f0 f1 f2 f3 hR2 hbb hblk3
        by_cases h1 : cc = [46]
        · have e1 : (cc == ([46] : List UInt8)) = true := by rw [beq_iff_eq]; exact h1
          have HSK := Lib.hid (show stackL [] (cs ++ [cc]) = ks by rw [HSN.out, if_pos h1])
          have HDT := Lib.hid (show dotB ((cs ++ [cc]).getLastD []) = true by rw [HLN.out, h1]; decide)
          clear h1 HSN HLN
          gi_wp2
          have kst : ∀ S : Nat → Prop, ¬ S (w.heap.size + 1 + 1 + 1) → Keep S W3 (W3.setCell ⟨w.heap.size + 1 + 1 + 1, 0, none⟩ (.bool true)) := fun S h => Keep.setCell _ _ _ h
          refine ⟨hkk.trans (kst _ (hnb _ (by omega))), cs ++ [cc], _, vs, (kst (fun b => b = w.heap.size) (by omega)).boxed g0 rfl, (kst (fun b => b = w.heap.size + 1) (by omega)).boxed g1 rfl, (kst (fun b => b = w.heap.size + 1 + 1) (by omega)).boxed g2 rfl, ?_, ?_, fun b hb h => hnk b hb h.1, fun b hb => hge b hb.1, hK3.trans (kst _ (fun h => h)), HF2, hcl2, hW3.setCell (p := ⟨w.heap.size + 1 + 1 + 1, 0, none⟩) (show w.heap.size ≤ w.heap.size + 1 + 1 + 1 by omega) _⟩
          · rw [HDT.out]; exact g3.set _
          · rw [HSK.out]; exact hR3.keep (kst (fun b => b ≠ w.heap.size + 1 + 1 + 1) (fun h => h rfl)) (fun b hb => by have := (hR3.lt b hb).1; omega)
        · have e1 : (cc == ([46] : List UInt8)) = false := by rw [beq_eq_false_iff_ne]; exact h1
          by_cases h2 : cc = [46, 46]
          · have e2 : (cc == ([46, 46] : List UInt8)) = true := by rw [beq_iff_eq]; exact h2
            have HSK := Lib.hid (show stackL [] (cs ++ [cc]) = ks.dropLast by rw [HSN.out, if_neg h1, if_pos h2])
            have HDT := Lib.hid (show dotB ((cs ++ [cc]).getLastD []) = true by rw [HLN.out, h2]; decide)
            have hmx : (max ((m : Int) - 1) 0).toNat = m - 1 := by omega
            have HMX := Lib.hid hmx
            clear h1 h2 HSN HLN hmx
            gi_wp2
            rw [HMX.out]
            have kst : ∀ S : Nat → Prop, ¬ S (w.heap.size + 1 + 1) → ¬ S (w.heap.size + 1 + 1 + 1) → Keep S W3 ((W3.setCell ⟨w.heap.size + 1 + 1, 0, none⟩ (.slice qv (m - 1) cv)).setCell ⟨w.heap.size + 1 + 1 + 1, 0, none⟩ (.bool true)) := fun S h h' => (Keep.setCell _ _ _ h).trans (Keep.setCell _ _ _ h')
            have hRd := (hR3.dropLast).2
            refine ⟨hkk.trans (kst _ (hnb _ (by omega)) (hnb _ (by omega))), cs ++ [cc], _, vs.dropLast, (kst (fun b => b = w.heap.size) (by omega) (by omega)).boxed g0 rfl, (kst (fun b => b = w.heap.size + 1) (by omega) (by omega)).boxed g1 rfl,
              (Keep.setCell (S := fun b => b = w.heap.size + 1 + 1) _ ⟨w.heap.size + 1 + 1 + 1, 0, none⟩ _ (by simp)).boxed (g2.set _) rfl, ?_, ?_, fun b hb h => hnk b ?_ h.1, fun b hb => hge b hb.1, hK3.trans (kst _ (fun h => h) (fun h => h)), HF2, hcl2,
              (hW3.setCell (p := ⟨w.heap.size + 1 + 1, 0, none⟩) (show w.heap.size ≤ w.heap.size + 1 + 1 by omega) _).setCell (p := ⟨w.heap.size + 1 + 1 + 1, 0, none⟩) (show w.heap.size ≤ w.heap.size + 1 + 1 + 1 by omega) _⟩
            · rw [HDT.out]; exact ((Keep.setCell (S := fun b => b = w.heap.size + 1 + 1 + 1) W3 ⟨w.heap.size + 1 + 1, 0, none⟩ _ (by simp)).boxed g3 rfl).set _
            · rw [HSK.out]; exact hRd.keep (kst (fun b => b ≠ w.heap.size + 1 + 1 ∧ b ≠ w.heap.size + 1 + 1 + 1) (fun h => h.1 rfl) (fun h => h.2 rfl)) (fun b hb => by have := (hRd.lt b hb).1; omega)
            · rcases hb with hb | ⟨y, hy, hb⟩
              · exact .inl ((own_len qv _ _ _ _).symm.trans hb)
              · exact .inr ⟨y, List.dropLast_subset _ hy, hb⟩
          · have e2 : (cc == ([46, 46] : List UInt8)) = false := by rw [beq_eq_false_iff_ne]; exact h2
            have HSK := Lib.hid (show stackL [] (cs ++ [cc]) = ks ++ [cc] by rw [HSN.out, if_neg h1, if_neg h2])
            have HDT := Lib.hid (show dotB ((cs ++ [cc]).getLastD []) = false by rw [HLN.out]; unfold dotB; simp [h1, h2])
            clear h1 h2 HSN HLN
            gi_wp2_with (gi_at_builtin; go_must (refine wpListIn_append_own_at _ rfl _ _ 52 rfl W1.heap.size 22 i1 (.slice none 0 0) 1 24 Tryd.underlying52 hi1 hz0 hz1 hz2 rfl (by decide) _ _ _ rfl (hR3.1.alloc _) ⟨W3.heap.size, 0, none⟩ 1 1 [.slice q3 cc.length c3] rfl rfl (cell_one_new _ _ _) (by simp [Value.oneCell']) (by rw [HM.out]; unfold maxLen; omega) (by rw [HM.out]; omega) (by simp; omega) ?_); intro v' w4 hown' hgrow _ hat; obtain ⟨g', cap', rfl⟩ := ownsRow_succ hown'; obtain ⟨hv1', hv2', hr2', hkk'⟩ := Pct.appended_keep (S := fun b => b ≠ w.heap.size + 1 + 1 ∧ ¬ (Value.slice qv m cv).ownBlock = some b) g2 (by decide) hR3.1 (fun h => h.1 rfl) (fun b hb h => h.2 hb) hown' hgrow; have hc1 := hv1'.cell; have hf1 := hv1'.frozen; have hx4 := (g3.alloc (.cells #[.slice q3 cc.length c3] 22)).kept hgrow (g3.not_row (by decide) hR3.1); have hx4c := hx4.cell; have hx4f := hx4.frozen)
            rw [hm] at hkk' hv2' hr2' hat
            have hol : ∀ b, (Value.slice qv m cv).ownBlock = some b → W1.heap.size ≤ b := fun b hb => (hR3.1.lt b hb).1
            have hx5 := (Keep.setCell (S := fun b => b = w.heap.size + 1 + 1 + 1) w4 ⟨w.heap.size + 1 + 1, 0, none⟩ (.slice (some ⟨g', 0, none⟩) (m + 1) cap') (by simp)).boxed hx4 rfl
            have k35 : ∀ S : Nat → Prop, (∀ b, S b → b ≠ w.heap.size + 1 + 1 ∧ b ≠ w.heap.size + 1 + 1 + 1 ∧ ¬ (Value.slice qv m cv).ownBlock = some b) → Keep S W3 ((w4.setCell ⟨w.heap.size + 1 + 1, 0, none⟩ (.slice (some ⟨g', 0, none⟩) (m + 1) cap')).setCell ⟨w.heap.size + 1 + 1 + 1, 0, none⟩ (.bool false)) := fun S hS =>
              (hkk'.mono fun b _ hb => ⟨(hS b hb).1, (hS b hb).2.2⟩).trans (Keep.setCell _ _ _ fun h => (hS _ h).2.1 rfl)
            have hs14 : w.heap.size + 4 ≤ W1.heap.size := hs1
            have hlt2 : (vs ++ [Value.slice q3 cc.length c3]).length = (ks ++ [cc]).length := by rw [List.length_append, List.length_append, hR3.len]; rfl
            have hvl := hR3.len
            refine ⟨hkk.trans (k35 _ fun b hb => ?_), cs ++ [cc], _, vs ++ [.slice q3 cc.length c3], (k35 (fun b => b = w.heap.size) (fun b hb => ⟨by omega, by omega, fun h => by have := hol b h; omega⟩)).boxed g0 rfl, (k35 (fun b => b = w.heap.size + 1) (fun b hb => ⟨by omega, by omega, fun h => by have := hol b h; omega⟩)).boxed g1 rfl,
              (Keep.setCell (S := fun b => b = w.heap.size + 1 + 1) _ ⟨w.heap.size + 1 + 1 + 1, 0, none⟩ _ (by simp)).boxed hv2' rfl, ?_, ?_, ?_, fun b hb => hge b hb.1, hK3.trans (k35 _ fun b hb => hb.elim), HF2, hcl2, hW3.trans ((k35 (fun b => b < w.heap.size) (fun b hb => ⟨by omega, by omega, fun h => by have := hol b h; omega⟩)).below hW3.size)⟩
            · refine ⟨fun h => hnb b (by omega) hb, fun h => hnb b (by omega) hb, fun h => ?_⟩
              rcases hb with hb | hb
              · have := (hRl b hb).2; have := hol b h; omega
              · exact hnk b (.inl h) hb.1
            · rw [HDT.out]; exact hx5.set _
            · rw [HSK.out]
              refine ⟨?_, fun i y k hi hk => ?_⟩
              · rw [List.length_append, HM.out]
                exact (Keep.setCell (S := fun b => b ≠ w.heap.size + 1 + 1 + 1) _ ⟨w.heap.size + 1 + 1 + 1, 0, none⟩ _ (fun h => h rfl)).row hr2' (fun b hb => by have := (hr2'.lt b hb).1; omega)
              · have keepRow : ∀ (z : Value) (kz : List UInt8), W3.ownsRow W1.heap.size 5 1 z kz.length (byV kz) → ((w4.setCell ⟨w.heap.size + 1 + 1, 0, none⟩ (.slice (some ⟨g', 0, none⟩) (m + 1) cap')).setCell ⟨w.heap.size + 1 + 1 + 1, 0, none⟩ (.bool false)).ownsRow W1.heap.size 5 1 z kz.length (byV kz) := fun z kz hz =>
                  (k35 (fun b => z.ownBlock = some b) fun b hb => ⟨by have := (hz.lt b hb).1; omega, by have := (hz.lt b hb).1; omega, fun h => byte_row_ne hR3.1 hz h hb⟩).row hz (fun b hb => hb)
                rcases Nat.lt_or_ge i vs.length with hlt | hlt
                · rw [List.getElem?_append_left hlt] at hi
                  rw [List.getElem?_append_left (by omega)] at hk
                  exact keepRow y k (hR3.2 i y k hi hk)
                · rw [List.getElem?_append_right hlt] at hi
                  rw [List.getElem?_append_right (by omega)] at hk
                  have hi0 : i - vs.length = 0 := by
                    have := (List.getElem?_eq_some_iff.1 hi).1
                    simpa using this
                  rw [hi0] at hi
                  rw [show i - ks.length = 0 by omega] at hk
                  cases hi
                  cases hk
                  exact keepRow _ _ (row_base hr3 hs12)
            · rintro b (hb | ⟨y, hy, hb⟩) h
              · rcases hat with h' | h'
                · exact hnk b (.inl (h' ▸ hb)) h.1
                · rw [h'] at hb
                  cases hb
                  have := hPl3 _ h.1
                  simp at this
                  omega
              · rcases List.mem_append.1 hy with hy | hy
                · exact hnk b (.inr ⟨y, hy, hb⟩) h.1
                · rw [List.mem_singleton.1 hy] at hb
                  have h5 := (hr3.lt b hb).1
                  have h6 := hPl3 b h.1
                  omega
  case done =>
    rintro D Pv Wd hD hPD hPl ⟨cs, v, vs, hE0, hE1, hE2, hE3, hR, hnk, hge, hK1, HF, hcl, hE8⟩ hK
    have hF := HF.out
    rw [HTS.out] at hF
    have HP := Lib.hid (show pathL l = some (47 :: Ref.joinL 47 (dotsL cs)) by rw [HPS.out, hF]; rfl)
    have hw1 := weight_forms _ _ hF
    have hw2 : weightL (Ref.splitL 47 l).tail ≤ weightL (Ref.splitL 47 l) := by
      cases Ref.splitL 47 l with
      | nil => exact Nat.le_refl _
      | cons p r => rw [List.tail_cons, weightL]; omega
    have hw3 := weight_dots cs
    have hwd : weightL (dotsL cs) ≤ 4194304 := by have := HWT.out; have := HL.out; omega
    have hwj := weight_join 47 (dotsL cs)
    obtain ⟨qv, cv, rfl, hv1, hv2⟩ := rows_slice hR
    have HDL := Lib.hid (show dotsL cs = stackL [] cs ++ (if dotB (cs.getLastD []) = true then [[]] else []) from rfl)
    have hkl := stack_len cs []
    have hcx : cs.length ≤ n + 1 := Nat.le_trans hcl hlenX
    obtain ⟨ks, hks⟩ : ∃ ks, stackL [] cs = ks := ⟨_, rfl⟩
    rw [hks] at hR hv1 hkl hnk hE2
    have HKS := Lib.hid hks
    simp only [List.length_nil, Nat.zero_add] at hkl
    have hDl := hPl D hPD
    have hszd := hE8.size
    have hs1d := hK1.size
    have hgD := hge D hPD
    have y0 := hE0.cell
    have y1 := hE1.cell
    have y2 := hE2.cell
    have y3 := hE3.cell
    have u0 := hE0.frozen
    have u1 := hE1.frozen
    have u2 := hE2.frozen
    clear hks hF hw1 hw2 hw3 HF HTS HPS HWT hcl hlenX
    generalize dotB (cs.getLastD []) = dt at *
    cases dt with
    | false =>
      have HDK := Lib.hid (show dotsL cs = ks by rw [HDL.out, HKS.out]; simp)
      rw [HDK.out] at hwd hwj
      rw [HDK.out] at HP
      clear HDK HDL HKS
      have z2 : ∀ o, (Wd.alloc o).cell? ⟨w.heap.size + 1 + 1, 0, none⟩ = some (.slice qv ks.length cv) := fun o => (hE2.alloc o).cell
      have hlit := by_lit Wd #[.int .u8 47] [47] (0, 0) 1 rfl rfl (by decide)
      have hown := own_lit Wd 47
      have hBl := (Below.refl Wd.heap.size Wd).alloc (Nat.le_refl _) (.cells #[.int .u8 47] 5)
      have conJ := Join_any W1.heap.size cv (ks.length) qv (vs) (ks) (.slice (some ⟨Wd.heap.size, 0, none⟩) 1 1) (Wd.alloc (.cells #[.int .u8 47] 5)) (hR.keep (Keep.alloc (fun _ => True) _ _) (fun _ _ => trivial)) hlit (by omega)
      have hWs : (Wd.alloc (.cells #[.int .u8 47] 5)).heap.size = Wd.heap.size + 1 := by simp
      gi_wp2_with fail
      refine ⟨trivial, (callsIn_wide.2 conJ).mono ?_⟩
      rintro e V ⟨v5, rfl, hJ, hb5⟩
      have hownV := (Keep.of_below hb5).row hown (fun k hk => (hown.lt k hk).2)
      have hbV := hBl.trans (hb5.mono hBl.size)
      have hVs := hb5.size
      have r0 := (Keep.of_below hbV).boxed hE0 hE0.lt
      have r1 := (Keep.of_below hbV).boxed hE1 hE1.lt
      have rD := (hbV.block D (Array.getElem?_eq_some_iff.1 hK).1).trans hK
      have hE8V := hE8.trans (hbV.mono hE8.size)
      have l0 := (Array.getElem?_eq_some_iff.1 hK).1
      clear conJ hown hlit hb5 z2 hBl
      gi_wp2_with (gi_at_builtin; go_must (refine wpListIn_append_by rfl _ _ rfl Wd.heap.size _ 1 _ rfl hownV _ _ rfl hJ (by omega) hbV.size ?_); intro v6 X hr6 hg6; rw [← byV_app] at hr6; obtain ⟨q6, c6, rfl, _⟩ := row_open hr6; have k6 : ∀ S : Nat → Prop, (∀ b, S b → b < Wd.heap.size) → Keep S V X := (fun S hS => Keep.of_grownBy hg6 fun b hb h => (by have h1 := (hownV.lt b hb).1; have h2 := hS b h; omega)); have s0 := (k6 (fun b => b = w.heap.size) (fun b hb => by have := hE0.lt; omega)).boxed r0 rfl; have s1 := (k6 (fun b => b = w.heap.size + 1) (fun b hb => by have := hE1.lt; omega)).boxed r1 rfl; have sc0 := s0.cell; have sc1 := s1.cell; have sf0 := s0.frozen; have sf1 := s1.frozen)
      have k7 : ∀ S : Nat → Prop, ¬ S w.heap.size → ¬ S (w.heap.size + 1) → Keep S X ((X.setCell ⟨w.heap.size, 0, none⟩ (.slice q6 (1 + (Ref.joinL 47 (ks)).length) c6)).setCell ⟨w.heap.size + 1, 0, none⟩ (.int .i64 0)) := fun S h h' => (Keep.setCell _ _ _ h).trans (Keep.setCell _ _ _ h')
      have k8 : ∀ (S : Nat → Prop) (Y : World), ¬ S D → Keep S Y (Y.putObj D (.deferred none)) := fun S Y h => Keep.putObj _ _ _ h
      have hKd : ((X.setCell ⟨w.heap.size, 0, none⟩ (.slice q6 (1 + (Ref.joinL 47 (ks)).length) c6)).setCell ⟨w.heap.size + 1, 0, none⟩ (.int .i64 0)).heap[D]? = some (.deferred (some [])) := ((k6 (fun b => b = D) (fun b hb => by rw [hb]; exact l0)).trans (k7 (fun b => b = D) (by omega) (by omega))).heap rfl rD
      have q0 : Boxed ((X.setCell ⟨w.heap.size, 0, none⟩ (.slice q6 (1 + (Ref.joinL 47 (ks)).length) c6)).setCell ⟨w.heap.size + 1, 0, none⟩ (.int .i64 0)) w.heap.size 22 (.slice q6 (1 + (Ref.joinL 47 (ks)).length) c6) := (Keep.setCell (S := fun b => b = w.heap.size) _ ⟨w.heap.size + 1, 0, none⟩ _ (by simp)).boxed (s0.set _) rfl
      have q1 : Boxed ((X.setCell ⟨w.heap.size, 0, none⟩ (.slice q6 (1 + (Ref.joinL 47 (ks)).length) c6)).setCell ⟨w.heap.size + 1, 0, none⟩ (.int .i64 0)) (w.heap.size + 1) 26 (.int .i64 0) := ((Keep.setCell (S := fun b => b = w.heap.size + 1) X ⟨w.heap.size, 0, none⟩ _ (by simp)).boxed s1 rfl).set _
      refine ⟨by simp, .inl ⟨_, _, rfl, run_takeDeferred hKd, ?_⟩⟩
      refine ⟨_, results_path rfl _ _ w.heap.size (w.heap.size + 1) _ _ rfl rfl ((k8 (fun b => b = w.heap.size) _ (by omega)).boxed q0 rfl).cell ((k8 (fun b => b = w.heap.size + 1) _ (by omega)).boxed q1 rfl).cell, ?_⟩
      rw [HP.out]
      have hk9 : ∀ S : Nat → Prop, ¬ S w.heap.size → ¬ S (w.heap.size + 1) → ¬ S D → Keep S X (((X.setCell ⟨w.heap.size, 0, none⟩ (.slice q6 (1 + (Ref.joinL 47 (ks)).length) c6)).setCell ⟨w.heap.size + 1, 0, none⟩ (.int .i64 0)).putObj D (.deferred none)) := fun S h h' h'' => (k7 S h h').trans (k8 S _ h'')
      refine ⟨_, 0, rfl, Lib.hid rfl, ?_, ?_⟩
      · have hfin : (47 :: Ref.joinL 47 (ks)).length = 1 + (Ref.joinL 47 (ks)).length := by rw [List.length_cons]; omega
        show World.ownsRow _ w.heap.size 5 1 (.slice q6 (1 + (Ref.joinL 47 (ks)).length) c6) (47 :: Ref.joinL 47 (ks)).length (byV (47 :: Ref.joinL 47 (ks)))
        rw [hfin]
        exact row_base ((hk9 (fun b => Wd.heap.size ≤ b) (by have := hE0.lt; omega) (by have := hE1.lt; omega) (by omega)).row hr6 (fun b hb => (hr6.lt b hb).1)) (by have := hE0.lt; omega)
      · exact hE8V.trans (((k6 (fun b => b < w.heap.size) (fun b hb => by have := hE0.lt; omega)).trans (hk9 (fun b => b < w.heap.size) (by omega) (by omega) (by omega))).below hE8V.size)
    | true =>
      have HDK := Lib.hid (show dotsL cs = ks ++ [[]] by rw [HDL.out, HKS.out]; simp)
      rw [HDK.out] at hwd hwj
      rw [HDK.out] at HP
      clear HDK HDL HKS
      have hnb2 := hR.not_box hE2 (by decide) (by decide)
      gi_wp2_with (gi_at_builtin; go_must (refine wpListIn_append_own_at _ rfl _ _ 52 rfl W1.heap.size 22 i1 (.slice none 0 0) 1 24 Tryd.underlying52 hi1 hz0 hz1 hz2 rfl (by decide) _ _ _ rfl (hR.1.alloc _) ⟨Wd.heap.size, 0, none⟩ 1 1 [.slice none 0 0] rfl rfl (cell_one_new _ _ _) (by simp [Value.oneCell']) (by unfold maxLen; omega) (by omega) (by simp; omega) ?_); intro v' w4 hown' hgrow _ hat; obtain ⟨g', cap', rfl⟩ := ownsRow_succ hown'; obtain ⟨hv1', hv2', hr2', hkk'⟩ := Pct.appended_keep (S := fun b => b ≠ w.heap.size + 1 + 1 ∧ ¬ (Value.slice qv ks.length cv).ownBlock = some b) hE2 (by decide) hR.1 (fun h => h.1 rfl) (fun b hb h => h.2 hb) hown' hgrow; have hc1 := hv1'.cell; have hf1 := hv1'.frozen; have z4 : ∀ o, ((w4.setCell ⟨w.heap.size + 1 + 1, 0, none⟩ (.slice (some ⟨g', 0, none⟩) (ks.length + 1) cap')).alloc o).cell? ⟨w.heap.size + 1 + 1, 0, none⟩ = some (.slice (some ⟨g', 0, none⟩) (ks.length + 1) cap') := fun o => (hv2'.alloc o).cell)
      obtain ⟨Wc, hWc⟩ : ∃ Wc, w4.setCell ⟨w.heap.size + 1 + 1, 0, none⟩ (.slice (some ⟨g', 0, none⟩) (ks.length + 1) cap') = Wc := ⟨_, rfl⟩
      have hWcs : Wc.heap.size = w4.heap.size := by rw [← hWc]; simp [World.setCell]
      rw [hWc, ← hWcs]
      rw [hWc] at hv2' hr2' hkk' z4
      clear hWc hWcs hc1 hf1 z4 hv1' hown' hgrow
      have hol : ∀ b, (Value.slice qv ks.length cv).ownBlock = some b → W1.heap.size ≤ b := fun b hb => (hR.1.lt b hb).1
      have hC0 := hkk'.boxed hE0 ⟨by omega, fun h => by have := hol _ h; omega⟩
      have hC1 := hkk'.boxed hE1 ⟨by omega, fun h => by have := hol _ h; omega⟩
      have hC2 := hv2'
      have hCK := hkk'.heap ⟨by omega, fun h => hnk D (.inl h) hPD⟩ hK
      have hCE := hE8.trans ((hkk'.mono fun b _ hb => show b ≠ w.heap.size + 1 + 1 ∧ ¬ (Value.slice qv ks.length cv).ownBlock = some b from ⟨by omega, fun h => by have := hol _ h; omega⟩).below hE8.size)
      have hCl := hkk'.size
      have hvl := hR.len
      have hCR : RowsOf Wc W1.heap.size (.slice (some ⟨g', 0, none⟩) (ks.length + 1) cap') (vs ++ [Value.slice none 0 0]) (ks ++ [[]]) := by
        refine ⟨by rw [List.length_append]; exact hr2', fun i y k hi hk => ?_⟩
        rcases Nat.lt_or_ge i vs.length with hlt | hlt
        · rw [List.getElem?_append_left hlt] at hi
          rw [List.getElem?_append_left (by omega)] at hk
          have hz := hR.2 i y k hi hk
          exact (hkk'.mono fun b _ hb => show b ≠ w.heap.size + 1 + 1 ∧ ¬ (Value.slice qv ks.length cv).ownBlock = some b from ⟨by have := (hz.lt b hb).1; omega, fun h => byte_row_ne hR.1 hz h hb⟩).row hz (fun b hb => hb)
        · rw [List.getElem?_append_right hlt] at hi
          rw [List.getElem?_append_right (by omega)] at hk
          have hi0 : i - vs.length = 0 := by
            have := (List.getElem?_eq_some_iff.1 hi).1
            simpa using this
          rw [hi0] at hi
          rw [show i - ks.length = 0 by omega] at hk
          cases hi
          cases hk
          exact World.ownsRow_nil _ _ _ _
      have hszd' := Nat.le_trans hszd hCl
      clear hkk' hr2' hv2' hat hR hol hvl
      have z2 : ∀ o, (Wc.alloc o).cell? ⟨w.heap.size + 1 + 1, 0, none⟩ = some (.slice (some ⟨g', 0, none⟩) (ks.length + 1) cap') := fun o => (hC2.alloc o).cell
      have hlit := by_lit Wc #[.int .u8 47] [47] (0, 0) 1 rfl rfl (by decide)
      have hown := own_lit Wc 47
      have hBl := (Below.refl Wc.heap.size Wc).alloc (Nat.le_refl _) (.cells #[.int .u8 47] 5)
      have conJ := Join_any W1.heap.size cap' (ks.length + 1) (some ⟨g', 0, none⟩) (vs ++ [Value.slice none 0 0]) (ks ++ [[]]) (.slice (some ⟨Wc.heap.size, 0, none⟩) 1 1) (Wc.alloc (.cells #[.int .u8 47] 5)) (hCR.keep (Keep.alloc (fun _ => True) _ _) (fun _ _ => trivial)) hlit (by omega)
      have hWs : (Wc.alloc (.cells #[.int .u8 47] 5)).heap.size = Wc.heap.size + 1 := by simp
      refine ⟨trivial, (callsIn_wide.2 conJ).mono ?_⟩
      rintro e V ⟨v5, rfl, hJ, hb5⟩
      have hownV := (Keep.of_below hb5).row hown (fun k hk => (hown.lt k hk).2)
      have hbV := hBl.trans (hb5.mono hBl.size)
      have hVs := hb5.size
      have r0 := (Keep.of_below hbV).boxed hC0 hC0.lt
      have r1 := (Keep.of_below hbV).boxed hC1 hC1.lt
      have rD := (hbV.block D (Array.getElem?_eq_some_iff.1 hCK).1).trans hCK
      have hE8V := hCE.trans (hbV.mono hCE.size)
      have l0 := (Array.getElem?_eq_some_iff.1 hCK).1
      clear conJ hown hlit hb5 z2 hBl
      gi_wp2_with (gi_at_builtin; go_must (refine wpListIn_append_by rfl _ _ rfl Wc.heap.size _ 1 _ rfl hownV _ _ rfl hJ (by omega) hbV.size ?_); intro v6 X hr6 hg6; rw [← byV_app] at hr6; obtain ⟨q6, c6, rfl, _⟩ := row_open hr6; have k6 : ∀ S : Nat → Prop, (∀ b, S b → b < Wc.heap.size) → Keep S V X := (fun S hS => Keep.of_grownBy hg6 fun b hb h => (by have h1 := (hownV.lt b hb).1; have h2 := hS b h; omega)); have s0 := (k6 (fun b => b = w.heap.size) (fun b hb => by have := hC0.lt; omega)).boxed r0 rfl; have s1 := (k6 (fun b => b = w.heap.size + 1) (fun b hb => by have := hC1.lt; omega)).boxed r1 rfl; have sc0 := s0.cell; have sc1 := s1.cell; have sf0 := s0.frozen; have sf1 := s1.frozen)
      have k7 : ∀ S : Nat → Prop, ¬ S w.heap.size → ¬ S (w.heap.size + 1) → Keep S X ((X.setCell ⟨w.heap.size, 0, none⟩ (.slice q6 (1 + (Ref.joinL 47 (ks ++ [[]])).length) c6)).setCell ⟨w.heap.size + 1, 0, none⟩ (.int .i64 0)) := fun S h h' => (Keep.setCell _ _ _ h).trans (Keep.setCell _ _ _ h')
      have k8 : ∀ (S : Nat → Prop) (Y : World), ¬ S D → Keep S Y (Y.putObj D (.deferred none)) := fun S Y h => Keep.putObj _ _ _ h
      have hKd : ((X.setCell ⟨w.heap.size, 0, none⟩ (.slice q6 (1 + (Ref.joinL 47 (ks ++ [[]])).length) c6)).setCell ⟨w.heap.size + 1, 0, none⟩ (.int .i64 0)).heap[D]? = some (.deferred (some [])) := ((k6 (fun b => b = D) (fun b hb => by rw [hb]; exact l0)).trans (k7 (fun b => b = D) (by omega) (by omega))).heap rfl rD
      have q0 : Boxed ((X.setCell ⟨w.heap.size, 0, none⟩ (.slice q6 (1 + (Ref.joinL 47 (ks ++ [[]])).length) c6)).setCell ⟨w.heap.size + 1, 0, none⟩ (.int .i64 0)) w.heap.size 22 (.slice q6 (1 + (Ref.joinL 47 (ks ++ [[]])).length) c6) := (Keep.setCell (S := fun b => b = w.heap.size) _ ⟨w.heap.size + 1, 0, none⟩ _ (by simp)).boxed (s0.set _) rfl
      have q1 : Boxed ((X.setCell ⟨w.heap.size, 0, none⟩ (.slice q6 (1 + (Ref.joinL 47 (ks ++ [[]])).length) c6)).setCell ⟨w.heap.size + 1, 0, none⟩ (.int .i64 0)) (w.heap.size + 1) 26 (.int .i64 0) := ((Keep.setCell (S := fun b => b = w.heap.size + 1) X ⟨w.heap.size, 0, none⟩ _ (by simp)).boxed s1 rfl).set _
      refine ⟨by simp, .inl ⟨_, _, rfl, run_takeDeferred hKd, ?_⟩⟩
      refine ⟨_, results_path rfl _ _ w.heap.size (w.heap.size + 1) _ _ rfl rfl ((k8 (fun b => b = w.heap.size) _ (by omega)).boxed q0 rfl).cell ((k8 (fun b => b = w.heap.size + 1) _ (by omega)).boxed q1 rfl).cell, ?_⟩
      rw [HP.out]
      have hk9 : ∀ S : Nat → Prop, ¬ S w.heap.size → ¬ S (w.heap.size + 1) → ¬ S D → Keep S X (((X.setCell ⟨w.heap.size, 0, none⟩ (.slice q6 (1 + (Ref.joinL 47 (ks ++ [[]])).length) c6)).setCell ⟨w.heap.size + 1, 0, none⟩ (.int .i64 0)).putObj D (.deferred none)) := fun S h h' h'' => (k7 S h h').trans (k8 S _ h'')
      refine ⟨_, 0, rfl, Lib.hid rfl, ?_, ?_⟩
      · have hfin : (47 :: Ref.joinL 47 (ks ++ [[]])).length = 1 + (Ref.joinL 47 (ks ++ [[]])).length := by rw [List.length_cons]; omega
        show World.ownsRow _ w.heap.size 5 1 (.slice q6 (1 + (Ref.joinL 47 (ks ++ [[]])).length) c6) (47 :: Ref.joinL 47 (ks ++ [[]])).length (byV (47 :: Ref.joinL 47 (ks ++ [[]])))
        rw [hfin]
        exact row_base ((hk9 (fun b => Wc.heap.size ≤ b) (by have := hC0.lt; omega) (by have := hC1.lt; omega) (by omega)).row hr6 (fun b hb => (hr6.lt b hb).1)) (by have := hC0.lt; omega)
      · exact hE8V.trans (((k6 (fun b => b < w.heap.size) (fun b hb => by have := hC0.lt; omega)).trans (hk9 (fun b => b < w.heap.size) (by omega) (by omega) (by omega))).below hE8V.size)
  case stop =>
    rintro D cc pre rest Pv Wd hD hPD hPl hxs ⟨rfl, hge, hK1, hE0, hE1, HPN, hE4⟩ hK
    have kp : ∀ (S : Nat → Prop) (W : World), ¬ S D → Keep S W (W.putObj D (.deferred none)) := fun S W h => Keep.putObj _ _ _ h
    clear hxs
    have hgD := hge D hPD
    have hs1d := hK1.size
    gi_wp2
    refine ⟨by simp, .inl ⟨_, _, rfl, run_takeDeferred hK, ?_⟩⟩
    refine ⟨_, results_path rfl _ _ w.heap.size (w.heap.size + 1) _ _ rfl rfl ((kp (fun b => b = w.heap.size) _ (by omega)).boxed hE0 rfl).cell ((kp (fun b => b = w.heap.size + 1) _ (by omega)).boxed hE1 rfl).cell, ?_⟩
    rw [HPN.out]
    exact ⟨_, 2, rfl, Lib.hid rfl, World.ownsRow_nil _ _ _ _, hE4.trans ((kp (fun b => b < w.heap.size) _ (by omega)).below hE4.size)⟩

end Go.Proofs.YtdgejnnapfbaeaaDoor.Url

namespace Go.Proofs.YtdgejnnapfbaeaaDoor.Url
open Go.RowKit Go.Shelf
attribute [local go_sem] Oper.semAt_some

/-- A URL, or the error's number, whatever the text's length. -/
def canonU (t : List UInt8) : Sum Int U := match sepL t with
  | none => .inl 15
  | some (s, r) => if Ref.lowL s = httpS ∨ Ref.lowL s = httpsS then restU (Ref.lowL s) r else .inl 15
theorem parse_canon (t : List UInt8) (h : t.length ≤ 4096) : parseU t = canonU t := by
  unfold parseU canonU; rw [if_neg (by omega)]; rfl
theorem canon_none (t : List UInt8) (h : sepL t = none) : canonU t = .inl 15 := by unfold canonU; rw [h]
theorem own_zero (s : List UInt8) : ownP s = 0 ↔ ¬ (s = httpS ∨ s = httpsS) := by
  unfold ownP
  by_cases h1 : s = httpS
  · simp [h1]
  · by_cases h2 : s = httpsS
    · rw [if_neg h1, if_pos h2]; simp [h2]
    · rw [if_neg h1, if_neg h2]; simp [h1, h2]
theorem canon_other (t s r : List UInt8) (h : sepL t = some (s, r)) (ho : ownP (Ref.lowL s) = 0) : canonU t = .inl 15 := by
  unfold canonU; rw [h]; exact if_neg ((own_zero _).1 ho)
theorem canon_rest (t s r : List UInt8) (h : sepL t = some (s, r)) (ho : ownP (Ref.lowL s) ≠ 0) : canonU t = restU (Ref.lowL s) r := by
  unfold canonU; rw [h]; exact if_pos (Decidable.not_not.1 fun hn => ho ((own_zero _).2 hn))
theorem ahead_drop (c : UInt8) (l : List UInt8) : l.drop (aheadL c l).length = [] ∨ ∃ r, l.drop (aheadL c l).length = c :: r := by
  by_cases h : c ∈ l
  · obtain ⟨x, y, rfl, hx⟩ := List.eq_append_cons_of_mem h
    rw [(ahead_yes c x y hx).1]
    exact .inr ⟨y, by simp⟩
  · rw [(ahead_no c l h).1]
    exact .inl (by simp)
def srvL (r : List UInt8) : List UInt8 := aheadL 47 (atFst 63 (atFst 35 r))
def pthL (r : List UInt8) : List UInt8 := (atFst 63 (atFst 35 r)).drop (srvL r).length
/-- A port that is not told, or its number; 0 is none. -/
def portC (s d : List UInt8) (hp : Bool) : Int := if hp = true then (numOf 65535 d).getD 0 else (ownP s : Int)
def optC (b : Bool) (l : List UInt8) : Option (List UInt8) := if b = true then formL 2 l else some []
def portX (s d : List UInt8) (hp : Bool) : Option Nat := if 1 ≤ portC s d hp then some (portC s d hp).toNat else none
/-- What stands behind "://", as the code goes through it. -/
theorem rest_core (s r : List UInt8) (hs : s = httpS ∨ s = httpsS) : restU s r = if Host.parseE (atFst 58 (srvL r)) ≠ 0 then .inl (Host.parseE (atFst 58 (srvL r))) else
    match portX s (atSnd 58 (srvL r)) (atOk 58 (srvL r)), pathL (pthL r), optC (atOk 63 (atFst 35 r)) (atSnd 63 (atFst 35 r)), optC (atOk 35 r) (atSnd 35 r) with
    | some n, some p, some q, some f => .inr ⟨s, Ref.lowL (atFst 58 (srvL r)), n, p, q, f, atOk 63 (atFst 35 r), atOk 35 r⟩
    | _, _, _, _ => .inl 2 := by
  have e1 := (at_ahead 35 r).1
  have e2 := (at_ahead 63 (atFst 35 r)).1
  have e3 := (at_ahead 58 (srvL r)).1
  have ho : ∀ (c : UInt8) (l : List UInt8), optL (Host.tailL c l) = optC (atOk c l) (atSnd c l) ∧ (Host.tailL c l).isSome = atOk c l := fun c l => by
    rw [(at_ahead c l).2.1]
    cases atOk c l <;> exact ⟨rfl, rfl⟩
  have hp : portL s (Host.tailL 58 (srvL r)) = portX s (atSnd 58 (srvL r)) (atOk 58 (srvL r)) := by
    rw [(at_ahead 58 (srvL r)).2.1]
    unfold portX portC
    cases atOk 58 (srvL r) with
    | false =>
      have := (own_pos s hs).1
      simp only [Bool.false_eq_true, if_false]
      rw [portL, if_pos (by omega)]; simp
    | true =>
      simp only [if_true]
      rw [portL, numOf_ref]
      cases Ref.numOf 65535 (atSnd 58 (srvL r)) <;> rfl
  have x1 : aheadL 47 (aheadL 63 (aheadL 35 r)) = srvL r := by unfold srvL; rw [e2, e1]
  have x2 : (aheadL 63 (aheadL 35 r)).drop (srvL r).length = pthL r := by unfold pthL; rw [e2, e1]
  conv => lhs; unfold restU
  simp only
  rw [x1, x2, ← e3, hp, (ho 35 r).1, (ho 35 r).2, ← e1, (ho 63 _).1, (ho 63 _).2]
  rfl
theorem rest_host (s r : List UInt8) (hs : s = httpS ∨ s = httpsS) (h : Host.parseE (atFst 58 (srvL r)) ≠ 0) : restU s r = .inl (Host.parseE (atFst 58 (srvL r))) := by rw [rest_core s r hs, if_pos h]
theorem numGo_nonneg (most : Int) : ∀ (l : List UInt8) (n m : Int), Ref.numGo most l n = some m → 0 ≤ n → 0 ≤ m
  | [], n, m, h, h0 => by rw [Ref.numGo] at h; cases h; exact h0
  | b :: r, n, m, h, h0 => by
    rw [Ref.numGo] at h
    split at h
    · rename_i hc
      have := (Ref.decB_of b).1 hc.1
      exact numGo_nonneg most r _ m h (by omega)
    · cases h
theorem rest_good (s r : List UInt8) (hs : s = httpS ∨ s = httpsS) (h : Host.parseE (atFst 58 (srvL r)) = 0) (p q f : List UInt8) (h1 : portC s (atSnd 58 (srvL r)) (atOk 58 (srvL r)) ≠ 0) (h2 : pathL (pthL r) = some p) (h3 : optC (atOk 63 (atFst 35 r)) (atSnd 63 (atFst 35 r)) = some q) (h4 : optC (atOk 35 r) (atSnd 35 r) = some f) :
    ∃ n : Nat, portC s (atSnd 58 (srvL r)) (atOk 58 (srvL r)) = (n : Int) ∧ restU s r = .inr ⟨s, Ref.lowL (atFst 58 (srvL r)), n, p, q, f, atOk 63 (atFst 35 r), atOk 35 r⟩ := by
  have hge : 0 ≤ portC s (atSnd 58 (srvL r)) (atOk 58 (srvL r)) := by
    unfold portC
    split
    · rw [numOf_ref]
      cases hn : Ref.numOf 65535 (atSnd 58 (srvL r)) with
      | none => simp
      | some m =>
        unfold Ref.numOf at hn
        split at hn
        · cases hn
        · have := numGo_nonneg 65535 _ _ _ hn (by omega); simp; omega
    · omega
  refine ⟨_, (Int.toNat_of_nonneg hge).symm, ?_⟩
  have hx : portX s (atSnd 58 (srvL r)) (atOk 58 (srvL r)) = some (portC s (atSnd 58 (srvL r)) (atOk 58 (srvL r))).toNat := by unfold portX; rw [if_pos (by omega)]
  rw [rest_core s r hs, if_neg (by rw [h]; simp), hx, h2, h3, h4]
theorem rest_port (s r : List UInt8) (hs : s = httpS ∨ s = httpsS) (h : Host.parseE (atFst 58 (srvL r)) = 0) (h1 : portC s (atSnd 58 (srvL r)) (atOk 58 (srvL r)) = 0) : restU s r = .inl 2 := by
  have hx : portX s (atSnd 58 (srvL r)) (atOk 58 (srvL r)) = none := by unfold portX; rw [if_neg (by omega)]
  rw [rest_core s r hs, if_neg (by rw [h]; simp), hx]
theorem rest_path (s r : List UInt8) (hs : s = httpS ∨ s = httpsS) (h : Host.parseE (atFst 58 (srvL r)) = 0) (h2 : pathL (pthL r) = none) : restU s r = .inl 2 := by
  rw [rest_core s r hs, if_neg (by rw [h]; simp), h2]
  cases portX s (atSnd 58 (srvL r)) (atOk 58 (srvL r)) <;> rfl
theorem rest_query (s r : List UInt8) (hs : s = httpS ∨ s = httpsS) (h : Host.parseE (atFst 58 (srvL r)) = 0) (h3 : optC (atOk 63 (atFst 35 r)) (atSnd 63 (atFst 35 r)) = none) : restU s r = .inl 2 := by
  rw [rest_core s r hs, if_neg (by rw [h]; simp), h3]
  cases portX s (atSnd 58 (srvL r)) (atOk 58 (srvL r)) <;> cases pathL (pthL r) <;> rfl
theorem rest_frag (s r : List UInt8) (hs : s = httpS ∨ s = httpsS) (h : Host.parseE (atFst 58 (srvL r)) = 0) (h4 : optC (atOk 35 r) (atSnd 35 r) = none) : restU s r = .inl 2 := by
  rw [rest_core s r hs, if_neg (by rw [h]; simp), h4]
  cases portX s (atSnd 58 (srvL r)) (atOk 58 (srvL r)) <;> cases pathL (pthL r) <;> cases optC (atOk 63 (atFst 35 r)) (atSnd 63 (atFst 35 r)) <;> rfl
/-- What canonOf answers. -/
def CanonOut : Sum Int U → World → Ending → World → Prop
  | .inl n, w, e, w' => n ≠ 0 ∧ e = .returned (.tuple #[.agg zeroU, .int .i64 n]) ∧ Below w.heap.size w w'
  | .inr u, w, e, w' => ∃ v, e = .returned (.tuple #[v, .int .i64 0]) ∧ UrlIn w' v u ∧ Below w.heap.size w w'
/-- A slice of bytes is not where a URL's cells are. -/
theorem By.set {B i : Nat} {cs : Array Value} {X : World} {v u : Value} {l : List UInt8} (h : By X v l) (hU : UB B cs X) (hcs : ∀ (j : Nat) (x : Value), cs[j]? = some x → ∀ z : Int, x ≠ .int .u8 z) : By (X.setCell ⟨B, i, none⟩ u) v l := by
  obtain ⟨q, c, rfl, h2, h3, h4, h5⟩ := h
  refine ⟨q, c, rfl, h2, h3, h4, fun h0 => ?_⟩
  obtain ⟨b, o, he, hc⟩ := h5 h0
  refine ⟨b, o, he, fun j hj => ?_⟩
  have hne : b ≠ B := fun e => by
    subst e
    have h1 := hc j hj
    simp only [World.cell?, show X.heap[b]? = _ from hU] at h1
    exact hcs _ _ h1 _ rfl
  exact (World.cell?_of_block ((Keep.setCell (S := fun k => k ≠ B) X ⟨B, i, none⟩ u (fun h => h rfl)).block b (World.block_lt_of_cell? X _ (hc j hj)) hne)).trans (hc j hj)
theorem UB.other {B C i : Nat} {cs : Array Value} {X : World} (h : UB B cs X) (hne : B ≠ C) (u : Value) : UB B cs (X.setCell ⟨C, i, none⟩ u) :=
  ((Keep.setCell (S := fun k => k = B) X ⟨C, i, none⟩ u (fun h => hne h.symm)).block B h.lt rfl).trans h
theorem nb8 {a0 a1 a3 a4 a5 : Value} {p : Int} {b c : Bool} (h0 : ∃ q n c, a0 = .slice q n c) (h1 : ∃ q n c, a1 = .slice q n c) (h3 : ∃ q n c, a3 = .slice q n c) (h4 : ∃ q n c, a4 = .slice q n c) (h5 : ∃ q n c, a5 = .slice q n c) :
    ∀ (j : Nat) x, (#[a0, a1, .int .i64 p, a3, a4, a5, .bool b, .bool c] : Array Value)[j]? = some x → ∀ z, x ≠ .int .u8 z := by
  obtain ⟨_, _, _, rfl⟩ := h0
  obtain ⟨_, _, _, rfl⟩ := h1
  obtain ⟨_, _, _, rfl⟩ := h3
  obtain ⟨_, _, _, rfl⟩ := h4
  obtain ⟨_, _, _, rfl⟩ := h5
  intro j x hx z he
  subst he
  match j, hx with
  | 0, hx => simp at hx
  | 1, hx => simp at hx
  | 2, hx => simp at hx
  | 3, hx => simp at hx
  | 4, hx => simp at hx
  | 5, hx => simp at hx
  | 6, hx => simp at hx
  | 7, hx => simp at hx
  | n + 8, hx => simp at hx

end Go.Proofs.YtdgejnnapfbaeaaDoor.Url

namespace Go.Proofs.YtdgejnnapfbaeaaDoor.Url
open Go.RowKit Go.Shelf
attribute [local go_sem] Oper.semAt_some

theorem nbz : ∀ (j : Nat) (x : Value), zeroU[j]? = some x → ∀ z : Int, x ≠ .int .u8 z := nb8 ⟨_, _, _, rfl⟩ ⟨_, _, _, rfl⟩ ⟨_, _, _, rfl⟩ ⟨_, _, _, rfl⟩ ⟨_, _, _, rfl⟩
/-- A slice of bytes outlives what is written where a URL's cells are. -/
theorem By.away {B : Nat} {cs : Array Value} {X Y : World} {v : Value} {l : List UInt8} (h : By X v l) (hU : UB B cs X) (hcs : ∀ (j : Nat) (x : Value), cs[j]? = some x → ∀ z : Int, x ≠ .int .u8 z) (hk : ∀ S : Nat → Prop, ¬ S B → Keep S X Y) : By Y v l := by
  obtain ⟨q, c, rfl, h2, h3, h4, h5⟩ := h
  refine ⟨q, c, rfl, h2, h3, h4, fun h0 => ?_⟩
  obtain ⟨b, o, he, hc⟩ := h5 h0
  refine ⟨b, o, he, fun j hj => ?_⟩
  have hne : b ≠ B := fun e => by
    subst e
    have h1 := hc j hj
    simp only [World.cell?, show X.heap[b]? = _ from hU] at h1
    exact hcs _ _ h1 _ rfl
  exact (World.cell?_of_block ((hk (fun k => k ≠ B) (fun h => h rfl)).block b (World.block_lt_of_cell? X _ (hc j hj)) hne)).trans (hc j hj)
theorem UB.set8 {B : Nat} {X : World} {a0 a1 a2 a3 a4 a5 a6 a7 : Value} (h : UB B #[a0, a1, a2, a3, a4, a5, a6, a7] X) (v : Value) :
    UB B #[a0, a1, v, a3, a4, a5, a6, a7] (X.setCell ⟨B, 2, none⟩ v) ∧ UB B #[a0, a1, a2, v, a4, a5, a6, a7] (X.setCell ⟨B, 3, none⟩ v) ∧ UB B #[a0, a1, a2, a3, v, a5, a6, a7] (X.setCell ⟨B, 4, none⟩ v) ∧ UB B #[a0, a1, a2, a3, a4, v, a6, a7] (X.setCell ⟨B, 5, none⟩ v) := by
  have h2 := h.set 2 v; have h3 := h.set 3 v; have h4 := h.set 4 v; have h5 := h.set 5 v
  simp only [List.setIfInBounds_toArray, List.set_cons_zero, List.set_cons_succ] at h2 h3 h4 h5
  exact ⟨h2, h3, h4, h5⟩

set_option maxRecDepth 100000 in
set_option maxHeartbeats 16000000 in
theorem canonOf_any (q : Option Addr) (n c : Nat) (t : List UInt8) (w : World) (hby : By w (.slice q n c) t) (hn : n ≤ 4096) (hG : Gl w) :
    Calls Tryd.prog 9 #[.slice q n c] w fun e w' => CanonOut (canonU t) w e w' := by
  have kc := fun (w : World) (C : Array Value) (n c : Nat) => Lib.run_convert_bytes_const (P := Tryd.prog) w 22 5 C n c Tryd.underlying22 Tryd.underlying5
  obtain ⟨X0, hX0⟩ : ∃ X0, (w.alloc (.cells #[.slice none 0 0, .slice none 0 0, .int .i64 0, .slice none 0 0, .slice none 0 0, .slice none 0 0, .bool false, .bool false] 25)).alloc (.cells #[.int .u8 58, .int .u8 47, .int .u8 47] 5 (3, 4)) = X0 := ⟨_, rfl⟩
  have hBz := (Below.refl _ w).alloc (Nat.le_refl _) (.cells #[.slice none 0 0, .slice none 0 0, .int .i64 0, .slice none 0 0, .slice none 0 0, .slice none 0 0, .bool false, .bool false] 25)
  have B_0 : Below w.heap.size w X0 := by rw [← hX0]; exact hBz.alloc hBz.size _
  have U_0 : UB w.heap.size zeroU X0 := by rw [← hX0]; exact (UB.new w zeroU).on ((Below.refl _ _).alloc (Nat.le_refl _) _)
  have hsep : Lib.BytesIn X0 (some ⟨w.heap.size + 1, 0, none⟩) 3 (Lib.numsL sepS) := by
    have := bytes_lit (w := w.alloc (.cells #[.slice none 0 0, .slice none 0 0, .int .i64 0, .slice none 0 0, .slice none 0 0, .slice none 0 0, .bool false, .bool false] 25)) #[.int .u8 58, .int .u8 47, .int .u8 47] sepS (3, 4) rfl
    rw [World.size_alloc] at this
    rw [← hX0]; exact this
  have kc1 := kc (w.alloc (.cells #[.slice none 0 0, .slice none 0 0, .int .i64 0, .slice none 0 0, .slice none 0 0, .slice none 0 0, .bool false, .bool false] 25)) #[.int .u8 58, .int .u8 47, .int .u8 47] 3 3
  rw [World.size_alloc] at kc1
  have con := Cut_any q (some ⟨w.heap.size + 1, 0, none⟩) n c 3 t X0 (hby.on B_0) (by omega) (hG.on B_0) hsep
  have HX0 := Lib.hid hX0
  have T_0 := hby.on B_0
  have hTl := hby.at.1
  clear hX0 hBz hsep hby hG
  rcases sep_cases t with ⟨hk, hsp⟩ | ⟨k, hk, hkl, hsp⟩
  · rw [cut_none hk] at con
    have HC := Lib.hid (canon_none t hsp)
    clear hsp hk T_0
    go_enter Tryd.func9, Tryd.ntmps9
    go_wp2_with fail
    rw [HX0.out]
    refine con.mono ?_
    rintro e X1 ⟨rfl, m, hm⟩
    have hb : Below X0.heap.size X0 X1 := by rw [hm]; exact below_drewN _ _
    clear con hm kc1 HX0
    have B_1 := B_0.trans (hb.mono B_0.size)
    have U_1 := U_0.on hb
    clear U_0 B_0 hb
    have zb := U_1.box
    have zc0 := zb 0 _ rfl
    have zf0 := U_1.frozen 0
    have zc1 := zb 1 _ rfl
    have zf1 := U_1.frozen 1
    have zc2 := zb 2 _ rfl
    have zf2 := U_1.frozen 2
    have zc3 := zb 3 _ rfl
    have zf3 := U_1.frozen 3
    have zc4 := zb 4 _ rfl
    have zf4 := U_1.frozen 4
    have zc5 := zb 5 _ rfl
    have zf5 := U_1.frozen 5
    have zc6 := zb 6 _ rfl
    have zf6 := U_1.frozen 6
    have zc7 := zb 7 _ rfl
    have zf7 := U_1.frozen 7
    clear zb
    go_wp2
    obtain ⟨Y, hY, hU, hkY, hbY⟩ := UB.put (show UB w.heap.size #[.slice none 0 0, .slice none 0 0, .int .i64 0, .slice none 0 0, .slice none 0 0, .slice none 0 0, .bool false, .bool false] _ from U_1) (.slice none 0 0) (.slice none 0 0) (.int .i64 0) (.slice none 0 0) (.slice none 0 0) (.slice none 0 0) (.bool false) (.bool false)
    rw [hY]
    (try simp only [Exit.inBlock, Exit.then])
    refine bodyPost_ret (ret_url2 rfl _ _ w.heap.size _ rfl hU rfl) rfl ?_
    rw [HC.out]
    exact ⟨by decide, rfl, B_1.trans (hbY _ (Nat.le_refl _))⟩
  · rw [cut_some hk] at con
    have S_0 := T_0.take (show k ≤ n by omega)
    have R_0 := T_0.drop (show k + 3 ≤ n by omega)
    have hnr : n - (k + 3) ≤ 4096 := by omega
    have hkn : k ≤ 4096 := by omega
    generalize t.take k = s at *
    generalize t.drop (k + 3) = r at *
    generalize hqR : subA q c (k + 3) = qR at *
    generalize hnR : n - (k + 3) = nR at *
    generalize hcR : c - (k + 3) = cR at *
    have HSP := Lib.hid hsp
    clear hsp hk T_0 hkl hTl hqR hnR hcR
    obtain ⟨own, hown⟩ : ∃ o, ownP (Ref.lowL s) = o := ⟨_, rfl⟩
    have HOW := Lib.hid hown
    clear hown
    go_enter Tryd.func9, Tryd.ntmps9
    go_wp2_with fail
    rw [HX0.out]
    refine con.mono ?_
    rintro e X1 ⟨rfl, m, hm⟩
    have hb : Below X0.heap.size X0 X1 := by rw [hm]; exact below_drewN _ _
    clear con hm kc1 HX0
    have B_1 := B_0.trans (hb.mono B_0.size)
    have U_1 := U_0.on hb
    have S_1 := S_0.on hb
    have R_1 := R_0.on hb
    clear R_0 S_0 U_0 B_0 hb
    have con := Own_any q k c s X1 S_1.at.1 (by omega) S_1.at.2.2.2.2
    rw [HOW.out] at con
    by_cases ho : own = 0
    · have e0 : ((own : Int) == 0) = true := by rw [ho]; rfl
      have HC := Lib.hid (canon_other t s r HSP.out (by rw [HOW.out]; exact ho))
      clear ho
      go_wp2_with fail
      refine con.mono ?_
      rintro e X2 ⟨rfl, hb⟩
      clear con
      have B_2 := B_1.trans (hb.mono B_1.size)
      have U_2 := U_1.on hb
      have S_2 := S_1.on hb
      have R_2 := R_1.on hb
      clear R_1 S_1 U_1 B_1 hb
      have zb := U_2.box
      have zc0 := zb 0 _ rfl
      have zf0 := U_2.frozen 0
      have zc1 := zb 1 _ rfl
      have zf1 := U_2.frozen 1
      have zc2 := zb 2 _ rfl
      have zf2 := U_2.frozen 2
      have zc3 := zb 3 _ rfl
      have zf3 := U_2.frozen 3
      have zc4 := zb 4 _ rfl
      have zf4 := U_2.frozen 4
      have zc5 := zb 5 _ rfl
      have zf5 := U_2.frozen 5
      have zc6 := zb 6 _ rfl
      have zf6 := U_2.frozen 6
      have zc7 := zb 7 _ rfl
      have zf7 := U_2.frozen 7
      clear zb
      go_wp2
      obtain ⟨Y, hY, hU, hkY, hbY⟩ := UB.put (show UB w.heap.size #[.slice none 0 0, .slice none 0 0, .int .i64 0, .slice none 0 0, .slice none 0 0, .slice none 0 0, .bool false, .bool false] _ from U_2) (.slice none 0 0) (.slice none 0 0) (.int .i64 0) (.slice none 0 0) (.slice none 0 0) (.slice none 0 0) (.bool false) (.bool false)
      rw [hY]
      (try simp only [Exit.inBlock, Exit.then])
      refine bodyPost_ret (ret_url2 rfl _ _ w.heap.size _ rfl hU rfl) rfl ?_
      rw [HC.out]
      exact ⟨by decide, rfl, B_2.trans (hbY _ (Nat.le_refl _))⟩
    have e0 : ((own : Int) == 0) = false := by rw [beq_eq_false_iff_ne]; omega
    have hs0 : Ref.lowL s = httpS ∨ Ref.lowL s = httpsS := Decidable.not_not.1 fun h => ho (by rw [← HOW.out]; exact (own_zero _).2 h)
    have HS := Lib.hid hs0
    have HC := Lib.hid (canon_rest t s r HSP.out (by rw [HOW.out]; exact ho))
    clear ho HSP hs0
    go_wp2_with fail
    refine con.mono ?_
    rintro e X2 ⟨rfl, hb⟩
    clear con
    have B_2 := B_1.trans (hb.mono B_1.size)
    have U_2 := U_1.on hb
    have S_2 := S_1.on hb
    have R_2 := R_1.on hb
    clear R_1 S_1 U_1 B_1 hb
    obtain ⟨bf, hbf⟩ : ∃ b, atOk 35 (r) = b := ⟨_, rfl⟩
    have con := At_any qR nR cR (r) 35 X2 R_2.at.1 (by have := R_2.at.1; omega) R_2.at.2.1 R_2.at.2.2.2.1 R_2.at.2.2.2.2
    rw [hbf] at con
    have Hbf := Lib.hid hbf
    clear hbf
    go_wp2_with fail
    refine con.mono ?_
    rintro e X3 ⟨v1, v2, rfl, hr1, hr2, hb⟩
    clear con
    obtain ⟨nA, hnA⟩ : ∃ n, (atFst 35 (r)).length = n := ⟨_, rfl⟩
    rw [hnA] at hr1
    obtain ⟨qA, cA, rfl, _, _, _, _, _⟩ := row_open hr1
    have A_3 := By.row hr1
    have hmA : nA ≤ 4096 := by have h1 := at_len 35 (r); have h2 := R_2.at.1; omega
    clear hr1 hnA
    obtain ⟨nF, hnF⟩ : ∃ n, (atSnd 35 (r)).length = n := ⟨_, rfl⟩
    rw [hnF] at hr2
    obtain ⟨qF, cF, rfl, _, _, _, _, _⟩ := row_open hr2
    have F_3 := By.row hr2
    have hmF : nF ≤ 4096 := by have h1 := at_len 35 (r); have h2 := R_2.at.1; omega
    clear hr2 hnF
    have B_3 := B_2.trans (hb.mono B_2.size)
    have U_3 := U_2.on hb
    have S_3 := S_2.on hb
    have R_3 := R_2.on hb
    clear R_2 S_2 U_2 B_2 hb
    clear e0
    clear R_3
    obtain ⟨bq, hbq⟩ : ∃ b, atOk 63 (atFst 35 r) = b := ⟨_, rfl⟩
    have con := At_any qA nA cA (atFst 35 r) 63 X3 A_3.at.1 (by have := A_3.at.1; omega) A_3.at.2.1 A_3.at.2.2.2.1 A_3.at.2.2.2.2
    rw [hbq] at con
    have Hbq := Lib.hid hbq
    clear hbq
    go_wp2_with fail
    refine con.mono ?_
    rintro e X4 ⟨v1, v2, rfl, hr1, hr2, hb⟩
    clear con
    obtain ⟨nE, hnE⟩ : ∃ n, (atFst 63 (atFst 35 r)).length = n := ⟨_, rfl⟩
    rw [hnE] at hr1
    obtain ⟨qE, cE, rfl, _, _, _, _, _⟩ := row_open hr1
    have E_4 := By.row hr1
    have hmE : nE ≤ 4096 := by have h1 := at_len 63 (atFst 35 r); have h2 := A_3.at.1; omega
    clear hr1 hnE
    obtain ⟨nQ, hnQ⟩ : ∃ n, (atSnd 63 (atFst 35 r)).length = n := ⟨_, rfl⟩
    rw [hnQ] at hr2
    obtain ⟨qQ, cQ, rfl, _, _, _, _, _⟩ := row_open hr2
    have Q_4 := By.row hr2
    have hmQ : nQ ≤ 4096 := by have h1 := at_len 63 (atFst 35 r); have h2 := A_3.at.1; omega
    clear hr2 hnQ
    have B_4 := B_3.trans (hb.mono B_3.size)
    have U_4 := U_3.on hb
    have S_4 := S_3.on hb
    have A_4 := A_3.on hb
    have F_4 := F_3.on hb
    clear F_3 A_3 S_3 U_3 B_3 hb
    clear A_4
    have con := atSlash_any qE nE cE (atFst 63 (atFst 35 r)) X4 E_4
    go_wp2_with fail
    refine con.mono ?_
    rintro e X5 ⟨v1, v2, rfl, V_4, P_4, hb, -⟩
    have V_5 := V_4.on hb
    have P_5 := P_4.on hb
    clear con V_4 P_4
    obtain ⟨qV, cV, rfl, _⟩ := id V_5
    obtain ⟨qP, cP, rfl, _⟩ := id P_5
    have hP5 := ahead_drop 47 (atFst 63 (atFst 35 r))
    have hVl := ahead_len 47 (atFst 63 (atFst 35 r))
    have hEl := E_4.at.1
    replace V_5 : By X5 (.slice qV (srvL r).length cV) (srvL r) := V_5
    replace P_5 : By X5 (.slice qP (pthL r).length cP) (pthL r) := P_5
    have HPF := Lib.hid (show pthL r = [] ∨ ∃ x, pthL r = 47 :: x from hP5)
    have hPl : (pthL r).length ≤ 4096 := by
      have : (pthL r).length ≤ (atFst 63 (atFst 35 r)).length := by unfold pthL; rw [List.length_drop]; omega
      omega
    have hVl' : (srvL r).length ≤ 4096 := by have : (srvL r).length ≤ (atFst 63 (atFst 35 r)).length := hVl; omega
    change By X5 (.slice qV (aheadL 47 (atFst 63 (atFst 35 r))).length cV) (srvL r) at V_5
    change By X5 (.slice qP ((atFst 63 (atFst 35 r)).drop (aheadL 47 (atFst 63 (atFst 35 r))).length).length cP) (pthL r) at P_5
    obtain ⟨nV, hnV⟩ : ∃ n, (aheadL 47 (atFst 63 (atFst 35 r))).length = n := ⟨_, rfl⟩
    obtain ⟨nP, hnP⟩ : ∃ n, ((atFst 63 (atFst 35 r)).drop (aheadL 47 (atFst 63 (atFst 35 r))).length).length = n := ⟨_, rfl⟩
    rw [hnP] at P_5 ⊢
    rw [hnV] at V_5 ⊢
    have hmV : nV ≤ 4096 := by rw [← hnV]; exact hVl'
    have hmP : nP ≤ 4096 := by rw [← hnP]; exact hPl
    clear hP5 hVl hEl hPl hVl' hnV hnP
    have B_5 := B_4.trans (hb.mono B_4.size)
    have U_5 := U_4.on hb
    have S_5 := S_4.on hb
    have F_5 := F_4.on hb
    have E_5 := E_4.on hb
    have Q_5 := Q_4.on hb
    clear Q_4 E_4 F_4 S_4 U_4 B_4 hb
    clear E_5
    obtain ⟨bp, hbp⟩ : ∃ b, atOk 58 (srvL r) = b := ⟨_, rfl⟩
    have con := At_any qV nV cV (srvL r) 58 X5 V_5.at.1 (by have := V_5.at.1; omega) V_5.at.2.1 V_5.at.2.2.2.1 V_5.at.2.2.2.2
    rw [hbp] at con
    have Hbp := Lib.hid hbp
    clear hbp
    go_wp2_with fail
    refine con.mono ?_
    rintro e X6 ⟨v1, v2, rfl, hr1, hr2, hb⟩
    clear con
    obtain ⟨nN, hnN⟩ : ∃ n, (atFst 58 (srvL r)).length = n := ⟨_, rfl⟩
    rw [hnN] at hr1
    obtain ⟨qN, cN, rfl, _, _, _, _, _⟩ := row_open hr1
    have N_6 := By.row hr1
    have hmN : nN ≤ 4096 := by have h1 := at_len 58 (srvL r); have h2 := V_5.at.1; omega
    clear hr1 hnN
    obtain ⟨nD, hnD⟩ : ∃ n, (atSnd 58 (srvL r)).length = n := ⟨_, rfl⟩
    rw [hnD] at hr2
    obtain ⟨qD, cD, rfl, _, _, _, _, _⟩ := row_open hr2
    have D_6 := By.row hr2
    have hmD : nD ≤ 4096 := by have h1 := at_len 58 (srvL r); have h2 := V_5.at.1; omega
    clear hr2 hnD
    have B_6 := B_5.trans (hb.mono B_5.size)
    have U_6 := U_5.on hb
    have S_6 := S_5.on hb
    have F_6 := F_5.on hb
    have Q_6 := Q_5.on hb
    have V_6 := V_5.on hb
    have P_6 := P_5.on hb
    clear P_5 V_5 Q_5 F_5 S_5 U_5 B_5 hb
    clear V_6
    have con := Host.Parse_any qN nN cN (atFst 58 (srvL r)) X6 N_6.at.1 (by omega) N_6.at.2.2.2.2
    obtain ⟨pe, hpe⟩ : ∃ pe, Host.parseE (atFst 58 (srvL r)) = pe := ⟨_, rfl⟩
    have HPE := Lib.hid hpe
    clear hpe
    go_wp2_with fail
    refine con.mono ?_
    rintro e X7 ⟨vH, rfl, hrH, hb⟩
    rw [HPE.out]
    obtain ⟨nH, hnH⟩ : ∃ n, (Host.canL (atFst 58 (srvL r))).length = n := ⟨_, rfl⟩
    rw [hnH] at hrH
    obtain ⟨qH, cH, rfl, _, _, _, _, _⟩ := row_open hrH
    have H_7 := By.row hrH
    clear con hrH hnH
    have B_7 := B_6.trans (hb.mono B_6.size)
    have U_7 := U_6.on hb
    have S_7 := S_6.on hb
    have F_7 := F_6.on hb
    have Q_7 := Q_6.on hb
    have P_7 := P_6.on hb
    have N_7 := N_6.on hb
    have D_7 := D_6.on hb
    clear D_6 N_6 P_6 Q_6 F_6 S_6 U_6 B_6 hb
    clear N_7
    by_cases hp7 : pe = 0
    case neg =>
      have e7 : ((pe : Int) != 0) = true := by rw [bne_iff_ne]; exact hp7
      have HE := Lib.hid (show canonU t = .inl pe by rw [HC.out, rest_host _ r HS.out (by rw [HPE.out]; exact hp7), HPE.out])
      have hp8 := Lib.hid hp7
      clear HC hp7
      have zb := U_7.box
      have zc0 := zb 0 _ rfl
      have zf0 := U_7.frozen 0
      have zc1 := zb 1 _ rfl
      have zf1 := U_7.frozen 1
      have zc2 := zb 2 _ rfl
      have zf2 := U_7.frozen 2
      have zc3 := zb 3 _ rfl
      have zf3 := U_7.frozen 3
      have zc4 := zb 4 _ rfl
      have zf4 := U_7.frozen 4
      have zc5 := zb 5 _ rfl
      have zf5 := U_7.frozen 5
      have zc6 := zb 6 _ rfl
      have zf6 := U_7.frozen 6
      have zc7 := zb 7 _ rfl
      have zf7 := U_7.frozen 7
      clear zb
      go_wp2
      obtain ⟨Y, hY, hU, hkY, hbY⟩ := UB.put (show UB w.heap.size #[.slice none 0 0, .slice none 0 0, .int .i64 0, .slice none 0 0, .slice none 0 0, .slice none 0 0, .bool false, .bool false] _ from U_7) (.slice none 0 0) (.slice none 0 0) (.int .i64 0) (.slice none 0 0) (.slice none 0 0) (.slice none 0 0) (.bool false) (.bool false)
      rw [hY]
      (try simp only [Exit.inBlock, Exit.then])
      refine bodyPost_ret (ret_url2 rfl _ _ w.heap.size _ rfl hU rfl) rfl ?_
      rw [HE.out]
      exact ⟨hp8.out, rfl, B_7.trans (hbY _ (Nat.le_refl _))⟩
    subst hp7
    have HCL := Lib.hid (show Host.canL (atFst 58 (srvL r)) = Ref.lowL (atFst 58 (srvL r)) by unfold Host.canL; rw [if_pos HPE.out])
    rw [HCL.out] at H_7
    have con := Lower_any q k c s X7 S_7.at.1 (by omega) S_7.at.2.2.2.2
    go_wp2_with fail
    refine con.mono ?_
    rintro e X8 ⟨vL, rfl, hrL, hb⟩
    obtain ⟨qL, cL, rfl, _, _, _, _, _⟩ := row_open hrL
    have L_8 : By X8 (.slice qL k cL) (Ref.lowL s) := By.row hrL
    clear con hrL HCL
    have B_8 := B_7.trans (hb.mono B_7.size)
    have U_8 := U_7.on hb
    have S_8 := S_7.on hb
    have F_8 := F_7.on hb
    have Q_8 := Q_7.on hb
    have P_8 := P_7.on hb
    have D_8 := D_7.on hb
    have H_8 := H_7.on hb
    clear H_7 D_7 P_7 Q_7 F_7 S_7 U_7 B_7 hb
    have con := Own_any q k c s X8 S_8.at.1 (by omega) S_8.at.2.2.2.2
    rw [HOW.out] at con
    go_wp2_with fail
    refine con.mono ?_
    rintro e X9 ⟨rfl, hb⟩
    clear con
    have B_9 := B_8.trans (hb.mono B_8.size)
    have U_9 := U_8.on hb
    have S_9 := S_8.on hb
    have F_9 := F_8.on hb
    have Q_9 := Q_8.on hb
    have P_9 := P_8.on hb
    have D_9 := D_8.on hb
    have H_9 := H_8.on hb
    have L_9 := L_8.on hb
    clear L_8 H_8 D_8 P_8 Q_8 F_8 S_8 U_8 B_8 hb
    clear S_9
    obtain ⟨XA, hXA⟩ : ∃ XA, X9.alloc (.cells #[.slice qL k cL, .slice qH nH cH, .int .i64 own, .slice none 0 0, .slice none 0 0, .slice none 0 0, .bool bq, .bool bf] 25) = XA := ⟨_, rfl⟩
    obtain ⟨b18, hb18⟩ : ∃ b, X9.heap.size = b := ⟨_, rfl⟩
    have W_A : UB b18 #[.slice qL k cL, .slice qH nH cH, .int .i64 own, .slice none 0 0, .slice none 0 0, .slice none 0 0, .bool bq, .bool bf] XA := by rw [← hXA, ← hb18]; exact UB.new X9 _
    have hb : Below X9.heap.size X9 XA := by rw [← hXA]; exact (Below.refl _ _).alloc (Nat.le_refl _) _
    have hne : ¬ w.heap.size = b18 := by have := U_9.lt; omega
    have hne' : ¬ b18 = w.heap.size := fun h => hne h.symm
    have hle : w.heap.size ≤ b18 := by have := U_9.lt; omega
    have HXA := Lib.hid hXA
    have HB18 := Lib.hid hb18
    clear hXA hb18
    have B_A := B_9.trans (hb.mono B_9.size)
    have U_A := U_9.on hb
    have F_A := F_9.on hb
    have Q_A := Q_9.on hb
    have P_A := P_9.on hb
    have D_A := D_9.on hb
    have H_A := H_9.on hb
    have L_A := L_9.on hb
    clear L_9 H_9 D_9 P_9 Q_9 F_9 U_9 B_9 hb
    cases bp with
    | false =>
      clear D_A
      have HPO := Lib.hid (show portC (Ref.lowL s) (atSnd 58 (srvL r)) (atOk 58 (srvL r)) = (own : Int) by rw [Hbp.out]; unfold portC; rw [if_neg (by decide), HOW.out])
      go_wp2_with fail
      rw [HB18.out, HXA.out]
      have con := canonOfPath_any qP nP cP (pthL r) XA P_A (by omega) HPF.out
      refine con.mono ?_
      rintro e XC ⟨vW, ep, rfl, hep, hr, hb⟩
      have HEP : Hid (ep = if (pathL (pthL r)).isSome then 0 else 2) := hep
      replace hr : XC.ownsRow XA.heap.size 5 1 vW ((pathL (pthL r)).getD []).length (byV ((pathL (pthL r)).getD [])) := hr
      obtain ⟨nW, hnW⟩ : ∃ n, ((pathL (pthL r)).getD []).length = n := ⟨_, rfl⟩
      rw [hnW] at hr
      obtain ⟨qW, cW, rfl, _, _, _, _, _⟩ := row_open hr
      have GP_C := By.row hr
      clear con hr hnW hep
      have B_C := B_A.trans (hb.mono B_A.size)
      have U_C := U_A.on hb
      have F_C := F_A.on hb
      have Q_C := Q_A.on hb
      have P_C := P_A.on hb
      have H_C := H_A.on hb
      have L_C := L_A.on hb
      have W_C := W_A.on hb
      clear W_A L_A H_A P_A Q_A F_A U_A B_A hb
      clear P_C
      cases bq with
      | false =>
        clear Q_C
        cases bf with
        | false =>
          clear F_C
          have yb := W_C.box
          have yc0 := yb 0 _ rfl
          have yf0 := W_C.frozen 0
          have yc1 := yb 1 _ rfl
          have yf1 := W_C.frozen 1
          have yc2 := yb 2 _ rfl
          have yf2 := W_C.frozen 2
          have yc3 := yb 3 _ rfl
          have yf3 := W_C.frozen 3
          have yc4 := yb 4 _ rfl
          have yf4 := W_C.frozen 4
          have yc5 := yb 5 _ rfl
          have yf5 := W_C.frozen 5
          have yc6 := yb 6 _ rfl
          have yf6 := W_C.frozen 6
          have yc7 := yb 7 _ rfl
          have yf7 := W_C.frozen 7
          clear yb
          have zb := U_C.box
          have zc0 := zb 0 _ rfl
          have zf0 := U_C.frozen 0
          have zc1 := zb 1 _ rfl
          have zf1 := U_C.frozen 1
          have zc2 := zb 2 _ rfl
          have zf2 := U_C.frozen 2
          have zc3 := zb 3 _ rfl
          have zf3 := U_C.frozen 3
          have zc4 := zb 4 _ rfl
          have zf4 := U_C.frozen 4
          have zc5 := zb 5 _ rfl
          have zf5 := U_C.frozen 5
          have zc6 := zb 6 _ rfl
          have zf6 := U_C.frozen 6
          have zc7 := zb 7 _ rfl
          have zf7 := U_C.frozen 7
          clear zb
          obtain ⟨XZ, hXZ⟩ : ∃ Z, XC.setCell ⟨b18, 3, none⟩ (.slice qW nW cW) = Z := ⟨_, rfl⟩
          have B_Z : Below w.heap.size w XZ := by rw [← hXZ]; exact B_C.setCell (p := ⟨b18, 3, none⟩) hle _
          have U_Z : UB w.heap.size zeroU XZ := by rw [← hXZ]; exact U_C.other hne _
          have H_Z := By.set (i := 3) (u := .slice qW nW cW) H_C W_C (nb8 ⟨_, _, _, rfl⟩ ⟨_, _, _, rfl⟩ ⟨_, _, _, rfl⟩ ⟨_, _, _, rfl⟩ ⟨_, _, _, rfl⟩)
          rw [hXZ] at H_Z
          have L_Z := By.set (i := 3) (u := .slice qW nW cW) L_C W_C (nb8 ⟨_, _, _, rfl⟩ ⟨_, _, _, rfl⟩ ⟨_, _, _, rfl⟩ ⟨_, _, _, rfl⟩ ⟨_, _, _, rfl⟩)
          rw [hXZ] at L_Z
          have GP_Z := By.set (i := 3) (u := .slice qW nW cW) GP_C W_C (nb8 ⟨_, _, _, rfl⟩ ⟨_, _, _, rfl⟩ ⟨_, _, _, rfl⟩ ⟨_, _, _, rfl⟩ ⟨_, _, _, rfl⟩)
          rw [hXZ] at GP_Z
          have W_Z : UB b18 #[.slice qL k cL, .slice qH nH cH, .int .i64 own, .slice qW nW cW, .slice none 0 0, .slice none 0 0, .bool false, .bool false] XZ := by rw [← hXZ]; exact (W_C.set8 (.slice qW nW cW)).2.1
          clear GP_C W_C L_C H_C U_C B_C
          have HXZ := Lib.hid hXZ
          clear hXZ
          by_cases hp0 : (own : Int) = 0
          case pos =>
            have e0 : (((own : Int)) == 0) = true := by rw [beq_iff_eq]; exact hp0
            have hpo := HPO.out
            rw [hp0] at hpo
            clear hp0
            have HE := Lib.hid (show canonU t = .inl 2 by rw [HC.out]; exact rest_port _ r HS.out HPE.out hpo)
            go_wp2
            rw [HXZ.out]
            obtain ⟨Y, hY, hU, hkY, hbY⟩ := UB.put (show UB w.heap.size #[.slice none 0 0, .slice none 0 0, .int .i64 0, .slice none 0 0, .slice none 0 0, .slice none 0 0, .bool false, .bool false] _ from U_Z) (.slice none 0 0) (.slice none 0 0) (.int .i64 0) (.slice none 0 0) (.slice none 0 0) (.slice none 0 0) (.bool false) (.bool false)
            rw [hY]
            (try simp only [Exit.inBlock, Exit.then])
            refine bodyPost_ret (ret_url2 rfl _ _ w.heap.size _ rfl hU rfl) rfl ?_
            rw [HE.out]
            exact ⟨by decide, rfl, B_Z.trans (hbY _ (Nat.le_refl _))⟩
          have e0 : (((own : Int)) == 0) = false := by rw [beq_eq_false_iff_ne]; exact hp0
          have hpo : portC (Ref.lowL s) (atSnd 58 (srvL r)) (atOk 58 (srvL r)) ≠ 0 := by rw [HPO.out]; exact hp0
          cases hpp : pathL (pthL r) with
          | none =>
            obtain rfl : ep = 2 := by have := HEP.out; rw [hpp] at this; exact this
            have hpp2 := Lib.hid hpp
            clear hpp
            have HE := Lib.hid (show canonU t = .inl 2 by rw [HC.out]; exact rest_path _ r HS.out HPE.out hpp2.out)
            go_wp2
            rw [HXZ.out]
            obtain ⟨Y, hY, hU, hkY, hbY⟩ := UB.put (show UB w.heap.size #[.slice none 0 0, .slice none 0 0, .int .i64 0, .slice none 0 0, .slice none 0 0, .slice none 0 0, .bool false, .bool false] _ from U_Z) (.slice none 0 0) (.slice none 0 0) (.int .i64 0) (.slice none 0 0) (.slice none 0 0) (.slice none 0 0) (.bool false) (.bool false)
            rw [hY]
            (try simp only [Exit.inBlock, Exit.then])
            refine bodyPost_ret (ret_url2 rfl _ _ w.heap.size _ rfl hU rfl) rfl ?_
            rw [HE.out]
            exact ⟨by decide, rfl, B_Z.trans (hbY _ (Nat.le_refl _))⟩
          | some pp =>
            obtain rfl : ep = 0 := by have := HEP.out; rw [hpp] at this; exact this
            have h3 : optC (atOk 63 (atFst 35 r)) (atSnd 63 (atFst 35 r)) = some [] := by rw [Hbq.out]; rfl
            have h4 : optC (atOk 35 r) (atSnd 35 r) = some [] := by rw [Hbf.out]; rfl
            obtain ⟨pn, hpn, hrg⟩ := rest_good _ r HS.out HPE.out pp [] [] hpo hpp h3 h4
            rw [Hbq.out, Hbf.out] at hrg
            have hpn2 : (own : Int) = (pn : Int) := by rw [← HPO.out]; exact hpn
            have HE := Lib.hid (HC.out.trans hrg)
            have HPN := Lib.hid hpn2
            rw [hpp] at GP_Z
            clear hpo hrg hpn hpn2 h3 h4 hpp  hp0
            go_wp2
            rw [HXZ.out]
            obtain ⟨Y, hY, hU, hkY, hbY⟩ := UB.put (show UB w.heap.size #[.slice none 0 0, .slice none 0 0, .int .i64 0, .slice none 0 0, .slice none 0 0, .slice none 0 0, .bool false, .bool false] _ from U_Z) (.slice qL k cL) (.slice qH nH cH) (.int .i64 own) (.slice qW nW cW) (.slice none 0 0) (.slice none 0 0) (.bool false) (.bool false)
            rw [hY]
            (try simp only [Exit.inBlock, Exit.then])
            refine bodyPost_ret (ret_url2 rfl _ _ w.heap.size _ rfl hU rfl) rfl ?_
            rw [HE.out]
            refine ⟨_, rfl, ⟨qL, k, cL, qH, nH, cH, qW, nW, cW, none, 0, 0, none, 0, 0, by rw [HPN.out], L_Z.away U_Z nbz hkY, H_Z.away U_Z nbz hkY, GP_Z.away U_Z nbz hkY, by_nil _, by_nil _⟩, B_Z.trans (hbY _ (Nat.le_refl _))⟩
        | true =>
          have yb := W_C.box
          have yc3 := yb 3 _ rfl
          have yf3 := W_C.frozen 3
          clear yb
          go_wp2_with fail
          clear yc3 yf3
          obtain ⟨XF, hXF⟩ : ∃ Z, XC.setCell ⟨b18, 3, none⟩ (.slice qW nW cW) = Z := ⟨_, rfl⟩
          rw [hXF]
          have B_F : Below w.heap.size w XF := by rw [← hXF]; exact B_C.setCell (p := ⟨b18, 3, none⟩) hle _
          have U_F : UB w.heap.size zeroU XF := by rw [← hXF]; exact U_C.other hne _
          have F_F := By.set (i := 3) (u := .slice qW nW cW) F_C W_C (nb8 ⟨_, _, _, rfl⟩ ⟨_, _, _, rfl⟩ ⟨_, _, _, rfl⟩ ⟨_, _, _, rfl⟩ ⟨_, _, _, rfl⟩)
          rw [hXF] at F_F
          have H_F := By.set (i := 3) (u := .slice qW nW cW) H_C W_C (nb8 ⟨_, _, _, rfl⟩ ⟨_, _, _, rfl⟩ ⟨_, _, _, rfl⟩ ⟨_, _, _, rfl⟩ ⟨_, _, _, rfl⟩)
          rw [hXF] at H_F
          have L_F := By.set (i := 3) (u := .slice qW nW cW) L_C W_C (nb8 ⟨_, _, _, rfl⟩ ⟨_, _, _, rfl⟩ ⟨_, _, _, rfl⟩ ⟨_, _, _, rfl⟩ ⟨_, _, _, rfl⟩)
          rw [hXF] at L_F
          have GP_F := By.set (i := 3) (u := .slice qW nW cW) GP_C W_C (nb8 ⟨_, _, _, rfl⟩ ⟨_, _, _, rfl⟩ ⟨_, _, _, rfl⟩ ⟨_, _, _, rfl⟩ ⟨_, _, _, rfl⟩)
          rw [hXF] at GP_F
          have W_F : UB b18 #[.slice qL k cL, .slice qH nH cH, .int .i64 own, .slice qW nW cW, .slice none 0 0, .slice none 0 0, .bool false, .bool true] XF := by rw [← hXF]; exact (W_C.set8 (.slice qW nW cW)).2.1
          clear GP_C W_C L_C H_C F_C U_C B_C
          clear hXF
          have con := Pct.Canon_any qF nF cF (atSnd 35 r) 2 XF F_F.at.1 (by omega) F_F.at.2.2.2.2
          refine con.mono ?_
          rintro e XG ⟨vZ, ef, rfl, hef, hr, hb⟩
          have HEF : Hid (ef = if (formL 2 (atSnd 35 r)).isSome then 0 else 2) := hef
          replace hr : XG.ownsRow XF.heap.size 5 1 vZ ((formL 2 (atSnd 35 r)).getD []).length (byV ((formL 2 (atSnd 35 r)).getD [])) := hr
          obtain ⟨nZ, hnZ⟩ : ∃ n, ((formL 2 (atSnd 35 r)).getD []).length = n := ⟨_, rfl⟩
          rw [hnZ] at hr
          obtain ⟨qZ, cZ, rfl, _, _, _, _, _⟩ := row_open hr
          have GF_G := By.row hr
          clear con hr hnZ hef
          have B_G := B_F.trans (hb.mono B_F.size)
          have U_G := U_F.on hb
          have F_G := F_F.on hb
          have H_G := H_F.on hb
          have L_G := L_F.on hb
          have W_G := W_F.on hb
          have GP_G := GP_F.on hb
          clear GP_F W_F L_F H_F F_F U_F B_F hb
          clear F_G
          have yb := W_G.box
          have yc0 := yb 0 _ rfl
          have yf0 := W_G.frozen 0
          have yc1 := yb 1 _ rfl
          have yf1 := W_G.frozen 1
          have yc2 := yb 2 _ rfl
          have yf2 := W_G.frozen 2
          have yc3 := yb 3 _ rfl
          have yf3 := W_G.frozen 3
          have yc4 := yb 4 _ rfl
          have yf4 := W_G.frozen 4
          have yc5 := yb 5 _ rfl
          have yf5 := W_G.frozen 5
          have yc6 := yb 6 _ rfl
          have yf6 := W_G.frozen 6
          have yc7 := yb 7 _ rfl
          have yf7 := W_G.frozen 7
          clear yb
          have zb := U_G.box
          have zc0 := zb 0 _ rfl
          have zf0 := U_G.frozen 0
          have zc1 := zb 1 _ rfl
          have zf1 := U_G.frozen 1
          have zc2 := zb 2 _ rfl
          have zf2 := U_G.frozen 2
          have zc3 := zb 3 _ rfl
          have zf3 := U_G.frozen 3
          have zc4 := zb 4 _ rfl
          have zf4 := U_G.frozen 4
          have zc5 := zb 5 _ rfl
          have zf5 := U_G.frozen 5
          have zc6 := zb 6 _ rfl
          have zf6 := U_G.frozen 6
          have zc7 := zb 7 _ rfl
          have zf7 := U_G.frozen 7
          clear zb
          obtain ⟨XZ, hXZ⟩ : ∃ Z, XG.setCell ⟨b18, 5, none⟩ (.slice qZ nZ cZ) = Z := ⟨_, rfl⟩
          have B_Z : Below w.heap.size w XZ := by rw [← hXZ]; exact B_G.setCell (p := ⟨b18, 5, none⟩) hle _
          have U_Z : UB w.heap.size zeroU XZ := by rw [← hXZ]; exact U_G.other hne _
          have H_Z := By.set (i := 5) (u := .slice qZ nZ cZ) H_G W_G (nb8 ⟨_, _, _, rfl⟩ ⟨_, _, _, rfl⟩ ⟨_, _, _, rfl⟩ ⟨_, _, _, rfl⟩ ⟨_, _, _, rfl⟩)
          rw [hXZ] at H_Z
          have L_Z := By.set (i := 5) (u := .slice qZ nZ cZ) L_G W_G (nb8 ⟨_, _, _, rfl⟩ ⟨_, _, _, rfl⟩ ⟨_, _, _, rfl⟩ ⟨_, _, _, rfl⟩ ⟨_, _, _, rfl⟩)
          rw [hXZ] at L_Z
          have GP_Z := By.set (i := 5) (u := .slice qZ nZ cZ) GP_G W_G (nb8 ⟨_, _, _, rfl⟩ ⟨_, _, _, rfl⟩ ⟨_, _, _, rfl⟩ ⟨_, _, _, rfl⟩ ⟨_, _, _, rfl⟩)
          rw [hXZ] at GP_Z
          have GF_Z := By.set (i := 5) (u := .slice qZ nZ cZ) GF_G W_G (nb8 ⟨_, _, _, rfl⟩ ⟨_, _, _, rfl⟩ ⟨_, _, _, rfl⟩ ⟨_, _, _, rfl⟩ ⟨_, _, _, rfl⟩)
          rw [hXZ] at GF_Z
          have W_Z : UB b18 #[.slice qL k cL, .slice qH nH cH, .int .i64 own, .slice qW nW cW, .slice none 0 0, .slice qZ nZ cZ, .bool false, .bool true] XZ := by rw [← hXZ]; exact (W_G.set8 (.slice qZ nZ cZ)).2.2.2
          clear GF_G GP_G W_G L_G H_G U_G B_G
          have HXZ := Lib.hid hXZ
          clear hXZ
          by_cases hp0 : (own : Int) = 0
          case pos =>
            have e0 : (((own : Int)) == 0) = true := by rw [beq_iff_eq]; exact hp0
            have hpo := HPO.out
            rw [hp0] at hpo
            clear hp0
            have HE := Lib.hid (show canonU t = .inl 2 by rw [HC.out]; exact rest_port _ r HS.out HPE.out hpo)
            go_wp2
            rw [HXZ.out]
            obtain ⟨Y, hY, hU, hkY, hbY⟩ := UB.put (show UB w.heap.size #[.slice none 0 0, .slice none 0 0, .int .i64 0, .slice none 0 0, .slice none 0 0, .slice none 0 0, .bool false, .bool false] _ from U_Z) (.slice none 0 0) (.slice none 0 0) (.int .i64 0) (.slice none 0 0) (.slice none 0 0) (.slice none 0 0) (.bool false) (.bool false)
            rw [hY]
            (try simp only [Exit.inBlock, Exit.then])
            refine bodyPost_ret (ret_url2 rfl _ _ w.heap.size _ rfl hU rfl) rfl ?_
            rw [HE.out]
            exact ⟨by decide, rfl, B_Z.trans (hbY _ (Nat.le_refl _))⟩
          have e0 : (((own : Int)) == 0) = false := by rw [beq_eq_false_iff_ne]; exact hp0
          have hpo : portC (Ref.lowL s) (atSnd 58 (srvL r)) (atOk 58 (srvL r)) ≠ 0 := by rw [HPO.out]; exact hp0
          cases hpp : pathL (pthL r) with
          | none =>
            obtain rfl : ep = 2 := by have := HEP.out; rw [hpp] at this; exact this
            have hpp2 := Lib.hid hpp
            clear hpp
            have HE := Lib.hid (show canonU t = .inl 2 by rw [HC.out]; exact rest_path _ r HS.out HPE.out hpp2.out)
            go_wp2
            rw [HXZ.out]
            obtain ⟨Y, hY, hU, hkY, hbY⟩ := UB.put (show UB w.heap.size #[.slice none 0 0, .slice none 0 0, .int .i64 0, .slice none 0 0, .slice none 0 0, .slice none 0 0, .bool false, .bool false] _ from U_Z) (.slice none 0 0) (.slice none 0 0) (.int .i64 0) (.slice none 0 0) (.slice none 0 0) (.slice none 0 0) (.bool false) (.bool false)
            rw [hY]
            (try simp only [Exit.inBlock, Exit.then])
            refine bodyPost_ret (ret_url2 rfl _ _ w.heap.size _ rfl hU rfl) rfl ?_
            rw [HE.out]
            exact ⟨by decide, rfl, B_Z.trans (hbY _ (Nat.le_refl _))⟩
          | some pp =>
            obtain rfl : ep = 0 := by have := HEP.out; rw [hpp] at this; exact this
            cases hff : formL 2 (atSnd 35 r) with
            | none =>
              obtain rfl : ef = 2 := by have := HEF.out; rw [hff] at this; exact this
              have h4 := Lib.hid (show optC (atOk 35 r) (atSnd 35 r) = none by rw [Hbf.out]; exact hff)
              clear hff hpp
              have HE := Lib.hid (show canonU t = .inl 2 by rw [HC.out]; exact rest_frag _ r HS.out HPE.out h4.out)
              go_wp2
              rw [HXZ.out]
              obtain ⟨Y, hY, hU, hkY, hbY⟩ := UB.put (show UB w.heap.size #[.slice none 0 0, .slice none 0 0, .int .i64 0, .slice none 0 0, .slice none 0 0, .slice none 0 0, .bool false, .bool false] _ from U_Z) (.slice none 0 0) (.slice none 0 0) (.int .i64 0) (.slice none 0 0) (.slice none 0 0) (.slice none 0 0) (.bool false) (.bool false)
              rw [hY]
              (try simp only [Exit.inBlock, Exit.then])
              refine bodyPost_ret (ret_url2 rfl _ _ w.heap.size _ rfl hU rfl) rfl ?_
              rw [HE.out]
              exact ⟨by decide, rfl, B_Z.trans (hbY _ (Nat.le_refl _))⟩
            | some ff =>
              obtain rfl : ef = 0 := by have := HEF.out; rw [hff] at this; exact this
              have h3 : optC (atOk 63 (atFst 35 r)) (atSnd 63 (atFst 35 r)) = some [] := by rw [Hbq.out]; rfl
              have h4 : optC (atOk 35 r) (atSnd 35 r) = some ff := by rw [Hbf.out]; exact hff
              obtain ⟨pn, hpn, hrg⟩ := rest_good _ r HS.out HPE.out pp [] ff hpo hpp h3 h4
              rw [Hbq.out, Hbf.out] at hrg
              have hpn2 : (own : Int) = (pn : Int) := by rw [← HPO.out]; exact hpn
              have HE := Lib.hid (HC.out.trans hrg)
              have HPN := Lib.hid hpn2
              rw [hpp] at GP_Z
              rw [hff] at GF_Z
              clear hpo hrg hpn hpn2 h3 h4 hpp hff hp0
              go_wp2
              rw [HXZ.out]
              obtain ⟨Y, hY, hU, hkY, hbY⟩ := UB.put (show UB w.heap.size #[.slice none 0 0, .slice none 0 0, .int .i64 0, .slice none 0 0, .slice none 0 0, .slice none 0 0, .bool false, .bool false] _ from U_Z) (.slice qL k cL) (.slice qH nH cH) (.int .i64 own) (.slice qW nW cW) (.slice none 0 0) (.slice qZ nZ cZ) (.bool false) (.bool true)
              rw [hY]
              (try simp only [Exit.inBlock, Exit.then])
              refine bodyPost_ret (ret_url2 rfl _ _ w.heap.size _ rfl hU rfl) rfl ?_
              rw [HE.out]
              refine ⟨_, rfl, ⟨qL, k, cL, qH, nH, cH, qW, nW, cW, none, 0, 0, qZ, nZ, cZ, by rw [HPN.out], L_Z.away U_Z nbz hkY, H_Z.away U_Z nbz hkY, GP_Z.away U_Z nbz hkY, by_nil _, GF_Z.away U_Z nbz hkY⟩, B_Z.trans (hbY _ (Nat.le_refl _))⟩
      | true =>
        have yb := W_C.box
        have yc3 := yb 3 _ rfl
        have yf3 := W_C.frozen 3
        clear yb
        go_wp2_with fail
        clear yc3 yf3
        obtain ⟨XD, hXD⟩ : ∃ Z, XC.setCell ⟨b18, 3, none⟩ (.slice qW nW cW) = Z := ⟨_, rfl⟩
        rw [hXD]
        have B_D : Below w.heap.size w XD := by rw [← hXD]; exact B_C.setCell (p := ⟨b18, 3, none⟩) hle _
        have U_D : UB w.heap.size zeroU XD := by rw [← hXD]; exact U_C.other hne _
        have F_D := By.set (i := 3) (u := .slice qW nW cW) F_C W_C (nb8 ⟨_, _, _, rfl⟩ ⟨_, _, _, rfl⟩ ⟨_, _, _, rfl⟩ ⟨_, _, _, rfl⟩ ⟨_, _, _, rfl⟩)
        rw [hXD] at F_D
        have Q_D := By.set (i := 3) (u := .slice qW nW cW) Q_C W_C (nb8 ⟨_, _, _, rfl⟩ ⟨_, _, _, rfl⟩ ⟨_, _, _, rfl⟩ ⟨_, _, _, rfl⟩ ⟨_, _, _, rfl⟩)
        rw [hXD] at Q_D
        have H_D := By.set (i := 3) (u := .slice qW nW cW) H_C W_C (nb8 ⟨_, _, _, rfl⟩ ⟨_, _, _, rfl⟩ ⟨_, _, _, rfl⟩ ⟨_, _, _, rfl⟩ ⟨_, _, _, rfl⟩)
        rw [hXD] at H_D
        have L_D := By.set (i := 3) (u := .slice qW nW cW) L_C W_C (nb8 ⟨_, _, _, rfl⟩ ⟨_, _, _, rfl⟩ ⟨_, _, _, rfl⟩ ⟨_, _, _, rfl⟩ ⟨_, _, _, rfl⟩)
        rw [hXD] at L_D
        have GP_D := By.set (i := 3) (u := .slice qW nW cW) GP_C W_C (nb8 ⟨_, _, _, rfl⟩ ⟨_, _, _, rfl⟩ ⟨_, _, _, rfl⟩ ⟨_, _, _, rfl⟩ ⟨_, _, _, rfl⟩)
        rw [hXD] at GP_D
        have W_D : UB b18 #[.slice qL k cL, .slice qH nH cH, .int .i64 own, .slice qW nW cW, .slice none 0 0, .slice none 0 0, .bool true, .bool bf] XD := by rw [← hXD]; exact (W_C.set8 (.slice qW nW cW)).2.1
        clear GP_C W_C L_C H_C Q_C F_C U_C B_C
        clear hXD
        have con := Pct.Canon_any qQ nQ cQ (atSnd 63 (atFst 35 r)) 2 XD Q_D.at.1 (by omega) Q_D.at.2.2.2.2
        refine con.mono ?_
        rintro e XE ⟨vY, eq, rfl, heq, hr, hb⟩
        have HEQ : Hid (eq = if (formL 2 (atSnd 63 (atFst 35 r))).isSome then 0 else 2) := heq
        replace hr : XE.ownsRow XD.heap.size 5 1 vY ((formL 2 (atSnd 63 (atFst 35 r))).getD []).length (byV ((formL 2 (atSnd 63 (atFst 35 r))).getD [])) := hr
        obtain ⟨nY, hnY⟩ : ∃ n, ((formL 2 (atSnd 63 (atFst 35 r))).getD []).length = n := ⟨_, rfl⟩
        rw [hnY] at hr
        obtain ⟨qY, cY, rfl, _, _, _, _, _⟩ := row_open hr
        have GQ_E := By.row hr
        clear con hr hnY heq
        have B_E := B_D.trans (hb.mono B_D.size)
        have U_E := U_D.on hb
        have F_E := F_D.on hb
        have Q_E := Q_D.on hb
        have H_E := H_D.on hb
        have L_E := L_D.on hb
        have W_E := W_D.on hb
        have GP_E := GP_D.on hb
        clear GP_D W_D L_D H_D Q_D F_D U_D B_D hb
        clear Q_E
        cases bf with
        | false =>
          clear F_E
          have yb := W_E.box
          have yc0 := yb 0 _ rfl
          have yf0 := W_E.frozen 0
          have yc1 := yb 1 _ rfl
          have yf1 := W_E.frozen 1
          have yc2 := yb 2 _ rfl
          have yf2 := W_E.frozen 2
          have yc3 := yb 3 _ rfl
          have yf3 := W_E.frozen 3
          have yc4 := yb 4 _ rfl
          have yf4 := W_E.frozen 4
          have yc5 := yb 5 _ rfl
          have yf5 := W_E.frozen 5
          have yc6 := yb 6 _ rfl
          have yf6 := W_E.frozen 6
          have yc7 := yb 7 _ rfl
          have yf7 := W_E.frozen 7
          clear yb
          have zb := U_E.box
          have zc0 := zb 0 _ rfl
          have zf0 := U_E.frozen 0
          have zc1 := zb 1 _ rfl
          have zf1 := U_E.frozen 1
          have zc2 := zb 2 _ rfl
          have zf2 := U_E.frozen 2
          have zc3 := zb 3 _ rfl
          have zf3 := U_E.frozen 3
          have zc4 := zb 4 _ rfl
          have zf4 := U_E.frozen 4
          have zc5 := zb 5 _ rfl
          have zf5 := U_E.frozen 5
          have zc6 := zb 6 _ rfl
          have zf6 := U_E.frozen 6
          have zc7 := zb 7 _ rfl
          have zf7 := U_E.frozen 7
          clear zb
          obtain ⟨XZ, hXZ⟩ : ∃ Z, XE.setCell ⟨b18, 4, none⟩ (.slice qY nY cY) = Z := ⟨_, rfl⟩
          have B_Z : Below w.heap.size w XZ := by rw [← hXZ]; exact B_E.setCell (p := ⟨b18, 4, none⟩) hle _
          have U_Z : UB w.heap.size zeroU XZ := by rw [← hXZ]; exact U_E.other hne _
          have H_Z := By.set (i := 4) (u := .slice qY nY cY) H_E W_E (nb8 ⟨_, _, _, rfl⟩ ⟨_, _, _, rfl⟩ ⟨_, _, _, rfl⟩ ⟨_, _, _, rfl⟩ ⟨_, _, _, rfl⟩)
          rw [hXZ] at H_Z
          have L_Z := By.set (i := 4) (u := .slice qY nY cY) L_E W_E (nb8 ⟨_, _, _, rfl⟩ ⟨_, _, _, rfl⟩ ⟨_, _, _, rfl⟩ ⟨_, _, _, rfl⟩ ⟨_, _, _, rfl⟩)
          rw [hXZ] at L_Z
          have GP_Z := By.set (i := 4) (u := .slice qY nY cY) GP_E W_E (nb8 ⟨_, _, _, rfl⟩ ⟨_, _, _, rfl⟩ ⟨_, _, _, rfl⟩ ⟨_, _, _, rfl⟩ ⟨_, _, _, rfl⟩)
          rw [hXZ] at GP_Z
          have GQ_Z := By.set (i := 4) (u := .slice qY nY cY) GQ_E W_E (nb8 ⟨_, _, _, rfl⟩ ⟨_, _, _, rfl⟩ ⟨_, _, _, rfl⟩ ⟨_, _, _, rfl⟩ ⟨_, _, _, rfl⟩)
          rw [hXZ] at GQ_Z
          have W_Z : UB b18 #[.slice qL k cL, .slice qH nH cH, .int .i64 own, .slice qW nW cW, .slice qY nY cY, .slice none 0 0, .bool true, .bool false] XZ := by rw [← hXZ]; exact (W_E.set8 (.slice qY nY cY)).2.2.1
          clear GQ_E GP_E W_E L_E H_E U_E B_E
          have HXZ := Lib.hid hXZ
          clear hXZ
          by_cases hp0 : (own : Int) = 0
          case pos =>
            have e0 : (((own : Int)) == 0) = true := by rw [beq_iff_eq]; exact hp0
            have hpo := HPO.out
            rw [hp0] at hpo
            clear hp0
            have HE := Lib.hid (show canonU t = .inl 2 by rw [HC.out]; exact rest_port _ r HS.out HPE.out hpo)
            go_wp2
            rw [HXZ.out]
            obtain ⟨Y, hY, hU, hkY, hbY⟩ := UB.put (show UB w.heap.size #[.slice none 0 0, .slice none 0 0, .int .i64 0, .slice none 0 0, .slice none 0 0, .slice none 0 0, .bool false, .bool false] _ from U_Z) (.slice none 0 0) (.slice none 0 0) (.int .i64 0) (.slice none 0 0) (.slice none 0 0) (.slice none 0 0) (.bool false) (.bool false)
            rw [hY]
            (try simp only [Exit.inBlock, Exit.then])
            refine bodyPost_ret (ret_url2 rfl _ _ w.heap.size _ rfl hU rfl) rfl ?_
            rw [HE.out]
            exact ⟨by decide, rfl, B_Z.trans (hbY _ (Nat.le_refl _))⟩
          have e0 : (((own : Int)) == 0) = false := by rw [beq_eq_false_iff_ne]; exact hp0
          have hpo : portC (Ref.lowL s) (atSnd 58 (srvL r)) (atOk 58 (srvL r)) ≠ 0 := by rw [HPO.out]; exact hp0
          cases hpp : pathL (pthL r) with
          | none =>
            obtain rfl : ep = 2 := by have := HEP.out; rw [hpp] at this; exact this
            have hpp2 := Lib.hid hpp
            clear hpp
            have HE := Lib.hid (show canonU t = .inl 2 by rw [HC.out]; exact rest_path _ r HS.out HPE.out hpp2.out)
            go_wp2
            rw [HXZ.out]
            obtain ⟨Y, hY, hU, hkY, hbY⟩ := UB.put (show UB w.heap.size #[.slice none 0 0, .slice none 0 0, .int .i64 0, .slice none 0 0, .slice none 0 0, .slice none 0 0, .bool false, .bool false] _ from U_Z) (.slice none 0 0) (.slice none 0 0) (.int .i64 0) (.slice none 0 0) (.slice none 0 0) (.slice none 0 0) (.bool false) (.bool false)
            rw [hY]
            (try simp only [Exit.inBlock, Exit.then])
            refine bodyPost_ret (ret_url2 rfl _ _ w.heap.size _ rfl hU rfl) rfl ?_
            rw [HE.out]
            exact ⟨by decide, rfl, B_Z.trans (hbY _ (Nat.le_refl _))⟩
          | some pp =>
            obtain rfl : ep = 0 := by have := HEP.out; rw [hpp] at this; exact this
            cases hqq : formL 2 (atSnd 63 (atFst 35 r)) with
            | none =>
              obtain rfl : eq = 2 := by have := HEQ.out; rw [hqq] at this; exact this
              have h3 := Lib.hid (show optC (atOk 63 (atFst 35 r)) (atSnd 63 (atFst 35 r)) = none by rw [Hbq.out]; exact hqq)
              clear hqq hpp
              have HE := Lib.hid (show canonU t = .inl 2 by rw [HC.out]; exact rest_query _ r HS.out HPE.out h3.out)
              go_wp2
              rw [HXZ.out]
              obtain ⟨Y, hY, hU, hkY, hbY⟩ := UB.put (show UB w.heap.size #[.slice none 0 0, .slice none 0 0, .int .i64 0, .slice none 0 0, .slice none 0 0, .slice none 0 0, .bool false, .bool false] _ from U_Z) (.slice none 0 0) (.slice none 0 0) (.int .i64 0) (.slice none 0 0) (.slice none 0 0) (.slice none 0 0) (.bool false) (.bool false)
              rw [hY]
              (try simp only [Exit.inBlock, Exit.then])
              refine bodyPost_ret (ret_url2 rfl _ _ w.heap.size _ rfl hU rfl) rfl ?_
              rw [HE.out]
              exact ⟨by decide, rfl, B_Z.trans (hbY _ (Nat.le_refl _))⟩
            | some qq =>
              obtain rfl : eq = 0 := by have := HEQ.out; rw [hqq] at this; exact this
              have h3 : optC (atOk 63 (atFst 35 r)) (atSnd 63 (atFst 35 r)) = some qq := by rw [Hbq.out]; exact hqq
              have h4 : optC (atOk 35 r) (atSnd 35 r) = some [] := by rw [Hbf.out]; rfl
              obtain ⟨pn, hpn, hrg⟩ := rest_good _ r HS.out HPE.out pp qq [] hpo hpp h3 h4
              rw [Hbq.out, Hbf.out] at hrg
              have hpn2 : (own : Int) = (pn : Int) := by rw [← HPO.out]; exact hpn
              have HE := Lib.hid (HC.out.trans hrg)
              have HPN := Lib.hid hpn2
              rw [hpp] at GP_Z
              rw [hqq] at GQ_Z
              clear hpo hrg hpn hpn2 h3 h4 hpp hqq  hp0
              go_wp2
              rw [HXZ.out]
              obtain ⟨Y, hY, hU, hkY, hbY⟩ := UB.put (show UB w.heap.size #[.slice none 0 0, .slice none 0 0, .int .i64 0, .slice none 0 0, .slice none 0 0, .slice none 0 0, .bool false, .bool false] _ from U_Z) (.slice qL k cL) (.slice qH nH cH) (.int .i64 own) (.slice qW nW cW) (.slice qY nY cY) (.slice none 0 0) (.bool true) (.bool false)
              rw [hY]
              (try simp only [Exit.inBlock, Exit.then])
              refine bodyPost_ret (ret_url2 rfl _ _ w.heap.size _ rfl hU rfl) rfl ?_
              rw [HE.out]
              refine ⟨_, rfl, ⟨qL, k, cL, qH, nH, cH, qW, nW, cW, qY, nY, cY, none, 0, 0, by rw [HPN.out], L_Z.away U_Z nbz hkY, H_Z.away U_Z nbz hkY, GP_Z.away U_Z nbz hkY, GQ_Z.away U_Z nbz hkY, by_nil _⟩, B_Z.trans (hbY _ (Nat.le_refl _))⟩
        | true =>
          have yb := W_E.box
          have yc4 := yb 4 _ rfl
          have yf4 := W_E.frozen 4
          clear yb
          go_wp2_with fail
          clear yc4 yf4
          obtain ⟨XF, hXF⟩ : ∃ Z, XE.setCell ⟨b18, 4, none⟩ (.slice qY nY cY) = Z := ⟨_, rfl⟩
          rw [hXF]
          have B_F : Below w.heap.size w XF := by rw [← hXF]; exact B_E.setCell (p := ⟨b18, 4, none⟩) hle _
          have U_F : UB w.heap.size zeroU XF := by rw [← hXF]; exact U_E.other hne _
          have F_F := By.set (i := 4) (u := .slice qY nY cY) F_E W_E (nb8 ⟨_, _, _, rfl⟩ ⟨_, _, _, rfl⟩ ⟨_, _, _, rfl⟩ ⟨_, _, _, rfl⟩ ⟨_, _, _, rfl⟩)
          rw [hXF] at F_F
          have H_F := By.set (i := 4) (u := .slice qY nY cY) H_E W_E (nb8 ⟨_, _, _, rfl⟩ ⟨_, _, _, rfl⟩ ⟨_, _, _, rfl⟩ ⟨_, _, _, rfl⟩ ⟨_, _, _, rfl⟩)
          rw [hXF] at H_F
          have L_F := By.set (i := 4) (u := .slice qY nY cY) L_E W_E (nb8 ⟨_, _, _, rfl⟩ ⟨_, _, _, rfl⟩ ⟨_, _, _, rfl⟩ ⟨_, _, _, rfl⟩ ⟨_, _, _, rfl⟩)
          rw [hXF] at L_F
          have GP_F := By.set (i := 4) (u := .slice qY nY cY) GP_E W_E (nb8 ⟨_, _, _, rfl⟩ ⟨_, _, _, rfl⟩ ⟨_, _, _, rfl⟩ ⟨_, _, _, rfl⟩ ⟨_, _, _, rfl⟩)
          rw [hXF] at GP_F
          have GQ_F := By.set (i := 4) (u := .slice qY nY cY) GQ_E W_E (nb8 ⟨_, _, _, rfl⟩ ⟨_, _, _, rfl⟩ ⟨_, _, _, rfl⟩ ⟨_, _, _, rfl⟩ ⟨_, _, _, rfl⟩)
          rw [hXF] at GQ_F
          have W_F : UB b18 #[.slice qL k cL, .slice qH nH cH, .int .i64 own, .slice qW nW cW, .slice qY nY cY, .slice none 0 0, .bool true, .bool true] XF := by rw [← hXF]; exact (W_E.set8 (.slice qY nY cY)).2.2.1
          clear GQ_E GP_E W_E L_E H_E F_E U_E B_E
          clear hXF
          have con := Pct.Canon_any qF nF cF (atSnd 35 r) 2 XF F_F.at.1 (by omega) F_F.at.2.2.2.2
          refine con.mono ?_
          rintro e XG ⟨vZ, ef, rfl, hef, hr, hb⟩
          have HEF : Hid (ef = if (formL 2 (atSnd 35 r)).isSome then 0 else 2) := hef
          replace hr : XG.ownsRow XF.heap.size 5 1 vZ ((formL 2 (atSnd 35 r)).getD []).length (byV ((formL 2 (atSnd 35 r)).getD [])) := hr
          obtain ⟨nZ, hnZ⟩ : ∃ n, ((formL 2 (atSnd 35 r)).getD []).length = n := ⟨_, rfl⟩
          rw [hnZ] at hr
          obtain ⟨qZ, cZ, rfl, _, _, _, _, _⟩ := row_open hr
          have GF_G := By.row hr
          clear con hr hnZ hef
          have B_G := B_F.trans (hb.mono B_F.size)
          have U_G := U_F.on hb
          have F_G := F_F.on hb
          have H_G := H_F.on hb
          have L_G := L_F.on hb
          have W_G := W_F.on hb
          have GP_G := GP_F.on hb
          have GQ_G := GQ_F.on hb
          clear GQ_F GP_F W_F L_F H_F F_F U_F B_F hb
          clear F_G
          have yb := W_G.box
          have yc0 := yb 0 _ rfl
          have yf0 := W_G.frozen 0
          have yc1 := yb 1 _ rfl
          have yf1 := W_G.frozen 1
          have yc2 := yb 2 _ rfl
          have yf2 := W_G.frozen 2
          have yc3 := yb 3 _ rfl
          have yf3 := W_G.frozen 3
          have yc4 := yb 4 _ rfl
          have yf4 := W_G.frozen 4
          have yc5 := yb 5 _ rfl
          have yf5 := W_G.frozen 5
          have yc6 := yb 6 _ rfl
          have yf6 := W_G.frozen 6
          have yc7 := yb 7 _ rfl
          have yf7 := W_G.frozen 7
          clear yb
          have zb := U_G.box
          have zc0 := zb 0 _ rfl
          have zf0 := U_G.frozen 0
          have zc1 := zb 1 _ rfl
          have zf1 := U_G.frozen 1
          have zc2 := zb 2 _ rfl
          have zf2 := U_G.frozen 2
          have zc3 := zb 3 _ rfl
          have zf3 := U_G.frozen 3
          have zc4 := zb 4 _ rfl
          have zf4 := U_G.frozen 4
          have zc5 := zb 5 _ rfl
          have zf5 := U_G.frozen 5
          have zc6 := zb 6 _ rfl
          have zf6 := U_G.frozen 6
          have zc7 := zb 7 _ rfl
          have zf7 := U_G.frozen 7
          clear zb
          obtain ⟨XZ, hXZ⟩ : ∃ Z, XG.setCell ⟨b18, 5, none⟩ (.slice qZ nZ cZ) = Z := ⟨_, rfl⟩
          have B_Z : Below w.heap.size w XZ := by rw [← hXZ]; exact B_G.setCell (p := ⟨b18, 5, none⟩) hle _
          have U_Z : UB w.heap.size zeroU XZ := by rw [← hXZ]; exact U_G.other hne _
          have H_Z := By.set (i := 5) (u := .slice qZ nZ cZ) H_G W_G (nb8 ⟨_, _, _, rfl⟩ ⟨_, _, _, rfl⟩ ⟨_, _, _, rfl⟩ ⟨_, _, _, rfl⟩ ⟨_, _, _, rfl⟩)
          rw [hXZ] at H_Z
          have L_Z := By.set (i := 5) (u := .slice qZ nZ cZ) L_G W_G (nb8 ⟨_, _, _, rfl⟩ ⟨_, _, _, rfl⟩ ⟨_, _, _, rfl⟩ ⟨_, _, _, rfl⟩ ⟨_, _, _, rfl⟩)
          rw [hXZ] at L_Z
          have GP_Z := By.set (i := 5) (u := .slice qZ nZ cZ) GP_G W_G (nb8 ⟨_, _, _, rfl⟩ ⟨_, _, _, rfl⟩ ⟨_, _, _, rfl⟩ ⟨_, _, _, rfl⟩ ⟨_, _, _, rfl⟩)
          rw [hXZ] at GP_Z
          have GQ_Z := By.set (i := 5) (u := .slice qZ nZ cZ) GQ_G W_G (nb8 ⟨_, _, _, rfl⟩ ⟨_, _, _, rfl⟩ ⟨_, _, _, rfl⟩ ⟨_, _, _, rfl⟩ ⟨_, _, _, rfl⟩)
          rw [hXZ] at GQ_Z
          have GF_Z := By.set (i := 5) (u := .slice qZ nZ cZ) GF_G W_G (nb8 ⟨_, _, _, rfl⟩ ⟨_, _, _, rfl⟩ ⟨_, _, _, rfl⟩ ⟨_, _, _, rfl⟩ ⟨_, _, _, rfl⟩)
          rw [hXZ] at GF_Z
          have W_Z : UB b18 #[.slice qL k cL, .slice qH nH cH, .int .i64 own, .slice qW nW cW, .slice qY nY cY, .slice qZ nZ cZ, .bool true, .bool true] XZ := by rw [← hXZ]; exact (W_G.set8 (.slice qZ nZ cZ)).2.2.2
          clear GF_G GQ_G GP_G W_G L_G H_G U_G B_G
          have HXZ := Lib.hid hXZ
          clear hXZ
          by_cases hp0 : (own : Int) = 0
          case pos =>
            have e0 : (((own : Int)) == 0) = true := by rw [beq_iff_eq]; exact hp0
            have hpo := HPO.out
            rw [hp0] at hpo
            clear hp0
            have HE := Lib.hid (show canonU t = .inl 2 by rw [HC.out]; exact rest_port _ r HS.out HPE.out hpo)
            go_wp2
            rw [HXZ.out]
            obtain ⟨Y, hY, hU, hkY, hbY⟩ := UB.put (show UB w.heap.size #[.slice none 0 0, .slice none 0 0, .int .i64 0, .slice none 0 0, .slice none 0 0, .slice none 0 0, .bool false, .bool false] _ from U_Z) (.slice none 0 0) (.slice none 0 0) (.int .i64 0) (.slice none 0 0) (.slice none 0 0) (.slice none 0 0) (.bool false) (.bool false)
            rw [hY]
            (try simp only [Exit.inBlock, Exit.then])
            refine bodyPost_ret (ret_url2 rfl _ _ w.heap.size _ rfl hU rfl) rfl ?_
            rw [HE.out]
            exact ⟨by decide, rfl, B_Z.trans (hbY _ (Nat.le_refl _))⟩
          have e0 : (((own : Int)) == 0) = false := by rw [beq_eq_false_iff_ne]; exact hp0
          have hpo : portC (Ref.lowL s) (atSnd 58 (srvL r)) (atOk 58 (srvL r)) ≠ 0 := by rw [HPO.out]; exact hp0
          cases hpp : pathL (pthL r) with
          | none =>
            obtain rfl : ep = 2 := by have := HEP.out; rw [hpp] at this; exact this
            have hpp2 := Lib.hid hpp
            clear hpp
            have HE := Lib.hid (show canonU t = .inl 2 by rw [HC.out]; exact rest_path _ r HS.out HPE.out hpp2.out)
            go_wp2
            rw [HXZ.out]
            obtain ⟨Y, hY, hU, hkY, hbY⟩ := UB.put (show UB w.heap.size #[.slice none 0 0, .slice none 0 0, .int .i64 0, .slice none 0 0, .slice none 0 0, .slice none 0 0, .bool false, .bool false] _ from U_Z) (.slice none 0 0) (.slice none 0 0) (.int .i64 0) (.slice none 0 0) (.slice none 0 0) (.slice none 0 0) (.bool false) (.bool false)
            rw [hY]
            (try simp only [Exit.inBlock, Exit.then])
            refine bodyPost_ret (ret_url2 rfl _ _ w.heap.size _ rfl hU rfl) rfl ?_
            rw [HE.out]
            exact ⟨by decide, rfl, B_Z.trans (hbY _ (Nat.le_refl _))⟩
          | some pp =>
            obtain rfl : ep = 0 := by have := HEP.out; rw [hpp] at this; exact this
            cases hqq : formL 2 (atSnd 63 (atFst 35 r)) with
            | none =>
              obtain rfl : eq = 2 := by have := HEQ.out; rw [hqq] at this; exact this
              have h3 := Lib.hid (show optC (atOk 63 (atFst 35 r)) (atSnd 63 (atFst 35 r)) = none by rw [Hbq.out]; exact hqq)
              clear hqq hpp
              have HE := Lib.hid (show canonU t = .inl 2 by rw [HC.out]; exact rest_query _ r HS.out HPE.out h3.out)
              go_wp2
              rw [HXZ.out]
              obtain ⟨Y, hY, hU, hkY, hbY⟩ := UB.put (show UB w.heap.size #[.slice none 0 0, .slice none 0 0, .int .i64 0, .slice none 0 0, .slice none 0 0, .slice none 0 0, .bool false, .bool false] _ from U_Z) (.slice none 0 0) (.slice none 0 0) (.int .i64 0) (.slice none 0 0) (.slice none 0 0) (.slice none 0 0) (.bool false) (.bool false)
              rw [hY]
              (try simp only [Exit.inBlock, Exit.then])
              refine bodyPost_ret (ret_url2 rfl _ _ w.heap.size _ rfl hU rfl) rfl ?_
              rw [HE.out]
              exact ⟨by decide, rfl, B_Z.trans (hbY _ (Nat.le_refl _))⟩
            | some qq =>
              obtain rfl : eq = 0 := by have := HEQ.out; rw [hqq] at this; exact this
              cases hff : formL 2 (atSnd 35 r) with
              | none =>
                obtain rfl : ef = 2 := by have := HEF.out; rw [hff] at this; exact this
                have h4 := Lib.hid (show optC (atOk 35 r) (atSnd 35 r) = none by rw [Hbf.out]; exact hff)
                clear hff hpp
                have HE := Lib.hid (show canonU t = .inl 2 by rw [HC.out]; exact rest_frag _ r HS.out HPE.out h4.out)
                go_wp2
                rw [HXZ.out]
                obtain ⟨Y, hY, hU, hkY, hbY⟩ := UB.put (show UB w.heap.size #[.slice none 0 0, .slice none 0 0, .int .i64 0, .slice none 0 0, .slice none 0 0, .slice none 0 0, .bool false, .bool false] _ from U_Z) (.slice none 0 0) (.slice none 0 0) (.int .i64 0) (.slice none 0 0) (.slice none 0 0) (.slice none 0 0) (.bool false) (.bool false)
                rw [hY]
                (try simp only [Exit.inBlock, Exit.then])
                refine bodyPost_ret (ret_url2 rfl _ _ w.heap.size _ rfl hU rfl) rfl ?_
                rw [HE.out]
                exact ⟨by decide, rfl, B_Z.trans (hbY _ (Nat.le_refl _))⟩
              | some ff =>
                obtain rfl : ef = 0 := by have := HEF.out; rw [hff] at this; exact this
                have h3 : optC (atOk 63 (atFst 35 r)) (atSnd 63 (atFst 35 r)) = some qq := by rw [Hbq.out]; exact hqq
                have h4 : optC (atOk 35 r) (atSnd 35 r) = some ff := by rw [Hbf.out]; exact hff
                obtain ⟨pn, hpn, hrg⟩ := rest_good _ r HS.out HPE.out pp qq ff hpo hpp h3 h4
                rw [Hbq.out, Hbf.out] at hrg
                have hpn2 : (own : Int) = (pn : Int) := by rw [← HPO.out]; exact hpn
                have HE := Lib.hid (HC.out.trans hrg)
                have HPN := Lib.hid hpn2
                rw [hpp] at GP_Z
                rw [hqq] at GQ_Z
                rw [hff] at GF_Z
                clear hpo hrg hpn hpn2 h3 h4 hpp hqq hff hp0
                go_wp2
                rw [HXZ.out]
                obtain ⟨Y, hY, hU, hkY, hbY⟩ := UB.put (show UB w.heap.size #[.slice none 0 0, .slice none 0 0, .int .i64 0, .slice none 0 0, .slice none 0 0, .slice none 0 0, .bool false, .bool false] _ from U_Z) (.slice qL k cL) (.slice qH nH cH) (.int .i64 own) (.slice qW nW cW) (.slice qY nY cY) (.slice qZ nZ cZ) (.bool true) (.bool true)
                rw [hY]
                (try simp only [Exit.inBlock, Exit.then])
                refine bodyPost_ret (ret_url2 rfl _ _ w.heap.size _ rfl hU rfl) rfl ?_
                rw [HE.out]
                refine ⟨_, rfl, ⟨qL, k, cL, qH, nH, cH, qW, nW, cW, qY, nY, cY, qZ, nZ, cZ, by rw [HPN.out], L_Z.away U_Z nbz hkY, H_Z.away U_Z nbz hkY, GP_Z.away U_Z nbz hkY, GQ_Z.away U_Z nbz hkY, GF_Z.away U_Z nbz hkY⟩, B_Z.trans (hbY _ (Nat.le_refl _))⟩
    | true =>
      have con := Number_any qD nD cD (atSnd 58 (srvL r)) 65535 XA D_A.at.1 (by omega) D_A.at.2.2.2.2 (by decide) (by decide)
      obtain ⟨pv, hpv⟩ : ∃ p, (numOf 65535 (atSnd 58 (srvL r))).getD 0 = p := ⟨_, rfl⟩
      have HPO := Lib.hid (show portC (Ref.lowL s) (atSnd 58 (srvL r)) (atOk 58 (srvL r)) = pv by rw [Hbp.out, ← hpv]; rfl)
      unfold numV at con
      rw [hpv] at con
      generalize (numOf 65535 (atSnd 58 (srvL r))).isSome = ps at con
      clear hpv
      go_wp2_with fail
      rw [HB18.out, HXA.out]
      refine con.mono ?_
      rintro e XB ⟨rfl, rfl⟩
      clear con
      clear D_A
      have yb := W_A.box
      have yc2 := yb 2 _ rfl
      have yf2 := W_A.frozen 2
      clear yb
      go_wp2_with fail
      clear yc2 yf2
      obtain ⟨XB, hXB⟩ : ∃ Z, XA.setCell ⟨b18, 2, none⟩ (.int .i64 pv) = Z := ⟨_, rfl⟩
      rw [hXB]
      have B_B : Below w.heap.size w XB := by rw [← hXB]; exact B_A.setCell (p := ⟨b18, 2, none⟩) hle _
      have U_B : UB w.heap.size zeroU XB := by rw [← hXB]; exact U_A.other hne _
      have F_B := By.set (i := 2) (u := .int .i64 pv) F_A W_A (nb8 ⟨_, _, _, rfl⟩ ⟨_, _, _, rfl⟩ ⟨_, _, _, rfl⟩ ⟨_, _, _, rfl⟩ ⟨_, _, _, rfl⟩)
      rw [hXB] at F_B
      have Q_B := By.set (i := 2) (u := .int .i64 pv) Q_A W_A (nb8 ⟨_, _, _, rfl⟩ ⟨_, _, _, rfl⟩ ⟨_, _, _, rfl⟩ ⟨_, _, _, rfl⟩ ⟨_, _, _, rfl⟩)
      rw [hXB] at Q_B
      have P_B := By.set (i := 2) (u := .int .i64 pv) P_A W_A (nb8 ⟨_, _, _, rfl⟩ ⟨_, _, _, rfl⟩ ⟨_, _, _, rfl⟩ ⟨_, _, _, rfl⟩ ⟨_, _, _, rfl⟩)
      rw [hXB] at P_B
      have H_B := By.set (i := 2) (u := .int .i64 pv) H_A W_A (nb8 ⟨_, _, _, rfl⟩ ⟨_, _, _, rfl⟩ ⟨_, _, _, rfl⟩ ⟨_, _, _, rfl⟩ ⟨_, _, _, rfl⟩)
      rw [hXB] at H_B
      have L_B := By.set (i := 2) (u := .int .i64 pv) L_A W_A (nb8 ⟨_, _, _, rfl⟩ ⟨_, _, _, rfl⟩ ⟨_, _, _, rfl⟩ ⟨_, _, _, rfl⟩ ⟨_, _, _, rfl⟩)
      rw [hXB] at L_B
      have W_B : UB b18 #[.slice qL k cL, .slice qH nH cH, .int .i64 pv, .slice none 0 0, .slice none 0 0, .slice none 0 0, .bool bq, .bool bf] XB := by rw [← hXB]; exact (W_A.set8 (.int .i64 pv)).1
      clear W_A L_A H_A P_A Q_A F_A U_A B_A
      clear hXB
      have con := canonOfPath_any qP nP cP (pthL r) XB P_B (by omega) HPF.out
      refine con.mono ?_
      rintro e XC ⟨vW, ep, rfl, hep, hr, hb⟩
      have HEP : Hid (ep = if (pathL (pthL r)).isSome then 0 else 2) := hep
      replace hr : XC.ownsRow XB.heap.size 5 1 vW ((pathL (pthL r)).getD []).length (byV ((pathL (pthL r)).getD [])) := hr
      obtain ⟨nW, hnW⟩ : ∃ n, ((pathL (pthL r)).getD []).length = n := ⟨_, rfl⟩
      rw [hnW] at hr
      obtain ⟨qW, cW, rfl, _, _, _, _, _⟩ := row_open hr
      have GP_C := By.row hr
      clear con hr hnW hep
      have B_C := B_B.trans (hb.mono B_B.size)
      have U_C := U_B.on hb
      have F_C := F_B.on hb
      have Q_C := Q_B.on hb
      have P_C := P_B.on hb
      have H_C := H_B.on hb
      have L_C := L_B.on hb
      have W_C := W_B.on hb
      clear W_B L_B H_B P_B Q_B F_B U_B B_B hb
      clear P_C
      cases bq with
      | false =>
        clear Q_C
        cases bf with
        | false =>
          clear F_C
          have yb := W_C.box
          have yc0 := yb 0 _ rfl
          have yf0 := W_C.frozen 0
          have yc1 := yb 1 _ rfl
          have yf1 := W_C.frozen 1
          have yc2 := yb 2 _ rfl
          have yf2 := W_C.frozen 2
          have yc3 := yb 3 _ rfl
          have yf3 := W_C.frozen 3
          have yc4 := yb 4 _ rfl
          have yf4 := W_C.frozen 4
          have yc5 := yb 5 _ rfl
          have yf5 := W_C.frozen 5
          have yc6 := yb 6 _ rfl
          have yf6 := W_C.frozen 6
          have yc7 := yb 7 _ rfl
          have yf7 := W_C.frozen 7
          clear yb
          have zb := U_C.box
          have zc0 := zb 0 _ rfl
          have zf0 := U_C.frozen 0
          have zc1 := zb 1 _ rfl
          have zf1 := U_C.frozen 1
          have zc2 := zb 2 _ rfl
          have zf2 := U_C.frozen 2
          have zc3 := zb 3 _ rfl
          have zf3 := U_C.frozen 3
          have zc4 := zb 4 _ rfl
          have zf4 := U_C.frozen 4
          have zc5 := zb 5 _ rfl
          have zf5 := U_C.frozen 5
          have zc6 := zb 6 _ rfl
          have zf6 := U_C.frozen 6
          have zc7 := zb 7 _ rfl
          have zf7 := U_C.frozen 7
          clear zb
          obtain ⟨XZ, hXZ⟩ : ∃ Z, XC.setCell ⟨b18, 3, none⟩ (.slice qW nW cW) = Z := ⟨_, rfl⟩
          have B_Z : Below w.heap.size w XZ := by rw [← hXZ]; exact B_C.setCell (p := ⟨b18, 3, none⟩) hle _
          have U_Z : UB w.heap.size zeroU XZ := by rw [← hXZ]; exact U_C.other hne _
          have H_Z := By.set (i := 3) (u := .slice qW nW cW) H_C W_C (nb8 ⟨_, _, _, rfl⟩ ⟨_, _, _, rfl⟩ ⟨_, _, _, rfl⟩ ⟨_, _, _, rfl⟩ ⟨_, _, _, rfl⟩)
          rw [hXZ] at H_Z
          have L_Z := By.set (i := 3) (u := .slice qW nW cW) L_C W_C (nb8 ⟨_, _, _, rfl⟩ ⟨_, _, _, rfl⟩ ⟨_, _, _, rfl⟩ ⟨_, _, _, rfl⟩ ⟨_, _, _, rfl⟩)
          rw [hXZ] at L_Z
          have GP_Z := By.set (i := 3) (u := .slice qW nW cW) GP_C W_C (nb8 ⟨_, _, _, rfl⟩ ⟨_, _, _, rfl⟩ ⟨_, _, _, rfl⟩ ⟨_, _, _, rfl⟩ ⟨_, _, _, rfl⟩)
          rw [hXZ] at GP_Z
          have W_Z : UB b18 #[.slice qL k cL, .slice qH nH cH, .int .i64 pv, .slice qW nW cW, .slice none 0 0, .slice none 0 0, .bool false, .bool false] XZ := by rw [← hXZ]; exact (W_C.set8 (.slice qW nW cW)).2.1
          clear GP_C W_C L_C H_C U_C B_C
          have HXZ := Lib.hid hXZ
          clear hXZ
          by_cases hp0 : (pv : Int) = 0
          case pos =>
            have e0 : (((pv : Int)) == 0) = true := by rw [beq_iff_eq]; exact hp0
            have hpo := HPO.out
            rw [hp0] at hpo
            clear hp0
            have HE := Lib.hid (show canonU t = .inl 2 by rw [HC.out]; exact rest_port _ r HS.out HPE.out hpo)
            go_wp2
            rw [HXZ.out]
            obtain ⟨Y, hY, hU, hkY, hbY⟩ := UB.put (show UB w.heap.size #[.slice none 0 0, .slice none 0 0, .int .i64 0, .slice none 0 0, .slice none 0 0, .slice none 0 0, .bool false, .bool false] _ from U_Z) (.slice none 0 0) (.slice none 0 0) (.int .i64 0) (.slice none 0 0) (.slice none 0 0) (.slice none 0 0) (.bool false) (.bool false)
            rw [hY]
            (try simp only [Exit.inBlock, Exit.then])
            refine bodyPost_ret (ret_url2 rfl _ _ w.heap.size _ rfl hU rfl) rfl ?_
            rw [HE.out]
            exact ⟨by decide, rfl, B_Z.trans (hbY _ (Nat.le_refl _))⟩
          have e0 : (((pv : Int)) == 0) = false := by rw [beq_eq_false_iff_ne]; exact hp0
          have hpo : portC (Ref.lowL s) (atSnd 58 (srvL r)) (atOk 58 (srvL r)) ≠ 0 := by rw [HPO.out]; exact hp0
          cases hpp : pathL (pthL r) with
          | none =>
            obtain rfl : ep = 2 := by have := HEP.out; rw [hpp] at this; exact this
            have hpp2 := Lib.hid hpp
            clear hpp
            have HE := Lib.hid (show canonU t = .inl 2 by rw [HC.out]; exact rest_path _ r HS.out HPE.out hpp2.out)
            go_wp2
            rw [HXZ.out]
            obtain ⟨Y, hY, hU, hkY, hbY⟩ := UB.put (show UB w.heap.size #[.slice none 0 0, .slice none 0 0, .int .i64 0, .slice none 0 0, .slice none 0 0, .slice none 0 0, .bool false, .bool false] _ from U_Z) (.slice none 0 0) (.slice none 0 0) (.int .i64 0) (.slice none 0 0) (.slice none 0 0) (.slice none 0 0) (.bool false) (.bool false)
            rw [hY]
            (try simp only [Exit.inBlock, Exit.then])
            refine bodyPost_ret (ret_url2 rfl _ _ w.heap.size _ rfl hU rfl) rfl ?_
            rw [HE.out]
            exact ⟨by decide, rfl, B_Z.trans (hbY _ (Nat.le_refl _))⟩
          | some pp =>
            obtain rfl : ep = 0 := by have := HEP.out; rw [hpp] at this; exact this
            have h3 : optC (atOk 63 (atFst 35 r)) (atSnd 63 (atFst 35 r)) = some [] := by rw [Hbq.out]; rfl
            have h4 : optC (atOk 35 r) (atSnd 35 r) = some [] := by rw [Hbf.out]; rfl
            obtain ⟨pn, hpn, hrg⟩ := rest_good _ r HS.out HPE.out pp [] [] hpo hpp h3 h4
            rw [Hbq.out, Hbf.out] at hrg
            have hpn2 : (pv : Int) = (pn : Int) := by rw [← HPO.out]; exact hpn
            have HE := Lib.hid (HC.out.trans hrg)
            have HPN := Lib.hid hpn2
            rw [hpp] at GP_Z
            clear hpo hrg hpn hpn2 h3 h4 hpp  hp0
            go_wp2
            rw [HXZ.out]
            obtain ⟨Y, hY, hU, hkY, hbY⟩ := UB.put (show UB w.heap.size #[.slice none 0 0, .slice none 0 0, .int .i64 0, .slice none 0 0, .slice none 0 0, .slice none 0 0, .bool false, .bool false] _ from U_Z) (.slice qL k cL) (.slice qH nH cH) (.int .i64 pv) (.slice qW nW cW) (.slice none 0 0) (.slice none 0 0) (.bool false) (.bool false)
            rw [hY]
            (try simp only [Exit.inBlock, Exit.then])
            refine bodyPost_ret (ret_url2 rfl _ _ w.heap.size _ rfl hU rfl) rfl ?_
            rw [HE.out]
            refine ⟨_, rfl, ⟨qL, k, cL, qH, nH, cH, qW, nW, cW, none, 0, 0, none, 0, 0, by rw [HPN.out], L_Z.away U_Z nbz hkY, H_Z.away U_Z nbz hkY, GP_Z.away U_Z nbz hkY, by_nil _, by_nil _⟩, B_Z.trans (hbY _ (Nat.le_refl _))⟩
        | true =>
          have yb := W_C.box
          have yc3 := yb 3 _ rfl
          have yf3 := W_C.frozen 3
          clear yb
          go_wp2_with fail
          clear yc3 yf3
          obtain ⟨XF, hXF⟩ : ∃ Z, XC.setCell ⟨b18, 3, none⟩ (.slice qW nW cW) = Z := ⟨_, rfl⟩
          rw [hXF]
          have B_F : Below w.heap.size w XF := by rw [← hXF]; exact B_C.setCell (p := ⟨b18, 3, none⟩) hle _
          have U_F : UB w.heap.size zeroU XF := by rw [← hXF]; exact U_C.other hne _
          have F_F := By.set (i := 3) (u := .slice qW nW cW) F_C W_C (nb8 ⟨_, _, _, rfl⟩ ⟨_, _, _, rfl⟩ ⟨_, _, _, rfl⟩ ⟨_, _, _, rfl⟩ ⟨_, _, _, rfl⟩)
          rw [hXF] at F_F
          have H_F := By.set (i := 3) (u := .slice qW nW cW) H_C W_C (nb8 ⟨_, _, _, rfl⟩ ⟨_, _, _, rfl⟩ ⟨_, _, _, rfl⟩ ⟨_, _, _, rfl⟩ ⟨_, _, _, rfl⟩)
          rw [hXF] at H_F
          have L_F := By.set (i := 3) (u := .slice qW nW cW) L_C W_C (nb8 ⟨_, _, _, rfl⟩ ⟨_, _, _, rfl⟩ ⟨_, _, _, rfl⟩ ⟨_, _, _, rfl⟩ ⟨_, _, _, rfl⟩)
          rw [hXF] at L_F
          have GP_F := By.set (i := 3) (u := .slice qW nW cW) GP_C W_C (nb8 ⟨_, _, _, rfl⟩ ⟨_, _, _, rfl⟩ ⟨_, _, _, rfl⟩ ⟨_, _, _, rfl⟩ ⟨_, _, _, rfl⟩)
          rw [hXF] at GP_F
          have W_F : UB b18 #[.slice qL k cL, .slice qH nH cH, .int .i64 pv, .slice qW nW cW, .slice none 0 0, .slice none 0 0, .bool false, .bool true] XF := by rw [← hXF]; exact (W_C.set8 (.slice qW nW cW)).2.1
          clear GP_C W_C L_C H_C F_C U_C B_C
          clear hXF
          have con := Pct.Canon_any qF nF cF (atSnd 35 r) 2 XF F_F.at.1 (by omega) F_F.at.2.2.2.2
          refine con.mono ?_
          rintro e XG ⟨vZ, ef, rfl, hef, hr, hb⟩
          have HEF : Hid (ef = if (formL 2 (atSnd 35 r)).isSome then 0 else 2) := hef
          replace hr : XG.ownsRow XF.heap.size 5 1 vZ ((formL 2 (atSnd 35 r)).getD []).length (byV ((formL 2 (atSnd 35 r)).getD [])) := hr
          obtain ⟨nZ, hnZ⟩ : ∃ n, ((formL 2 (atSnd 35 r)).getD []).length = n := ⟨_, rfl⟩
          rw [hnZ] at hr
          obtain ⟨qZ, cZ, rfl, _, _, _, _, _⟩ := row_open hr
          have GF_G := By.row hr
          clear con hr hnZ hef
          have B_G := B_F.trans (hb.mono B_F.size)
          have U_G := U_F.on hb
          have F_G := F_F.on hb
          have H_G := H_F.on hb
          have L_G := L_F.on hb
          have W_G := W_F.on hb
          have GP_G := GP_F.on hb
          clear GP_F W_F L_F H_F F_F U_F B_F hb
          clear F_G
          have yb := W_G.box
          have yc0 := yb 0 _ rfl
          have yf0 := W_G.frozen 0
          have yc1 := yb 1 _ rfl
          have yf1 := W_G.frozen 1
          have yc2 := yb 2 _ rfl
          have yf2 := W_G.frozen 2
          have yc3 := yb 3 _ rfl
          have yf3 := W_G.frozen 3
          have yc4 := yb 4 _ rfl
          have yf4 := W_G.frozen 4
          have yc5 := yb 5 _ rfl
          have yf5 := W_G.frozen 5
          have yc6 := yb 6 _ rfl
          have yf6 := W_G.frozen 6
          have yc7 := yb 7 _ rfl
          have yf7 := W_G.frozen 7
          clear yb
          have zb := U_G.box
          have zc0 := zb 0 _ rfl
          have zf0 := U_G.frozen 0
          have zc1 := zb 1 _ rfl
          have zf1 := U_G.frozen 1
          have zc2 := zb 2 _ rfl
          have zf2 := U_G.frozen 2
          have zc3 := zb 3 _ rfl
          have zf3 := U_G.frozen 3
          have zc4 := zb 4 _ rfl
          have zf4 := U_G.frozen 4
          have zc5 := zb 5 _ rfl
          have zf5 := U_G.frozen 5
          have zc6 := zb 6 _ rfl
          have zf6 := U_G.frozen 6
          have zc7 := zb 7 _ rfl
          have zf7 := U_G.frozen 7
          clear zb
          obtain ⟨XZ, hXZ⟩ : ∃ Z, XG.setCell ⟨b18, 5, none⟩ (.slice qZ nZ cZ) = Z := ⟨_, rfl⟩
          have B_Z : Below w.heap.size w XZ := by rw [← hXZ]; exact B_G.setCell (p := ⟨b18, 5, none⟩) hle _
          have U_Z : UB w.heap.size zeroU XZ := by rw [← hXZ]; exact U_G.other hne _
          have H_Z := By.set (i := 5) (u := .slice qZ nZ cZ) H_G W_G (nb8 ⟨_, _, _, rfl⟩ ⟨_, _, _, rfl⟩ ⟨_, _, _, rfl⟩ ⟨_, _, _, rfl⟩ ⟨_, _, _, rfl⟩)
          rw [hXZ] at H_Z
          have L_Z := By.set (i := 5) (u := .slice qZ nZ cZ) L_G W_G (nb8 ⟨_, _, _, rfl⟩ ⟨_, _, _, rfl⟩ ⟨_, _, _, rfl⟩ ⟨_, _, _, rfl⟩ ⟨_, _, _, rfl⟩)
          rw [hXZ] at L_Z
          have GP_Z := By.set (i := 5) (u := .slice qZ nZ cZ) GP_G W_G (nb8 ⟨_, _, _, rfl⟩ ⟨_, _, _, rfl⟩ ⟨_, _, _, rfl⟩ ⟨_, _, _, rfl⟩ ⟨_, _, _, rfl⟩)
          rw [hXZ] at GP_Z
          have GF_Z := By.set (i := 5) (u := .slice qZ nZ cZ) GF_G W_G (nb8 ⟨_, _, _, rfl⟩ ⟨_, _, _, rfl⟩ ⟨_, _, _, rfl⟩ ⟨_, _, _, rfl⟩ ⟨_, _, _, rfl⟩)
          rw [hXZ] at GF_Z
          have W_Z : UB b18 #[.slice qL k cL, .slice qH nH cH, .int .i64 pv, .slice qW nW cW, .slice none 0 0, .slice qZ nZ cZ, .bool false, .bool true] XZ := by rw [← hXZ]; exact (W_G.set8 (.slice qZ nZ cZ)).2.2.2
          clear GF_G GP_G W_G L_G H_G U_G B_G
          have HXZ := Lib.hid hXZ
          clear hXZ
          by_cases hp0 : (pv : Int) = 0
          case pos =>
            have e0 : (((pv : Int)) == 0) = true := by rw [beq_iff_eq]; exact hp0
            have hpo := HPO.out
            rw [hp0] at hpo
            clear hp0
            have HE := Lib.hid (show canonU t = .inl 2 by rw [HC.out]; exact rest_port _ r HS.out HPE.out hpo)
            go_wp2
            rw [HXZ.out]
            obtain ⟨Y, hY, hU, hkY, hbY⟩ := UB.put (show UB w.heap.size #[.slice none 0 0, .slice none 0 0, .int .i64 0, .slice none 0 0, .slice none 0 0, .slice none 0 0, .bool false, .bool false] _ from U_Z) (.slice none 0 0) (.slice none 0 0) (.int .i64 0) (.slice none 0 0) (.slice none 0 0) (.slice none 0 0) (.bool false) (.bool false)
            rw [hY]
            (try simp only [Exit.inBlock, Exit.then])
            refine bodyPost_ret (ret_url2 rfl _ _ w.heap.size _ rfl hU rfl) rfl ?_
            rw [HE.out]
            exact ⟨by decide, rfl, B_Z.trans (hbY _ (Nat.le_refl _))⟩
          have e0 : (((pv : Int)) == 0) = false := by rw [beq_eq_false_iff_ne]; exact hp0
          have hpo : portC (Ref.lowL s) (atSnd 58 (srvL r)) (atOk 58 (srvL r)) ≠ 0 := by rw [HPO.out]; exact hp0
          cases hpp : pathL (pthL r) with
          | none =>
            obtain rfl : ep = 2 := by have := HEP.out; rw [hpp] at this; exact this
            have hpp2 := Lib.hid hpp
            clear hpp
            have HE := Lib.hid (show canonU t = .inl 2 by rw [HC.out]; exact rest_path _ r HS.out HPE.out hpp2.out)
            go_wp2
            rw [HXZ.out]
            obtain ⟨Y, hY, hU, hkY, hbY⟩ := UB.put (show UB w.heap.size #[.slice none 0 0, .slice none 0 0, .int .i64 0, .slice none 0 0, .slice none 0 0, .slice none 0 0, .bool false, .bool false] _ from U_Z) (.slice none 0 0) (.slice none 0 0) (.int .i64 0) (.slice none 0 0) (.slice none 0 0) (.slice none 0 0) (.bool false) (.bool false)
            rw [hY]
            (try simp only [Exit.inBlock, Exit.then])
            refine bodyPost_ret (ret_url2 rfl _ _ w.heap.size _ rfl hU rfl) rfl ?_
            rw [HE.out]
            exact ⟨by decide, rfl, B_Z.trans (hbY _ (Nat.le_refl _))⟩
          | some pp =>
            obtain rfl : ep = 0 := by have := HEP.out; rw [hpp] at this; exact this
            cases hff : formL 2 (atSnd 35 r) with
            | none =>
              obtain rfl : ef = 2 := by have := HEF.out; rw [hff] at this; exact this
              have h4 := Lib.hid (show optC (atOk 35 r) (atSnd 35 r) = none by rw [Hbf.out]; exact hff)
              clear hff hpp
              have HE := Lib.hid (show canonU t = .inl 2 by rw [HC.out]; exact rest_frag _ r HS.out HPE.out h4.out)
              go_wp2
              rw [HXZ.out]
              obtain ⟨Y, hY, hU, hkY, hbY⟩ := UB.put (show UB w.heap.size #[.slice none 0 0, .slice none 0 0, .int .i64 0, .slice none 0 0, .slice none 0 0, .slice none 0 0, .bool false, .bool false] _ from U_Z) (.slice none 0 0) (.slice none 0 0) (.int .i64 0) (.slice none 0 0) (.slice none 0 0) (.slice none 0 0) (.bool false) (.bool false)
              rw [hY]
              (try simp only [Exit.inBlock, Exit.then])
              refine bodyPost_ret (ret_url2 rfl _ _ w.heap.size _ rfl hU rfl) rfl ?_
              rw [HE.out]
              exact ⟨by decide, rfl, B_Z.trans (hbY _ (Nat.le_refl _))⟩
            | some ff =>
              obtain rfl : ef = 0 := by have := HEF.out; rw [hff] at this; exact this
              have h3 : optC (atOk 63 (atFst 35 r)) (atSnd 63 (atFst 35 r)) = some [] := by rw [Hbq.out]; rfl
              have h4 : optC (atOk 35 r) (atSnd 35 r) = some ff := by rw [Hbf.out]; exact hff
              obtain ⟨pn, hpn, hrg⟩ := rest_good _ r HS.out HPE.out pp [] ff hpo hpp h3 h4
              rw [Hbq.out, Hbf.out] at hrg
              have hpn2 : (pv : Int) = (pn : Int) := by rw [← HPO.out]; exact hpn
              have HE := Lib.hid (HC.out.trans hrg)
              have HPN := Lib.hid hpn2
              rw [hpp] at GP_Z
              rw [hff] at GF_Z
              clear hpo hrg hpn hpn2 h3 h4 hpp hff hp0
              go_wp2
              rw [HXZ.out]
              obtain ⟨Y, hY, hU, hkY, hbY⟩ := UB.put (show UB w.heap.size #[.slice none 0 0, .slice none 0 0, .int .i64 0, .slice none 0 0, .slice none 0 0, .slice none 0 0, .bool false, .bool false] _ from U_Z) (.slice qL k cL) (.slice qH nH cH) (.int .i64 pv) (.slice qW nW cW) (.slice none 0 0) (.slice qZ nZ cZ) (.bool false) (.bool true)
              rw [hY]
              (try simp only [Exit.inBlock, Exit.then])
              refine bodyPost_ret (ret_url2 rfl _ _ w.heap.size _ rfl hU rfl) rfl ?_
              rw [HE.out]
              refine ⟨_, rfl, ⟨qL, k, cL, qH, nH, cH, qW, nW, cW, none, 0, 0, qZ, nZ, cZ, by rw [HPN.out], L_Z.away U_Z nbz hkY, H_Z.away U_Z nbz hkY, GP_Z.away U_Z nbz hkY, by_nil _, GF_Z.away U_Z nbz hkY⟩, B_Z.trans (hbY _ (Nat.le_refl _))⟩
      | true =>
        have yb := W_C.box
        have yc3 := yb 3 _ rfl
        have yf3 := W_C.frozen 3
        clear yb
        go_wp2_with fail
        clear yc3 yf3
        obtain ⟨XD, hXD⟩ : ∃ Z, XC.setCell ⟨b18, 3, none⟩ (.slice qW nW cW) = Z := ⟨_, rfl⟩
        rw [hXD]
        have B_D : Below w.heap.size w XD := by rw [← hXD]; exact B_C.setCell (p := ⟨b18, 3, none⟩) hle _
        have U_D : UB w.heap.size zeroU XD := by rw [← hXD]; exact U_C.other hne _
        have F_D := By.set (i := 3) (u := .slice qW nW cW) F_C W_C (nb8 ⟨_, _, _, rfl⟩ ⟨_, _, _, rfl⟩ ⟨_, _, _, rfl⟩ ⟨_, _, _, rfl⟩ ⟨_, _, _, rfl⟩)
        rw [hXD] at F_D
        have Q_D := By.set (i := 3) (u := .slice qW nW cW) Q_C W_C (nb8 ⟨_, _, _, rfl⟩ ⟨_, _, _, rfl⟩ ⟨_, _, _, rfl⟩ ⟨_, _, _, rfl⟩ ⟨_, _, _, rfl⟩)
        rw [hXD] at Q_D
        have H_D := By.set (i := 3) (u := .slice qW nW cW) H_C W_C (nb8 ⟨_, _, _, rfl⟩ ⟨_, _, _, rfl⟩ ⟨_, _, _, rfl⟩ ⟨_, _, _, rfl⟩ ⟨_, _, _, rfl⟩)
        rw [hXD] at H_D
        have L_D := By.set (i := 3) (u := .slice qW nW cW) L_C W_C (nb8 ⟨_, _, _, rfl⟩ ⟨_, _, _, rfl⟩ ⟨_, _, _, rfl⟩ ⟨_, _, _, rfl⟩ ⟨_, _, _, rfl⟩)
        rw [hXD] at L_D
        have GP_D := By.set (i := 3) (u := .slice qW nW cW) GP_C W_C (nb8 ⟨_, _, _, rfl⟩ ⟨_, _, _, rfl⟩ ⟨_, _, _, rfl⟩ ⟨_, _, _, rfl⟩ ⟨_, _, _, rfl⟩)
        rw [hXD] at GP_D
        have W_D : UB b18 #[.slice qL k cL, .slice qH nH cH, .int .i64 pv, .slice qW nW cW, .slice none 0 0, .slice none 0 0, .bool true, .bool bf] XD := by rw [← hXD]; exact (W_C.set8 (.slice qW nW cW)).2.1
        clear GP_C W_C L_C H_C Q_C F_C U_C B_C
        clear hXD
        have con := Pct.Canon_any qQ nQ cQ (atSnd 63 (atFst 35 r)) 2 XD Q_D.at.1 (by omega) Q_D.at.2.2.2.2
        refine con.mono ?_
        rintro e XE ⟨vY, eq, rfl, heq, hr, hb⟩
        have HEQ : Hid (eq = if (formL 2 (atSnd 63 (atFst 35 r))).isSome then 0 else 2) := heq
        replace hr : XE.ownsRow XD.heap.size 5 1 vY ((formL 2 (atSnd 63 (atFst 35 r))).getD []).length (byV ((formL 2 (atSnd 63 (atFst 35 r))).getD [])) := hr
        obtain ⟨nY, hnY⟩ : ∃ n, ((formL 2 (atSnd 63 (atFst 35 r))).getD []).length = n := ⟨_, rfl⟩
        rw [hnY] at hr
        obtain ⟨qY, cY, rfl, _, _, _, _, _⟩ := row_open hr
        have GQ_E := By.row hr
        clear con hr hnY heq
        have B_E := B_D.trans (hb.mono B_D.size)
        have U_E := U_D.on hb
        have F_E := F_D.on hb
        have Q_E := Q_D.on hb
        have H_E := H_D.on hb
        have L_E := L_D.on hb
        have W_E := W_D.on hb
        have GP_E := GP_D.on hb
        clear GP_D W_D L_D H_D Q_D F_D U_D B_D hb
        clear Q_E
        cases bf with
        | false =>
          clear F_E
          have yb := W_E.box
          have yc0 := yb 0 _ rfl
          have yf0 := W_E.frozen 0
          have yc1 := yb 1 _ rfl
          have yf1 := W_E.frozen 1
          have yc2 := yb 2 _ rfl
          have yf2 := W_E.frozen 2
          have yc3 := yb 3 _ rfl
          have yf3 := W_E.frozen 3
          have yc4 := yb 4 _ rfl
          have yf4 := W_E.frozen 4
          have yc5 := yb 5 _ rfl
          have yf5 := W_E.frozen 5
          have yc6 := yb 6 _ rfl
          have yf6 := W_E.frozen 6
          have yc7 := yb 7 _ rfl
          have yf7 := W_E.frozen 7
          clear yb
          have zb := U_E.box
          have zc0 := zb 0 _ rfl
          have zf0 := U_E.frozen 0
          have zc1 := zb 1 _ rfl
          have zf1 := U_E.frozen 1
          have zc2 := zb 2 _ rfl
          have zf2 := U_E.frozen 2
          have zc3 := zb 3 _ rfl
          have zf3 := U_E.frozen 3
          have zc4 := zb 4 _ rfl
          have zf4 := U_E.frozen 4
          have zc5 := zb 5 _ rfl
          have zf5 := U_E.frozen 5
          have zc6 := zb 6 _ rfl
          have zf6 := U_E.frozen 6
          have zc7 := zb 7 _ rfl
          have zf7 := U_E.frozen 7
          clear zb
          obtain ⟨XZ, hXZ⟩ : ∃ Z, XE.setCell ⟨b18, 4, none⟩ (.slice qY nY cY) = Z := ⟨_, rfl⟩
          have B_Z : Below w.heap.size w XZ := by rw [← hXZ]; exact B_E.setCell (p := ⟨b18, 4, none⟩) hle _
          have U_Z : UB w.heap.size zeroU XZ := by rw [← hXZ]; exact U_E.other hne _
          have H_Z := By.set (i := 4) (u := .slice qY nY cY) H_E W_E (nb8 ⟨_, _, _, rfl⟩ ⟨_, _, _, rfl⟩ ⟨_, _, _, rfl⟩ ⟨_, _, _, rfl⟩ ⟨_, _, _, rfl⟩)
          rw [hXZ] at H_Z
          have L_Z := By.set (i := 4) (u := .slice qY nY cY) L_E W_E (nb8 ⟨_, _, _, rfl⟩ ⟨_, _, _, rfl⟩ ⟨_, _, _, rfl⟩ ⟨_, _, _, rfl⟩ ⟨_, _, _, rfl⟩)
          rw [hXZ] at L_Z
          have GP_Z := By.set (i := 4) (u := .slice qY nY cY) GP_E W_E (nb8 ⟨_, _, _, rfl⟩ ⟨_, _, _, rfl⟩ ⟨_, _, _, rfl⟩ ⟨_, _, _, rfl⟩ ⟨_, _, _, rfl⟩)
          rw [hXZ] at GP_Z
          have GQ_Z := By.set (i := 4) (u := .slice qY nY cY) GQ_E W_E (nb8 ⟨_, _, _, rfl⟩ ⟨_, _, _, rfl⟩ ⟨_, _, _, rfl⟩ ⟨_, _, _, rfl⟩ ⟨_, _, _, rfl⟩)
          rw [hXZ] at GQ_Z
          have W_Z : UB b18 #[.slice qL k cL, .slice qH nH cH, .int .i64 pv, .slice qW nW cW, .slice qY nY cY, .slice none 0 0, .bool true, .bool false] XZ := by rw [← hXZ]; exact (W_E.set8 (.slice qY nY cY)).2.2.1
          clear GQ_E GP_E W_E L_E H_E U_E B_E
          have HXZ := Lib.hid hXZ
          clear hXZ
          by_cases hp0 : (pv : Int) = 0
          case pos =>
            have e0 : (((pv : Int)) == 0) = true := by rw [beq_iff_eq]; exact hp0
            have hpo := HPO.out
            rw [hp0] at hpo
            clear hp0
            have HE := Lib.hid (show canonU t = .inl 2 by rw [HC.out]; exact rest_port _ r HS.out HPE.out hpo)
            go_wp2
            rw [HXZ.out]
            obtain ⟨Y, hY, hU, hkY, hbY⟩ := UB.put (show UB w.heap.size #[.slice none 0 0, .slice none 0 0, .int .i64 0, .slice none 0 0, .slice none 0 0, .slice none 0 0, .bool false, .bool false] _ from U_Z) (.slice none 0 0) (.slice none 0 0) (.int .i64 0) (.slice none 0 0) (.slice none 0 0) (.slice none 0 0) (.bool false) (.bool false)
            rw [hY]
            (try simp only [Exit.inBlock, Exit.then])
            refine bodyPost_ret (ret_url2 rfl _ _ w.heap.size _ rfl hU rfl) rfl ?_
            rw [HE.out]
            exact ⟨by decide, rfl, B_Z.trans (hbY _ (Nat.le_refl _))⟩
          have e0 : (((pv : Int)) == 0) = false := by rw [beq_eq_false_iff_ne]; exact hp0
          have hpo : portC (Ref.lowL s) (atSnd 58 (srvL r)) (atOk 58 (srvL r)) ≠ 0 := by rw [HPO.out]; exact hp0
          cases hpp : pathL (pthL r) with
          | none =>
            obtain rfl : ep = 2 := by have := HEP.out; rw [hpp] at this; exact this
            have hpp2 := Lib.hid hpp
            clear hpp
            have HE := Lib.hid (show canonU t = .inl 2 by rw [HC.out]; exact rest_path _ r HS.out HPE.out hpp2.out)
            go_wp2
            rw [HXZ.out]
            obtain ⟨Y, hY, hU, hkY, hbY⟩ := UB.put (show UB w.heap.size #[.slice none 0 0, .slice none 0 0, .int .i64 0, .slice none 0 0, .slice none 0 0, .slice none 0 0, .bool false, .bool false] _ from U_Z) (.slice none 0 0) (.slice none 0 0) (.int .i64 0) (.slice none 0 0) (.slice none 0 0) (.slice none 0 0) (.bool false) (.bool false)
            rw [hY]
            (try simp only [Exit.inBlock, Exit.then])
            refine bodyPost_ret (ret_url2 rfl _ _ w.heap.size _ rfl hU rfl) rfl ?_
            rw [HE.out]
            exact ⟨by decide, rfl, B_Z.trans (hbY _ (Nat.le_refl _))⟩
          | some pp =>
            obtain rfl : ep = 0 := by have := HEP.out; rw [hpp] at this; exact this
            cases hqq : formL 2 (atSnd 63 (atFst 35 r)) with
            | none =>
              obtain rfl : eq = 2 := by have := HEQ.out; rw [hqq] at this; exact this
              have h3 := Lib.hid (show optC (atOk 63 (atFst 35 r)) (atSnd 63 (atFst 35 r)) = none by rw [Hbq.out]; exact hqq)
              clear hqq hpp
              have HE := Lib.hid (show canonU t = .inl 2 by rw [HC.out]; exact rest_query _ r HS.out HPE.out h3.out)
              go_wp2
              rw [HXZ.out]
              obtain ⟨Y, hY, hU, hkY, hbY⟩ := UB.put (show UB w.heap.size #[.slice none 0 0, .slice none 0 0, .int .i64 0, .slice none 0 0, .slice none 0 0, .slice none 0 0, .bool false, .bool false] _ from U_Z) (.slice none 0 0) (.slice none 0 0) (.int .i64 0) (.slice none 0 0) (.slice none 0 0) (.slice none 0 0) (.bool false) (.bool false)
              rw [hY]
              (try simp only [Exit.inBlock, Exit.then])
              refine bodyPost_ret (ret_url2 rfl _ _ w.heap.size _ rfl hU rfl) rfl ?_
              rw [HE.out]
              exact ⟨by decide, rfl, B_Z.trans (hbY _ (Nat.le_refl _))⟩
            | some qq =>
              obtain rfl : eq = 0 := by have := HEQ.out; rw [hqq] at this; exact this
              have h3 : optC (atOk 63 (atFst 35 r)) (atSnd 63 (atFst 35 r)) = some qq := by rw [Hbq.out]; exact hqq
              have h4 : optC (atOk 35 r) (atSnd 35 r) = some [] := by rw [Hbf.out]; rfl
              obtain ⟨pn, hpn, hrg⟩ := rest_good _ r HS.out HPE.out pp qq [] hpo hpp h3 h4
              rw [Hbq.out, Hbf.out] at hrg
              have hpn2 : (pv : Int) = (pn : Int) := by rw [← HPO.out]; exact hpn
              have HE := Lib.hid (HC.out.trans hrg)
              have HPN := Lib.hid hpn2
              rw [hpp] at GP_Z
              rw [hqq] at GQ_Z
              clear hpo hrg hpn hpn2 h3 h4 hpp hqq  hp0
              go_wp2
              rw [HXZ.out]
              obtain ⟨Y, hY, hU, hkY, hbY⟩ := UB.put (show UB w.heap.size #[.slice none 0 0, .slice none 0 0, .int .i64 0, .slice none 0 0, .slice none 0 0, .slice none 0 0, .bool false, .bool false] _ from U_Z) (.slice qL k cL) (.slice qH nH cH) (.int .i64 pv) (.slice qW nW cW) (.slice qY nY cY) (.slice none 0 0) (.bool true) (.bool false)
              rw [hY]
              (try simp only [Exit.inBlock, Exit.then])
              refine bodyPost_ret (ret_url2 rfl _ _ w.heap.size _ rfl hU rfl) rfl ?_
              rw [HE.out]
              refine ⟨_, rfl, ⟨qL, k, cL, qH, nH, cH, qW, nW, cW, qY, nY, cY, none, 0, 0, by rw [HPN.out], L_Z.away U_Z nbz hkY, H_Z.away U_Z nbz hkY, GP_Z.away U_Z nbz hkY, GQ_Z.away U_Z nbz hkY, by_nil _⟩, B_Z.trans (hbY _ (Nat.le_refl _))⟩
        | true =>
          have yb := W_E.box
          have yc4 := yb 4 _ rfl
          have yf4 := W_E.frozen 4
          clear yb
          go_wp2_with fail
          clear yc4 yf4
          obtain ⟨XF, hXF⟩ : ∃ Z, XE.setCell ⟨b18, 4, none⟩ (.slice qY nY cY) = Z := ⟨_, rfl⟩
          rw [hXF]
          have B_F : Below w.heap.size w XF := by rw [← hXF]; exact B_E.setCell (p := ⟨b18, 4, none⟩) hle _
          have U_F : UB w.heap.size zeroU XF := by rw [← hXF]; exact U_E.other hne _
          have F_F := By.set (i := 4) (u := .slice qY nY cY) F_E W_E (nb8 ⟨_, _, _, rfl⟩ ⟨_, _, _, rfl⟩ ⟨_, _, _, rfl⟩ ⟨_, _, _, rfl⟩ ⟨_, _, _, rfl⟩)
          rw [hXF] at F_F
          have H_F := By.set (i := 4) (u := .slice qY nY cY) H_E W_E (nb8 ⟨_, _, _, rfl⟩ ⟨_, _, _, rfl⟩ ⟨_, _, _, rfl⟩ ⟨_, _, _, rfl⟩ ⟨_, _, _, rfl⟩)
          rw [hXF] at H_F
          have L_F := By.set (i := 4) (u := .slice qY nY cY) L_E W_E (nb8 ⟨_, _, _, rfl⟩ ⟨_, _, _, rfl⟩ ⟨_, _, _, rfl⟩ ⟨_, _, _, rfl⟩ ⟨_, _, _, rfl⟩)
          rw [hXF] at L_F
          have GP_F := By.set (i := 4) (u := .slice qY nY cY) GP_E W_E (nb8 ⟨_, _, _, rfl⟩ ⟨_, _, _, rfl⟩ ⟨_, _, _, rfl⟩ ⟨_, _, _, rfl⟩ ⟨_, _, _, rfl⟩)
          rw [hXF] at GP_F
          have GQ_F := By.set (i := 4) (u := .slice qY nY cY) GQ_E W_E (nb8 ⟨_, _, _, rfl⟩ ⟨_, _, _, rfl⟩ ⟨_, _, _, rfl⟩ ⟨_, _, _, rfl⟩ ⟨_, _, _, rfl⟩)
          rw [hXF] at GQ_F
          have W_F : UB b18 #[.slice qL k cL, .slice qH nH cH, .int .i64 pv, .slice qW nW cW, .slice qY nY cY, .slice none 0 0, .bool true, .bool true] XF := by rw [← hXF]; exact (W_E.set8 (.slice qY nY cY)).2.2.1
          clear GQ_E GP_E W_E L_E H_E F_E U_E B_E
          clear hXF
          have con := Pct.Canon_any qF nF cF (atSnd 35 r) 2 XF F_F.at.1 (by omega) F_F.at.2.2.2.2
          refine con.mono ?_
          rintro e XG ⟨vZ, ef, rfl, hef, hr, hb⟩
          have HEF : Hid (ef = if (formL 2 (atSnd 35 r)).isSome then 0 else 2) := hef
          replace hr : XG.ownsRow XF.heap.size 5 1 vZ ((formL 2 (atSnd 35 r)).getD []).length (byV ((formL 2 (atSnd 35 r)).getD [])) := hr
          obtain ⟨nZ, hnZ⟩ : ∃ n, ((formL 2 (atSnd 35 r)).getD []).length = n := ⟨_, rfl⟩
          rw [hnZ] at hr
          obtain ⟨qZ, cZ, rfl, _, _, _, _, _⟩ := row_open hr
          have GF_G := By.row hr
          clear con hr hnZ hef
          have B_G := B_F.trans (hb.mono B_F.size)
          have U_G := U_F.on hb
          have F_G := F_F.on hb
          have H_G := H_F.on hb
          have L_G := L_F.on hb
          have W_G := W_F.on hb
          have GP_G := GP_F.on hb
          have GQ_G := GQ_F.on hb
          clear GQ_F GP_F W_F L_F H_F F_F U_F B_F hb
          clear F_G
          have yb := W_G.box
          have yc0 := yb 0 _ rfl
          have yf0 := W_G.frozen 0
          have yc1 := yb 1 _ rfl
          have yf1 := W_G.frozen 1
          have yc2 := yb 2 _ rfl
          have yf2 := W_G.frozen 2
          have yc3 := yb 3 _ rfl
          have yf3 := W_G.frozen 3
          have yc4 := yb 4 _ rfl
          have yf4 := W_G.frozen 4
          have yc5 := yb 5 _ rfl
          have yf5 := W_G.frozen 5
          have yc6 := yb 6 _ rfl
          have yf6 := W_G.frozen 6
          have yc7 := yb 7 _ rfl
          have yf7 := W_G.frozen 7
          clear yb
          have zb := U_G.box
          have zc0 := zb 0 _ rfl
          have zf0 := U_G.frozen 0
          have zc1 := zb 1 _ rfl
          have zf1 := U_G.frozen 1
          have zc2 := zb 2 _ rfl
          have zf2 := U_G.frozen 2
          have zc3 := zb 3 _ rfl
          have zf3 := U_G.frozen 3
          have zc4 := zb 4 _ rfl
          have zf4 := U_G.frozen 4
          have zc5 := zb 5 _ rfl
          have zf5 := U_G.frozen 5
          have zc6 := zb 6 _ rfl
          have zf6 := U_G.frozen 6
          have zc7 := zb 7 _ rfl
          have zf7 := U_G.frozen 7
          clear zb
          obtain ⟨XZ, hXZ⟩ : ∃ Z, XG.setCell ⟨b18, 5, none⟩ (.slice qZ nZ cZ) = Z := ⟨_, rfl⟩
          have B_Z : Below w.heap.size w XZ := by rw [← hXZ]; exact B_G.setCell (p := ⟨b18, 5, none⟩) hle _
          have U_Z : UB w.heap.size zeroU XZ := by rw [← hXZ]; exact U_G.other hne _
          have H_Z := By.set (i := 5) (u := .slice qZ nZ cZ) H_G W_G (nb8 ⟨_, _, _, rfl⟩ ⟨_, _, _, rfl⟩ ⟨_, _, _, rfl⟩ ⟨_, _, _, rfl⟩ ⟨_, _, _, rfl⟩)
          rw [hXZ] at H_Z
          have L_Z := By.set (i := 5) (u := .slice qZ nZ cZ) L_G W_G (nb8 ⟨_, _, _, rfl⟩ ⟨_, _, _, rfl⟩ ⟨_, _, _, rfl⟩ ⟨_, _, _, rfl⟩ ⟨_, _, _, rfl⟩)
          rw [hXZ] at L_Z
          have GP_Z := By.set (i := 5) (u := .slice qZ nZ cZ) GP_G W_G (nb8 ⟨_, _, _, rfl⟩ ⟨_, _, _, rfl⟩ ⟨_, _, _, rfl⟩ ⟨_, _, _, rfl⟩ ⟨_, _, _, rfl⟩)
          rw [hXZ] at GP_Z
          have GQ_Z := By.set (i := 5) (u := .slice qZ nZ cZ) GQ_G W_G (nb8 ⟨_, _, _, rfl⟩ ⟨_, _, _, rfl⟩ ⟨_, _, _, rfl⟩ ⟨_, _, _, rfl⟩ ⟨_, _, _, rfl⟩)
          rw [hXZ] at GQ_Z
          have GF_Z := By.set (i := 5) (u := .slice qZ nZ cZ) GF_G W_G (nb8 ⟨_, _, _, rfl⟩ ⟨_, _, _, rfl⟩ ⟨_, _, _, rfl⟩ ⟨_, _, _, rfl⟩ ⟨_, _, _, rfl⟩)
          rw [hXZ] at GF_Z
          have W_Z : UB b18 #[.slice qL k cL, .slice qH nH cH, .int .i64 pv, .slice qW nW cW, .slice qY nY cY, .slice qZ nZ cZ, .bool true, .bool true] XZ := by rw [← hXZ]; exact (W_G.set8 (.slice qZ nZ cZ)).2.2.2
          clear GF_G GQ_G GP_G W_G L_G H_G U_G B_G
          have HXZ := Lib.hid hXZ
          clear hXZ
          by_cases hp0 : (pv : Int) = 0
          case pos =>
            have e0 : (((pv : Int)) == 0) = true := by rw [beq_iff_eq]; exact hp0
            have hpo := HPO.out
            rw [hp0] at hpo
            clear hp0
            have HE := Lib.hid (show canonU t = .inl 2 by rw [HC.out]; exact rest_port _ r HS.out HPE.out hpo)
            go_wp2
            rw [HXZ.out]
            obtain ⟨Y, hY, hU, hkY, hbY⟩ := UB.put (show UB w.heap.size #[.slice none 0 0, .slice none 0 0, .int .i64 0, .slice none 0 0, .slice none 0 0, .slice none 0 0, .bool false, .bool false] _ from U_Z) (.slice none 0 0) (.slice none 0 0) (.int .i64 0) (.slice none 0 0) (.slice none 0 0) (.slice none 0 0) (.bool false) (.bool false)
            rw [hY]
            (try simp only [Exit.inBlock, Exit.then])
            refine bodyPost_ret (ret_url2 rfl _ _ w.heap.size _ rfl hU rfl) rfl ?_
            rw [HE.out]
            exact ⟨by decide, rfl, B_Z.trans (hbY _ (Nat.le_refl _))⟩
          have e0 : (((pv : Int)) == 0) = false := by rw [beq_eq_false_iff_ne]; exact hp0
          have hpo : portC (Ref.lowL s) (atSnd 58 (srvL r)) (atOk 58 (srvL r)) ≠ 0 := by rw [HPO.out]; exact hp0
          cases hpp : pathL (pthL r) with
          | none =>
            obtain rfl : ep = 2 := by have := HEP.out; rw [hpp] at this; exact this
            have hpp2 := Lib.hid hpp
            clear hpp
            have HE := Lib.hid (show canonU t = .inl 2 by rw [HC.out]; exact rest_path _ r HS.out HPE.out hpp2.out)
            go_wp2
            rw [HXZ.out]
            obtain ⟨Y, hY, hU, hkY, hbY⟩ := UB.put (show UB w.heap.size #[.slice none 0 0, .slice none 0 0, .int .i64 0, .slice none 0 0, .slice none 0 0, .slice none 0 0, .bool false, .bool false] _ from U_Z) (.slice none 0 0) (.slice none 0 0) (.int .i64 0) (.slice none 0 0) (.slice none 0 0) (.slice none 0 0) (.bool false) (.bool false)
            rw [hY]
            (try simp only [Exit.inBlock, Exit.then])
            refine bodyPost_ret (ret_url2 rfl _ _ w.heap.size _ rfl hU rfl) rfl ?_
            rw [HE.out]
            exact ⟨by decide, rfl, B_Z.trans (hbY _ (Nat.le_refl _))⟩
          | some pp =>
            obtain rfl : ep = 0 := by have := HEP.out; rw [hpp] at this; exact this
            cases hqq : formL 2 (atSnd 63 (atFst 35 r)) with
            | none =>
              obtain rfl : eq = 2 := by have := HEQ.out; rw [hqq] at this; exact this
              have h3 := Lib.hid (show optC (atOk 63 (atFst 35 r)) (atSnd 63 (atFst 35 r)) = none by rw [Hbq.out]; exact hqq)
              clear hqq hpp
              have HE := Lib.hid (show canonU t = .inl 2 by rw [HC.out]; exact rest_query _ r HS.out HPE.out h3.out)
              go_wp2
              rw [HXZ.out]
              obtain ⟨Y, hY, hU, hkY, hbY⟩ := UB.put (show UB w.heap.size #[.slice none 0 0, .slice none 0 0, .int .i64 0, .slice none 0 0, .slice none 0 0, .slice none 0 0, .bool false, .bool false] _ from U_Z) (.slice none 0 0) (.slice none 0 0) (.int .i64 0) (.slice none 0 0) (.slice none 0 0) (.slice none 0 0) (.bool false) (.bool false)
              rw [hY]
              (try simp only [Exit.inBlock, Exit.then])
              refine bodyPost_ret (ret_url2 rfl _ _ w.heap.size _ rfl hU rfl) rfl ?_
              rw [HE.out]
              exact ⟨by decide, rfl, B_Z.trans (hbY _ (Nat.le_refl _))⟩
            | some qq =>
              obtain rfl : eq = 0 := by have := HEQ.out; rw [hqq] at this; exact this
              cases hff : formL 2 (atSnd 35 r) with
              | none =>
                obtain rfl : ef = 2 := by have := HEF.out; rw [hff] at this; exact this
                have h4 := Lib.hid (show optC (atOk 35 r) (atSnd 35 r) = none by rw [Hbf.out]; exact hff)
                clear hff hpp
                have HE := Lib.hid (show canonU t = .inl 2 by rw [HC.out]; exact rest_frag _ r HS.out HPE.out h4.out)
                go_wp2
                rw [HXZ.out]
                obtain ⟨Y, hY, hU, hkY, hbY⟩ := UB.put (show UB w.heap.size #[.slice none 0 0, .slice none 0 0, .int .i64 0, .slice none 0 0, .slice none 0 0, .slice none 0 0, .bool false, .bool false] _ from U_Z) (.slice none 0 0) (.slice none 0 0) (.int .i64 0) (.slice none 0 0) (.slice none 0 0) (.slice none 0 0) (.bool false) (.bool false)
                rw [hY]
                (try simp only [Exit.inBlock, Exit.then])
                refine bodyPost_ret (ret_url2 rfl _ _ w.heap.size _ rfl hU rfl) rfl ?_
                rw [HE.out]
                exact ⟨by decide, rfl, B_Z.trans (hbY _ (Nat.le_refl _))⟩
              | some ff =>
                obtain rfl : ef = 0 := by have := HEF.out; rw [hff] at this; exact this
                have h3 : optC (atOk 63 (atFst 35 r)) (atSnd 63 (atFst 35 r)) = some qq := by rw [Hbq.out]; exact hqq
                have h4 : optC (atOk 35 r) (atSnd 35 r) = some ff := by rw [Hbf.out]; exact hff
                obtain ⟨pn, hpn, hrg⟩ := rest_good _ r HS.out HPE.out pp qq ff hpo hpp h3 h4
                rw [Hbq.out, Hbf.out] at hrg
                have hpn2 : (pv : Int) = (pn : Int) := by rw [← HPO.out]; exact hpn
                have HE := Lib.hid (HC.out.trans hrg)
                have HPN := Lib.hid hpn2
                rw [hpp] at GP_Z
                rw [hqq] at GQ_Z
                rw [hff] at GF_Z
                clear hpo hrg hpn hpn2 h3 h4 hpp hqq hff hp0
                go_wp2
                rw [HXZ.out]
                obtain ⟨Y, hY, hU, hkY, hbY⟩ := UB.put (show UB w.heap.size #[.slice none 0 0, .slice none 0 0, .int .i64 0, .slice none 0 0, .slice none 0 0, .slice none 0 0, .bool false, .bool false] _ from U_Z) (.slice qL k cL) (.slice qH nH cH) (.int .i64 pv) (.slice qW nW cW) (.slice qY nY cY) (.slice qZ nZ cZ) (.bool true) (.bool true)
                rw [hY]
                (try simp only [Exit.inBlock, Exit.then])
                refine bodyPost_ret (ret_url2 rfl _ _ w.heap.size _ rfl hU rfl) rfl ?_
                rw [HE.out]
                refine ⟨_, rfl, ⟨qL, k, cL, qH, nH, cH, qW, nW, cW, qY, nY, cY, qZ, nZ, cZ, by rw [HPN.out], L_Z.away U_Z nbz hkY, H_Z.away U_Z nbz hkY, GP_Z.away U_Z nbz hkY, GQ_Z.away U_Z nbz hkY, GF_Z.away U_Z nbz hkY⟩, B_Z.trans (hbY _ (Nat.le_refl _))⟩

end Go.Proofs.YtdgejnnapfbaeaaDoor.Url

namespace Go.Proofs.YtdgejnnapfbaeaaDoor.Url
open Go.RowKit Go.Shelf
attribute [local go_sem] Oper.semAt_some

theorem nbzL : ∀ (j : Nat) (x : Value), zeroU[j]? = some x → ∀ z : Int, x ≠ .int .u8 z := nb8 ⟨_, _, _, rfl⟩ ⟨_, _, _, rfl⟩ ⟨_, _, _, rfl⟩ ⟨_, _, _, rfl⟩ ⟨_, _, _, rfl⟩
/-- A slice of bytes outlives what is written where a URL's cells are. -/
theorem By.awayL {B : Nat} {cs : Array Value} {X Y : World} {v : Value} {l : List UInt8} (h : By X v l) (hU : UB B cs X) (hcs : ∀ (j : Nat) (x : Value), cs[j]? = some x → ∀ z : Int, x ≠ .int .u8 z) (hk : ∀ S : Nat → Prop, ¬ S B → Keep S X Y) : By Y v l := by
  obtain ⟨q, c, rfl, h2, h3, h4, h5⟩ := h
  refine ⟨q, c, rfl, h2, h3, h4, fun h0 => ?_⟩
  obtain ⟨b, o, he, hc⟩ := h5 h0
  refine ⟨b, o, he, fun j hj => ?_⟩
  have hne : b ≠ B := fun e => by
    subst e
    have h1 := hc j hj
    simp only [World.cell?, show X.heap[b]? = _ from hU] at h1
    exact hcs _ _ h1 _ rfl
  exact (World.cell?_of_block ((hk (fun k => k ≠ B) (fun h => h rfl)).block b (World.block_lt_of_cell? X _ (hc j hj)) hne)).trans (hc j hj)
/-- canonOf's contract. -/
def CanonOk : Prop := ∀ (q : Option Addr) (n c : Nat) (t : List UInt8) (w : World), By w (.slice q n c) t → n ≤ 4096 → Gl w → Calls Tryd.prog 9 #[.slice q n c] w fun e w' => CanonOut (canonU t) w e w'

set_option maxRecDepth 100000 in
set_option maxHeartbeats 8000000 in
theorem Parse_of (hcan : CanonOk) (q : Option Addr) (n c : Nat) (t : List UInt8) (w : World) (hby : By w (.slice q n c) t) (hn : n ≤ 4096) (hG : Gl w) (hT : ∀ u, canonU t = .inr u → (textU u).length ≤ 4096) :
    Calls Tryd.prog 5 #[.slice q n c] w fun e w' => CanonOut (canonU t) w e w' := by
  have d0 : decide ((4096 : Int) < (n : Int)) = false := by simp; omega
  obtain ⟨X0, hX0⟩ : ∃ X0, w.alloc (.cells #[.slice none 0 0, .slice none 0 0, .int .i64 0, .slice none 0 0, .slice none 0 0, .slice none 0 0, .bool false, .bool false] 25) = X0 := ⟨_, rfl⟩
  have B_0 : Below w.heap.size w X0 := by rw [← hX0]; exact (Below.refl _ w).alloc (Nat.le_refl _) _
  have U_0 : UB w.heap.size zeroU X0 := by rw [← hX0]; exact UB.new w zeroU
  have con := hcan q n c t X0 (hby.on B_0) hn (hG.on B_0)
  have hok : ∀ u, canonU t = .inr u → Ok u := fun u h => parse_ok t u (by rw [parse_canon t (by rw [hby.at.1]; exact hn)]; exact h)
  have HX0 := Lib.hid hX0
  have HG := Lib.hid hG
  clear hX0 hby hG
  cases hc : canonU t with
  | inl m =>
    rw [hc] at con
    clear hc hok hT
    go_enter Tryd.func5, Tryd.ntmps5
    go_wp2_with fail
    rw [HX0.out]
    refine con.mono ?_
    rintro e X1 ⟨hm, rfl, hb⟩
    have U_1 := U_0.on hb
    have B_1 := B_0.trans (hb.mono B_0.size)
    clear con hb U_0 B_0 HX0
    have e1 : ((m : Int) != 0) = true := by rw [bne_iff_ne]; exact hm
    have HM := Lib.hid hm
    clear hm
    unfold zeroU
    have zc : ∀ o, UB w.heap.size zeroU (X1.alloc o) := fun o => U_1.on ((Below.refl _ _).alloc (Nat.le_refl _) _)
    have zc0 := fun o => (zc o).box 0 _ rfl
    have zc1 := fun o => (zc o).box 1 _ rfl
    have zc2 := fun o => (zc o).box 2 _ rfl
    have zc3 := fun o => (zc o).box 3 _ rfl
    have zc4 := fun o => (zc o).box 4 _ rfl
    have zc5 := fun o => (zc o).box 5 _ rfl
    have zc6 := fun o => (zc o).box 6 _ rfl
    have zc7 := fun o => (zc o).box 7 _ rfl
    have zf0 := fun o => (zc o).frozen 0
    have zf1 := fun o => (zc o).frozen 1
    have zf2 := fun o => (zc o).frozen 2
    have zf3 := fun o => (zc o).frozen 3
    have zf4 := fun o => (zc o).frozen 4
    have zf5 := fun o => (zc o).frozen 5
    have zf6 := fun o => (zc o).frozen 6
    have zf7 := fun o => (zc o).frozen 7
    clear zc
    go_wp2
    have U_2 := U_1.on ((Below.refl X1.heap.size X1).alloc (Nat.le_refl _) (.cells #[.slice none 0 0, .slice none 0 0, .int .i64 0, .slice none 0 0, .slice none 0 0, .slice none 0 0, .bool false, .bool false] 25))
    have B_2 := B_1.alloc B_1.size (.cells #[.slice none 0 0, .slice none 0 0, .int .i64 0, .slice none 0 0, .slice none 0 0, .slice none 0 0, .bool false, .bool false] 25)
    obtain ⟨Y, hY, hU, hkY, hbY⟩ := UB.put (show UB w.heap.size #[.slice none 0 0, .slice none 0 0, .int .i64 0, .slice none 0 0, .slice none 0 0, .slice none 0 0, .bool false, .bool false] _ from U_2) (.slice none 0 0) (.slice none 0 0) (.int .i64 0) (.slice none 0 0) (.slice none 0 0) (.slice none 0 0) (.bool false) (.bool false)
    rw [hY]
    (try simp only [Exit.inBlock, Exit.then])
    refine bodyPost_ret (ret_url2 rfl _ _ w.heap.size _ rfl hU rfl) rfl ?_
    exact ⟨HM.out, rfl, B_2.trans (hbY _ (Nat.le_refl _))⟩
  | inr u =>
    rw [hc] at con
    have HO := Lib.hid (hok u hc)
    have HT := Lib.hid (hT u hc)
    clear hc hok hT
    go_enter Tryd.func5, Tryd.ntmps5
    go_wp2_with fail
    rw [HX0.out]
    refine con.mono ?_
    rintro e X1 ⟨v, rfl, hin, hb⟩
    have U_1 := U_0.on hb
    have B_1 := B_0.trans (hb.mono B_0.size)
    clear con hb U_0 B_0 HX0
    obtain ⟨q0, n0, c0, q1, n1, c1, q3, n3, c3, q4, n4, c4, q5, n5, c5, rfl, i0, i1, i3, i4, i5⟩ := id hin
    obtain ⟨X2, hX2⟩ : ∃ X2, X1.alloc (.cells #[.slice q0 n0 c0, .slice q1 n1 c1, .int .i64 u.port, .slice q3 n3 c3, .slice q4 n4 c4, .slice q5 n5 c5, .bool u.hq, .bool u.hf] 25) = X2 := ⟨_, rfl⟩
    have hb : Below X1.heap.size X1 X2 := by rw [← hX2]; exact (Below.refl _ _).alloc (Nat.le_refl _) _
    obtain ⟨b4, hb4⟩ : ∃ b, X1.heap.size = b := ⟨_, rfl⟩
    have W_2 : UB b4 #[.slice q0 n0 c0, .slice q1 n1 c1, .int .i64 u.port, .slice q3 n3 c3, .slice q4 n4 c4, .slice q5 n5 c5, .bool u.hq, .bool u.hf] X2 := by rw [← hX2, ← hb4]; exact UB.new X1 _
    have hne : ¬ w.heap.size = b4 := by have := U_1.lt; omega
    have hne' : ¬ b4 = w.heap.size := fun h => hne h.symm
    have U_2 := U_1.on hb
    have B_2 := B_1.trans (hb.mono B_1.size)
    have HX2 := Lib.hid hX2
    have HB4 := Lib.hid hb4
    have con := Text_any u _ X2 (hin.on hb) HO.out (HG.out.on B_2) (by have := HT.out; omega)
    have j0 := i0.on hb
    have j1 := i1.on hb
    have j3 := i3.on hb
    have j4 := i4.on hb
    have j5 := i5.on hb
    obtain ⟨L, hL⟩ : ∃ L, (textU u).length = L := ⟨_, rfl⟩
    have d1 : decide ((4096 : Int) < (L : Int)) = false := by have := HT.out; simp; omega
    rw [hL] at con
    clear hX2 hb4 U_1 B_1 hin i0 i1 i3 i4 i5 hb hL
    go_wp2_with fail
    rw [HB4.out, HX2.out]
    refine con.mono ?_
    rintro e X3 ⟨v3, rfl, hr, hb⟩
    obtain ⟨qt, ct, rfl, _, _, _, _, _⟩ := row_open hr
    have U_3 := U_2.on hb
    have W_3 := W_2.on hb
    have B_3 := B_2.trans (hb.mono B_2.size)
    have k0 := j0.on hb
    have k1 := j1.on hb
    have k3 := j3.on hb
    have k4 := j4.on hb
    have k5 := j5.on hb
    clear con hr hb U_2 W_2 B_2 j0 j1 j3 j4 j5 HX2 HB4
    have yb := W_3.box
    have yc0 := yb 0 _ rfl
    have yf0 := W_3.frozen 0
    have yc1 := yb 1 _ rfl
    have yf1 := W_3.frozen 1
    have yc2 := yb 2 _ rfl
    have yf2 := W_3.frozen 2
    have yc3 := yb 3 _ rfl
    have yf3 := W_3.frozen 3
    have yc4 := yb 4 _ rfl
    have yf4 := W_3.frozen 4
    have yc5 := yb 5 _ rfl
    have yf5 := W_3.frozen 5
    have yc6 := yb 6 _ rfl
    have yf6 := W_3.frozen 6
    have yc7 := yb 7 _ rfl
    have yf7 := W_3.frozen 7
    clear yb
    have zb := U_3.box
    have zc0 := zb 0 _ rfl
    have zf0 := U_3.frozen 0
    have zc1 := zb 1 _ rfl
    have zf1 := U_3.frozen 1
    have zc2 := zb 2 _ rfl
    have zf2 := U_3.frozen 2
    have zc3 := zb 3 _ rfl
    have zf3 := U_3.frozen 3
    have zc4 := zb 4 _ rfl
    have zf4 := U_3.frozen 4
    have zc5 := zb 5 _ rfl
    have zf5 := U_3.frozen 5
    have zc6 := zb 6 _ rfl
    have zf6 := U_3.frozen 6
    have zc7 := zb 7 _ rfl
    have zf7 := U_3.frozen 7
    clear zb
    go_wp2
    obtain ⟨Y, hY, hU, hkY, hbY⟩ := UB.put (show UB w.heap.size #[.slice none 0 0, .slice none 0 0, .int .i64 0, .slice none 0 0, .slice none 0 0, .slice none 0 0, .bool false, .bool false] _ from U_3) (.slice q0 n0 c0) (.slice q1 n1 c1) (.int .i64 u.port) (.slice q3 n3 c3) (.slice q4 n4 c4) (.slice q5 n5 c5) (.bool u.hq) (.bool u.hf)
    rw [hY]
    (try simp only [Exit.inBlock, Exit.then])
    refine bodyPost_ret (ret_url2 rfl _ _ w.heap.size _ rfl hU rfl) rfl ?_
    exact ⟨_, rfl, ⟨q0, n0, c0, q1, n1, c1, q3, n3, c3, q4, n4, c4, q5, n5, c5, rfl, k0.awayL U_3 nbzL hkY, k1.awayL U_3 nbzL hkY, k3.awayL U_3 nbzL hkY, k4.awayL U_3 nbzL hkY, k5.awayL U_3 nbzL hkY⟩, B_3.trans (hbY _ (Nat.le_refl _))⟩

end Go.Proofs.YtdgejnnapfbaeaaDoor.Url

namespace Go.Proofs.YtdgejnnapfbaeaaDoor.Url
open Go.RowKit Go.Shelf
attribute [local go_sem] Oper.semAt_some

set_option maxRecDepth 100000 in
set_option maxHeartbeats 8000000 in
theorem aheadOf_yes (u : U) (v : Value) (q : Option Addr) (n c k : Nat) (l : List UInt8) (w : World) (h : UrlIn w v u) (hby : By w (.slice q n c) l) (hn : n ≤ 4096) (hG : Gl w) (hk : sepI l = (k : Int)) (hkn : k ≤ n) (h0k : 0 < k) (hs : ∀ b ∈ l.take k, 97 ≤ b.toNat ∧ b.toNat ≤ 122) :
    Calls Tryd.prog 11 #[v, .slice q n c] w fun e w' => e = .returned (.slice none 0 0) ∧ Below w.heap.size w w' := by
  obtain ⟨q0, n0, c0, q1, n1, c1, q3, n3, c3, q4, n4, c4, q5, n5, c5, rfl, -, -, -, -, -⟩ := h
  obtain ⟨W1, hW1⟩ : ∃ W1, w.alloc (.cells #[.slice q0 n0 c0, .slice q1 n1 c1, .int .i64 u.port, .slice q3 n3 c3, .slice q4 n4 c4, .slice q5 n5 c5, .bool u.hq, .bool u.hf] 25) = W1 := ⟨_, rfl⟩
  have hB1 : Below w.heap.size w W1 := by rw [← hW1]; exact (Below.refl _ w).alloc (Nat.le_refl _) _
  have con := hasScheme_yes q n c k l W1 (hby.on hB1) (by omega) (hG.on hB1) hk hkn h0k hs
  have HW1 := Lib.hid hW1
  clear hW1 hs hk hby hG
  go_enter Tryd.func11, Tryd.ntmps11
  go_wp2_with fail
  rw [HW1.out]
  refine con.mono ?_
  rintro e W2 ⟨rfl, hb⟩
  have hB2 := hB1.trans (hb.mono hB1.size)
  clear con hb hB1 HW1
  go_wp2
  go_ret
  exact ⟨rfl, hB2⟩

set_option maxRecDepth 100000 in
set_option maxHeartbeats 8000000 in
theorem aheadOf_nil (u : U) (v : Value) (w : World) (h : UrlIn w v u) (hok : Ok u) (hG : Gl w) (hlen : (textU u).length ≤ 4096) :
    Calls Tryd.prog 11 #[v, .slice none 0 0] w fun e w' => ∃ v', e = .returned v' ∧ w'.ownsRow w.heap.size 5 1 v' (textU (bareU u)).length (byV (textU (bareU u))) ∧ Below w.heap.size w w' := by
  have kc := fun (w : World) (C : Array Value) (n c : Nat) => Lib.run_convert_bytes_const (P := Tryd.prog) w 22 5 C n c Tryd.underlying22 Tryd.underlying5
  obtain ⟨q0, n0, c0, q1, n1, c1, q3, n3, c3, q4, n4, c4, q5, n5, c5, rfl, h0, h1, h3, h4, h5⟩ := id h
  obtain ⟨W1, hW1⟩ : ∃ W1, w.alloc (.cells #[.slice q0 n0 c0, .slice q1 n1 c1, .int .i64 u.port, .slice q3 n3 c3, .slice q4 n4 c4, .slice q5 n5 c5, .bool u.hq, .bool u.hf] 25) = W1 := ⟨_, rfl⟩
  have B_1 : Below w.heap.size w W1 := by rw [← hW1]; exact (Below.refl _ w).alloc (Nat.le_refl _) _
  have U_1 : UB w.heap.size #[.slice q0 n0 c0, .slice q1 n1 c1, .int .i64 u.port, .slice q3 n3 c3, .slice q4 n4 c4, .slice q5 n5 c5, .bool u.hq, .bool u.hf] W1 := by rw [← hW1]; exact UB.new w _
  have con := hasScheme_nil 0 none W1 (by_nil W1) (hG.on B_1)
  have HW1 := Lib.hid hW1
  have HG := Lib.hid hG
  have HO := Lib.hid hok
  have HB := Lib.hid (bare_ok u hok)
  have HL := Lib.hid hlen
  have HL2 := Lib.hid (Nat.le_trans (bare_len u) hlen)
  have HIN := Lib.hid h
  clear hW1 hG hok hlen h h0 h1 h3 h4 h5
  go_enter Tryd.func11, Tryd.ntmps11
  go_wp2_with fail
  rw [HW1.out]
  refine con.mono ?_
  rintro e W2 ⟨rfl, hb⟩
  have U_2 := U_1.on hb
  have B_2 := B_1.trans (hb.mono B_1.size)
  clear con hb B_1 U_1 HW1
  obtain ⟨W3, hW3⟩ : ∃ W, W2.alloc (.cells #[.int .u8 47, .int .u8 47] 5 (2, 3)) = W := ⟨_, rfl⟩
  have hb : Below W2.heap.size W2 W3 := by rw [← hW3]; exact (Below.refl _ _).alloc (Nat.le_refl _) _
  have con := Tryd.bytes_HasPrefix_e1 none (some ⟨W2.heap.size, 0, none⟩) 0 2 2 (by omega) W3
  have U_3 := U_2.on hb
  have B_3 := B_2.trans (hb.mono B_2.size)
  have HW3 := Lib.hid hW3
  clear hW3 hb U_2 B_2
  go_wp2_with fail
  rw [HW3.out]
  refine con.mono ?_
  rintro e w' ⟨rfl, hw⟩
  rw [hw]
  clear hw w' con HW3
  obtain ⟨W4, hW4⟩ : ∃ W, W3.alloc (.cells #[.int .u8 47] 5 (1, 2)) = W := ⟨_, rfl⟩
  have hb : Below W3.heap.size W3 W4 := by rw [← hW4]; exact (Below.refl _ _).alloc (Nat.le_refl _) _
  have con := Tryd.bytes_HasPrefix_e1 none (some ⟨W3.heap.size, 0, none⟩) 0 1 1 (by omega) W4
  have U_4 := U_3.on hb
  have B_4 := B_3.trans (hb.mono B_3.size)
  have HW4 := Lib.hid hW4
  clear hW4 hb U_3 B_3
  go_wp2_with fail
  rw [HW4.out]
  refine con.mono ?_
  rintro e w' ⟨rfl, hw⟩
  rw [hw]
  clear hw w' con HW4
  obtain ⟨W5, hW5⟩ : ∃ W, W4.alloc (.cells #[.int .u8 63] 5 (1, 2)) = W := ⟨_, rfl⟩
  have hb : Below W4.heap.size W4 W5 := by rw [← hW5]; exact (Below.refl _ _).alloc (Nat.le_refl _) _
  have con := Tryd.bytes_HasPrefix_e1 none (some ⟨W4.heap.size, 0, none⟩) 0 1 1 (by omega) W5
  have U_5 := U_4.on hb
  have B_5 := B_4.trans (hb.mono B_4.size)
  have HW5 := Lib.hid hW5
  clear hW5 hb U_4 B_4
  go_wp2_with fail
  rw [HW5.out]
  refine con.mono ?_
  rintro e w' ⟨rfl, hw⟩
  rw [hw]
  clear hw w' con HW5
  have yb := U_5.box
  have yc0 := yb 0 _ rfl
  have yf0 := U_5.frozen 0
  have yc1 := yb 1 _ rfl
  have yf1 := U_5.frozen 1
  have yc2 := yb 2 _ rfl
  have yf2 := U_5.frozen 2
  have yc3 := yb 3 _ rfl
  have yf3 := U_5.frozen 3
  have yc4 := yb 4 _ rfl
  have yf4 := U_5.frozen 4
  have yc5 := yb 5 _ rfl
  have yf5 := U_5.frozen 5
  have yc6 := yb 6 _ rfl
  have yf6 := U_5.frozen 6
  have yc7 := yb 7 _ rfl
  have yf7 := U_5.frozen 7
  clear yb
  have con := Bare_any u _ W5 (HIN.out.on B_5) HO.out (by have := HL.out; omega)
  go_wp2_with fail
  refine con.mono ?_
  rintro e W6 ⟨vb, rfl, hin, hb⟩
  have B_6 := B_5.trans (hb.mono B_5.size)
  clear con hb U_5 B_5 yc0 yf0 yc1 yf1 yc2 yf2 yc3 yf3 yc4 yf4 yc5 yf5 yc6 yf6 yc7 yf7
  have con := Text_any (bareU u) vb W6 hin HB.out (HG.out.on B_6) (by have := HL2.out; omega)
  clear hin
  go_wp2_with fail
  refine con.mono ?_
  rintro e W7 ⟨vt, rfl, hr, hb⟩
  have B_7 := B_6.trans (hb.mono B_6.size)
  have hr' := row_base hr B_6.size
  clear con hb hr
  go_wp2
  go_ret
  exact ⟨_, rfl, hr', B_7⟩

/-- What Resolve answers, given what is parsed. -/
theorem canon_move {o : Sum Int U} {w X : World} {e : Ending} {w' : World} (h : CanonOut o X e w') (hk : Below w.heap.size w X) : CanonOut o w e w' := by
  cases o with
  | inl n => exact ⟨h.1, h.2.1, hk.trans (h.2.2.mono hk.size)⟩
  | inr u => obtain ⟨v, h1, h2, h3⟩ := h; exact ⟨v, h1, h2, hk.trans (h3.mono hk.size)⟩

set_option maxRecDepth 100000 in
set_option maxHeartbeats 8000000 in
/-- Resolve, where what stands ahead is known: dst, put ahead of the text l, is the text of the URL x. -/
theorem Resolve_of (hcan : CanonOk) (u x : U) (v : Value) (q : Option Addr) (n c : Nat) (dst l : List UInt8) (w : World) (h : UrlIn w v u) (hby : By w (.slice q n c) l) (hG : Gl w) (hdl : (dst ++ l).length ≤ 4096) (hc : canonU (dst ++ l) = .inr x) (hx : (textU x).length ≤ 4096)
    (hah : ∀ W, Below w.heap.size w W → Calls Tryd.prog 11 #[v, .slice q n c] W fun e w' => ∃ v', e = .returned v' ∧ w'.ownsRow W.heap.size 5 1 v' dst.length (byV dst) ∧ Below W.heap.size W w') :
    Calls Tryd.prog 7 #[v, .slice q n c] w fun e w' => CanonOut (.inr x) w e w' := by
  obtain ⟨q0, n0, c0, q1, n1, c1, q3, n3, c3, q4, n4, c4, q5, n5, c5, rfl, -, -, -, -, -⟩ := id h
  obtain ⟨W1, hW1⟩ : ∃ W1, (w.alloc (.cells #[.slice q0 n0 c0, .slice q1 n1 c1, .int .i64 u.port, .slice q3 n3 c3, .slice q4 n4 c4, .slice q5 n5 c5, .bool u.hq, .bool u.hf] 25)).alloc (.cells #[.slice none 0 0, .slice none 0 0, .int .i64 0, .slice none 0 0, .slice none 0 0, .slice none 0 0, .bool false, .bool false] 25) = W1 := ⟨_, rfl⟩
  have hBz := (Below.refl _ w).alloc (Nat.le_refl _) (.cells #[.slice q0 n0 c0, .slice q1 n1 c1, .int .i64 u.port, .slice q3 n3 c3, .slice q4 n4 c4, .slice q5 n5 c5, .bool u.hq, .bool u.hf] 25)
  have B_1 : Below w.heap.size w W1 := by rw [← hW1]; exact hBz.alloc hBz.size _
  have U_1 : UB (w.heap.size + 1) zeroU W1 := by
    have := UB.new (w.alloc (.cells #[.slice q0 n0 c0, .slice q1 n1 c1, .int .i64 u.port, .slice q3 n3 c3, .slice q4 n4 c4, .slice q5 n5 c5, .bool u.hq, .bool u.hf] 25)) zeroU
    rw [World.size_alloc] at this
    rw [← hW1]; exact this
  have con := hah W1 B_1
  have T_1 := hby.on B_1
  have HW1 := Lib.hid hW1
  have HG := Lib.hid hG
  have HC := Lib.hid hc
  have HX := Lib.hid hx
  have HCAN := Lib.hid hcan
  have hll : dst.length + l.length ≤ 4096 := by rw [List.length_append] at hdl; exact hdl
  clear hW1 hBz hby hG hc hx hah hdl h hcan
  obtain ⟨dn, hdn⟩ : ∃ n, dst.length = n := ⟨_, rfl⟩
  rw [hdn] at con hll
  have HDN := Lib.hid hdn
  clear hdn
  go_enter Tryd.func7, Tryd.ntmps7
  go_wp2_with fail
  rw [HW1.out]
  refine con.mono ?_
  rintro e W2 ⟨va, rfl, hr, hb⟩
  have U_2 := U_1.on hb
  have B_2 := B_1.trans (hb.mono B_1.size)
  have T_2 := T_1.on hb
  have hs2 := hb.size
  have hU1l := U_1.lt
  have hl := T_2.at.1
  clear con hb U_1 B_1 T_1 HW1
  have hW1s : w.heap.size + 1 < W1.heap.size := hU1l
  go_wp2_with (at_builtin; refine wpList_append_by rfl _ _ rfl W1.heap.size _ dn _ rfl hr _ l rfl T_2 (by omega) hs2 ?_; intro v3 W3 hr3 hg3; have hb3 := grown_below hr hg3 hs2; have U_3 := U_2.below hb3 hW1s; have B_3 := B_2.trans (hb3.mono (by omega)); rw [← byV_app, hl] at hr3; obtain ⟨q3', c3', rfl, _, _, _, _, _⟩ := row_open hr3; have con := Parse_of HCAN.out q3' (dn + n) c3' (dst ++ l) W3 (By.row hr3) (by omega) (HG.out.on B_3) (fun u' hu' => by rw [HC.out] at hu'; cases hu'; exact HX.out); rw [HC.out] at con)
  refine con.mono ?_
  rintro e X4 ⟨vx, rfl, hin, hb⟩
  have U_4 := U_3.on hb
  have B_4 := B_3.trans (hb.mono B_3.size)
  obtain ⟨p0, m0, d0, p1, m1, d1, p3, m3, d3, p4, m4, d4, p5, m5, d5, rfl, t0, t1, t3, t4, t5⟩ := hin
  clear con hb U_3 B_3 hr hr3 hg3 hb3 U_2 B_2 T_2 hl hll hs2 hW1s hU1l HDN HC HX HG HCAN
  have zb := U_4.box
  have zc0 := zb 0 _ rfl
  have zf0 := U_4.frozen 0
  have zc1 := zb 1 _ rfl
  have zf1 := U_4.frozen 1
  have zc2 := zb 2 _ rfl
  have zf2 := U_4.frozen 2
  have zc3 := zb 3 _ rfl
  have zf3 := U_4.frozen 3
  have zc4 := zb 4 _ rfl
  have zf4 := U_4.frozen 4
  have zc5 := zb 5 _ rfl
  have zf5 := U_4.frozen 5
  have zc6 := zb 6 _ rfl
  have zf6 := U_4.frozen 6
  have zc7 := zb 7 _ rfl
  have zf7 := U_4.frozen 7
  clear zb
  go_wp2
  obtain ⟨Y, hY, hU, hkY, hbY⟩ := UB.put (show UB (w.heap.size + 1) #[.slice none 0 0, .slice none 0 0, .int .i64 0, .slice none 0 0, .slice none 0 0, .slice none 0 0, .bool false, .bool false] _ from U_4) (.slice p0 m0 d0) (.slice p1 m1 d1) (.int .i64 x.port) (.slice p3 m3 d3) (.slice p4 m4 d4) (.slice p5 m5 d5) (.bool x.hq) (.bool x.hf)
  rw [hY]
  (try simp only [Exit.inBlock, Exit.then])
  refine bodyPost_ret (ret_url2 rfl _ _ (w.heap.size + 1) _ rfl hU rfl) rfl ?_
  exact ⟨_, rfl, ⟨p0, m0, d0, p1, m1, d1, p3, m3, d3, p4, m4, d4, p5, m5, d5, rfl, t0.awayL U_4 nbzL hkY, t1.awayL U_4 nbzL hkY, t3.awayL U_4 nbzL hkY, t4.awayL U_4 nbzL hkY, t5.awayL U_4 nbzL hkY⟩, B_4.trans (hbY _ (Nat.le_succ _))⟩

end Go.Proofs.YtdgejnnapfbaeaaDoor.Url

namespace Go.Proofs.YtdgejnnapfbaeaaDoor.Url
open Go.RowKit Go.Shelf
attribute [local go_sem] Oper.semAt_some

theorem canonOk : CanonOk := fun q n c t w h1 h2 h3 => canonOf_any q n c t w h1 h2 h3
def liveT : List UInt8 := [72, 84, 84, 80, 83, 58, 47, 47, 65, 46, 111, 114, 103, 58, 52, 52, 51, 47, 120, 47, 46, 46, 47, 121, 63, 113, 35, 102]
def liveS : List UInt8 := [104, 116, 116, 112, 115, 58, 47, 47, 97, 46, 111, 114, 103, 47, 121, 63, 113, 35, 102]
def textOf (o : Sum Int U) : Option (List UInt8) := match o with
  | .inr u => some (textU u)
  | .inl _ => none
theorem live_of : textOf (canonU liveT) = some liveS := by decide +kernel
theorem live_url : ∃ u, canonU liveT = .inr u ∧ textU u = liveS := by
  have h := live_of
  cases hc : canonU liveT with
  | inl n => rw [hc] at h; cases h
  | inr u => rw [hc] at h; exact ⟨u, rfl, Option.some.inj h⟩
theorem canon_ok (t : List UInt8) (u : U) (h : canonU t = .inr u) (hl : t.length ≤ 4096) : Ok u := parse_ok t u (by rw [parse_canon t hl]; exact h)

set_option maxRecDepth 100000 in
set_option maxHeartbeats 8000000 in
theorem lives_any (w : World) (hG : Gl w) : Calls Tryd.prog 4 #[] w fun e w' => e = .returned (.bool true) ∧ Below w.heap.size w w' := by
  have kc := fun (w : World) (C : Array Value) (n c : Nat) => Lib.run_convert_bytes_const (P := Tryd.prog) w 22 5 C n c Tryd.underlying22 Tryd.underlying5
  obtain ⟨u, hu, hT⟩ := live_url
  obtain ⟨X0, hX0⟩ : ∃ X0, w.alloc (.cells #[.int .u8 72, .int .u8 84, .int .u8 84, .int .u8 80, .int .u8 83, .int .u8 58, .int .u8 47, .int .u8 47, .int .u8 65, .int .u8 46, .int .u8 111, .int .u8 114, .int .u8 103, .int .u8 58, .int .u8 52, .int .u8 52, .int .u8 51, .int .u8 47, .int .u8 120, .int .u8 47, .int .u8 46, .int .u8 46, .int .u8 47, .int .u8 121, .int .u8 63, .int .u8 113, .int .u8 35, .int .u8 102] 5 (28, 29)) = X0 := ⟨_, rfl⟩
  have B_0 : Below w.heap.size w X0 := by rw [← hX0]; exact (Below.refl _ w).alloc (Nat.le_refl _) _
  have hby : By X0 (.slice (some ⟨w.heap.size, 0, none⟩) 28 28) liveT := by rw [← hX0]; exact by_lit w #[.int .u8 72, .int .u8 84, .int .u8 84, .int .u8 80, .int .u8 83, .int .u8 58, .int .u8 47, .int .u8 47, .int .u8 65, .int .u8 46, .int .u8 111, .int .u8 114, .int .u8 103, .int .u8 58, .int .u8 52, .int .u8 52, .int .u8 51, .int .u8 47, .int .u8 120, .int .u8 47, .int .u8 46, .int .u8 46, .int .u8 47, .int .u8 121, .int .u8 63, .int .u8 113, .int .u8 35, .int .u8 102] liveT (28, 29) 28 rfl rfl (by decide)
  have hl19 : (textU u).length = 19 := by rw [hT]; rfl
  have con := Parse_of canonOk (some ⟨w.heap.size, 0, none⟩) 28 28 liveT X0 hby (by omega) (hG.on B_0) (fun u' hu' => by rw [hu] at hu'; cases hu'; omega)
  rw [hu] at con
  have HO := Lib.hid (canon_ok liveT u hu (by decide))
  have HX0 := Lib.hid hX0
  have HT := Lib.hid hT
  have HG := Lib.hid hG
  have HL := Lib.hid hl19
  have e1 : (liveS == ([104, 116, 116, 112, 115, 58, 47, 47, 97, 46, 111, 114, 103, 47, 121, 63, 113, 35, 102] : List UInt8)) = true := by decide
  clear hX0 hby hG hu hT hl19
  go_enter Tryd.func4, Tryd.ntmps4
  go_wp2_with fail
  rw [HX0.out]
  refine con.mono ?_
  rintro e X1 ⟨v, rfl, hin, hb⟩
  have B_1 := B_0.trans (hb.mono B_0.size)
  clear con hb B_0 HX0
  obtain ⟨q0, n0, c0, q1, n1, c1, q3, n3, c3, q4, n4, c4, q5, n5, c5, rfl, i0, i1, i3, i4, i5⟩ := id hin
  obtain ⟨X2, hX2⟩ : ∃ X2, X1.alloc (.cells #[.slice q0 n0 c0, .slice q1 n1 c1, .int .i64 u.port, .slice q3 n3 c3, .slice q4 n4 c4, .slice q5 n5 c5, .bool u.hq, .bool u.hf] 25) = X2 := ⟨_, rfl⟩
  have hb : Below X1.heap.size X1 X2 := by rw [← hX2]; exact (Below.refl _ _).alloc (Nat.le_refl _) _
  have B_2 := B_1.trans (hb.mono B_1.size)
  have con := Text_any u _ X2 (hin.on hb) HO.out (HG.out.on B_2) (by have := HL.out; omega)
  rw [HT.out] at con
  have HX2 := Lib.hid hX2
  clear hX2 hb B_1 hin i0 i1 i3 i4 i5
  go_wp2_with fail
  rw [HX2.out]
  refine con.mono ?_
  rintro e X3 ⟨v3, rfl, hr, hb⟩
  replace hr : X3.ownsRow X2.heap.size 5 1 v3 19 (byV liveS) := hr
  obtain ⟨qt, ct, rfl, _, _, _, hbt, _⟩ := row_open hr
  have hcv := conv_bytes (c := ct) hbt rfl
  have B_3 := B_2.trans (hb.mono B_2.size)
  clear con hr hb B_2 HX2 hbt
  go_wp2
  go_ret
  exact ⟨(by first | rfl | rw [e1] | simp [e1]), B_3⟩

end Go.Proofs.YtdgejnnapfbaeaaDoor.Url
