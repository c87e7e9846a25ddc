/- cut.Fields: its iterator tells the pieces that have bytes. Conditions: a text is of at most the model's greatest length. -/
import Derived.Test.YtefgccdpgfdelaaFieldC
import Derived.Test.YtefgccdpgfdelaaCutI
namespace Go.Proofs.Ytefgccdpgfdelaa
open Go.RowKit Go.Shelf
attribute [local go_sem] Oper.semAt_some

/-- Three boxes laid. -/
theorem three_boxes (W : World) (t0 t1 t2 : TypeId) (v0 v1 v2 : Value) :
    ∃ W1, (((W.alloc (.cells #[v0] t0)).alloc (.cells #[v1] t1)).alloc (.cells #[v2] t2)) = W1 ∧
      Boxed W1 W.heap.size t0 v0 ∧ Boxed W1 (W.heap.size + 1) t1 v1 ∧ Boxed W1 (W.heap.size + 1 + 1) t2 v2 ∧ W1.heap.size = W.heap.size + 3 ∧ ∀ S, Keep S W W1 := by
  refine ⟨_, rfl, ?_, ?_, ?_, ?_, fun S => ?_⟩
  · exact ((Boxed.new W t0 v0).alloc _).alloc _
  · have := (Boxed.new (W.alloc (.cells #[v0] t0)) t1 v1).alloc (.cells #[v2] t2)
    rwa [World.size_alloc] at this
  · have := Boxed.new ((W.alloc (.cells #[v0] t0)).alloc (.cells #[v1] t1)) t2 v2
    rwa [World.size_alloc, World.size_alloc] at this
  · simp
  · exact ((Keep.alloc S _ _).trans (Keep.alloc S _ _)).trans (Keep.alloc S _ _)

/-- Number i alone may come up, and is not wanted. -/
theorem anyH_skip {F : Fence} {n : Nat} {P : Program} {ops : Array Oper} {Q : Exit → Act → World → Prop} {md : Region.Mode} {S : World → Prop} (i : Nat) {fuel : Nat} {listed : Array Bool} {a : Act} {w : World} {o : Oper}
    (hr : Region.ready md ops listed = [i]) (ho : ops[i]? = some o) (hw : Region.wanted o (yielded ops a.tmps) = false) (hF : ∀ f, F.fn f) (hS : S w)
    (h : anyH F n P md ops Q S fuel (listed.setIfInBounds i true) (a.put o.dst undef) w) : anyH F n P md ops Q S (fuel + 1) listed a w :=
  anyH_one i hr ho fun K hK => by
    rw [if_neg (by rw [hw]; simp)]
    exact ⟨fun f _ => hF f, hK _ _ hS h⟩

theorem isBlank_tests (RB : Nat → Prop) (w0 : World) : Tests Try.prog 33 #[] blankB RB w0 :=
  ⟨enters_of Try.func33 (by kernel_rfl) rfl, fun b W _ => isBlank_any b W⟩

theorem Fields_any (q : Option Addr) (n c : Nat) (l : List UInt8) (w : World) (hl : l.length = n) (hn : n ≤ 140737488355328) (h : Lib.BytesIn w q n (Lib.numsL l)) :
    Calls Try.prog 14 #[.slice q n c] w fun e w' => ∃ B v', e = .returned (.func (.func 32) #[] #[.pointer (some ⟨B, 0, none⟩)]) ∧
      Boxed w' B 22 v' ∧ w'.ownsRow w.heap.size 5 1 v' n ((Lib.numsL l).map (Value.int .u8)) ∧ w.heap.size ≤ B ∧ Below w.heap.size w w' := by
  have hcon := Clone_any q n c l w hl hn h
  clear h
  go_enter Try.func14, Try.ntmps14
  go_wp2_with fail
  refine hcon.mono ?_
  rintro e w1 ⟨v', rfl, hrow, hbel⟩
  obtain ⟨q', c', rfl, _, _, _, _, hblk⟩ := row_open hrow
  go_wp2
  go_ret
  refine ⟨w1.heap.size, _, rfl, Boxed.new w1 _ _, hrow.alloc _, hbel.size, hbel.alloc hbel.size _⟩

set_option maxRecDepth 100000 in
set_option maxHeartbeats 4000000 in
theorem Fields1_iter (B : Nat) (q : Option Addr) (n c : Nat) (l : List UInt8) (RB : Nat → Prop) (w0 : World)
    (hl : l.length = n) (hn : n ≤ 140737488355328) (hnc : n ≤ c) (hb : Lib.BytesIn w0 q n (Lib.numsL l)) (hq : ∀ a, q = some a → 0 < n → RB a.block)
    (hB : Boxed w0 B 22 (.slice q n c)) (hRB : RB B) (hRs : ∀ b, RB b → b < w0.heap.size) :
    IterC Try.prog 32 #[.pointer (some ⟨B, 0, none⟩)] RowArg (fieldsL l) RB w0 := by
  intro l' J Jx W hW hJ hJx hY h0
  refine (callsIn_wide (n := 1)).1 ?_
  refine callsIn_of_wp_marks Try.func32 rfl trivial ?_ rfl
  simp only [Try.ntmps32, List.size_toArray, List.length_cons, List.length_nil, Nat.reduceAdd, Nat.reduceSub, Array.replicate_succ, Array.replicate_zero, List.push_toArray, List.append_toArray, List.nil_append, List.cons_append]
  have bB := (hW.boxed hB hRB).cell
  have bB1 : ∀ o, (W.alloc o).cell? ⟨B, 0, none⟩ = some (.slice q n c) := fun o => ((hW.boxed hB hRB).alloc o).cell
  gi_wp2_with fail
  refine ⟨trivial, (callsIn_wide.2 (spans_any _ _ _ _ _ _)).mono ?_⟩
  rintro e w' ⟨rfl, rfl⟩
  gi_wp2
  obtain ⟨W1, hW1, a0, a1, a2, hsz, hk1⟩ := three_boxes W 40 22 56 (.func (.yield l') #[] #[]) (.slice q n c) (.func (.func 33) #[] #[])
  rw [hW1]
  clear hW1 bB1 bB
  obtain ⟨RBin, hRBin⟩ : ∃ RBin : Nat → Prop, RBin = fun b => RB b ∨ b = W.heap.size ∨ b = W.heap.size + 1 ∨ b = W.heap.size + 1 + 1 := ⟨_, rfl⟩
  obtain ⟨Ow, hOw⟩ : ∃ Ow : Nat → Prop, Ow = fun b => b = W.heap.size ∨ b = W.heap.size + 1 ∨ b = W.heap.size + 1 + 1 := ⟨_, rfl⟩
  have hW0 := hW.size
  have hRl : ∀ b, RBin b → b < W1.heap.size := fun b hb => by rw [hRBin] at hb; rcases hb with hb | hb; (have := hRs b hb; omega); omega
  have hRBo : ∀ b, RB b → RBin b := fun b hb => by rw [hRBin]; exact .inl hb
  have hOwR : ∀ b, RBin b → RB b ∨ Ow b := fun b hb => by rw [hRBin] at hb; rw [hOw]; exact hb
  have hOwI : ∀ b, Ow b → RBin b := fun b hb => by rw [hRBin]; rw [hOw] at hb; exact .inr hb
  have hOwl : ∀ b, Ow b → W.heap.size ≤ b ∧ b < W1.heap.size := fun b hb => by rw [hOw] at hb; omega
  have o0 : Ow W.heap.size := by rw [hOw]; exact .inl rfl
  have o1 : Ow (W.heap.size + 1) := by rw [hOw]; exact .inr (.inl rfl)
  have o2 : Ow (W.heap.size + 1 + 1) := by rw [hOw]; exact .inr (.inr rfl)
  clear hRBin hOw
  have hb1 : Lib.BytesIn W1 q n (Lib.numsL l) := fun h => by
    obtain ⟨b, o, rfl, hc⟩ := hb.at h
    exact ⟨b, o, rfl, fun i hi => (World.cell?_of_block ((hW.trans (hk1 RB)).block b (World.block_lt_of_cell? w0 _ (hc i hi)) (hq _ rfl h))).trans (hc i hi)⟩
  have aB := (hW.trans (hk1 RB)).boxed hB hRB
  refine rf_law (gf := 46) (lb := #[.pointer (some ⟨W.heap.size + 1, 0, none⟩), .pointer (some ⟨W.heap.size + 1 + 1, 0, none⟩)]) rfl (enters_of Try.func46 (by kernel_rfl) rfl)
    (spans1_iter (W.heap.size + 1) (W.heap.size + 1 + 1) q n c 33 #[] l blankB RBin W1 hl hn hb1 (fun a h1 h2 => hRBo _ (hq a h1 h2)) a1 a2 (hOwI _ o1) (hOwI _ o2)
      (isBlank_tests RBin W1)) (Keep.refl _ _) hRl (fun x args G W h => by rw [h.1]; rfl)
    (AdI RBin Ow W1 J (fieldsOf l) (fun _ _ => True)) (AdX J Jx (fieldsL l)) (AdI_abide hJ hRl (fun _ _ _ _ h => h)) (AdX_abide hJ hJx)
    ⟨Keep.refl _ _, (fun _ h => h.elim), trivial, Ow, hJ _ _ _ _ _ h0 (hk1 _) (fun b hb => ⟨.inr (hOwl b hb).1, (hOwl b hb).2⟩), (fun _ h => h.elim), (fun _ h => h), (fun b hb => (hOwl b hb).2)⟩ ?round ?done ?stop
  case round =>
    rintro ll pre ⟨f, t⟩ rest Pv G args Wr hll hxs ⟨hKI, hge, _, Q, hj, hPQ, hOQ, hQl⟩ hPl hGl hPb hGP ⟨rfl, rfl⟩
    gi_wp2
    refine ⟨Keep.refl _ _, fun W2 hk2 hs2 r hr => ?_⟩
    have hbd := spansL_bounds blankB l (f, t) (by rw [hxs]; simp)
    simp only at hbd
    have hlW : W1.heap.size ≤ ll := hge ll hPl
    have j2 : J (fieldsOf l pre) Q W2 := hJ _ _ _ _ _ hj (hk2.mono fun b _ hb => by rintro rfl; exact hb (hPQ _ hPl)) fun b hb => ⟨.inl hb, by have := hQl b hb; omega⟩
    have k2 : Keep RBin W1 W2 := hKI.trans (hk2.mono fun b _ hb => by have := hRl b hb; omega)
    have hQ2 : ∀ b, Q b → b < W2.heap.size := fun b hb => by have := hQl b hb; omega
    have b0 := k2.boxed a0 (hOwI _ o0)
    have bB := k2.boxed aB (hRBo _ hRB)
    have c0 : W2.drew.cell? ⟨W.heap.size, 0, none⟩ = some (.func (.yield l') #[] #[]) := b0.cell
    have cB : W2.drew.cell? ⟨B, 0, none⟩ = some (.slice q n c) := bB.cell
    have hsl := run_slice_sub q n c f t
    by_cases hf : f < t
    · have hT : decide ((f : Int) < (t : Int)) = true := by simp; omega
      obtain ⟨r, hys⟩ := fieldsOf_mid l pre (f, t) rest hxs hf
      have key := fun (w4 : World) (v4 : Value) (m : Nat) => yield_row (w4 := w4) (v4 := v4) (n := m) hJ hY hys j2 hQ2
      have hbs : Lib.BytesIn W2.drew (subA q c f) (t - f) (Lib.numsL (sub l f t)) := bytes_keep (bytes_sub (bytes_keep hb1 k2 (fun a h1 h2 => hRBo _ (hq a h1 h2))) hl hbd.1 (by omega) hnc) (Keep.drew (fun _ => True) _) (fun _ _ _ => trivial)
      have hm := sub_length l f t hbd.2
      have con2 := Clone_any (subA q c f) (t - f) (c - f) (sub l f t) W2.drew hm (by omega) hbs
      have hys' := hys
      have hf' := hf
      obtain ⟨y, HYY⟩ : ∃ y, Hid (y = sub l f t) := ⟨_, rfl⟩
      simp only at hys key
      rw [← HYY.out] at con2 key hm
      have hft : f ≤ t := hbd.1
      have htc : t ≤ c := by omega
      have HSL := fun W => hsl W hft htc
      have after : ∀ w4 v4, w4.ownsRow W2.heap.size 5 1 v4 (t - f) ((Lib.numsL y).map (Value.int .u8)) → Below W2.heap.size W2.drew w4 →
          w4.cell? ⟨W.heap.size, 0, none⟩ = some (.func (.yield l') #[] #[]) ∧ w4.cell? ⟨B, 0, none⟩ = some (.slice q n c) ∧ YieldAt Fence.wide 0 Try.prog l' #[v4] w4 fun e W' => ∃ ok : Bool, e = .returned (.bool ok) ∧ RowPost J Jx (fieldsOf l pre ++ [y]) RB Q W2 ok W' := by
        intro w4 v4 h1 h2
        have hbw : Below W2.heap.size W2 w4 := ((Below.refl _ W2).drew).trans h2
        exact ⟨((Keep.of_below hbw).boxed b0 b0.lt).cell, ((Keep.of_below hbw).boxed bB bB.lt).cell, key w4 v4 (t - f) hbw (by first | exact hm | exact hm.symm) h1⟩
      clear key hbs hbd hb1 hf hxs hys hsl hY hb hq hm
      gi_wp2_with fail
      refine region_any (fun w => w.cell? ⟨W.heap.size, 0, none⟩ = some (.func (.yield l') #[] #[]) ∧ w.cell? ⟨B, 0, none⟩ = some (.slice q n c)) (by kernel_rfl) ?_
      refine anyH_take 0 (v := .int .i64 f) rfl (by kernel_rfl) (by kernel_rfl) (by kernel_rfl) (by kernel_rfl) (fun _ _ _ h => h) ⟨.inl ⟨by kernel_rfl, ?_⟩, fun _ => rfl⟩ ⟨c0, cB⟩ ?_
      · rintro w ⟨h1, h2⟩; go_simp
      refine anyH_take 1 (v := .int .i64 t) rfl (by kernel_rfl) (by kernel_rfl) (by kernel_rfl) (by kernel_rfl) (fun _ _ _ h => h) ⟨.inl ⟨by kernel_rfl, ?_⟩, fun _ => rfl⟩ ⟨c0, cB⟩ ?_
      · rintro w ⟨h1, h2⟩; go_simp
      refine anyH_take 2 (v := .bool true) rfl (by kernel_rfl) (by kernel_rfl) (by kernel_rfl) (by kernel_rfl) (fun _ _ _ h => h) ⟨.inl ⟨by kernel_rfl, ?_⟩, fun _ => rfl⟩ ⟨c0, cB⟩ ?_
      · rintro w ⟨h1, h2⟩; go_simp
      refine anyH_take 3 (v := .bool true) rfl (by kernel_rfl) (by kernel_rfl) (by kernel_rfl) (by kernel_rfl) (fun _ _ _ h => h) ⟨.inl ⟨by kernel_rfl, ?_⟩, fun _ => rfl⟩ ⟨c0, cB⟩ ?_
      · rintro w ⟨h1, h2⟩; go_simp
      refine anyH_take 4 (v := .func (.yield l') #[] #[]) rfl (by kernel_rfl) (by kernel_rfl) (by kernel_rfl) (by kernel_rfl) (fun _ _ _ h => h) ⟨.inl ⟨by kernel_rfl, ?_⟩, fun _ => rfl⟩ ⟨c0, cB⟩ ?_
      · rintro w ⟨h1, h2⟩; go_simp
      refine anyH_take 5 (v := .slice q n c) rfl (by kernel_rfl) (by kernel_rfl) (by kernel_rfl) (by kernel_rfl) (fun _ _ _ h => h) ⟨.inl ⟨by kernel_rfl, ?_⟩, fun _ => rfl⟩ ⟨c0, cB⟩ ?_
      · rintro w ⟨h1, h2⟩; go_simp
      refine anyH_take 6 (v := .int .i64 f) rfl (by kernel_rfl) (by kernel_rfl) (by kernel_rfl) (by kernel_rfl) (fun _ _ _ h => h) ⟨.inl ⟨by kernel_rfl, ?_⟩, fun _ => rfl⟩ ⟨c0, cB⟩ ?_
      · rintro w ⟨h1, h2⟩; go_simp
      refine anyH_take 7 (v := .int .i64 t) rfl (by kernel_rfl) (by kernel_rfl) (by kernel_rfl) (by kernel_rfl) (fun _ _ _ h => h) ⟨.inl ⟨by kernel_rfl, ?_⟩, fun _ => rfl⟩ ⟨c0, cB⟩ ?_
      · rintro w ⟨h1, h2⟩; go_simp
      refine anyH_take 8 (v := .slice (subA q c f) (t - f) (c - f)) rfl (by kernel_rfl) (by kernel_rfl) (by kernel_rfl) (by kernel_rfl) (fun _ _ _ h => h) ⟨.inl ⟨by kernel_rfl, ?_⟩, fun _ => rfl⟩ ⟨c0, cB⟩ ?_
      · rintro w ⟨h1, h2⟩; go_simp
      refine anyH_one 9 (by kernel_rfl) rfl fun K hK => ?_
      go_simp
      refine ⟨trivial, rfl, (CallsIn.inRound ll (callsIn_wide.2 con2)).mono ?_⟩
      rintro e w4 ⟨v4, rfl, hrow4, hbel4⟩
      rw [drew_size] at hrow4 hbel4
      obtain ⟨d0, dB, fn, tmps, assign, body, hy, hR⟩ := after w4 v4 hrow4 hbel4
      refine hK _ _ ⟨d0, dB⟩ ?_
      clear hK K
      refine anyH_one 10 (by kernel_rfl) rfl fun K hK => ?_
      go_simp
      refine ⟨rfl, RoundIn.mono hR ?_⟩
      rintro e W5 ⟨ok, rfl, hpost⟩
      refine hK _ _ ⟨(hpost.1.boxed b0 (.inr (hOQ _ o0))).cell, (hpost.1.boxed bB (.inl hRB)).cell⟩ ?_
      clear hK K
      refine anyH_take 11 (v := .bool (!ok)) rfl (by kernel_rfl) (by kernel_rfl) (by kernel_rfl) (by kernel_rfl) (fun _ _ _ h => h) ⟨.inl ⟨by kernel_rfl, ?_⟩, fun _ => rfl⟩ ⟨(hpost.1.boxed b0 (.inr (hOQ _ o0))).cell, (hpost.1.boxed bB (.inl hRB)).cell⟩ ?_
      · rintro w ⟨h1, h2⟩; go_simp
      refine anyH_take 12 (v := .bool (!ok)) rfl (by kernel_rfl) (by kernel_rfl) (by kernel_rfl) (by kernel_rfl) (fun _ _ _ h => h) ⟨.inl ⟨by kernel_rfl, ?_⟩, fun _ => rfl⟩ ⟨(hpost.1.boxed b0 (.inr (hOQ _ o0))).cell, (hpost.1.boxed bB (.inl hRB)).cell⟩ ?_
      · rintro w ⟨h1, h2⟩; go_simp
      refine anyH_done (by kernel_rfl) ?_ _
      obtain ⟨hkp, Q', hQQ, hQl', hpost⟩ := hpost
      have hs5 := hkp.size
      have hkk : Keep (fun b => RBin b ∨ Pv b) W2 W5 := hkp.mono fun b _ h => h.elim (fun h => (hOwR b h).imp id (hOQ b)) (fun h => .inr (hPQ b h))
      have HX2 := Lib.hid (fieldsOf_some l pre f t hf')
      have HY := Lib.hid hys'
      clear hkp after con2 HSL hy hR hrow4 hbel4 d0 dB hys' hf' hT
      cases ok with
      | true =>
        have hj5 := hpost.resolve_right (by simp)
        gi_wp2
        refine ⟨hkk, k2.trans (hkk.mono fun b _ h => .inl h), fun b hb => hge b hb, trivial, Q', ?_, fun b hb => hQQ b (hPQ b hb), fun b hb => hQQ b (hOQ b hb), hQl'⟩
        rw [HX2.out]
        exact HYY.out ▸ hj5.2
      | false =>
        have hj5 := hpost.resolve_left (by simp)
        gi_wp2
        exact ⟨hkk, rfl, Q', fun b hb => hQQ b (hPQ b hb), hQl', .inr ⟨_, r, by rw [HY.out, HYY.out, List.append_assoc]; rfl, hj5.2⟩⟩
    · have hT : decide ((f : Int) < (t : Int)) = false := by simp; omega
      have HX2 := Lib.hid (fieldsOf_none l pre f t hf)
      have hf2 : (t : Int) ≤ (f : Int) := by omega
      clear hsl hf hb1 hxs hY hb hq hbd
      gi_wp2_with fail
      refine region_any (fun w => w.cell? ⟨W.heap.size, 0, none⟩ = some (.func (.yield l') #[] #[]) ∧ w.cell? ⟨B, 0, none⟩ = some (.slice q n c)) (by kernel_rfl) ?_
      refine anyH_take 0 (v := .int .i64 f) rfl (by kernel_rfl) (by kernel_rfl) (by kernel_rfl) (by kernel_rfl) (fun _ _ _ h => h) ⟨.inl ⟨by kernel_rfl, ?_⟩, fun _ => rfl⟩ ⟨c0, cB⟩ ?_
      · rintro w ⟨h1, h2⟩; go_simp
      refine anyH_take 1 (v := .int .i64 t) rfl (by kernel_rfl) (by kernel_rfl) (by kernel_rfl) (by kernel_rfl) (fun _ _ _ h => h) ⟨.inl ⟨by kernel_rfl, ?_⟩, fun _ => rfl⟩ ⟨c0, cB⟩ ?_
      · rintro w ⟨h1, h2⟩; go_simp
      refine anyH_take 2 (v := .bool false) rfl (by kernel_rfl) (by kernel_rfl) (by kernel_rfl) (by kernel_rfl) (fun _ _ _ h => h) ⟨.inl ⟨by kernel_rfl, ?_⟩, fun _ => rfl⟩ ⟨c0, cB⟩ ?_
      · rintro w ⟨h1, h2⟩; first | (go_simp; done) | (go_simp; omega)
      refine anyH_take 3 (v := .bool false) rfl (by kernel_rfl) (by kernel_rfl) (by kernel_rfl) (by kernel_rfl) (fun _ _ _ h => h) ⟨.inl ⟨by kernel_rfl, ?_⟩, fun _ => rfl⟩ ⟨c0, cB⟩ ?_
      · rintro w ⟨h1, h2⟩; go_simp
      refine anyH_take 4 (v := undef) rfl (by kernel_rfl) (by kernel_rfl) (by kernel_rfl) (by kernel_rfl) (fun _ _ _ h => h) ⟨.inr ⟨by kernel_rfl, rfl⟩, fun _ => rfl⟩ ⟨c0, cB⟩ ?_
      refine anyH_take 5 (v := undef) rfl (by kernel_rfl) (by kernel_rfl) (by kernel_rfl) (by kernel_rfl) (fun _ _ _ h => h) ⟨.inr ⟨by kernel_rfl, rfl⟩, fun _ => rfl⟩ ⟨c0, cB⟩ ?_
      refine anyH_take 6 (v := undef) rfl (by kernel_rfl) (by kernel_rfl) (by kernel_rfl) (by kernel_rfl) (fun _ _ _ h => h) ⟨.inr ⟨by kernel_rfl, rfl⟩, fun _ => rfl⟩ ⟨c0, cB⟩ ?_
      refine anyH_take 7 (v := undef) rfl (by kernel_rfl) (by kernel_rfl) (by kernel_rfl) (by kernel_rfl) (fun _ _ _ h => h) ⟨.inr ⟨by kernel_rfl, rfl⟩, fun _ => rfl⟩ ⟨c0, cB⟩ ?_
      refine anyH_take 8 (v := undef) rfl (by kernel_rfl) (by kernel_rfl) (by kernel_rfl) (by kernel_rfl) (fun _ _ _ h => h) ⟨.inr ⟨by kernel_rfl, rfl⟩, fun _ => rfl⟩ ⟨c0, cB⟩ ?_
      refine anyH_skip 9 (by kernel_rfl) rfl (by kernel_rfl) (fun _ => trivial) ⟨c0, cB⟩ ?_
      refine anyH_skip 10 (by kernel_rfl) rfl (by kernel_rfl) (fun _ => trivial) ⟨c0, cB⟩ ?_
      refine anyH_take 11 (v := undef) rfl (by kernel_rfl) (by kernel_rfl) (by kernel_rfl) (by kernel_rfl) (fun _ _ _ h => h) ⟨.inr ⟨by kernel_rfl, rfl⟩, fun _ => rfl⟩ ⟨c0, cB⟩ ?_
      refine anyH_one 12 (by kernel_rfl) rfl fun K hK => ?_
      go_simp
      first | refine hK _ _ ⟨c0, cB⟩ ?_ | refine ⟨trivial, hK _ _ ⟨c0, cB⟩ ?_⟩
      clear hK K
      refine anyH_done (by kernel_rfl) ?_ _
      gi_wp2
      refine ⟨Keep.drew _ W2, k2.trans (Keep.drew _ W2), fun b hb => hge b hb, trivial, Q, ?_, hPQ, hOQ, hQ2⟩
      rw [HX2.out]
      exact hJ _ _ _ _ _ j2 (Keep.drew _ W2) fun b hb => ⟨.inl hb, hQ2 b hb⟩
  case done =>
    rintro D Pv Wd hD hPD hPl ⟨_, hge, _, Q, hj, hPQ, hOQ, hQl⟩ hK
    gi_wp2
    refine ⟨by simp, .inl ⟨_, _, rfl, run_takeDeferred hK, ?_⟩⟩
    refine ⟨_, results_none rfl _ _ _, ⟨_, rfl⟩, Q, ?_, .inl ?_⟩
    · intro b hb; rw [World.putObj_size]; exact hQl b hb
    · exact hJ _ _ _ _ _ hj (Keep.putObj _ _ _ (fun h => h (hPQ D hPD))) (fun b hb => ⟨.inl hb, by rw [World.putObj_size]; exact hQl b hb⟩)
  case stop =>
    rintro D cc pre rest Pv Wd hD hPD hPl hxs ⟨rfl, Q, hPQ, hQl, hj⟩ hK
    gi_wp2
    refine ⟨by simp, .inl ⟨_, _, rfl, run_takeDeferred hK, ?_⟩⟩
    refine ⟨_, results_none rfl _ _ _, ⟨_, rfl⟩, Q, ?_, ?_⟩
    · intro b hb; rw [World.putObj_size]; exact hQl b hb
    · have hkp : Keep (fun b => ¬ Q b) Wd (Wd.putObj D (.deferred none)) := Keep.putObj _ _ _ (fun h => h (hPQ D hPD))
      have hqp : ∀ b, Q b → (Q b ∨ Wd.heap.size ≤ b) ∧ b < (Wd.putObj D (.deferred none)).heap.size := fun b hb => ⟨.inl hb, by rw [World.putObj_size]; exact hQl b hb⟩
      rcases hj with hj | ⟨pre', rest', he, hj⟩
      · exact .inl (hJ _ _ _ _ _ hj hkp hqp)
      · exact .inr ⟨pre', rest', he, hJx _ _ _ _ _ hj hkp hqp⟩

end Go.Proofs.Ytefgccdpgfdelaa
