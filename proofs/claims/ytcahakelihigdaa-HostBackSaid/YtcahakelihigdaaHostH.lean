/- What the law's own helper all collects of an iterator. Conditions: at most 2^40 pieces. -/
import Derived.Test.YtcahakelihigdaaLawA
namespace Go.Proofs.Ytcahakelihigdaa.Host
open Go.RowKit Go.Shelf
attribute [local go_sem] Oper.semAt_some

set_option maxRecDepth 100000 in
set_option maxHeartbeats 2000000 in
theorem allOf_any (gf : Nat) (lb : Array Value) (xs : List (List UInt8)) (RB : Nat → Prop) (w : World) (eg : ∀ args w, (callFunc gf args).run Try.prog w = .ok (.enter gf args) w)
    (hi : IterC Try.prog gf lb RowArg xs RB w) (hRs : ∀ b, RB b → b < w.heap.size) (hN : xs.length ≤ 1099511627776) (hL : ∀ x ∈ xs, x.length ≤ 140737488355328) :
    Calls Try.prog 15 #[.func (.func gf) #[] lb] w fun e w' => ∃ v, e = .returned v ∧ w'.ownsRow w.heap.size 9 1 v xs.length (xs.map strV) ∧ Below w.heap.size w w' := by
  obtain ⟨i0, hi0, hz0, hz1, hz2⟩ := info_parts info_str
  refine (callsIn_wide (n := 1)).1 ?_
  refine callsIn_of_wp_marks Try.func15 rfl trivial ?_ rfl
  simp only [Try.ntmps15, List.size_toArray, List.length_cons, List.length_nil, Nat.reduceAdd, Nat.reduceSub, Array.replicate_succ, Array.replicate_zero, List.push_toArray, List.append_toArray, List.nil_append, List.cons_append]
  have hnf : ∀ w' : World, (binOp .eql 32 (.func (.func gf) #[] lb) .nilFunc).run Try.prog w' = .ok (.bool false) w' := fun _ => by kernel_rfl
  gi_wp2
  have bO := Boxed.new w 34 (.slice none 0 0)
  obtain ⟨W0, hW0⟩ : ∃ W0, w.alloc (.cells #[.slice none 0 0] 34) = W0 := ⟨_, rfl⟩
  rw [hW0] at bO ⊢
  have hB0 : Below w.heap.size w W0 := hW0 ▸ (Below.refl _ w).alloc (Nat.le_refl _) _
  have hs0 : W0.heap.size = w.heap.size + 1 := by rw [← hW0]; simp
  clear hW0 hnf
  refine rf_law (gf := gf) (lb := lb) rfl eg hi ((Keep.of_below hB0).mono fun b _ hb => hRs b hb) (fun b hb => by have := hRs b hb; omega) (fun x args G W h => by obtain ⟨v, rfl, _⟩ := h; rfl)
    (AllI w.heap.size w.heap.size w) (fun _ _ _ _ => False) (AllI_abide _ _ _ (Nat.le_refl _)) (fun _ _ _ _ _ _ h _ _ => h)
    ⟨_, bO, World.ownsRow_nil _ _ _ _, (fun _ h => h.elim), (fun h => h), (fun _ h => by cases h), hB0⟩ ?round ?done ?stop
  case round =>
    rintro ll pre x rest Pv G args Wr hll hxs ⟨v, hbx, hrow, hge, hnB, hnv, hBl⟩ hPl hGl hPb hGP ⟨p, rfl, hp, rfl⟩
    have hxm : x ∈ xs := by rw [hxs]; simp
    have hxl := hL x hxm
    obtain ⟨q, c, rfl, _, hnc, hcm, hbs, hblk⟩ := row_open hp
    have hlen : pre.length + rest.length + 1 = xs.length := by rw [hxs]; simp; omega
    gi_wp2
    refine ⟨Keep.refl _ _, fun W2 hk2 hs2 r hr => ?_⟩
    have hlB : ll ≠ w.heap.size := fun h => hnB (h ▸ hPl)
    have hk2' : Keep (fun b => ¬ Pv b) Wr W2 := hk2.mono fun b _ hb h => hb (h ▸ hPl)
    have gx : Keep (fun b => (Value.slice q x.length c).ownBlock = some b) Wr W2 := hk2.mono fun b _ hb h => hGl (h ▸ hb)
    replace hbx := hk2'.boxed hbx hnB
    replace hrow := hk2'.row hrow hnv
    replace hp := gx.row hp (fun _ h => h)
    have hbs2 : Lib.BytesIn W2 q x.length (Lib.numsL x) := bytes_keep hbs gx (fun a ha _ => (hblk a ha).2.2)
    have hBl2 : Below w.heap.size w W2 := hBl.trans ((hk2'.mono fun b hb h hpb => by have := hge b hpb; omega).below hBl.size)
    have hcv := hbs2.convert (P := Try.prog) (Lib.numsL_length x) c 22 5 9 Try.underlying22 Try.underlying5 Try.underlying9
    rw [strOfNums_numsL] at hcv
    have cB := hbx.cell
    have fB := hbx.frozen
    have hszB := hBl2.size
    have hpl : pre.length + 1 ≤ 1099511627776 := by omega
    have hPl2 : ∀ b, Pv b → b < W2.heap.size := fun b hb => by rw [hs2]; exact hPb b hb
    have hszr : W2.heap.size ≤ Wr.heap.size := by omega
    clear hs2 hxs hlen hxm hbs hBl hr hk2' gx hk2
    gi_wp2_with (gi_at_builtin; go_must (refine wpListIn_append_own_at _ rfl _ _ 34 rfl w.heap.size 9 i0 (.string ByteArray.empty) 1 16 Try.underlying34 hi0 hz0 hz1 hz2 rfl (by decide) _ _ _ rfl (hrow.alloc _) ⟨W2.heap.size, 0, none⟩ 1 1 [strV x] rfl rfl (cell_one_new _ _ _) (by simp [strV, Value.oneCell']) (by unfold maxLen; omega) (by omega) (by simp; omega) ?_); intro v' w1 hown' hgrow _ hat; obtain ⟨g', cap', rfl⟩ := ownsRow_succ hown'; obtain ⟨hv1, hv2, hr2, hk2, hb2⟩ := hbx.appended (by decide) hrow hszB (Nat.le_refl _) hown' hgrow; have hc1 := hv1.cell; have hf1 := hv1.frozen)
    have hPk : Keep Pv W2 (w1.setCell ⟨w.heap.size, 0, none⟩ (.slice (some ⟨g', 0, none⟩) (pre.length + 1) cap')) :=
      ((Keep.alloc _ W2 _).trans (Keep.of_grownBy hgrow fun r hr' => hnv r hr')).trans (Keep.setCell _ _ _ hnB)
    have hgP : ¬ Pv g' := fun h => by
      rcases hat with h' | h'
      · exact hnv g' h'.symm h
      · have := hPl2 g' h; simp [Value.ownBlock] at h'; omega
    have hrows : Hid (∀ j, j < x.length → ∃ b y, q = some ⟨b, 0, none⟩ ∧ W2.cell? ⟨b, j, none⟩ = some (.int .u8 y) ∧ W2.frozen? ⟨b, j, none⟩ = false) := fun j hj => by
      rcases hp.2 with ⟨h1, h2⟩ | ⟨g, cap, cur, h1, _⟩
      · omega
      · cases h1
        have hj' : j < (Lib.numsL x).length := by rw [Lib.numsL_length]; exact hj
        refine ⟨g, (Lib.numsL x)[j], rfl, (hp.cellAt j (by omega)).trans ?_, hp.frozenAt j⟩
        simp only [List.getElem?_map, List.getElem?_eq_getElem hj', Option.map_some]
    obtain ⟨W3, hW3⟩ : ∃ W3, w1.setCell ⟨w.heap.size, 0, none⟩ (.slice (some ⟨g', 0, none⟩) (pre.length + 1) cap') = W3 := ⟨_, rfl⟩
    rw [hW3] at hv2 hr2 hb2 hPk ⊢
    clear hW3 hk2 hv1 hown' hgrow hc1 hf1 hat cB fB hcv
    have hG3 : ∀ b, (Value.slice q x.length c).ownBlock = some b → Pv b := hGP
    have hx63 : x.length ≤ 140737488355328 := hxl
    gi_loopw [15] (fun i wr => ∃ k : Nat, k ≤ x.length ∧ i = .int .i64 k ∧ Keep (fun b => ¬ (Value.slice q x.length c).ownBlock = some b) W3 wr ∧ Hid (∀ j, j < x.length → ∃ b y, q = some ⟨b, 0, none⟩ ∧ wr.cell? ⟨b, j, none⟩ = some (.int .u8 y) ∧ wr.frozen? ⟨b, j, none⟩ = false)) (fun i _ => x.length - (intOf i).toNat)
    case atStart =>
      refine ⟨0, Nat.zero_le _, rfl, Keep.refl _ _, fun j hj => ?_⟩
      obtain ⟨b, y, rfl, h1, h2⟩ := hrows.out j hj
      have hPb : Pv b := hG3 b rfl
      have hbl := hPk.block b (World.block_lt_of_cell? W2 _ h1) hPb
      exact ⟨b, y, rfl, (World.cell?_of_block hbl).trans h1, (World.frozen?_of_block hbl).trans h2⟩
    case round =>
      obtain ⟨k, hk, rfl, hKr, HR⟩ := hrel
      by_cases hlt : k < x.length
      · obtain ⟨b, y, rfl, h1, h2⟩ := HR.out k hlt
        gi_wp2
        go_roundw
        case rel =>
          refine ⟨k + 1, by omega, by go_num, hKr.trans (Keep.setCell _ _ _ (fun h => h rfl)), fun j hj => ?_⟩
          obtain ⟨b', y', hb', h1', h2'⟩ := HR.out j hj
          cases hb'
          by_cases hjk : j = k
          · subst hjk
            exact ⟨b, _, rfl, World.cell?_setCell_same' _ _ _ (by rw [h1]; rfl), (World.frozen?_setCell _ _ _ _).trans h2⟩
          · exact ⟨b, y', rfl, (World.cell?_setCell_other _ _ _ _ (by intro h; cases h; exact hjk rfl)).trans h1', (World.frozen?_setCell _ _ _ _).trans h2'⟩
        case measure => simp [intOf]; omega
      · have hpB : ∀ b, (Value.slice q x.length c).ownBlock = some b → w.heap.size ≤ b := fun b h => hge b (hG3 b h)
        gi_wp2
        refine ⟨⟨hKr.os.trans hPk.os, hKr.tape.trans hPk.tape, hKr.output.trans hPk.output, Nat.le_trans hPk.size hKr.size, fun b hb h => ?_⟩, _, hKr.boxed hv2 (fun h => hnB (hG3 _ h)), ?_, fun b hb => hge b hb.1, fun hb => hnB hb.1, fun b hb hb' => ?_, ?_⟩
        · rcases h with h | h
          · have hlt := hRs b h
            exact (hKr.block b (Nat.lt_of_lt_of_le hb hPk.size) (fun h' => by have := hpB b h'; omega)).trans (hb2.block b hlt)
          · exact (hKr.block b (Nat.lt_of_lt_of_le hb hPk.size) h.2).trans (hPk.block b hb h.1)
        · rw [List.map_append, List.length_append]
          exact hKr.row hr2 (fun b h h' => by cases h; exact hgP (hG3 _ h'))
        · cases hb
          exact hgP hb'.1
        · exact (hBl2.trans hb2).trans ((hKr.mono fun b _ hb h' => by have := hpB b h'; omega).below (Nat.le_trans hBl2.size hb2.size))
  case done =>
    rintro D Pv Wd hD hPD hPl ⟨v, hbx, hrow, hge, hnB, hnv, hBl⟩ hK
    have cB := hbx.cell
    gi_wp2
    refine ⟨by simp, .inl ⟨_, _, rfl, run_takeDeferred hK, ?_⟩⟩
    exact ⟨_, results_tmp rfl _ _ _, v, rfl, (Keep.putObj (S := fun b => ¬ Pv b) Wd D _ (fun h => h hPD)).row hrow hnv, hBl.trans (belowK_b (w := w) (Nat.le_refl _) Wd D _ _ (hge D hPD) hK rfl rfl)⟩
  case stop =>
    rintro D c pre rest Pv Wd _ _ _ _ h _
    exact h.elim

end Go.Proofs.Ytcahakelihigdaa.Host
