/- The laws' some and same over an arena. Conditions: at most 1024 slots. -/
import Derived.Test.YtkpcakmkmkidpaaArnE
import Derived.Lib.QuietBelow
namespace Go.Proofs.Ytkpcakmkmkidpaa.Arn
open Go.RowKit Go.Shelf
attribute [local go_sem] Oper.semAt_some wide_fn
set_option linter.unusedVariables false

theorem info_hd : (Try.prog.info? 26).map (fun i => (i.zero, i.size, i.bytes)) = some (some (.int .i64 0), 1, 8) := by kernel_rfl
/-- The one of some handles that a number tells. -/
def someF (hs : List Int) (n : Int) : Int × Bool := if hs.length = 0 then (0, false) else (hs.getD ((n % 18446744073709551616).toNat % hs.length) 0, true)
def OneI (w : World) (B : Nat) (sl0 : List (Sl Int)) (sl : List (Sl Int)) (k : Nat) (W : World) : Prop :=
  sl = sl0 ∧ k ≤ sl0.length ∧ w.heap.size ≤ B ∧ Below w.heap.size w W ∧ ∃ v, Boxed W B 57 v ∧ W.ownsRow w.heap.size 26 1 v (allS 0 (sl0.take k)).length (((allS 0 (sl0.take k)).map Prod.fst).map (Value.int .i64))
theorem one_grown {N B : Nat} {v v' : Value} {W A w1 : World} {m : Nat} {xs : List Value} {y : Value} (hb : Boxed W B 57 v) (hr : W.ownsRow N 26 1 v m xs) (hB : N ≤ B) (hN : N ≤ W.heap.size) (hA : Below W.heap.size W A) (hg : A.grownBy w1 v.ownBlock)
    (ho : w1.ownsRow N 26 1 v' (m + 1) (xs ++ [y])) : Boxed w1 B 57 v ∧ Boxed (w1.setCell ⟨B, 0, none⟩ v') B 57 v' ∧ (w1.setCell ⟨B, 0, none⟩ v').ownsRow N 26 1 v' (m + 1) (xs ++ [y]) ∧ Below N W (w1.setCell ⟨B, 0, none⟩ v') := by
  have kA := Keep.of_below hA
  have a1 := kA.boxed hb hb.lt
  have a2 := kA.row hr fun b hb => (hr.lt b hb).2
  have k2 := Keep.of_grownBy (S := fun k => v.ownBlock ≠ some k) hg (fun r hr => fun h => h hr)
  have b1 := k2.boxed a1 (a1.not_row (by decide) a2).symm
  have z1 := box_bl b1
  have hs := hA.size
  have hs2 := hg.size
  refine ⟨b1, b1.set v', (Keep.setCell (S := fun k => k ≠ B) w1 _ v' (by simp)).row ho fun b hb e => z1.ne_row (by decide) ho (e ▸ hb), ?_⟩
  have q1 : Below N W A := hA.mono hN
  have q2 : Below N A w1 := ⟨hg.os, hg.tape, hg.output, hg.size, fun k hk => hg.block k (by omega) (fun e => by have := (hr.lt _ e.symm).1; omega)⟩
  exact (q1.trans q2).trans ((Keep.setCell (S := fun k => k < N) w1 _ v' (by simp; omega)).below (by omega))

set_option maxRecDepth 100000 in
set_option maxHeartbeats 8000000 in
theorem some_any (gf : Nat) (lb : Array Value) (Lies : List (Sl Int) → World → Prop) (sl : List (Sl Int)) (n : Int) (w : World) (eg : ∀ args w, (callFunc gf args).run Try.prog w = .ok (.enter gf args) w)
    (hi : IterS Try.prog gf lb Lies) (hL : ∀ W, Below w.heap.size w W → Lies sl W) (hN : sl.length ≤ 1024) (hn : -9223372036854775808 ≤ n ∧ n ≤ 9223372036854775807) :
    Calls Try.prog 20 #[.func (.func gf) #[] lb, .int .i64 n] w fun e w' => e = .returned (.tuple #[.int .i64 (someF ((allS 0 sl).map Prod.fst) n).1, .bool (someF ((allS 0 sl).map Prod.fst) n).2]) ∧ Below w.heap.size w w' := by
  obtain ⟨i0, hi0, hz0, hz1, hz2⟩ := info_arn info_hd
  refine (callsIn_wide (n := 1)).1 ?_
  refine callsIn_of_wp_marks Try.func20 rfl trivial ?_ rfl
  simp only [Try.ntmps20, List.size_toArray, List.length_cons, List.length_nil, Nat.reduceAdd, Nat.reduceSub, Array.replicate_succ, Array.replicate_zero, List.push_toArray, List.append_toArray, List.nil_append, List.cons_append]
  gi_wp2
  have bO := Boxed.new w 57 (.slice none 0 0)
  obtain ⟨W0, hW0⟩ : ∃ W0, w.alloc (.cells #[.slice none 0 0] 57) = W0 := ⟨_, rfl⟩
  rw [hW0] at bO ⊢
  have hB0 : Below w.heap.size w W0 := hW0 ▸ blk_alloc _
  have hs0 : W0.heap.size = w.heap.size + 1 := by rw [← hW0]; simp
  clear hW0
  refine rf_lawS (gf := gf) (lb := lb) rfl eg hi rfl (OneI w w.heap.size sl) sl ?_ ?_ ?_ ?_ ⟨rfl, Nat.zero_le _, Nat.le_refl _, hB0, _, bO, World.ownsRow_nil _ _ _ _⟩ ?round ?done
  · rintro sl' k W ⟨rfl, -, -, hb, -⟩
    exact hL W hb
  · rintro sl' k A B ⟨rfl, hk, hn, hb, v, h1, h2⟩ hB
    exact ⟨rfl, hk, hn, hb.trans (hB.mono hb.size), v, (Keep.of_below hB).boxed h1 h1.lt, (Keep.of_below hB).row h2 fun b hb => (h2.lt b hb).2⟩
  · rintro sl' k A B ⟨rfl, hk, hn, hb, v, h1, h2⟩ ⟨r, hr⟩ hB hs
    exact ⟨rfl, hk, hn, hb.trans ((hB.mono fun j _ hj => by omega).below hb.size), v, hB.boxed h1 (by omega), hB.row h2 fun b hb e => row_not_obj h2 hr (by simp) (e ▸ hb)⟩
  · rintro sl' k W s ⟨rfl, hk, hn, hb, v, h1, h2⟩ hs hx
    have e := allS_take hs
    rw [show tell s k = [] by unfold tell; rw [hx], List.append_nil] at e
    exact ⟨rfl, (List.getElem?_eq_some_iff.1 hs).1, hn, hb, v, h1, by rw [e]; exact h2⟩
  case round =>
    rintro sl' k s x W ⟨rfl, hk, hn, hb, v, h1, h2⟩ hs hx ⟨r, hr⟩ hD
    have e := allS_take hs
    rw [show tell s k = [(hOf s.n k, x)] by unfold tell; rw [hx]] at e
    have HE := Lib.hid e
    have hk1 := (List.getElem?_eq_some_iff.1 hs).1
    have HDr := Lib.hid hD
    have hln : (allS 0 (sl'.take k)).length ≤ 1024 := by have := allS_le (sl'.take k) 0; rw [List.length_take] at this; omega
    generalize allS 0 (sl'.take k) = pre at *
    obtain ⟨H, hH⟩ : ∃ H, hOf s.n k = H := ⟨_, rfl⟩
    rw [hH] at HE ⊢
    clear e hs hx hH hD
    gi_wp2
    refine ⟨Keep.refl _ _, fun W2 hk2 hs2 ⟨r2, hr2⟩ => ?_⟩
    replace h1 := hk2.boxed h1 (by omega)
    replace h2 := hk2.row h2 fun b hb e => row_not_obj h2 hr (by simp) (e ▸ hb)
    have hb2 : Below w.heap.size w W2 := hb.trans ((hk2.mono fun j _ hj => by omega).below hb.size)
    have hD2 := hk2.heap (show W0.heap.size ≠ W0.heap.size + 1 by omega) HDr.out
    have HND := Lib.hid (row_not_obj h2 hD2 (by simp))
    have HNR := Lib.hid (row_not_obj h2 hr2 (by simp))
    have c1 := h1.cell
    have hsz := hb2.size
    have hm2 : (pre.length + 1) * 8 ≤ 140737488355328 := by omega
    have hm3 : pre.length + 1 ≤ maxLen := by unfold maxLen; omega
    have HB2 := Lib.hid hb2
    have H1 := Lib.hid h1
    have HS0 := Lib.hid hs0
    clear hk2 hr hb hr2 hs2 hb2 h1 hD2 hs0
    gi_wp2_with (
      gi_at_builtin
      go_must (refine wpListIn_append_own_at _ rfl _ _ 57 rfl w.heap.size 26 i0 (.int .i64 0) 1 8 Try.underlying57 hi0 hz0 hz1 hz2 rfl (by decide) v pre.length _ rfl (h2.alloc _) ⟨W2.heap.size, 0, none⟩ 1 1 [.int .i64 H] rfl rfl (blk_cells _ _ _) (by simp [Value.oneCell']) hm3 hm2 (by simp; omega) ?_)
      intro v' w1 hown' hgrow _ hat
      obtain ⟨p1, d1, rfl⟩ := row_slice hown'
      obtain ⟨E1, E2, E3, E4⟩ := one_grown H1.out h2 (Nat.le_refl _) hsz (blk_alloc _) hgrow hown'
      have e1 := E1.cell
      have f1 := E1.frozen
      have kk : Keep (fun j => j ≠ w.heap.size ∧ v.ownBlock ≠ some j) W2 (w1.setCell ⟨w.heap.size, 0, none⟩ (.slice p1 (pre.length + 1) d1)) := ((Keep.alloc _ W2 _).trans (Keep.of_grownBy hgrow fun r hr h => h.2 hr)).trans (Keep.setCell _ _ _ (by simp))
      have HF := Lib.hid (And.intro E2 (And.intro E3 (And.intro E4 kk)))
      clear E1 E2 E3 E4 kk hown' hgrow hat)
    obtain ⟨F1, F2, F3, F4⟩ := HF.out
    have hs0 := HS0.out
    refine ⟨F4.mono fun j _ hj => ⟨by omega, fun e => by rcases hj with rfl | rfl; exact HND.out e; exact HNR.out e⟩, sl', rfl, rfl, hk1, Nat.le_refl _, HB2.out.trans F3, _, F1, ?_⟩
    rw [HE.out, List.length_append, List.map_append, List.map_append]
    exact F2
  case done =>
    rintro sl' W hsl ⟨rfl, hk, hn', hb, v, h1, h2⟩ hD hlt
    rw [List.take_length] at h2
    have c1 := h1.cell
    obtain ⟨q, d, rfl⟩ := row_slice h2
    have HB := Lib.hid hb
    have HD := Lib.hid hD
    have hln : (allS 0 sl').length ≤ 1024 := by have := allS_le sl' 0; omega
    have hle : ((allS 0 sl').map Prod.fst).length = (allS 0 sl').length := by simp
    obtain ⟨hs, hhs⟩ : ∃ hs, (allS 0 sl').map Prod.fst = hs := ⟨_, rfl⟩
    rw [hhs] at hle h2
    have HH := Lib.hid hhs
    obtain ⟨m, hm⟩ : ∃ m, (allS 0 sl').length = m := ⟨_, rfl⟩
    rw [hm] at hln hle h2 c1
    clear hb hD hm hhs
    rcases Nat.eq_zero_or_pos m with h0 | h0
    · subst h0
      have HE := Lib.hid (show someF ((allS 0 sl').map Prod.fst) n = (0, false) by rw [HH.out]; unfold someF; rw [if_pos hle])
      clear hle
      gi_wp2
      refine ⟨by simp, .inl ⟨_, _, rfl, run_takeDeferred (show W.heap[w.heap.size + 1]? = some (.deferred (some [])) by rw [← hs0]; exact HD.out), ?_⟩⟩
      refine ⟨.tuple #[.int .i64 0, .bool false], by simp [results, Try.f20, go_sem], by rw [HE.out], ?_⟩
      exact HB.out.trans ((Keep.putObj (S := fun j => j < w.heap.size) W _ _ (by simp)).below HB.out.size)
    · obtain ⟨u, hu⟩ : ∃ u : Int, n % 18446744073709551616 = u := ⟨_, rfl⟩
      have hu1 : 0 ≤ u ∧ u < 18446744073709551616 := by omega
      obtain ⟨j, hj⟩ : ∃ j : Nat, (u % (m : Int)) = (j : Int) := ⟨(u % (m : Int)).toNat, by rw [Int.toNat_of_nonneg (Int.emod_nonneg _ (by omega))]⟩
      have hjm : j < m := by
        have := Int.emod_lt_of_pos u (show (0 : Int) < (m : Int) by omega)
        omega
      obtain ⟨y, hy⟩ : ∃ y, hs[j]? = some y := ⟨_, List.getElem?_eq_getElem (by omega)⟩
      obtain ⟨g, cap, hqe⟩ : ∃ g cap, (Value.slice q m d) = .slice (some ⟨g, 0, none⟩) m cap := by
        rcases h2.2 with ⟨_, h⟩ | ⟨g, cap, cur, h, _⟩
        · omega
        · exact ⟨g, cap, h⟩
      cases hqe
      have hc : W.cell? ⟨g, j, none⟩ = some (.int .i64 y) := by rw [h2.cellAt j (by omega), List.getElem?_map, hy]; rfl
      have hjn : u.toNat % m = j := by
        have h1 : (u.toNat : Int) = u := Int.toNat_of_nonneg hu1.1
        have h2 : ((u.toNat % m : Nat) : Int) = u % (m : Int) := by rw [Int.natCast_emod, h1]
        omega
      have HE := Lib.hid (show someF ((allS 0 sl').map Prod.fst) n = (y, true) by rw [HH.out]; unfold someF; rw [if_neg (by omega), hu, hle, hjn]; simp [hy])
      have s1 : IntKind.u64.wrap n = u := by rw [← hu]; rfl
      have s2 : IntKind.u64.wrap (m : Int) = (m : Int) := by show (m : Int) % 18446744073709551616 = _; omega
      have s3 : u.tmod (m : Int) = (j : Int) := by rw [Int.tmod_eq_emod_of_nonneg hu1.1]; exact hj
      have HU := Lib.hid hu
      have HJ := Lib.hid hj
      have HJN := Lib.hid hjn
      have HY := Lib.hid hy
      clear hle hu hj hjn hy
      gi_wp2_with (gi_quiet (fail))
      refine ⟨by simp, .inl ⟨_, _, rfl, run_takeDeferred (show (W.drewN _).heap[w.heap.size + 1]? = some (.deferred (some [])) by rw [← hs0]; exact HD.out), ?_⟩⟩
      refine ⟨.tuple #[.int .i64 y, .bool true], by simp [results, Try.f20, go_sem], by rw [HE.out], ?_⟩
      exact HB.out.trans (((show Keep (fun j => j < w.heap.size) W (W.drewN nq) from ⟨rfl, rfl, rfl, Nat.le_refl _, fun _ _ _ => rfl⟩).trans (Keep.putObj (S := fun j => j < w.heap.size) _ _ _ (by simp))).below HB.out.size)

/-! ### same -/
/-- The slice at q reads as these numbers. -/
def NumsIn (w : World) (q : Option Addr) (n : Nat) (xs : List Int) : Prop := xs.length = n ∧ ∀ i x, xs[i]? = some x → ∃ g o, q = some ⟨g, o, none⟩ ∧ w.cell? ⟨g, o + i, none⟩ = some (.int .i64 x)
theorem NumsIn.of {w : World} {base n c : Nat} {e : TypeId} {q : Option Addr} {xs : List Int} (h : w.ownsRow base e 1 (.slice q n c) n (xs.map (Value.int .i64))) : NumsIn w q n xs := by
  have hl : xs.length = n := by have := h.1; simpa using this
  refine ⟨hl, fun i x hx => ?_⟩
  have hi := (List.getElem?_eq_some_iff.1 hx).1
  rcases h.2 with ⟨_, h0⟩ | ⟨g, cap, cur, he, _⟩
  · omega
  · cases he
    exact ⟨g, 0, rfl, by rw [Nat.zero_add, h.cellAt i (by omega), List.getElem?_map, hx]; rfl⟩
theorem NumsIn.on {w w' : World} {q : Option Addr} {n : Nat} {xs : List Int} (h : NumsIn w q n xs) (hb : Below w.heap.size w w') : NumsIn w' q n xs :=
  ⟨h.1, fun i x hx => by
    obtain ⟨g, o, rfl, hc⟩ := h.2 i x hx
    exact ⟨g, o, rfl, (World.cell?_of_block (hb.block g (World.block_lt_of_cell? w _ hc))).trans hc⟩⟩
theorem take_same {xs ys : List Int} {k : Nat} {x y : Int} (h : xs.take k = ys.take k) (hx : xs[k]? = some x) (hy : ys[k]? = some y) : xs.take (k + 1) = ys.take (k + 1) ↔ x = y := by
  obtain ⟨h1, rfl⟩ := List.getElem?_eq_some_iff.1 hx
  obtain ⟨h2, rfl⟩ := List.getElem?_eq_some_iff.1 hy
  rw [List.take_succ_eq_append_getElem h1, List.take_succ_eq_append_getElem h2, h]
  exact ⟨fun e => List.head_eq_of_cons_eq (List.append_cancel_left e), fun e => by rw [e]⟩

set_option maxRecDepth 100000 in
set_option maxHeartbeats 4000000 in
theorem same_any (q1 : Option Addr) (n1 c1 : Nat) (xs : List Int) (q2 : Option Addr) (n2 c2 : Nat) (ys : List Int) (w : World) (h1 : NumsIn w q1 n1 xs) (h2 : NumsIn w q2 n2 ys) (hn1 : n1 ≤ 1099511627776) (hn2 : n2 ≤ 1099511627776) :
    Calls Try.prog 19 #[.slice q1 n1 c1, .slice q2 n2 c2] w fun e w' => e = .returned (.bool (decide (xs = ys))) ∧ Below w.heap.size w w' := by
  obtain ⟨l1, r1⟩ := h1
  obtain ⟨l2, r2⟩ := h2
  obtain ⟨b, hb⟩ : ∃ b, decide (xs = ys) = b := ⟨_, rfl⟩
  rw [hb]
  have HB := Lib.hid hb
  have L1 := Lib.hid l1
  have L2 := Lib.hid l2
  have R1 := Lib.hid r1
  have R2 := Lib.hid r2
  clear hb l1 l2 r1 r2
  by_cases hne : n1 = n2
  · subst hne
    have d0 : ((n1 : Int) != (n1 : Int)) = false := by simp
    go_enter Try.func19, Try.ntmps19
    go_wp2
    go_loopw [13] (fun i wr => ∃ k : Nat, k ≤ n1 ∧ i = .int .i64 k ∧ Hid (xs.take k = ys.take k) ∧ Below w.heap.size w wr) (fun i _ => n1 - (intOf i).toNat)
    case atStart => exact ⟨0, by omega, rfl, Lib.hid rfl, Below.refl _ _⟩
    case round =>
      obtain ⟨k, hk, rfl, HT, hbw⟩ := hrel
      by_cases hlt : k < n1
      · obtain ⟨x, hx⟩ : ∃ x, xs[k]? = some x := ⟨_, List.getElem?_eq_getElem (by have := L1.out; omega)⟩
        obtain ⟨y, hy⟩ : ∃ y, ys[k]? = some y := ⟨_, List.getElem?_eq_getElem (by have := L2.out; omega)⟩
        obtain ⟨g1, o1, rfl, e1⟩ := R1.out k x hx
        obtain ⟨g2, o2, rfl, e2⟩ := R2.out k y hy
        replace e1 : wr.cell? ⟨g1, o1 + k, none⟩ = some (.int .i64 x) := (World.cell?_of_block (hbw.block g1 (World.block_lt_of_cell? w _ e1))).trans e1
        replace e2 : wr.cell? ⟨g2, o2 + k, none⟩ = some (.int .i64 y) := (World.cell?_of_block (hbw.block g2 (World.block_lt_of_cell? w _ e2))).trans e2
        have HXY := Lib.hid (take_same HT.out hx hy)
        by_cases hxy : x = y
        · subst hxy
          have HT2 := Lib.hid (HXY.out.2 rfl)
          have hlt2 : (k : Int) < (n1 : Int) := by omega
          have HBW := Lib.hid hbw
          clear hx hy HXY hbw
          go_wp2_with (go_quiet (fail))
          go_roundw
          case rel => exact ⟨k + 1, by omega, by go_num, HT2, HBW.out.trans ⟨rfl, rfl, rfl, Nat.le_refl _, fun _ _ => rfl⟩⟩
          case measure => simp [intOf]; omega
        · have hz : b = false := by
            rw [← HB.out]
            refine decide_eq_false fun e => ?_
            subst e
            rw [hx] at hy
            exact hxy (Option.some.inj hy)
          have HZ := Lib.hid hz
          have d1 : (x != y) = true := by simp [hxy]
          have HBW := Lib.hid hbw
          have hlt2 : (k : Int) < (n1 : Int) := by omega
          clear hx hy HXY hbw hxy hz
          go_wp2_with (go_quiet (fail))
          go_ret
          exact ⟨by rw [HZ.out]; rfl, HBW.out.trans ⟨rfl, rfl, rfl, Nat.le_refl _, fun _ _ => rfl⟩⟩
      · have hz : b = true := by
          rw [← HB.out]
          refine decide_eq_true ?_
          have := HT.out
          rwa [List.take_of_length_le (by have := L1.out; omega), List.take_of_length_le (by have := L2.out; omega)] at this
        have HZ := Lib.hid hz
        have HBW := Lib.hid hbw
        clear hz hbw
        go_wp2
        go_ret
        exact ⟨by rw [HZ.out]; rfl, HBW.out⟩
  · have hz : b = false := by
      rw [← HB.out]
      refine decide_eq_false fun e => hne ?_
      rw [← L1.out, ← L2.out, e]
    have HZ := Lib.hid hz
    have d0 : ((n1 : Int) != (n2 : Int)) = true := by simp; omega
    clear hz hne
    go_enter Try.func19, Try.ntmps19
    go_wp2
    go_ret
    exact ⟨by rw [HZ.out]; rfl, Below.refl _ _⟩
end Go.Proofs.Ytkpcakmkmkidpaa.Arn
