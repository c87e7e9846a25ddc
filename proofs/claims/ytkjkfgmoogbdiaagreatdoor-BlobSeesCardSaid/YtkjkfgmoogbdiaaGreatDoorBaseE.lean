/- The texts that these laws rest on, put together, part 5. Conditions: as each says. -/
import Derived.Test.YtkjkfgmoogbdiaaGreatDoorBaseD

namespace Go.Proofs.YtkjkfgmoogbdiaaGreatDoor.Frm
open Go.RowKit Go.Shelf Go.Sort Url Org Cls
attribute [local go_sem] Oper.semAt_some
set_option linter.unusedVariables false

theorem results_cell_cell {fn : Func} {p u : Tmp} {ty ty2 : TypeId} (h : fn.results = #[.cell p ty, .cell u ty2]) (tmps : Array Value) (P : Program) (w : World) :
    (results fn tmps).run P w =
      ((asAddr (tmps.getD p undef)).run P w).andThen fun a w₁ => ((loadVar ty a).run P w₁).andThen fun v w₂ => ((asAddr (tmps.getD u undef)).run P w₂).andThen fun b w₃ => ((loadVar ty2 b).run P w₃).andThen fun x w₄ => .ok (.tuple #[v, x]) w₄ := by
  simp only [results, h]
  simp [Sem.run_bind, Result.andThen]
theorem ret_frm22 {fn : Func} {p u : Tmp} (h : fn.results = #[.cell p 35, .cell u 40]) (tmps : Array Value) (w : World) (B Be : Nat) (v x : Value) (hp : tmps.getD p undef = .pointer (some ⟨B, 0, none⟩)) (hu : tmps.getD u undef = .pointer (some ⟨Be, 0, none⟩)) (hU : Boxed w B 35 v) (hE : w.cell? ⟨Be, 0, none⟩ = some x) :
    (results fn tmps).run Tryz.prog w = .ok (.tuple #[.agg #[v], x]) w := by
  rw [results_cell_cell h, hp, hu]
  have ha : ∀ w', (isAgg 40).run Tryz.prog w' = .ok false w' := Tryz.isAgg40
  have h2 : (loadVar 40 ⟨Be, 0, none⟩).run Tryz.prog w = .ok x w := by simp [loadVar, ha, hE]
  simp [asAddr, Result.andThen, run_loadVar_row w B 35 _ #[v] (0, 0) _ hU Tryz.underlying35 rfl (by kernel_rfl), h2]

theorem clauses_snoc (x : List UInt8) (c : List (List UInt8)) (hx : parseC x = .inr c) : ∀ (pre : List (List UInt8)) (r : List (List (List UInt8))), clausesL pre = .inr r → clausesL (pre ++ [x]) = .inr (r ++ [c])
  | [], r, h => by
    cases h
    show clausesL [x] = _
    unfold clausesL
    rw [hx]; rfl
  | p :: l, r, h => by
    unfold clausesL at h
    split at h
    · cases h
    · rename_i y hy
      split at h
      · cases h
      · rename_i z hz
        cases h
        have := clauses_snoc x c hx l z hz
        rw [List.cons_append]
        unfold clausesL
        rw [hy]
        simp only
        rw [this]; rfl
theorem clauses_err (x : List UInt8) (e : Int) (hx : parseC x = .inl e) (rest : List (List UInt8)) : ∀ (pre : List (List UInt8)) (r : List (List (List UInt8))), clausesL pre = .inr r → clausesL (pre ++ x :: rest) = .inl e
  | [], r, h => by
    show clausesL (x :: rest) = _
    unfold clausesL
    rw [hx]
  | p :: l, r, h => by
    unfold clausesL at h
    split at h
    · cases h
    · rename_i y hy
      split at h
      · cases h
      · rename_i z hz
        have := clauses_err x e hx rest l z hz
        rw [List.cons_append]
        unfold clausesL
        rw [hy]
        simp only
        rw [this]
theorem parseC_no (t : List UInt8) (n : Int) (h : parseC t = .inl n) : n = 2 ∨ n = 3 := by
  unfold parseC at h
  split at h
  · cases h; exact .inr rfl
  · split at h
    · cases h
    · unfold ofC at h
      split at h
      · split at h
        · cases h
        · cases h; exact .inr rfl
      · cases h; exact .inl rfl
theorem parseF_long (t : List UInt8) (h : 4096 < t.length) : parseF t = .inl 3 := by unfold parseF; rw [if_pos h]
theorem parseF_always (t : List UInt8) (h : ¬ 4096 < t.length) (h2 : trimB t = alwaysS) : parseF t = .inr [] := by unfold parseF; rw [if_neg h, if_pos h2]
theorem parseF_err (t : List UInt8) (e : Int) (h : ¬ 4096 < t.length) (h2 : trimB t ≠ alwaysS) (h3 : clausesL ((splitX 38 t).map Prod.snd) = .inl e) : parseF t = .inl e := by
  rw [Host.splitX_snd] at h3
  unfold parseF; rw [if_neg h, if_neg h2, h3]
theorem parseF_of (t : List UInt8) (l : List (List (List UInt8))) (h : ¬ 4096 < t.length) (h2 : trimB t ≠ alwaysS) (h3 : clausesL ((splitX 38 t).map Prod.snd) = .inr l) : parseF t = ofF l := by
  rw [Host.splitX_snd] at h3
  unfold parseF; rw [if_neg h, if_neg h2, h3]

theorem FrmIs.put {w : World} {q : Option Addr} {n c : Nat} {f : List (List (List UInt8))} {D : Nat} {d : Option (List Deferred)} {o : Obj} (h : FrmIs w (.agg #[.slice q n c]) f) (hD : w.heap[D]? = some (.deferred d)) : FrmIs (w.putObj D o) (.agg #[.slice q n c]) f := by
  obtain ⟨h1, h2, zs, s, z, rfl⟩ := h.row
  exact ⟨q, n, c, rfl, h1, h2, zs, slC_put s hD, fun x hx => ⟨set_put (z x hx).set hD, (z x hx).few⟩, rfl⟩
/-- A clause whose row is none of these blocks'. -/
theorem ClAt.from {S : Nat → Prop} {w w' : World} {z : Cl} (h : ClAt w z) (hk : Keep S w w') (hS : ∀ a, z.1.1 = some a → 0 < z.1.2.1 → S a.block) : ClAt w' z := by
  obtain ⟨⟨q, n, c, he, h1, h2, h3, h4⟩, h5⟩ := h
  cases he
  exact ⟨⟨_, _, _, rfl, h1, h2, h3.keep hk hS, h4⟩, h5⟩
theorem ClAt.lt {w : World} {z : Cl} (h : ClAt w z) : ∀ a, z.1.1 = some a → 0 < z.1.2.1 → a.block < w.heap.size := by
  obtain ⟨⟨q, n, c, he, h1, h2, h3, h4⟩, h5⟩ := h
  cases he
  exact h3.lt

/-- Between two rounds: the clauses that have come lie in the box's row. -/
def PfI (Bo : Nat) (RB : Nat → Prop) (W0 : World) (pre : List (Nat × List UInt8)) (Pv : Nat → Prop) (W : World) : Prop :=
  ∃ v, ∃ ls : List Cl, Boxed W Bo 33 v ∧ W.ownsRow W0.heap.size 112 1 v ls.length (ls.map encC) ∧ (∀ z ∈ ls, ClAt W z ∧ ∀ a, z.1.1 = some a → 0 < z.1.2.1 → ¬ Pv a.block ∧ W0.heap.size ≤ a.block ∧ v.ownBlock ≠ some a.block) ∧ clausesL (pre.map Prod.snd) = .inr (ls.map Prod.snd) ∧
    (∀ b, Pv b → W0.heap.size ≤ b) ∧ (∀ b, v.ownBlock = some b → ¬ Pv b) ∧ Keep RB W0 W ∧ ls.length = pre.length
theorem PfI_abide (Bo : Nat) (RB : Nat → Prop) (W0 : World) (hBo : Bo < W0.heap.size) (hRB : ∀ b, RB b → b < W0.heap.size) : Abide (PfI Bo RB W0) := by
  rintro pre Pv Pv' A B ⟨v, ls, h1, h2, hz, hc, h3, h5, h6, h7⟩ hk hp
  have hs := h6.size
  refine ⟨v, ls, hk.boxed h1 (fun h => by have := h3 _ h; omega), hk.row h2 h5, fun z hz' => ⟨(hz z hz').1.from hk (fun a ha h0 => ((hz z hz').2 a ha h0).1), fun a ha h0 => ⟨fun hp' => ?_, ((hz z hz').2 a ha h0).2⟩⟩, hc, fun b hb => ?_, fun b hb hp' => ?_, h6.trans (hk.mono fun b _ hb hpb => by have := h3 b hpb; have := hRB b hb; omega), h7⟩
  · rcases (hp _ hp').1 with h | h
    · exact ((hz z hz').2 a ha h0).1 h
    · have := (hz z hz').1.lt a ha h0; omega
  · rcases (hp b hb).1 with h | h
    · exact h3 b h
    · omega
  · rcases (hp _ hp').1 with h | h
    · exact h5 b hb h
    · have := (h2.lt b hb).2; omega
/-- Where a clause's error has left the loop. -/
def PfX (w : World) (xs : List (Nat × List UInt8)) (W0 : World) (c : Code) (_ : List (Nat × List UInt8)) (Pv : Nat → Prop) (W : World) : Prop :=
  c = .ret ∧ ∃ n : Int, Boxed W w.heap.size 35 (.slice none 0 0) ∧ Boxed W (w.heap.size + 1) 40 (.int .i64 n) ∧ clausesL (xs.map Prod.snd) = .inl n ∧ Below w.heap.size w W ∧ (∀ b, Pv b → W0.heap.size ≤ b)
theorem PfX_abide (w : World) (xs : List (Nat × List UInt8)) (W0 : World) (h0 : w.heap.size + 2 ≤ W0.heap.size) (hW : True) (c : Code) : Abide (fun pre Pv W => PfX w xs W0 c pre Pv W ∧ W0.heap.size ≤ W.heap.size) := by
  rintro pre Pv Pv' A B ⟨⟨hc, n, h1, h2, h3, h4, h5⟩, h6⟩ hk hp
  have hs := hk.size
  refine ⟨⟨hc, n, hk.boxed h1 (fun h => by have := h5 _ h; omega), hk.boxed h2 (fun h => by have := h5 _ h; omega), h3, h4.trans ((hk.mono fun b _ hb hpb => by have := h5 b hpb; omega).below h4.size), fun b hb => ?_⟩, by omega⟩
  rcases (hp b hb).1 with h | h
  · exact h5 b h
  · omega

set_option maxRecDepth 100000 in
set_option maxHeartbeats 16000000 in
theorem Parse_any (q : Option Addr) (n c : Nat) (t : List UInt8) (w : World) (hby : By w (.slice q n c) t) (hn : n ≤ 1300 ∨ 4096 < n ∧ n ≤ 1099511627775) (hG : Gl w) :
    Calls Tryz.prog 37 #[.slice q n c] w (FrmOut (parseF t) w) := by
  obtain ⟨i0, hi0, hz0, hz1, hz2⟩ := info_parts info_cls
  have hl := hby.at.1
  obtain ⟨W1, hW1⟩ : ∃ W1, (w.alloc (.cells #[.slice none 0 0] 35)).alloc (.cells #[.int .i64 0] 40) = W1 := ⟨_, rfl⟩
  have A1 : Below w.heap.size w W1 := hW1 ▸ ((Below.refl _ w).alloc (Nat.le_refl _) _).alloc (by simp) _
  have bR : Boxed W1 w.heap.size 35 (.slice none 0 0) := hW1 ▸ (Boxed.new w _ _).alloc _
  have bE : Boxed W1 (w.heap.size + 1) 40 (.int .i64 0) := by
    have := Boxed.new (w.alloc (.cells #[.slice none 0 0] 35)) 40 (.int .i64 0)
    rw [World.size_alloc] at this
    exact hW1 ▸ this
  have hs1 : W1.heap.size = w.heap.size + 2 := by rw [← hW1]; simp
  have HW1 := Lib.hid hW1
  clear hW1
  refine (callsIn_wide (n := 1)).1 ?_
  refine callsIn_of_wp_marks Tryz.func37 rfl trivial ?_ rfl
  simp only [Tryz.ntmps37, List.size_toArray, List.length_cons, List.length_nil, Nat.reduceAdd, Nat.reduceSub, Array.replicate_succ, Array.replicate_zero, List.push_toArray, List.append_toArray, List.nil_append, List.cons_append]
  by_cases hbig : 4096 < n
  · have d : decide ((4096 : Int) < (n : Int)) = true := by simp; omega
    have HR := Lib.hid (parseF_long t (by omega))
    have b4 : Boxed ((w.alloc (.cells #[.slice none 0 0] 35)).alloc (.cells #[.int .i64 3] 40)) w.heap.size 35 (.slice none 0 0) := (Boxed.new w _ _).alloc _
    have e4 := (Boxed.new (w.alloc (.cells #[.slice none 0 0] 35)) 40 (.int .i64 3)).cell
    rw [World.size_alloc] at e4
    clear hby hl hn hG
    gi_wp2
    refine ⟨_, ret_frm22 rfl _ _ w.heap.size (w.heap.size + 1) _ _ rfl rfl b4 e4, ?_⟩
    rw [HR.out]
    exact ⟨none, 0, 0, rfl, frm_nil _, (fun a h => by cases h), ((Below.refl _ w).alloc (Nat.le_refl _) _).alloc (by simp) _⟩
  have hn2 : n ≤ 1300 := by omega
  have d : decide ((4096 : Int) < (n : Int)) = false := by simp; omega
  have hb1 := hby.on A1
  have con := Trim_by q n c t W1 hb1 (by omega)
  have HT := Lib.hid (trim_len t)
  have HG := Lib.hid hG
  have HL := Lib.hid hl
  have HP1 := Lib.hid (fun h2 => parseF_always t (by omega) h2)
  have HP2 := Lib.hid (fun h2 l h3 => parseF_of t l (by omega) h2 h3)
  have HP3 := Lib.hid (fun h2 e h3 => parseF_err t e (by omega) h2 h3)
  clear hby hn hG
  obtain ⟨T, hT⟩ : ∃ T, Cls.trimB t = T := ⟨_, rfl⟩
  rw [hT] at con HP1 HP2 HP3 HT
  clear hT hbig
  gi_wp2_with fail
  rw [HW1.out]
  gi_wp2_with fail
  refine ⟨trivial, (callsIn_wide.2 con).mono ?_⟩
  rintro e W2 ⟨q2, c2, rfl, hb2, hbel⟩
  have hcv := conv_by hb2
  have hb0 := hb1.on hbel
  replace bR := (Keep.of_below hbel).boxed bR bR.lt
  replace bE := (Keep.of_below hbel).boxed bE bE.lt
  have A2 := A1.trans (hbel.mono A1.size)
  have hs2 := hbel.size
  have e1 : (T == [97, 108, 119, 97, 121, 115]) = decide (T = alwaysS) := by
    rw [Bool.eq_iff_iff, beq_iff_eq, decide_eq_true_iff]; rfl
  generalize hlT : T.length = m at *
  clear con hb1 hb2 hbel hlT HW1
  by_cases hnv : T = alwaysS
  · have HR := Lib.hid (HP1.out hnv)
    rw [decide_eq_true hnv] at e1
    have con := Always_any W2
    clear hnv HP1 HP2 HP3 hb0
    gi_wp2_with fail
    refine ⟨trivial, (callsIn_wide.2 con).mono ?_⟩
    rintro e W3 ⟨rfl, hb3⟩
    replace bR := (Keep.of_below hb3).boxed bR bR.lt
    replace bE := (Keep.of_below hb3).boxed bE bE.lt
    have A3 := A2.trans (hb3.mono A2.size)
    have kf := bR.frozen
    have kc := bR.cell
    have b3 := (bR.set (.slice none 0 0))
    have e3 := (Keep.setCell (S := fun b => b = w.heap.size + 1) W3 ⟨w.heap.size, 0, none⟩ (.slice none 0 0) (by simp)).boxed bE rfl
    have ef3 := e3.frozen
    have ec3 := e3.cell
    have b4 := (Keep.setCell (S := fun b => b = w.heap.size) (W3.setCell ⟨w.heap.size, 0, none⟩ (.slice none 0 0)) ⟨w.heap.size + 1, 0, none⟩ (.int .i64 0) (by simp)).boxed b3 rfl
    have e4 := (e3.set (.int .i64 0)).cell
    clear con hb3
    gi_wp2
    refine ⟨_, ret_frm22 rfl _ _ w.heap.size (w.heap.size + 1) _ _ rfl rfl b4 e4, ?_⟩
    rw [HR.out]
    exact ⟨none, 0, 0, rfl, frm_nil _, (fun a h => by cases h), (A3.setCell (by simp) _).setCell (by simp) _⟩
  have HN := Lib.hid hnv
  rw [decide_eq_false hnv] at e1
  clear hnv HP1
  obtain ⟨h1, h2, h3, h4, h5⟩ := hb0.at
  obtain ⟨W3, hW3⟩ : ∃ W3, W2.alloc (.cells #[.slice none 0 0] 33) = W3 := ⟨_, rfl⟩
  have b0 : Boxed W3 W2.heap.size 33 (.slice none 0 0) := hW3 ▸ Boxed.new W2 _ _
  have hB3 : Below W2.heap.size W2 W3 := hW3 ▸ below_alloc _
  have hs3 : W3.heap.size = W2.heap.size + 1 := by rw [← hW3]; simp
  have con := Split_any q n c 38 t W3 h1 (by omega) (bytes_keep h5 (Keep.of_below hB3) (fun a h1 h2 => bytes_lt h5 a h1 h2))
  have hsm := Lib.hid (splitX_small 38 t n hl)
  have hlx := Lib.hid (show (splitX 38 t).length ≤ n + 1 by have := splitX_len 38 t; omega)
  have HW3 := Lib.hid hW3
  clear hW3 h1 h2 h3 h4 h5 hb0
  gi_wp2_with fail
  rw [HW3.out]
  refine ⟨trivial, (callsIn_wide.2 con).mono ?_⟩
  rintro e W4 ⟨B, v', rfl, hB, hBc, hrow, hBl, hbel⟩
  have hit := Split_iter (by omega) hB hBc hrow
  obtain ⟨RB, hRB⟩ : ∃ RB : Nat → Prop, RB = fun b => b = B ∨ b = W3.heap.size ∨ v'.ownBlock = some b := ⟨_, rfl⟩
  have hRl : ∀ b, RB b → W2.heap.size + 1 ≤ b ∧ b < W4.heap.size := fun b hb => by
    rw [hRB] at hb
    rcases hb with rfl | rfl | hb
    · exact ⟨by omega, hB.lt⟩
    · exact ⟨by omega, hBc.lt⟩
    · have := hrow.lt b hb; exact ⟨by omega, this.2⟩
  rw [← hRB, hs3] at hit
  have hB4 : Below W2.heap.size W2 W4 := hB3.trans (hbel.mono (by omega))
  replace b0 := (Keep.of_below hbel).boxed b0 (by omega)
  replace bR := (Keep.of_below hB4).boxed bR bR.lt
  replace bE := (Keep.of_below hB4).boxed bE bE.lt
  have A4 := A2.trans (hB4.mono A2.size)
  have hs4 := hbel.size
  have hsA := A2.size
  have hs12 : w.heap.size + 2 ≤ W2.heap.size := by omega
  clear con hB hBc hrow hBl hbel HW3 hRB hB3 hB4
  generalize splitX 38 t = xs at *
  gi_wp2
  refine rf_law (gf := 78) (lb := #[.pointer (some ⟨B, 0, none⟩), .pointer (some ⟨W2.heap.size + 1, 0, none⟩)]) rfl (enters_of Tryz.func78 (by kernel_rfl) rfl)
    hit (Keep.refl _ _) (fun b hb => (hRl b hb).2) (fun x args G W h => by obtain ⟨v, rfl, _⟩ := h; rfl)
    (PfI W2.heap.size (fun b => b < W2.heap.size) W4) (fun cc pre Pv W => PfX w xs W4 cc pre Pv W ∧ W4.heap.size ≤ W.heap.size) (PfI_abide _ _ _ (by omega) (fun b hb => by omega)) (PfX_abide w xs W4 (by omega) trivial)
    ⟨_, [], b0, World.ownsRow_nil _ _ _ _, (fun z hz => by cases hz), rfl, (fun _ h => h.elim), (fun _ h => by cases h), Keep.refl _ _, rfl⟩ ?round ?done ?stop
  case round =>
    rintro ll pre ⟨xi, x⟩ rest Pv G args Wr hll hxs ⟨v, ls, hbx, hrow, hzs, hcl, hge, hnv, hKW, hll2⟩ hPl hGl hPb hGP ⟨p, rfl, hp, rfl⟩
    have hxl := hsm.out (xi, x) (by rw [hxs]; simp)
    have hpl : pre.length + 1 ≤ n + 1 := by
      have h1 := hlx.out
      rw [hxs, List.length_append, List.length_cons] at h1
      omega
    simp only at hxl hp
    obtain ⟨qx, cx, rfl, _, hnc, hcm, hbs, hblk⟩ := row_open hp
    have hbyx : By Wr (.slice qx x.length cx) x := By.row hp
    have hxm := Lib.hid hxs
    clear hxs
    gi_wp2
    refine ⟨Keep.refl _ _, fun W5 hk5 hs5 r hr => ?_⟩
    have hnP : ∀ b, b < W4.heap.size → ¬ Pv b := fun b hb h => by have := hge b h; omega
    have hk5' : Keep (fun b => ¬ Pv b) Wr W5 := hk5.mono fun b _ hb h => hb (h ▸ hPl)
    replace hbx := hk5'.boxed hbx (hnP _ (by omega))
    replace hrow := hk5'.row hrow hnv
    replace hzs : ∀ z ∈ ls, ClAt W5 z ∧ ∀ a, z.1.1 = some a → 0 < z.1.2.1 → ¬ Pv a.block ∧ W4.heap.size ≤ a.block ∧ v.ownBlock ≠ some a.block := fun z hz => ⟨(hzs z hz).1.from hk5' (fun a ha h0 => ((hzs z hz).2 a ha h0).1), (hzs z hz).2⟩
    have hK5 : Keep (fun b => b < W2.heap.size) W4 W5 := hKW.trans (hk5'.mono fun b _ hb => hnP b (by omega))
    have hPl5 : ∀ b, Pv b → b < W5.heap.size := fun b hb => by rw [hs5]; exact hPb b hb
    have gx : Keep (fun b => (Value.slice qx x.length cx).ownBlock = some b) Wr W5 := hk5.mono fun b _ hb h => hGl (h ▸ hb)
    have hbs5 : Lib.BytesIn W5 qx x.length (Lib.numsL x) := bytes_keep hbs gx (fun a ha _ => (hblk a ha).2.2)
    have hby5 : By W5 (.slice qx x.length cx) x := by
      obtain ⟨g1, g2, g3, g4, _⟩ := hbyx.at
      exact By.of g1 g2 g3 (fun h => (g4 h).2) hbs5
    have hszW := hK5.size
    have A5 : Below w.heap.size w W5 := A4.trans ((hK5.mono fun b _ h => by omega).below (by omega))
    have con := Cls.Parse_new qx x.length cx x W5 hby5 (.inl (by omega)) (HG.out.on A5)
    clear hr hk5 hk5' hs5 hKW hbs hp hbyx hblk gx hbs5 hby5
    have bR5 := hK5.boxed bR (by omega)
    have bE5 := hK5.boxed bE (by omega)
    cases hpc : parseC x with
    | inl en =>
      rw [hpc] at con
      have hne : en ≠ 0 := by rcases parseC_no x en hpc with h | h <;> omega
      have d2 : ((en : Int) != 0) = true := by unfold bne; rw [beq_eq_false_iff_ne.2 hne]; rfl
      have d3 : ((en : Int) == 0) = false := beq_eq_false_iff_ne.2 hne
      have HE := Lib.hid (show clausesL (xs.map Prod.snd) = .inl en by
        rw [hxm.out, List.map_append, List.map_cons]
        exact clauses_err x en hpc _ _ _ hcl)
      clear hne hpc hcl hzs hrow hbx hit
      gi_wp2_with fail
      refine ⟨trivial, rfl, (CallsIn.inRound ll (callsIn_wide.2 con)).mono ?_⟩
      rintro e w6 ⟨q6, n6, c6, rfl, hs6, hq6, hb6⟩
      have kb := Keep.of_below hb6
      have bR6 := (kb.boxed bR5 bR5.lt).alloc (.cells #[.slice q6 n6 c6] 112)
      have bE6 := (kb.boxed bE5 bE5.lt).alloc (.cells #[.slice q6 n6 c6] 112)
      have kf := bR6.frozen
      have kc := bR6.cell
      have b3 := bR6.set (.slice none 0 0)
      have e3 := (Keep.setCell (S := fun b => b = w.heap.size + 1) (w6.alloc (.cells #[.slice q6 n6 c6] 112)) ⟨w.heap.size, 0, none⟩ (.slice none 0 0) (by simp)).boxed bE6 rfl
      have ef3 := e3.frozen
      have ec3 := e3.cell
      have b4 := (Keep.setCell (S := fun b => b = w.heap.size) ((w6.alloc (.cells #[.slice q6 n6 c6] 112)).setCell ⟨w.heap.size, 0, none⟩ (.slice none 0 0)) ⟨w.heap.size + 1, 0, none⟩ (.int .i64 en) (by simp)).boxed b3 rfl
      have e4 := e3.set (.int .i64 en)
      clear con hs6
      unfold errC
      gi_wp2
      have kq : ∀ (S : Nat → Prop), (∀ b, S b → b < W5.heap.size) → ¬ S w.heap.size → ¬ S (w.heap.size + 1) → Keep S W5 (((w6.alloc (.cells #[.slice q6 n6 c6] 112)).setCell ⟨w.heap.size, 0, none⟩ (.slice none 0 0)).setCell ⟨w.heap.size + 1, 0, none⟩ (.int .i64 en)) := fun S h0 h1 h2 =>
        (((kb.mono fun b _ hb => h0 b hb).trans (Keep.alloc S _ _)).trans (Keep.setCell _ _ _ h1)).trans (Keep.setCell _ _ _ h2)
      have hA6 := (((A5.trans (hb6.mono A5.size)).alloc (by have := (A5.trans (hb6.mono A5.size)).size; exact this) (.cells #[.slice q6 n6 c6] 112)).setCell (p := ⟨w.heap.size, 0, none⟩) (by simp) (.slice none 0 0)).setCell (p := ⟨w.heap.size + 1, 0, none⟩) (by simp) (.int .i64 en)
      have hz6 : W4.heap.size ≤ (((w6.alloc (.cells #[.slice q6 n6 c6] 112)).setCell ⟨w.heap.size, 0, none⟩ (.slice none 0 0)).setCell ⟨w.heap.size + 1, 0, none⟩ (.int .i64 en)).heap.size := Nat.le_trans hszW (kq (fun _ => False) (fun _ h => h.elim) id id).size
      refine ⟨kq _ (fun b hb => ?_) (fun h => ?_) (fun h => ?_), ⟨rfl, en, b4, e4, HE.out, hA6, fun b hb => hge b hb.1⟩, hz6⟩
      · rcases hb with h | h
        · have := (hRl b h).2; omega
        · exact hPl5 b h.1
      · rcases h with h | h
        · have := (hRl _ h).1; omega
        · have := hge _ h.1; omega
      · rcases h with h | h
        · have := (hRl _ h).1; omega
        · have := hge _ h.1; omega
    | inr cv =>
      rw [hpc] at con
      have hcf := (parseC_ok x cv hpc).few
      have HLL := Lib.hid hll2
      have hll3 : ls.length ≤ n := by omega
      have HE := Lib.hid (show clausesL ((pre ++ [(xi, x)]).map Prod.snd) = .inr (ls.map Prod.snd ++ [cv]) by
        rw [List.map_append]
        exact clauses_snoc x cv hpc _ _ hcl)
      clear hpc hcl hit hll2
      gi_wp2_with fail
      refine ⟨trivial, rfl, (CallsIn.inRound ll (callsIn_wide.2 con)).mono ?_⟩
      rintro e w6 ⟨q6, n6, c6, rfl, hs6, hq6, hb6⟩
      have kb := Keep.of_below hb6
      have hsz6 := hb6.size
      have hbx7 := (kb.boxed hbx hbx.lt).alloc (.cells #[.slice q6 n6 c6] 112)
      have hrow7 := (kb.row hrow (fun b hb => (hrow.lt b hb).2)).alloc (.cells #[.slice q6 n6 c6] 112)
      have cB := hbx7.cell
      have cC := (Boxed.new w6 112 (.slice q6 n6 c6)).cell
      have hz1' : (w6.alloc (.cells #[.slice q6 n6 c6] 112)).heap.size = w6.heap.size + 1 := by simp
      clear con
      unfold errC
      gi_wp2_with (gi_at_builtin; go_must (refine wpListIn_append_own_at _ rfl _ _ 33 rfl W4.heap.size 112 i0 (.agg #[.slice none 0 0]) 1 24 Tryz.underlying33 hi0 hz0 hz1 hz2 rfl (by decide) _ _ _ rfl (hrow7.alloc _) ⟨w6.heap.size + 1, 0, none⟩ 1 1 [.slice q6 n6 c6] rfl rfl (by rw [← hz1']; exact cell_one_new _ _ _) (by simp [Value.oneCell']) (by unfold maxLen; omega) (by omega) (by simp; omega) ?_); intro v' w1 hown' hgrow _ hat; obtain ⟨g', cap', rfl⟩ := ownsRow_succ hown'; obtain ⟨hv1, hv2, hr2, hkk⟩ := appended_keep (S := fun b => b ≠ W2.heap.size ∧ v.ownBlock ≠ some b) hbx7 (by decide) hrow7 (fun h => h.1 rfl) (fun b hb h => h.2 hb) hown' hgrow; have hc1 := hv1.cell; have hf1 := hv1.frozen)
      have hat' : some g' = v.ownBlock ∨ some g' = some ((w6.alloc (.cells #[.slice q6 n6 c6] 112)).alloc (.cells #[.slice q6 n6 c6] 112)).heap.size := hat
      have hg : ∀ b, some g' = some b → v.ownBlock = some b ∨ w6.heap.size + 2 ≤ b := fun b hb => by
        rcases hat' with h | h
        · exact .inl (h ▸ hb)
        · rw [hb] at h
          have := Option.some.inj h
          simp at this
          exact .inr (by omega)
      have hk6 : ∀ S : Nat → Prop, (∀ b, S b → b < w6.heap.size ∧ b ≠ W2.heap.size ∧ v.ownBlock ≠ some b) → Keep S w6 (w1.setCell ⟨W2.heap.size, 0, none⟩ (.slice (some ⟨g', 0, none⟩) (ls.length + 1) cap')) := fun S hS => (Keep.alloc S _ _).trans (hkk.mono fun b _ h => (hS b h).2)
      have hk5 : ∀ S : Nat → Prop, (∀ b, S b → b < W5.heap.size ∧ b ≠ W2.heap.size ∧ v.ownBlock ≠ some b) → Keep S W5 (w1.setCell ⟨W2.heap.size, 0, none⟩ (.slice (some ⟨g', 0, none⟩) (ls.length + 1) cap')) := fun S hS => (kb.mono fun b _ h => (hS b h).1).trans (hk6 S fun b h => ⟨by have := (hS b h).1; omega, (hS b h).2⟩)
      have hown5 : ∀ b, v.ownBlock = some b → W4.heap.size ≤ b ∧ b < W5.heap.size := fun b hb => hrow.lt b hb
      have hz6 : ClAt w6 ((q6, n6, c6), cv) := ⟨hs6, hcf⟩
      refine ⟨hk5 _ (fun b hb => ?_), _, ls ++ [((q6, n6, c6), cv)], hv2, by simpa [encC] using hr2, fun z hz => ?_, by rw [HE.out, List.map_append]; rfl, fun b hb => hge b hb.1, fun b hb hp => ?_, hK5.trans (hk5 _ (fun b hb => ?_)), by rw [List.length_append, List.length_append, HLL.out]; rfl⟩
      · rcases hb with h | h
        · have h2 := hRl b h
          exact ⟨by omega, by omega, fun e => by have := (hown5 b e).1; omega⟩
        · exact ⟨hPl5 b h.1, fun e => hnP b (by omega) h.1, fun e => hnv b e h.1⟩
      · rcases List.mem_append.1 hz with h | h
        · obtain ⟨k1, k2⟩ := hzs z h
          refine ⟨k1.from (hk5 (fun b => b < W5.heap.size ∧ b ≠ W2.heap.size ∧ v.ownBlock ≠ some b) (fun b hb => hb)) (fun a ha h0 => ?_), fun a ha h0 => ?_⟩
          · obtain ⟨j1, j2, j3⟩ := k2 a ha h0
            exact ⟨k1.lt a ha h0, by omega, j3⟩
          · obtain ⟨j1, j2, j3⟩ := k2 a ha h0
            refine ⟨fun hp => j1 hp.1, j2, fun e => ?_⟩
            rcases hg a.block e with h | h
            · exact j3 h
            · have := k1.lt a ha h0; omega
        · rw [List.mem_singleton.1 h]
          refine ⟨hz6.from (hk6 (fun b => b < w6.heap.size ∧ b ≠ W2.heap.size ∧ v.ownBlock ≠ some b) (fun b hb => hb)) (fun a ha h0 => ?_), fun a ha h0 => ?_⟩
          · have j := hq6 a ha
            exact ⟨hz6.lt a ha h0, by omega, fun e => by have := (hown5 _ e).2; omega⟩
          · have j := hq6 a ha
            refine ⟨fun hp => by have := hPl5 _ hp.1; omega, by omega, fun e => ?_⟩
            rcases hg a.block e with h | h
            · have := (hown5 _ h).2; omega
            · have := hz6.lt a ha h0; omega
      · rcases hg b hb with h | h
        · exact hnv b h hp.1
        · have := hPl5 b hp.1; omega
      · exact ⟨by omega, by omega, fun e => by have := (hown5 b e).1; omega⟩
  case done =>
    rintro D Pv Wd hD hPD hPl ⟨v, ls, hbx, hrow, hzs, hcl, hge, hnv, hKW, hll2⟩ hK
    obtain ⟨q5, c5, rfl, hc5, _, hs5, _⟩ := slIn_of_owns hrow
    have hA : Keep (fun b => b < W2.heap.size) W4 Wd := hKW
    have bRd := hA.boxed bR (by omega)
    have bEd := hA.boxed bE (by omega)
    have hBd : Below w.heap.size w Wd := A4.trans ((hA.mono fun b _ h => by omega).below A4.size)
    have HR := Lib.hid (HP2.out HN.out _ hcl)
    have con := Of_any q5 ls.length c5 (ls.map Prod.snd) Wd ⟨ls, hs5, fun z hz => (hzs z hz).1, rfl⟩ (fun h => by subst h; exact (Cls.row_nil hrow).2) (by have := hlx.out; omega)
    rw [← HR.out] at con
    have cB := hbx.cell
    have hDl := hPl D hPD
    clear hs5 hrow hbx hnv hge hKW hA hit hzs hcl b0 hll2
    gi_wp2_with fail
    refine ⟨trivial, (callsIn_wide.2 con).mono ?_⟩
    rintro e w6 ⟨q6, n6, c6, rfl, hs6, hq6, hb6⟩
    have hD6 : w6.heap[D]? = some (.deferred (some [])) := (hb6.block D hDl).trans hK
    have hsd := hBd.size
    have hDg : w.heap.size + 2 ≤ D := by omega
    have hqn : ∀ a, q6 = some a → w.heap.size ≤ a.block := fun a ha => Nat.le_trans hsd (hq6 a ha)
    replace hq6 : ∀ a, q6 = some a → a.block ≠ w.heap.size ∧ a.block ≠ w.heap.size + 1 := fun a ha => by have := hq6 a ha; have := bEd.lt; omega
    have bR6 := (Keep.of_below hb6).boxed bRd bRd.lt
    have bE6 := (Keep.of_below hb6).boxed bEd bEd.lt
    have A6 := hBd.trans (hb6.mono hBd.size)
    have kf := bR6.frozen
    have kc := bR6.cell
    have b3 := bR6.set (.slice q6 n6 c6)
    have f3 := hs6.set (u' := .slice q6 n6 c6) bR6 (fun x h => by cases h) (fun a ha => (hq6 a ha).1)
    have e3 := (Keep.setCell (S := fun b => b = w.heap.size + 1) w6 ⟨w.heap.size, 0, none⟩ (.slice q6 n6 c6) (by simp)).boxed bE6 rfl
    have ef3 := e3.frozen
    have ec3 := e3.cell
    have hD7 := (Keep.setCell (S := fun b => b = D) w6 ⟨w.heap.size, 0, none⟩ (.slice q6 n6 c6) (by simp; omega)).heap rfl hD6
    have A7 := A6.setCell (p := ⟨w.heap.size, 0, none⟩) (by simp) (.slice q6 n6 c6)
    clear con hb6
    obtain ⟨r, hr⟩ : ∃ r, parseF t = r := ⟨_, rfl⟩
    rw [hr] at hs6 f3 ⊢
    gi_wp2
    subst hr
    have b4 := (Keep.setCell (S := fun b => b = w.heap.size) (w6.setCell ⟨w.heap.size, 0, none⟩ (.slice q6 n6 c6)) ⟨w.heap.size + 1, 0, none⟩ (.int .i64 (frmE (parseF t))) (by simp)).boxed b3 rfl
    have e4 := e3.set (.int .i64 (frmE (parseF t)))
    have f4 := f3.set (u' := .int .i64 (frmE (parseF t))) e3 (fun x h => by cases h) (fun a ha => (hq6 a ha).2)
    have hD8 := (Keep.setCell (S := fun b => b = D) (w6.setCell ⟨w.heap.size, 0, none⟩ (.slice q6 n6 c6)) ⟨w.heap.size + 1, 0, none⟩ (.int .i64 (frmE (parseF t))) (by simp; omega)).heap rfl hD7
    have A8 := A7.setCell (p := ⟨w.heap.size + 1, 0, none⟩) (by simp) (.int .i64 (frmE (parseF t)))
    refine ⟨by simp, .inl ⟨_, _, rfl, run_takeDeferred hD8, ?_⟩⟩
    have hkP : ∀ S : Nat → Prop, ¬ S D → Keep S ((w6.setCell ⟨w.heap.size, 0, none⟩ (.slice q6 n6 c6)).setCell ⟨w.heap.size + 1, 0, none⟩ (.int .i64 (frmE (parseF t)))) (((w6.setCell ⟨w.heap.size, 0, none⟩ (.slice q6 n6 c6)).setCell ⟨w.heap.size + 1, 0, none⟩ (.int .i64 (frmE (parseF t)))).putObj D (.deferred none)) := fun S hS => Keep.putObj _ D (.deferred none) hS
    refine ⟨_, ret_frm22 rfl _ _ w.heap.size (w.heap.size + 1) _ _ rfl rfl ((hkP (fun b => b = w.heap.size) (by omega)).boxed b4 rfl) ((hkP (fun b => b = w.heap.size + 1) (by omega)).boxed e4 rfl).cell, q6, n6, c6, rfl, f4.put hD8, hqn, ?_⟩
    · exact ((Keep.of_below A8).trans (hkP _ (by omega))).below (Nat.le_refl _)
  case stop =>
    rintro D cc pre rest Pv Wd hD hPD hPl hxs ⟨⟨rfl, en, hR, hE, hcl, hBd, hge⟩, hsz⟩ hK
    clear hxs
    have HR := Lib.hid (HP3.out HN.out _ hcl)
    have hDg : w.heap.size + 2 ≤ D := by have := A4.size; omega
    gi_wp2
    refine ⟨by simp, .inl ⟨_, _, rfl, run_takeDeferred hK, ?_⟩⟩
    have hkP : ∀ S : Nat → Prop, ¬ S D → Keep S Wd (Wd.putObj D (.deferred none)) := fun S hS => Keep.putObj _ D (.deferred none) hS
    refine ⟨_, ret_frm22 rfl _ _ w.heap.size (w.heap.size + 1) _ _ rfl rfl ((hkP (fun b => b = w.heap.size) (by omega)).boxed hR rfl) ((hkP (fun b => b = w.heap.size + 1) (by omega)).boxed hE rfl).cell, ?_⟩
    rw [HR.out]
    exact ⟨none, 0, 0, rfl, frm_nil _, (fun a h => by cases h), ((Keep.of_below hBd).trans (hkP _ (by omega))).below (Nat.le_refl _)⟩
end Go.Proofs.YtkjkfgmoogbdiaaGreatDoor.Frm

namespace Go.Proofs.YtkjkfgmoogbdiaaGreatDoor.Frm
open Go.RowKit Go.Shelf Go.Sort Url Org Cls
attribute [local go_sem] Oper.semAt_some
set_option linter.unusedVariables false

end Go.Proofs.YtkjkfgmoogbdiaaGreatDoor.Frm

namespace Go.Proofs.YtkjkfgmoogbdiaaGreatDoor.Frm
open Go.RowKit Go.Shelf Go.Sort Url Org Cls
attribute [local go_sem] Oper.semAt_some
set_option linter.unusedVariables false

/-- The formula of one principal. -/
def singleR (p : List UInt8) : Sum Int (List (List (List UInt8))) := match ofC [p] with
  | .inl e => .inl e
  | .inr c => ofF [c]
theorem ofC_no (l : List (List UInt8)) (n : Int) (h : ofC l = .inl n) : n = 2 ∨ n = 3 := by
  unfold ofC at h
  split at h
  · split at h
    · cases h
    · cases h; exact .inr rfl
  · cases h; exact .inl rfl


set_option maxRecDepth 100000 in
set_option maxHeartbeats 8000000 in
theorem Single_any (p : List UInt8) (w : World) (hl : p.length ≤ 1300) (hG : Gl w) :
    Calls Tryz.prog 50 #[.string ⟨p.toArray⟩] w (FrmOut (singleR p) w) := by
  obtain ⟨W1, hW1⟩ : ∃ W1, (w.alloc (.cells #[.slice none 0 0] 35)).alloc (.cells #[.string ⟨p.toArray⟩] 9) = W1 := ⟨_, rfl⟩
  have A1 : Below w.heap.size w W1 := hW1 ▸ ((Below.refl _ w).alloc (Nat.le_refl _) _).alloc (by simp) _
  have b1 : Boxed W1 w.heap.size 35 (.slice none 0 0) := hW1 ▸ (Boxed.new w _ _).alloc _
  have bp : Boxed W1 (w.heap.size + 1) 9 (.string ⟨p.toArray⟩) := by
    have := Boxed.new (w.alloc (.cells #[.slice none 0 0] 35)) 9 (.string ⟨p.toArray⟩)
    rw [World.size_alloc] at this
    exact hW1 ▸ this
  have hsl : SlIn encStr W1 (some ⟨w.heap.size + 1, 0, none⟩) 1 [p] := ⟨rfl, fun _ => ⟨_, _, rfl, bp.lt, fun i x hx => by
    cases i with
    | zero => cases hx; exact bp.cell
    | succ i => simp at hx⟩⟩
  have con := Cls.Of_new (some ⟨w.heap.size + 1, 0, none⟩) 1 1 [p] W1 hsl (fun h => by cases h) (by decide) (fun t ht => by rw [List.mem_singleton.1 ht]; exact hl) (hG.on A1)
  have HW1 := Lib.hid hW1
  clear hW1 hsl bp hG hl
  go_enter Tryz.func50, Tryz.ntmps50
  go_wp2_with fail
  rw [HW1.out]
  refine con.mono ?_
  rintro e w2 ⟨q2, n2, c2, rfl, hs2, hq2, hb2⟩
  have kb := Keep.of_below hb2
  have A2 := A1.trans (hb2.mono A1.size)
  have b2 := (kb.boxed b1 b1.lt).alloc (.cells #[.slice q2 n2 c2] 112)
  have kf := b2.frozen
  have kc := b2.cell
  have hsA := A1.size
  have hlt1 := b1.lt
  have hs12 := hb2.size
  clear con
  cases hc : ofC [p] with
  | inl en =>
    have hne : en ≠ 0 := by rcases ofC_no _ en hc with h | h <;> omega
    have d2 : ((en : Int) != 0) = true := by unfold bne; rw [beq_eq_false_iff_ne.2 hne]; rfl
    have HR := Lib.hid (show singleR p = .inl en by unfold singleR; rw [hc])
    have A3 := (A2.alloc A2.size (.cells #[.slice q2 n2 c2] 112)).setCell (p := ⟨w.heap.size, 0, none⟩) (by simp) (.slice none 0 0)
    clear hne hc hs2
    unfold errC
    go_wp2
    refine bodyPost_ret (ret_frm2 rfl _ _ w.heap.size _ rfl (b2.set _)) rfl ?_
    rw [HR.out]
    exact ⟨none, 0, 0, rfl, frm_nil _, (fun a h => by cases h), A3⟩
  | inr cv =>
    rw [hc] at hs2
    replace hs2 : SetIs encStr w2 (.agg #[.slice q2 n2 c2]) cv := hs2
    have hfew := (of_ok _ cv hc).1.few
    have HR := Lib.hid (show singleR p = ofF [cv] by unfold singleR; rw [hc])
    obtain ⟨W3, hW3⟩ : ∃ W3, (w2.alloc (.cells #[.slice q2 n2 c2] 112)).alloc (.cells #[.slice q2 n2 c2] 112) = W3 := ⟨_, rfl⟩
    have hk3 : Below w2.heap.size w2 W3 := hW3 ▸ ((Below.refl _ w2).alloc (Nat.le_refl _) _).alloc (by simp) _
    have b3 : Boxed W3 w.heap.size 35 (.slice none 0 0) := hW3 ▸ b2.alloc _
    have bc : Boxed W3 (w2.heap.size + 1) 112 (.slice q2 n2 c2) := by
      have := Boxed.new (w2.alloc (.cells #[.slice q2 n2 c2] 112)) 112 (.slice q2 n2 c2)
      rw [World.size_alloc] at this
      exact hW3 ▸ this
    have A3 := A2.trans (hk3.mono A2.size)
    have hcl : ClsIn W3 (some ⟨w2.heap.size + 1, 0, none⟩) 1 [cv] := ⟨[((q2, n2, c2), cv)], ⟨rfl, fun _ => ⟨_, _, rfl, bc.lt, fun i x hx => by
      cases i with
      | zero => cases hx; exact bc.cell
      | succ i => simp at hx⟩⟩, fun z hz => by rw [List.mem_singleton.1 hz]; exact (⟨hs2, hfew⟩ : ClAt w2 ((q2, n2, c2), cv)).below hk3, rfl⟩
    have con2 := Of_any (some ⟨w2.heap.size + 1, 0, none⟩) 1 1 [cv] W3 hcl (fun h => by cases h) (by decide)
    have HW3 := Lib.hid hW3
    rw [← HR.out] at con2
    clear hc hs2 hW3 hcl bc kf kc b2
    unfold errC
    go_wp2_with fail
    rw [HW3.out]
    refine con2.mono ?_
    rintro e w4 ⟨q4, n4, c4, rfl, hs4, hq4, hb4⟩
    have b4 := (Keep.of_below hb4).boxed b3 b3.lt
    have A4 := A3.trans (hb4.mono A3.size)
    have kf := b4.frozen
    have kc := b4.cell
    have hb3l := b3.lt
    clear con2
    go_wp2
    refine bodyPost_ret (ret_frm2 rfl _ _ w.heap.size _ rfl (b4.set _)) rfl ?_
    exact ⟨q4, n4, c4, rfl, hs4.set b4 (fun x h => by cases h) (fun a ha => by have := hq4 a ha; omega), (fun a ha => Nat.le_trans A3.size (hq4 a ha)), A4.setCell (by simp) _⟩

end Go.Proofs.YtkjkfgmoogbdiaaGreatDoor.Frm

namespace Go.Proofs.YtkjkfgmoogbdiaaGreatDoor.Frm
open Go.RowKit Go.Shelf Go.Sort Url Org Cls
attribute [local go_sem] Oper.semAt_some
set_option linter.unusedVariables false

end Go.Proofs.YtkjkfgmoogbdiaaGreatDoor.Frm

namespace Go.Proofs.YtkjkfgmoogbdiaaGreatDoor.Frm
open Go.RowKit Go.Shelf Go.Sort Url Org Cls
attribute [local go_sem] Oper.semAt_some
set_option linter.unusedVariables false

/-- The clauses that have come lie in the box's row; Pv: what others hold. -/
def OrL (Bo : Nat) (RB : Nat → Prop) (W0 : World) (Pv : Nat → Prop) (W : World) (acc : List (List (List UInt8))) : Prop :=
  ∃ v, ∃ ls : List Cl, Boxed W Bo 33 v ∧ W.ownsRow W0.heap.size 112 1 v ls.length (ls.map encC) ∧ (∀ z ∈ ls, ClAt W z ∧ ∀ a, z.1.1 = some a → 0 < z.1.2.1 → ¬ Pv a.block ∧ W0.heap.size ≤ a.block ∧ v.ownBlock ≠ some a.block) ∧ ls.map Prod.snd = acc ∧
    (∀ b, Pv b → W0.heap.size ≤ b) ∧ (∀ b, v.ownBlock = some b → ¬ Pv b) ∧ Keep RB W0 W
theorem OrL.step {Bo : Nat} {RB Pv Pv' : Nat → Prop} {W0 A B : World} {acc : List (List (List UInt8))} (h : OrL Bo RB W0 Pv A acc) (hBo : Bo < W0.heap.size) (hRB : ∀ b, RB b → b < W0.heap.size) (hk : Keep (fun b => ¬ Pv b) A B) (hp : ∀ b, Pv' b → (Pv b ∨ A.heap.size ≤ b)) : OrL Bo RB W0 Pv' B acc := by
  obtain ⟨v, ls, h1, h2, hz, hc, h3, h5, h6⟩ := h
  have hs := h6.size
  refine ⟨v, ls, hk.boxed h1 (fun h => by have := h3 _ h; omega), hk.row h2 h5, fun z hz' => ⟨(hz z hz').1.from hk (fun a ha h0 => ((hz z hz').2 a ha h0).1), fun a ha h0 => ⟨fun hp' => ?_, ((hz z hz').2 a ha h0).2⟩⟩, hc, fun b hb => ?_, fun b hb hp' => ?_, h6.trans (hk.mono fun b _ hb hpb => by have := h3 b hpb; have := hRB b hb; omega)⟩
  · rcases hp _ hp' with h | h
    · exact ((hz z hz').2 a ha h0).1 h
    · have := (hz z hz').1.lt a ha h0; omega
  · rcases hp b hb with h | h
    · exact h3 b h
    · omega
  · rcases hp _ hp' with h | h
    · exact h5 b hb h
    · have := (h2.lt b hb).2; omega
/-- Where a clause's error has left the loops. -/
def OrX (w : World) (ok : Prop) (W0 : World) (c : Code) (Pv : Nat → Prop) (W : World) : Prop :=
  c = .ret ∧ Boxed W (w.heap.size + 2) 35 (.slice none 0 0) ∧ Boxed W (w.heap.size + 3) 40 (.int .i64 3) ∧ ok ∧ Below w.heap.size w W ∧ (∀ b, Pv b → W0.heap.size ≤ b) ∧ W0.heap.size ≤ W.heap.size
theorem OrX.step {w W0 A B : World} {ok : Prop} {c : Code} {Pv Pv' : Nat → Prop} (h : OrX w ok W0 c Pv A) (h0 : w.heap.size + 4 ≤ W0.heap.size) (hk : Keep (fun b => ¬ Pv b) A B) (hp : ∀ b, Pv' b → (Pv b ∨ A.heap.size ≤ b)) : OrX w ok W0 c Pv' B := by
  obtain ⟨hc, h1, h2, h3, h4, h5, h6⟩ := h
  have hs := hk.size
  refine ⟨hc, hk.boxed h1 (fun h => by have := h5 _ h; omega), hk.boxed h2 (fun h => by have := h5 _ h; omega), h3, h4.trans ((hk.mono fun b _ hb hpb => by have := h5 b hpb; omega).below h4.size), fun b hb => ?_, by omega⟩
  rcases hp b hb with h | h
  · exact h5 b h
  · omega

end Go.Proofs.YtkjkfgmoogbdiaaGreatDoor.Frm

namespace Go.Proofs.YtkjkfgmoogbdiaaGreatDoor.Frm
open Go.RowKit Go.Shelf Go.Sort Url Org Cls
attribute [local go_sem] Oper.semAt_some
set_option linter.unusedVariables false

/-- Those clauses that none of the others implies. -/
def lessZ (g : List (List (List UInt8))) (zs : List Cl) : List Cl := zs.filter fun z => !oneB g z.2
theorem lessZ_snoc (g : List (List (List UInt8))) (pre : List Cl) (z : Cl) : lessZ g (pre ++ [z]) = lessZ g pre ++ (if oneB g z.2 = true then [] else [z]) := by
  unfold lessZ
  rw [List.filter_append]
  congr 1
  cases h : oneB g z.2 <;> simp [h]
theorem lessZ_len (g : List (List (List UInt8))) (pre : List Cl) : (lessZ g pre).length ≤ pre.length := List.length_filter_le _ _
theorem less_of (g : List (List (List UInt8))) (zs : List Cl) : lessF (zs.map Prod.snd) g = (lessZ g zs).map Prod.snd := by
  unfold lessF lessZ
  rw [List.filter_map]
  congr 1
  apply List.filter_congr
  intro z _
  show (!impB g [z.2]) = !oneB g z.2
  rw [imp_all]; simp
theorem ret_frm {fn : Func} {p : Tmp} (h : fn.results = #[.cell p 35]) (tmps : Array Value) (w : World) (B : Nat) (v : Value) (hp : tmps.getD p undef = .pointer (some ⟨B, 0, none⟩)) (hU : Boxed w B 35 v) :
    (results fn tmps).run Tryz.prog w = .ok (.agg #[v]) w :=
  results_cell_row h tmps w B _ #[v] (0, 0) _ hp hU Tryz.underlying35 rfl (by kernel_rfl)

/-- Between two rounds: the clauses that are left lie in the box's row. -/
def LsI (Bo : Nat) (RB : Nat → Prop) (W0 : World) (g : List (List (List UInt8))) (pre : List Cl) (Pv : Nat → Prop) (W : World) : Prop :=
  ∃ v, Boxed W Bo 33 v ∧ W.ownsRow W0.heap.size 112 1 v (lessZ g pre).length ((lessZ g pre).map encC) ∧ (∀ b, Pv b → W0.heap.size ≤ b) ∧ (∀ b, v.ownBlock = some b → ¬ Pv b) ∧ Keep RB W0 W
theorem LsI_abide (Bo : Nat) (RB : Nat → Prop) (W0 : World) (g : List (List (List UInt8))) (hBo : Bo < W0.heap.size) (hRB : ∀ b, RB b → b < W0.heap.size) : Abide (LsI Bo RB W0 g) := by
  rintro pre Pv Pv' A B ⟨v, h1, h2, h3, h5, h6⟩ hk hp
  have hs := h6.size
  refine ⟨v, hk.boxed h1 (fun h => by have := h3 _ h; omega), hk.row h2 h5, fun b hb => ?_, fun b hb hp' => ?_, h6.trans (hk.mono fun b _ hb hpb => by have := h3 b hpb; have := hRB b hb; omega)⟩
  · rcases (hp b hb).1 with h | h
    · exact h3 b h
    · omega
  · rcases (hp _ hp').1 with h | h
    · exact h5 b hb h
    · have := (h2.lt b hb).2; omega

set_option maxRecDepth 100000 in
set_option maxHeartbeats 16000000 in
theorem Less_any (v1 v2 : Value) (f g : List (List (List UInt8))) (w : World) (h1 : FrmIs w v1 f) (h2 : FrmIs w v2 g) (lf : f.length ≤ 1099511627776) (lg : g.length ≤ 1099511627776) :
    Calls Tryz.prog 84 #[v1, v2] w fun e w' => ∃ q n c, e = .returned (.agg #[.slice q n c]) ∧ FrmIs w' (.agg #[.slice q n c]) (lessF f g) ∧ (∀ a, q = some a → w.heap.size ≤ a.block) ∧ Below w.heap.size w w' := by
  obtain ⟨i0, hi0, hz0, hz1, hz2⟩ := info_parts info_cls
  obtain ⟨q1, n1, c1, rfl⟩ := frm_form h1
  obtain ⟨q2, n2, c2, rfl⟩ := frm_form h2
  obtain ⟨_, _, zs, s1, z1, rfl⟩ := h1.row
  obtain ⟨_, _, r2⟩ := h2.row
  have e2 := r2.len
  rw [List.length_map] at lf
  obtain ⟨W1, hW1⟩ : ∃ W1, ((w.alloc (.cells #[.slice q1 n1 c1] 35)).alloc (.cells #[.slice q2 n2 c2] 35)).alloc (.cells #[.slice none 0 0] 35) = W1 := ⟨_, rfl⟩
  have b0 : Boxed W1 w.heap.size 35 (.slice q1 n1 c1) := hW1 ▸ ((Boxed.new w _ _).alloc _).alloc _
  have b1 : Boxed W1 (w.heap.size + 1) 35 (.slice q2 n2 c2) := by
    have := (Boxed.new (w.alloc (.cells #[.slice q1 n1 c1] 35)) 35 (.slice q2 n2 c2)).alloc (.cells #[.slice none 0 0] 35)
    rw [World.size_alloc] at this
    exact hW1 ▸ this
  have bR : Boxed W1 (w.heap.size + 2) 35 (.slice none 0 0) := by
    have := Boxed.new ((w.alloc (.cells #[.slice q1 n1 c1] 35)).alloc (.cells #[.slice q2 n2 c2] 35)) 35 (.slice none 0 0)
    rw [World.size_alloc, World.size_alloc] at this
    exact hW1 ▸ this
  have A1 : Below w.heap.size w W1 := hW1 ▸ (((Below.refl _ w).alloc (Nat.le_refl _) _).alloc (by simp) _).alloc (by simp; omega) _
  have hs1 : W1.heap.size = w.heap.size + 3 := by rw [← hW1]; simp
  obtain ⟨W2, hW2⟩ : ∃ W2, W1.alloc (.cells #[.slice none 0 0] 33) = W2 := ⟨_, rfl⟩
  have bL : Boxed W2 (w.heap.size + 3) 33 (.slice none 0 0) := by
    have := Boxed.new W1 33 (.slice none 0 0)
    rw [hs1] at this
    exact hW2 ▸ this
  have hB2 : Below W1.heap.size W1 W2 := hW2 ▸ below_alloc _
  have hs2 : W2.heap.size = w.heap.size + 4 := by rw [← hW2]; simp [hs1]
  have c0' := (b0.alloc (.cells #[.slice none 0 0] 33)).cell
  have con := frmAll_any q1 n1 c1 W2
  have HW1 := Lib.hid hW1
  have HW2 := Lib.hid hW2
  have A2 := A1.trans (hB2.mono A1.size)
  replace b1 := (Keep.of_below hB2).boxed b1 b1.lt
  replace bR := (Keep.of_below hB2).boxed bR bR.lt
  clear hW1 hW2 h1 h2 hB2
  refine (callsIn_wide (n := 1)).1 ?_
  refine callsIn_of_wp_marks Tryz.func84 rfl trivial ?_ rfl
  simp only [Tryz.ntmps84, List.size_toArray, List.length_cons, List.length_nil, Nat.reduceAdd, Nat.reduceSub, Array.replicate_succ, Array.replicate_zero, List.push_toArray, List.append_toArray, List.nil_append, List.cons_append]
  gi_wp2_with fail
  rw [HW1.out]
  gi_wp2_with fail
  rw [HW2.out]
  refine ⟨trivial, (callsIn_wide.2 con).mono ?_⟩
  rintro e W3 ⟨rfl, hW3⟩
  have bv : Boxed W3 (W2.heap.size + 1) 33 (.slice q1 n1 c1) := by
    have := Boxed.new (W2.alloc (.cells #[.slice q1 n1 c1] 35)) 33 (.slice q1 n1 c1)
    rw [World.size_alloc] at this
    exact hW3 ▸ this
  have hbel : Below W2.heap.size W2 W3 := hW3 ▸ ((Below.refl _ W2).alloc (Nat.le_refl _) _).alloc (by simp) _
  have hs3 : W3.heap.size = w.heap.size + 6 := by rw [hW3]; simp [hs2]
  replace b1 := (Keep.of_below hbel).boxed b1 b1.lt
  replace bR := (Keep.of_below hbel).boxed bR bR.lt
  replace bL := (Keep.of_below hbel).boxed bL bL.lt
  have A3 := A2.trans (hbel.mono A2.size)
  have hl1 := s1.1
  obtain ⟨RB, hRB⟩ : ∃ RB : Nat → Prop, RB = fun b => b < w.heap.size + 6 ∧ b ≠ w.heap.size + 3 := ⟨_, rfl⟩
  have rb := Lib.hid (show ∀ b, RB b ↔ b < w.heap.size + 6 ∧ b ≠ w.heap.size + 3 from fun b => by rw [hRB])
  have rbl : ∀ b, RB b → b < W3.heap.size := fun b hb => by have := (rb.out b).1 hb; omega
  have hit := Values1_iter (W2.heap.size + 1) q1 n1 c1 zs RB W3 (by omega) (s1.below A3 s1.lt) (fun a h h' => (rb.out _).2 (by have := s1.lt a h h'; omega)) bv ((rb.out _).2 (by omega)) rbl
  rw [hs2] at hit
  have hbo : w.heap.size + 3 < W3.heap.size := by omega
  clear con bv hW3 hbel HW1 HW2 hRB c0'
  gi_wp2
  refine rf_law (gf := 88) (lb := #[.pointer (some ⟨w.heap.size + 4 + 1, 0, none⟩)]) rfl (enters_of Tryz.func88 (by kernel_rfl) rfl)
    hit (Keep.refl _ _) rbl (fun x args G W h => by rw [h.1]; rfl)
    (LsI (w.heap.size + 3) RB W3 g) (fun _ _ _ _ => False) (LsI_abide _ _ _ _ hbo rbl) (fun _ _ _ _ _ _ h _ _ => h)
    ⟨_, bL, World.ownsRow_nil _ _ _ _, (fun _ h => h.elim), (fun _ h => by cases h), Keep.refl _ _⟩ ?round ?done ?stop
  case round =>
    rintro ll pre ⟨⟨xq, xn, xc⟩, x⟩ rest Pv G args Wr hll hxs ⟨v, hbx, hrow, hge, hnv, hKW⟩ hPl hGl hPb hGP ⟨harg, rfl⟩
    obtain rfl : args = #[.agg #[.slice xq xn xc]] := harg
    have hxm : ((xq, xn, xc), x) ∈ zs := by rw [hxs]; simp
    have hpl : (lessZ g pre).length + 1 ≤ 1099511627777 := by
      have h0 := lessZ_len g pre
      have := lf
      rw [hxs, List.length_append, List.length_cons] at this
      omega
    have hll2 := hPb ll hPl
    clear hxs hit
    gi_wp2
    refine ⟨Keep.alloc _ _ _, fun W5 hk5 hs5 r hr => ?_⟩
    have hka := Keep.alloc (fun _ => True) Wr (.cells #[.slice xq xn xc] 112)
    have bx := hk5.boxed (Boxed.new Wr 112 (.slice xq xn xc)) (by omega)
    have hk5' : Keep (fun b => ¬ Pv b) Wr W5 := (hka.mono fun _ _ _ => trivial).trans (hk5.mono fun b _ hb h => hb (h ▸ hPl))
    have hnP : ∀ b, b < W3.heap.size → ¬ Pv b := fun b hb h => by have := hge b h; omega
    replace hbx := hk5'.boxed hbx (hnP _ hbo)
    replace hrow := hk5'.row hrow hnv
    have hK5 : Keep RB W3 W5 := hKW.trans (hk5'.mono fun b _ hb => hnP b (rbl b hb))
    have hPl5 : ∀ b, Pv b → b < W5.heap.size := fun b hb => Nat.lt_of_lt_of_le (hPb b hb) hk5'.size
    have hsr : Wr.heap.size < W5.heap.size := bx.lt
    have hszW := hK5.size
    have A5 : Below w.heap.size w W5 := A3.trans ((hK5.mono fun b _ h => (rb.out b).2 (by omega)).below A3.size)
    have b15 := hK5.boxed b1 ((rb.out _).2 (by omega))
    have hz := (z1 _ hxm).below A5
    have con := oneImplies_any q2 n2 c2 g (.agg #[.slice xq xn xc]) x W5 (r2.below A5) hz.set hz.few (by omega)
    have c1' := b15.cell
    have cx := bx.cell
    have HSN := Lib.hid (lessZ_snoc g pre ((xq, xn, xc), x))
    simp only at HSN
    have hown5 : ∀ b, v.ownBlock = some b → W3.heap.size ≤ b ∧ b < W5.heap.size := fun b hb => hrow.lt b hb
    clear hk5 hka hs5 hr hz hk5' hKW
    obtain ⟨ob, hob⟩ : ∃ ob, oneB g x = ob := ⟨_, rfl⟩
    rw [hob] at con HSN
    clear hob
    cases ob with
    | true =>
      have HT := Lib.hid (show lessZ g (pre ++ [((xq, xn, xc), x)]) = lessZ g pre by rw [HSN.out]; simp)
      clear HSN
      gi_wp2_with fail
      refine ⟨trivial, rfl, (CallsIn.inRound ll (callsIn_wide.2 con)).mono ?_⟩
      rintro e w6 ⟨rfl, hb6⟩
      have kb := Keep.of_below hb6
      clear con
      gi_wp2
      refine ⟨kb.mono fun b hb h => ?_, v, kb.boxed hbx hbx.lt, ?_, fun b hb => hge b hb, fun b hb hp => hnv b hb hp, hK5.trans (kb.mono fun b _ h => by have := rbl b h; omega)⟩
      · rcases h with h | h
        · have := rbl b h; omega
        · exact hPl5 b h
      · rw [HT.out]
        exact kb.row hrow (fun b hb => (hown5 b hb).2)
    | false =>
      have HT := Lib.hid (show lessZ g (pre ++ [((xq, xn, xc), x)]) = lessZ g pre ++ [((xq, xn, xc), x)] by rw [HSN.out]; simp)
      clear HSN
      gi_wp2_with fail
      refine ⟨trivial, rfl, (CallsIn.inRound ll (callsIn_wide.2 con)).mono ?_⟩
      rintro e w6 ⟨rfl, hb6⟩
      have kb := Keep.of_below hb6
      have hsz6 := hb6.size
      have hbx7 := kb.boxed hbx hbx.lt
      have hrow7 := kb.row hrow (fun b hb => (hown5 b hb).2)
      have cx7 := (kb.boxed bx bx.lt).cell
      have cB := hbx7.cell
      have cB2 := (hbx7.alloc (.cells #[.slice xq xn xc] 112)).cell
      generalize hll3 : (lessZ g pre).length = m at *
      have HL3 := Lib.hid hll3
      clear con hll3
      gi_wp2_with (gi_at_builtin; go_must (refine wpListIn_append_own_at _ rfl _ _ 33 rfl W3.heap.size 112 i0 (.agg #[.slice none 0 0]) 1 24 Tryz.underlying33 hi0 hz0 hz1 hz2 rfl (by decide) _ _ _ rfl (hrow7.alloc _) ⟨w6.heap.size, 0, none⟩ 1 1 [.slice xq xn xc] rfl rfl (cell_one_new _ _ _) (by simp [Value.oneCell']) (by unfold maxLen; omega) (by omega) (by simp; omega) ?_); intro v' w1 hown' hgrow _ hat; obtain ⟨g', cap', rfl⟩ := ownsRow_succ hown'; obtain ⟨hv1, hv2, hr2, hkk⟩ := appended_keep (S := fun b => b ≠ w.heap.size + 3 ∧ v.ownBlock ≠ some b) hbx7 (by decide) hrow7 (fun h => h.1 rfl) (fun b hb h => h.2 hb) hown' hgrow; have hc1 := hv1.cell; have hf1 := hv1.frozen)
      have hat' : some g' = v.ownBlock ∨ some g' = some (w6.alloc (.cells #[.slice xq xn xc] 112)).heap.size := hat
      have hk6 : ∀ S : Nat → Prop, (∀ b, S b → b < W5.heap.size ∧ b ≠ w.heap.size + 3 ∧ v.ownBlock ≠ some b) → Keep S W5 (w1.setCell ⟨w.heap.size + 3, 0, none⟩ (.slice (some ⟨g', 0, none⟩) (m + 1) cap')) := fun S hS => (kb.mono fun b _ h => (hS b h).1).trans (hkk.mono fun b _ h => (hS b h).2)
      have hkr : ∀ b, RB b → b < W5.heap.size ∧ b ≠ w.heap.size + 3 ∧ v.ownBlock ≠ some b := fun b h => by
        have h2 := rbl b h
        exact ⟨by omega, ((rb.out b).1 h).2, fun e => by have := (hown5 b e).1; omega⟩
      refine ⟨hk6 _ (fun b hb => ?_), _, hv2, ?_, fun b hb => hge b hb, fun b hb hp => ?_, hK5.trans (hk6 _ hkr)⟩
      · rcases hb with h | h
        · exact hkr b h
        · exact ⟨hPl5 b h, fun e => by have := hge b h; omega, fun e => hnv b e h⟩
      · rw [HT.out, List.length_append, List.map_append, HL3.out]
        simpa [encC] using hr2
      · have hg : v.ownBlock = some b ∨ W5.heap.size ≤ b := by
          have hb' : some g' = some b := hb
          rcases hat' with h | h
          · exact .inl (h ▸ hb')
          · rw [hb'] at h
            have := Option.some.inj h
            simp at this
            exact .inr (by omega)
        rcases hg with h | h
        · exact hnv b h hp
        · have := hPl5 b hp; omega
  case done =>
    rintro D Pv Wd hD hPD hPl ⟨v, hbx, hrow, hge, hnv, hKW⟩ hK
    obtain ⟨q5, c5, rfl, hc5, _, hs5, hq5⟩ := slIn_of_owns hrow
    have bRd := hKW.boxed bR ((rb.out _).2 (by omega))
    have hBd : Below w.heap.size w Wd := A3.trans ((hKW.mono fun b _ h => (rb.out b).2 (by omega)).below A3.size)
    have cB := hbx.cell
    have hDl := hPl D hPD
    have hDg := hge D hPD
    have kf := bRd.frozen
    have kc := bRd.cell
    have hqn : ∀ a, q5 = some a → W3.heap.size ≤ a.block := fun a ha => (hq5 a ha).1
    have hF : FrmIs Wd (.agg #[.slice q5 (lessZ g zs).length c5]) (lessF (zs.map Prod.snd) g) := ⟨_, _, _, rfl, (fun h => by subst h; exact (Cls.row_nil hrow).2), hc5, lessZ g zs, hs5, fun z hz => ((z1 z (List.mem_filter.1 hz).1).below hBd), less_of g zs⟩
    have hR1 := bRd.set (.slice q5 (lessZ g zs).length c5)
    have hF1 := hF.set (u' := .slice q5 (lessZ g zs).length c5) bRd (fun x h => by cases h) (fun a ha => by have := hqn a ha; omega)
    have hD1 := (Keep.setCell (S := fun b => b = D) Wd ⟨w.heap.size + 2, 0, none⟩ (.slice q5 (lessZ g zs).length c5) (by simp; omega)).heap rfl hK
    have A7 := hBd.setCell (p := ⟨w.heap.size + 2, 0, none⟩) (by simp) (.slice q5 (lessZ g zs).length c5)
    clear hrow hs5 hnv hge hKW hF hit bL hq5
    generalize (lessZ g zs).length = m at *
    gi_wp2
    refine ⟨by simp, .inl ⟨_, _, rfl, run_takeDeferred hD1, ?_⟩⟩
    have kp : ∀ (S : Nat → Prop) (W : World), ¬ S D → Keep S W (W.putObj D (.deferred none)) := fun S W h => Keep.putObj _ _ _ h
    refine ⟨_, ret_frm rfl _ _ (w.heap.size + 2) _ rfl ((kp (fun b => b = w.heap.size + 2) _ (by omega)).boxed hR1 rfl), q5, m, c5, rfl, hF1.put hD1, fun a ha => by have := hqn a ha; omega, A7.trans ((kp (fun b => b < w.heap.size) _ (by omega)).below A7.size)⟩
  case stop =>
    rintro D cc pre rest Pv Wd hD hPD hPl hxs h hK
    exact h.elim

end Go.Proofs.YtkjkfgmoogbdiaaGreatDoor.Frm

namespace Go.Proofs.YtkjkfgmoogbdiaaGreatDoor.Frm
open Go.RowKit Go.Shelf Go.Sort Url Org Cls
attribute [local go_sem] Oper.semAt_some
set_option linter.unusedVariables false

/-! ### lives -/
/-! ### Of -/
set_option maxRecDepth 100000 in
set_option maxHeartbeats 4000000 in
theorem lawOf_any (q : Option Addr) (n c : Nat) (t : List UInt8) (w : World) (hby : By w (.slice q n c) t) (hG : Gl w) :
    Calls Tryz.prog 14 #[.slice q n c] w fun e w' => ∃ q n c, e = .returned (.agg #[.slice q n c]) ∧ FrmIs w' (.agg #[.slice q n c]) (frmV (parseF (t.take 400))) ∧ Below w.heap.size w w' := by
  obtain ⟨h1, h2, h3, h4, h5⟩ := hby.at
  obtain ⟨W1, hW1⟩ : ∃ W1, w.alloc (.cells #[.slice none 0 0] 35) = W1 := ⟨_, rfl⟩
  have A1 : Below w.heap.size w W1 := hW1 ▸ below_alloc _
  have b1 : Boxed W1 w.heap.size 35 (.slice none 0 0) := hW1 ▸ Boxed.new w _ _
  have HW1 := Lib.hid hW1
  have hsub := hby.sub (Nat.zero_le (min n 400)) (Nat.min_le_left n 400)
  rw [subA_zero, Nat.sub_zero, Nat.sub_zero] at hsub
  have et : sub t 0 (min n 400) = t.take 400 := by
    unfold sub
    rw [List.drop_zero, Nat.sub_zero, ← h1]
    rcases Nat.le_total t.length 400 with h | h
    · rw [Nat.min_eq_left h, List.take_of_length_le h, List.take_of_length_le (Nat.le_refl _)]
    · rw [Nat.min_eq_right h]
  rw [et] at hsub
  have con := Parse_any q (min n 400) c (t.take 400) W1 (hsub.on A1) (.inl (by omega)) (hG.on A1)
  have HM := Lib.hid (show (min (n : Int) 400).toNat = min n 400 by omega)
  obtain ⟨r, hr⟩ : ∃ r, parseF (t.take 400) = r := ⟨_, rfl⟩
  rw [hr] at con ⊢
  clear hW1 hsub et hr hG h5 hby h1
  go_enter Tryz.func14, Tryz.ntmps14
  go_wp2_with fail
  rw [HW1.out, HM.out]
  refine con.mono ?_
  rintro e w2 ⟨q2, n2, c2, rfl, hs2, hq2, hb2⟩
  have b2 := ((Keep.of_below hb2).boxed b1 b1.lt).alloc (.cells #[.slice q2 n2 c2] 35)
  have A2 := A1.trans (hb2.mono A1.size)
  have f2 := hs2.below (below_alloc (.cells #[.slice q2 n2 c2] 35))
  have A3 := A2.alloc A2.size (.cells #[.slice q2 n2 c2] 35)
  have kf := b2.frozen
  have kc := b2.cell
  have hb1l := b1.lt
  have f3 := f2.set (u' := .slice q2 n2 c2) b2 (fun x h => by cases h) (fun a ha => by have := hq2 a ha; omega)
  have b3 := (b2.set (.slice q2 n2 c2)).cell
  clear con
  go_wp2
  refine bodyPost_ret (v := .agg #[.slice q2 n2 c2]) (by simp [results, Tryz.f14, go_sem, b3]) rfl ?_
  exact ⟨q2, n2, c2, rfl, f3, A3.setCell (by simp) _⟩

/-! ### what is told, collected -/
end Go.Proofs.YtkjkfgmoogbdiaaGreatDoor.Frm

namespace Go.Proofs.YtkjkfgmoogbdiaaGreatDoor.Prv
open Url Org Cls Frm
set_option linter.unusedVariables false

theorem less_few (f g : List (List (List UInt8))) : (lessF f g).length ≤ f.length := List.length_filter_le _ _

end Go.Proofs.YtkjkfgmoogbdiaaGreatDoor.Prv

namespace Go.Proofs.YtkjkfgmoogbdiaaGreatDoor.Frm
open Go.RowKit Go.Shelf Go.Sort Url Org Cls
attribute [local go_sem] Oper.semAt_some
set_option linter.unusedVariables false

/-- The rows that have come lie in the box's row; Pv: what others hold. -/
def RefL (Bo base : Nat) (W0 : World) (Pv : Nat → Prop) (W : World) (acc : List (List (List UInt8))) : Prop :=
  ∃ v, ∃ ls : List Cl, Boxed W Bo 48 v ∧ W.ownsRow base 108 1 v ls.length (ls.map encC) ∧ (∀ z ∈ ls, (ClAt W z ∧ (z.1.1 = none → z.1.2.2 = 0)) ∧ ∀ a, z.1.1 = some a → 0 < z.1.2.1 → ¬ Pv a.block ∧ W0.heap.size ≤ a.block ∧ v.ownBlock ≠ some a.block) ∧ ls.map Prod.snd = acc ∧
    (∀ b, Pv b → W0.heap.size ≤ b) ∧ (∀ b, v.ownBlock = some b → ¬ Pv b) ∧ Keep (fun b => b < base) W0 W
theorem RefL.step {Bo base : Nat} {Pv Pv' : Nat → Prop} {W0 A B : World} {acc : List (List (List UInt8))} (h : RefL Bo base W0 Pv A acc) (hBo : Bo < W0.heap.size) (hbs : base ≤ W0.heap.size) (hk : Keep (fun b => ¬ Pv b) A B) (hp : ∀ b, Pv' b → (Pv b ∨ A.heap.size ≤ b)) : RefL Bo base W0 Pv' B acc := by
  obtain ⟨v, ls, h1, h2, hz, hc, h3, h5, h6⟩ := h
  have hs := h6.size
  refine ⟨v, ls, hk.boxed h1 (fun h => by have := h3 _ h; omega), hk.row h2 h5, fun z hz' => ⟨⟨(hz z hz').1.1.from hk (fun a ha h0 => ((hz z hz').2 a ha h0).1), (hz z hz').1.2⟩, fun a ha h0 => ⟨fun hp' => ?_, ((hz z hz').2 a ha h0).2⟩⟩, hc, fun b hb => ?_, fun b hb hp' => ?_, h6.trans (hk.mono fun b _ hb hpb => by have := h3 b hpb; omega)⟩
  · rcases hp _ hp' with h | h
    · exact ((hz z hz').2 a ha h0).1 h
    · have := (hz z hz').1.1.lt a ha h0; omega
  · rcases hp b hb with h | h
    · exact h3 b h
    · omega
  · rcases hp _ hp' with h | h
    · exact h5 b hb h
    · have := (h2.lt b hb).2; omega

end Go.Proofs.YtkjkfgmoogbdiaaGreatDoor.Frm

namespace Go.Proofs.YtkjkfgmoogbdiaaGreatDoor.Lbl
open Go.RowKit Go.Shelf Go.Sort Url Org Cls Frm
attribute [local go_sem] Oper.semAt_some
set_option linter.unusedVariables false

/-- The value v is the label l, in w. -/
def LabIs (w : World) (v : Value) (l : Lab) : Prop := ∃ q1 n1 c1 q2 n2 c2, v = .agg #[.slice q1 n1 c1, .slice q2 n2 c2] ∧ FrmIs w (.agg #[.slice q1 n1 c1]) l.s ∧ FrmIs w (.agg #[.slice q2 n2 c2]) l.i
theorem LabIs.below {w w' : World} {v : Value} {l : Lab} (h : LabIs w v l) (hb : Below w.heap.size w w') : LabIs w' v l := by
  obtain ⟨q1, n1, c1, q2, n2, c2, rfl, h1, h2⟩ := h
  exact ⟨q1, n1, c1, q2, n2, c2, rfl, h1.below hb, h2.below hb⟩
theorem lab_open (w : World) : LabIs w (.agg #[.slice none 0 0, .slice none 0 0]) ⟨[], []⟩ := ⟨none, 0, 0, none, 0, 0, rfl, frm_nil w, frm_nil w⟩

/-- Block B holds a label's cells. -/
def LB (B : Nat) (cs : Array Value) (X : World) : Prop := X.heap[B]? = some (.cells cs 37 (0, 0))
theorem LB.box {B : Nat} {cs : Array Value} {X : World} (h : LB B cs X) : Box B cs X := fun i x hx => by
  simp only [World.cell?, show X.heap[B]? = _ from h]; exact hx
theorem LB.frozen {B : Nat} {cs : Array Value} {X : World} (h : LB B cs X) (i : Nat) : X.frozen? ⟨B, i, none⟩ = false := by
  simp [World.frozen?, show X.heap[B]? = _ from h]
theorem LB.on {B : Nat} {cs : Array Value} {X Y : World} (h : LB B cs X) (hk : Below X.heap.size X Y) : LB B cs Y := (hk.block B (Array.getElem?_eq_some_iff.1 h).1).trans h
theorem LB.lt {B : Nat} {cs : Array Value} {X : World} (h : LB B cs X) : B < X.heap.size := (Array.getElem?_eq_some_iff.1 h).1
theorem LB.new (w : World) (cs : Array Value) : LB w.heap.size cs (w.alloc (.cells cs 37)) := World.alloc_heap_new w _
theorem LB.set {B : Nat} {cs : Array Value} {X : World} (h : LB B cs X) (i : Nat) (v : Value) : LB B (cs.setIfInBounds i v) (X.setCell ⟨B, i, none⟩ v) := by
  obtain ⟨hlt, hk⟩ := Array.getElem?_eq_some_iff.1 h
  show (X.heap.modify B _)[B]? = _
  rw [Array.getElem?_eq_getElem (by rw [Array.size_modify]; exact hlt), Array.getElem_modify_self, hk]
  rfl
/-- Both cells set, one by one. -/
theorem LB.put {B : Nat} {X : World} {a0 a1 : Value} (h : LB B #[a0, a1] X) (v0 v1 : Value) :
    ∃ Y, (X.setCell ⟨B, 0, none⟩ v0).setCell ⟨B, 1, none⟩ v1 = Y ∧ LB B #[v0, v1] Y ∧ (∀ S : Nat → Prop, ¬ S B → Keep S X Y) ∧ ∀ M, M ≤ B → Below M X Y := by
  have h8 := (h.set 0 v0).set 1 v1
  simp only [List.setIfInBounds_toArray, List.set_cons_zero, List.set_cons_succ] at h8
  refine ⟨_, rfl, h8, fun S hS => ?_, fun M hM => ?_⟩
  · exact (Keep.setCell _ _ _ hS).trans (Keep.setCell _ _ _ hS)
  · exact ((Below.refl M X).setCell (p := ⟨B, 0, none⟩) hM v0).setCell (p := ⟨B, 1, none⟩) hM v1
theorem size_lab : (Tryz.prog.info? 37).map (·.size) = some 2 := by kernel_rfl
/-- A label that lies in the result's cell is handed over. -/
theorem ret_lab {fn : Func} {p : Tmp} (h : fn.results = #[.cell p 37]) (tmps : Array Value) (w : World) (B : Nat) (cs : Array Value) (hp : tmps.getD p undef = .pointer (some ⟨B, 0, none⟩)) (hU : LB B cs w) (hs : cs.size = 2) :
    (results fn tmps).run Tryz.prog w = .ok (.agg cs) w :=
  results_cell_row h tmps w B _ cs (0, 0) _ hp hU Tryz.underlying37 rfl (by rw [size_lab, hs])
theorem ret_lab2 {fn : Func} {p u : Tmp} (h : fn.results = #[.cell p 37, .tmp u]) (tmps : Array Value) (w : World) (B : Nat) (cs : Array Value) (hp : tmps.getD p undef = .pointer (some ⟨B, 0, none⟩)) (hU : LB B cs w) (hs : cs.size = 2) :
    (results fn tmps).run Tryz.prog w = .ok (.tuple #[.agg cs, tmps.getD u undef]) w := by
  rw [results_cell_tmp h, hp]
  simp [asAddr, Result.andThen, run_loadVar_row w B 37 _ cs (0, 0) _ hU Tryz.underlying37 rfl (by rw [size_lab, hs])]

/-- A row of texts does not lie in a label's block. -/
theorem slIn_ne_lb {w : World} {q : Option Addr} {n : Nat} {xs : List (List UInt8)} {B : Nat} {s0 s1 : Value} (h : SlIn encStr w q n xs) (hB : LB B #[s0, s1] w) (h0 : ∀ x, encStr x ≠ s0) (h1 : ∀ x, encStr x ≠ s1) : ∀ a, q = some a → 0 < n → a.block ≠ B := by
  rintro a rfl hn rfl
  obtain ⟨b, o, he, _, hc⟩ := h.at hn
  cases he
  cases xs with
  | nil => have := h.1; simp at this; omega
  | cons x xs =>
    have k1 := hc 0 x rfl
    have k2 : w.heap[b]? = some (.cells #[s0, s1] 37 (0, 0)) := hB
    simp only [World.cell?, k2] at k1
    rcases (show o = 0 ∨ o = 1 ∨ 2 ≤ o by omega) with ho | ho | ho
    · subst ho; simp at k1; exact h0 x k1.symm
    · subst ho; simp at k1; exact h1 x k1.symm
    · simp at k1; rw [List.getElem?_eq_none (by simp; omega)] at k1; cases k1
/-- A formula does not mind what becomes of a label's block, its row lying elsewhere. -/
theorem FrmIs.off {w Y : World} {q : Option Addr} {n c : Nat} {f : List (List (List UInt8))} {B : Nat} {q1 q2 : Option Addr} {n1 c1 n2 c2 : Nat} (h : FrmIs w (.agg #[.slice q n c]) f) (hB : LB B #[.slice q1 n1 c1, .slice q2 n2 c2] w)
    (hq : ∀ a, q = some a → 0 < n → a.block ≠ B) (hk : Keep (fun b => b ≠ B) w Y) : FrmIs Y (.agg #[.slice q n c]) f := by
  obtain ⟨h1, h2, zs, s, z, rfl⟩ := h.row
  exact ⟨q, n, c, rfl, h1, h2, zs, s.keep hk hq, fun x hx => (z x hx).from hk fun a ha h0 => by
    obtain ⟨_, _, _, he, _, _, hs, _⟩ := (z x hx).set
    cases he
    exact slIn_ne_lb hs hB (fun x h => by cases h) (fun x h => by cases h) a ha h0, rfl⟩
theorem FrmIs.lt {w : World} {q : Option Addr} {n c : Nat} {f : List (List (List UInt8))} (h : FrmIs w (.agg #[.slice q n c]) f) : ∀ a, q = some a → 0 < n → a.block < w.heap.size := h.row.2.2.lt

/-- Few clauses on both sides. -/
def Few (l : Lab) : Prop := l.s.length ≤ 16 ∧ l.i.length ≤ 16
theorem LB.two (w : World) (cs ds : Array Value) : LB (w.heap.size + 1) ds ((w.alloc (.cells cs 37)).alloc (.cells ds 37)) := by
  have := LB.new (w.alloc (.cells cs 37)) ds
  rw [World.size_alloc] at this
  exact this

/-! ### Open, Shut, Pure -/
set_option maxRecDepth 100000 in
set_option maxHeartbeats 4000000 in
theorem Open_any (w : World) : Calls Tryz.prog 25 #[] w fun e w' => ∃ v, e = .returned v ∧ LabIs w' v ⟨[], []⟩ ∧ Below w.heap.size w w' := by
  obtain ⟨W1, hW1⟩ : ∃ W1, w.alloc (.cells #[.slice none 0 0, .slice none 0 0] 37) = W1 := ⟨_, rfl⟩
  have A1 : Below w.heap.size w W1 := hW1 ▸ below_alloc _
  have b1 : LB w.heap.size #[.slice none 0 0, .slice none 0 0] W1 := hW1 ▸ LB.new w _
  have HW1 := Lib.hid hW1
  have HL1 := Lib.hid b1.lt
  clear hW1
  go_enter Tryz.func25, Tryz.ntmps25
  go_wp2_with fail
  rw [HW1.out]
  clear HW1
  have con := Always_any W1
  refine con.mono ?_
  rintro e w2 ⟨rfl, hb⟩
  have fS : FrmIs w2 (.agg #[.slice none 0 0]) [] := frm_nil _
  have nS : ∀ a, (none : Option Addr) = some a → 0 < 0 → a.block ≠ w.heap.size := fun a h => by cases h
  have b2 := b1.on hb
  have A2 := A1.trans (hb.mono A1.size)
  replace HL1 := Lib.hid b2.lt
  clear con hb b1
  have con := Always_any w2
  go_wp2_with fail
  refine con.mono ?_
  rintro e w3 ⟨rfl, hb⟩
  have fI : FrmIs w3 (.agg #[.slice none 0 0]) [] := frm_nil _
  have nI : ∀ a, (none : Option Addr) = some a → 0 < 0 → a.block ≠ w.heap.size := fun a h => by cases h
  replace fS := fS.below hb
  have b3 := b2.on hb
  have A3 := A2.trans (hb.mono A2.size)
  replace HL1 := Lib.hid b3.lt
  clear con hb b2
  have kf0 := b3.frozen 0
  have kf1 := b3.frozen 1
  have z0 := b3.box 0 _ rfl
  have z1 := b3.box 1 _ rfl
  obtain ⟨Y, hY, b4, hk, hB4⟩ := b3.put (.slice none 0 0) (.slice none 0 0)
  have HY := Lib.hid hY
  have rS := FrmIs.off fS b3 nS (hk _ (by simp))
  have rI := FrmIs.off fI b3 nI (hk _ (by simp))
  clear hY fS fI nS nI
  go_wp2
  rw [HY.out]
  refine bodyPost_ret (ret_lab rfl _ _ w.heap.size _ rfl b4 rfl) rfl ?_
  exact ⟨_, rfl, ⟨_, _, _, _, _, _, rfl, rS, rI⟩, A3.trans (hB4 _ (Nat.le_refl _))⟩

end Go.Proofs.YtkjkfgmoogbdiaaGreatDoor.Lbl

namespace Go.Proofs.YtkjkfgmoogbdiaaGreatDoor.Lbl
open Go.RowKit Go.Shelf Go.Sort Url Org Cls Frm
attribute [local go_sem] Oper.semAt_some
set_option linter.unusedVariables false

set_option maxRecDepth 100000 in
set_option maxHeartbeats 8000000 in
theorem Flows_any (v1 v2 : Value) (l o : Lab) (w : World) (h1 : LabIs w v1 l) (h2 : LabIs w v2 o) (fl : Few l) (fo : Few o) :
    Calls Tryz.prog 29 #[v1, v2] w fun e w' => e = .returned (.bool (flowsB l o)) ∧ Below w.heap.size w w' := by
  obtain ⟨q1, n1, c1, q2, n2, c2, rfl, s1, i1⟩ := h1
  obtain ⟨q3, n3, c3, q4, n4, c4, rfl, s2, i2⟩ := h2
  obtain ⟨W, hW⟩ : ∃ W, (w.alloc (.cells #[.slice q1 n1 c1, .slice q2 n2 c2] 37)).alloc (.cells #[.slice q3 n3 c3, .slice q4 n4 c4] 37) = W := ⟨_, rfl⟩
  have A1 : Below w.heap.size w W := hW ▸ ((Below.refl _ w).alloc (Nat.le_refl _) _).alloc (by simp) _
  have b0 : LB w.heap.size #[.slice q1 n1 c1, .slice q2 n2 c2] W := hW ▸ (LB.new w _).on (below_alloc _)
  have b1 : LB (w.heap.size + 1) #[.slice q3 n3 c3, .slice q4 n4 c4] W := hW ▸ LB.two w _ _
  have x0 := b0.box 0 _ rfl
  have y0 := b1.box 0 _ rfl
  have con := Frm.Implies_any _ _ o.s l.s W (s2.below A1) (s1.below A1) (by have := fo.1; omega) (by have := fl.1; omega)
  have HC := Lib.hid (fun X (hb : Below w.heap.size w X) => Frm.Implies_any _ _ l.i o.i X (i1.below hb) (i2.below hb) (by have := fl.2; omega) (by have := fo.2; omega))
  have HF := Lib.hid (show flowsB l o = (impB o.s l.s && impB l.i o.i) from rfl)
  have HW := Lib.hid hW
  obtain ⟨A, hA⟩ : ∃ A, impB o.s l.s = A := ⟨_, rfl⟩
  rw [hA] at con HF
  clear hW s1 i1 s2 i2 fl fo hA
  go_enter Tryz.func29, Tryz.ntmps29
  go_wp2_with fail
  rw [HW.out]
  refine con.mono ?_
  rintro e w2 ⟨rfl, hb⟩
  have A2 := A1.trans (hb.mono A1.size)
  have x1 := (b0.on hb).box 1 _ rfl
  have y1 := (b1.on hb).box 1 _ rfl
  clear x0 y0 b0 b1 hb con HW A1
  cases A with
  | false =>
    clear HC
    go_wp2
    go_ret
    exact ⟨by rw [HF.out]; rfl, A2⟩
  | true =>
    have con := HC.out w2 A2
    go_wp2_with fail
    refine con.mono ?_
    rintro e w3 ⟨rfl, hb⟩
    have A3 := A2.trans (hb.mono A2.size)
    clear con hb x1 y1
    go_wp2
    go_ret
    exact ⟨by rw [HF.out]; rfl, A3⟩

end Go.Proofs.YtkjkfgmoogbdiaaGreatDoor.Lbl

namespace Go.Proofs.YtkjkfgmoogbdiaaGreatDoor.Lbl
open Go.RowKit Go.Shelf Go.Sort Url Org Cls Frm
attribute [local go_sem] Oper.semAt_some
set_option linter.unusedVariables false

/-- A label and no error, or open and one; what is told lies in new memory. -/
def LabOut (r : Sum Int Lab) (w : World) (e : Ending) (w' : World) : Prop :=
  ∃ q1 n1 c1 q2 n2 c2, e = .returned (.tuple #[.agg #[.slice q1 n1 c1, .slice q2 n2 c2], .int .i64 (labE r)]) ∧ FrmIs w' (.agg #[.slice q1 n1 c1]) (labV r).s ∧ FrmIs w' (.agg #[.slice q2 n2 c2]) (labV r).i ∧
    (∀ a, q1 = some a → 0 < n1 → w.heap.size ≤ a.block) ∧ (∀ a, q2 = some a → 0 < n2 → w.heap.size ≤ a.block) ∧ Below w.heap.size w w'
theorem labOut_open {w w' : World} (n : Int) (h : Below w.heap.size w w') : LabOut (.inl n) w (.returned (.tuple #[.agg #[.slice none 0 0, .slice none 0 0], .int .i64 n])) w' :=
  ⟨none, 0, 0, none, 0, 0, rfl, frm_nil _, frm_nil _, (fun a h => by cases h), (fun a h => by cases h), h⟩
end Go.Proofs.YtkjkfgmoogbdiaaGreatDoor.Lbl

namespace Go.Proofs.YtkjkfgmoogbdiaaGreatDoor.Lbl
open Go.RowKit Go.Shelf Go.Sort Url Org Cls Frm
attribute [local go_sem] Oper.semAt_some
set_option linter.unusedVariables false

/-- The label of one principal. -/
def oneL (p : List UInt8) : Sum Int Lab := match singleR p with
  | .inl e => .inl e
  | .inr f => .inr ⟨f, []⟩
theorem oneL_val (p : List UInt8) : labV (oneL p) = ⟨frmV (singleR p), []⟩ ∧ labE (oneL p) = frmE (singleR p) := by
  unfold oneL
  cases singleR p <;> exact ⟨rfl, rfl⟩

set_option maxRecDepth 100000 in
set_option maxHeartbeats 8000000 in
theorem Of_any (p : List UInt8) (w : World) (hl : p.length ≤ 1300) (hG : Gl w) :
    Calls Tryz.prog 31 #[.string ⟨p.toArray⟩] w (LabOut (oneL p) w) := by
  obtain ⟨W, hW⟩ : ∃ W, w.alloc (.cells #[.slice none 0 0, .slice none 0 0] 37) = W := ⟨_, rfl⟩
  have A1 : Below w.heap.size w W := hW ▸ below_alloc _
  have b8 : LB w.heap.size #[.slice none 0 0, .slice none 0 0] W := hW ▸ LB.new w _
  have HSZ := Lib.hid (show W.heap.size = w.heap.size + 1 by rw [← hW]; simp)
  have con := Single_any p W hl (hG.on A1)
  have HV := Lib.hid (oneL_val p)
  have HW := Lib.hid hW
  unfold LabOut
  rw [HV.out.1, HV.out.2]
  obtain ⟨r, hr⟩ : ∃ r, singleR p = r := ⟨_, rfl⟩
  rw [hr] at con ⊢
  unfold FrmOut at con
  obtain ⟨en, hen⟩ : ∃ n, frmE r = n := ⟨_, rfl⟩
  obtain ⟨rv, hrv⟩ : ∃ v, frmV r = v := ⟨_, rfl⟩
  rw [hen, hrv] at con ⊢
  clear hW hr hen hrv hG HV
  go_enter Tryz.func31, Tryz.ntmps31
  go_wp2_with fail
  rw [HW.out]
  refine con.mono ?_
  rintro e w2 ⟨q5, n5, c5, rfl, f5, k5, hb⟩
  have A2 := A1.trans (hb.mono A1.size)
  have hba : Below w2.heap.size w2 (w2.alloc (.cells #[.slice q5 n5 c5] 35)) := below_alloc _
  have A3 := A2.trans (hba.mono A2.size)
  replace b8 := (b8.on hb).on hba
  have bx : Boxed (w2.alloc (.cells #[.slice q5 n5 c5] 35)) w2.heap.size 35 (.slice q5 n5 c5) := Boxed.new w2 _ _
  replace f5 := f5.below hba
  have K5 := Lib.hid (show ∀ a, q5 = some a → 0 < n5 → w.heap.size < a.block from fun a h _ => by have := k5 a h; have := HSZ.out; omega)
  have kf0 := b8.frozen 0
  have kf1 := b8.frozen 1
  have z0 := b8.box 0 _ rfl
  have z1 := b8.box 1 _ rfl
  have cx := bx.cell
  obtain ⟨Y, hY, bY, hkY, hBY⟩ := b8.put (.slice q5 n5 c5) (.slice none 0 0)
  have A6 := A3.trans (hBY _ (Nat.le_refl _))
  have g5 := FrmIs.off f5 b8 (fun a h h0 => by have := K5.out a h h0; omega) (hkY _ (by simp))
  have HY := Lib.hid hY
  clear con hb A1 HW k5 hba hY f5 bx
  go_wp2
  rw [HY.out]
  refine bodyPost_ret (ret_lab2 rfl _ _ w.heap.size _ rfl bY rfl) rfl ?_
  exact ⟨q5, n5, c5, none, 0, 0, rfl, g5, frm_nil _, (fun a h h0 => by have := K5.out a h h0; omega), (fun a h => by cases h), A6⟩

set_option maxRecDepth 100000 in
set_option maxHeartbeats 16000000 in
theorem Parse_any (q : Option Addr) (n c : Nat) (t : List UInt8) (w : World) (hby : By w (.slice q n c) t) (hn : n ≤ 1099511627775) (hp : n ≤ 4096 → (atFst 59 t).length ≤ 1300 ∧ (atSnd 59 t).length ≤ 1300) (hG : Gl w) :
    Calls Tryz.prog 33 #[.slice q n c] w (LabOut (parseL t) w) := by
  obtain ⟨W, hW⟩ : ∃ W, w.alloc (.cells #[.slice none 0 0, .slice none 0 0] 37) = W := ⟨_, rfl⟩
  have A1 : Below w.heap.size w W := hW ▸ below_alloc _
  have b8 : LB w.heap.size #[.slice none 0 0, .slice none 0 0] W := hW ▸ LB.new w _
  have HSZ := Lib.hid (show W.heap.size = w.heap.size + 1 by rw [← hW]; simp)
  obtain ⟨h1, h2, h3, h4, h5⟩ := (hby.on A1).at
  have HL := Lib.hid h1
  have HW := Lib.hid hW
  have con := At_any q n c t 59 W h1 hn h2 h4 h5
  have hGW := Lib.hid (hG.on A1)
  clear hW h1 h2 h3 h4 h5 hby hG
  go_enter Tryz.func33, Tryz.ntmps33
  by_cases hlong : 4096 < n
  · have d : decide ((4096 : Int) < (n : Int)) = true := by simp; omega
    have HR := Lib.hid (show parseL t = .inl 3 by unfold parseL; rw [if_pos (by rw [HL.out]; exact hlong)])
    have kf0 := b8.frozen 0
    have kf1 := b8.frozen 1
    have z0 := b8.box 0 _ rfl
    have z1 := b8.box 1 _ rfl
    rw [← HW.out] at kf0 kf1 z0 z1
    clear con hlong hp
    go_wp2
    rw [HW.out]
    refine bodyPost_ret (ret_lab2 rfl _ _ w.heap.size _ rfl b8 rfl) rfl ?_
    rw [HR.out]
    exact labOut_open 3 A1
  · have d : decide ((4096 : Int) < (n : Int)) = false := by simp; omega
    have hl4 : ¬ 4096 < t.length := by rw [HL.out]; exact hlong
    obtain ⟨p1, p2⟩ := hp (by omega)
    have HP2 := Lib.hid (parseL_two t hl4)
    have HP1 := Lib.hid (parseL_one t hl4)
    have HPB := Lib.hid (parseL_both t hl4)
    have HA0 := Lib.hid (show atOk 59 (atSnd 59 t) = true → atOk 59 t = true from fun h => by
      cases e : atOk 59 t with
      | true => rfl
      | false => rw [at_no_snd _ _ e, at_nil] at h; cases h)
    have HNF := Lib.hid (parseF_no (atFst 59 t))
    have HNS := Lib.hid (parseF_no (atSnd 59 t))
    obtain ⟨t1, ht1⟩ : ∃ x, atFst 59 t = x := ⟨_, rfl⟩
    obtain ⟨t2, ht2⟩ : ∃ x, atSnd 59 t = x := ⟨_, rfl⟩
    obtain ⟨k1, hk1⟩ : ∃ x, atOk 59 t = x := ⟨_, rfl⟩
    obtain ⟨r, hr⟩ : ∃ r, parseL t = r := ⟨_, rfl⟩
    rw [ht1, hk1, ht2] at con
    rw [ht1] at HNF p1
    rw [ht2] at HNS p2
    rw [hr, ht2] at HP2
    rw [hr, ht1, hk1] at HP1
    rw [hr, ht1, ht2, hk1] at HPB
    rw [ht2, hk1] at HA0
    rw [hr]
    clear hlong hp hl4 ht1 ht2 hk1 hr HL
    go_wp2_with fail
    rw [HW.out]
    refine con.mono ?_
    rintro e w2 ⟨v1, v2, rfl, r1, r2, hb⟩
    have A2 := A1.trans (hb.mono A1.size)
    have y1 := By.row r1
    have y2 := By.row r2
    obtain ⟨qa, ca, rfl⟩ := by_form y1
    obtain ⟨qb, cb, rfl⟩ := by_form y2
    replace b8 := b8.on hb
    have hG2 := Lib.hid (hGW.out.on hb)
    obtain ⟨m1, m2, m3, m4, m5⟩ := y2.at
    have con := At_any qb t2.length cb t2 59 w2 rfl (by omega) m2 m4 m5
    obtain ⟨k2, hk2⟩ : ∃ x, atOk 59 t2 = x := ⟨_, rfl⟩
    rw [hk2] at con HP2 HA0 HPB
    have Y1 := Lib.hid y1
    have Y2 := Lib.hid y2
    clear hb r1 r2 A1 HW m1 m2 m3 m4 m5 hk2 y1 y2 hGW
    go_wp2_with fail
    refine con.mono ?_
    rintro e w3 ⟨v3, v4, rfl, _, _, hb⟩
    have A3 := A2.trans (hb.mono A2.size)
    replace b8 := b8.on hb
    replace Y1 := Lib.hid (Y1.out.on hb)
    replace Y2 := Lib.hid (Y2.out.on hb)
    have hG3 := Lib.hid (hG2.out.on hb)
    have HS3 := Lib.hid (show w.heap.size < w3.heap.size from b8.lt)
    clear con hb A2 hG2
    cases k2 with
    | true =>
      have HR := HP2.out rfl
      have kf0 := b8.frozen 0
      have kf1 := b8.frozen 1
      have z0 := b8.box 0 _ rfl
      have z1 := b8.box 1 _ rfl
      obtain ⟨Y, hY, bY, _, hBY⟩ := b8.put (.slice none 0 0) (.slice none 0 0)
      have A4 := A3.trans (hBY _ (Nat.le_refl _))
      have HY := Lib.hid hY
      clear hY HP1 HPB
      subst HR
      go_wp2
      rw [HY.out]
      refine bodyPost_ret (ret_lab2 rfl _ _ w.heap.size _ rfl bY rfl) rfl ?_
      exact labOut_open 2 A4
    | false =>
      have con := Frm.Parse_any qa t1.length ca t1 w3 Y1.out (.inl p1) hG3.out
      obtain ⟨f1, hf1⟩ : ∃ r, parseF t1 = r := ⟨_, rfl⟩
      rw [hf1] at con HNF HP1 HPB
      clear HP2 HA0 hf1 Y1
      go_wp2_with fail
      refine con.mono ?_
      rintro e w4 ⟨q5, n5, c5, rfl, f5, k5, hb⟩
      have A4 := A3.trans (hb.mono A3.size)
      have hba : Below w4.heap.size w4 (w4.alloc (.cells #[.slice q5 n5 c5] 35)) := below_alloc _
      have A5 := A4.trans (hba.mono A4.size)
      replace b8 := (b8.on hb).on hba
      replace Y2 := Lib.hid ((Y2.out.on hb).on hba)
      have hG5 := Lib.hid ((hG3.out.on hb).on hba)
      have bx : Boxed (w4.alloc (.cells #[.slice q5 n5 c5] 35)) w4.heap.size 35 (.slice q5 n5 c5) := Boxed.new w4 _ _
      replace f5 := f5.below hba
      have K5 := Lib.hid (show ∀ a, q5 = some a → 0 < n5 → w.heap.size < a.block from fun a h _ => by have := k5 a h; have := HS3.out; omega)
      have HS4 := Lib.hid (show w.heap.size < w4.heap.size by have := HS3.out; have := hb.size; omega)
      have kf0 := b8.frozen 0
      have kf1 := b8.frozen 1
      have z0 := b8.box 0 _ rfl
      have z1 := b8.box 1 _ rfl
      have cx := bx.cell
      obtain ⟨Y, hY, bY, hkY, hBY⟩ := b8.put (.slice q5 n5 c5) (.slice none 0 0)
      have A6 := A5.trans (hBY _ (Nat.le_refl _))
      have g5 := FrmIs.off f5 b8 (fun a h h0 => by have := K5.out a h h0; omega) (hkY _ (by simp))
      have HY := Lib.hid hY
      clear con hb k5 hba hY hG3 A3 A4
      cases f1 with
      | inl e1 =>
        have hne : e1 ≠ 0 := by rcases HNF.out e1 rfl with h | h <;> omega
        have d2 : ((e1 : Int) != 0) = true := by unfold bne; rw [beq_eq_false_iff_ne.2 hne]; rfl
        have HR : r = .inl e1 := by
          cases k1 with
          | true => rw [HPB.out (by first | rfl | trivial) (by first | rfl | trivial)]
          | false => rw [HP1.out (by first | rfl | trivial)]
        subst HR
        clear hne HP1 HPB HNF f5 bx b8
        unfold frmE
        go_wp2
        rw [HY.out]
        refine bodyPost_ret (ret_lab2 rfl _ _ w.heap.size _ rfl bY rfl) rfl ?_
        exact ⟨q5, n5, c5, none, 0, 0, rfl, g5, frm_nil _, (fun a h h0 => by have := K5.out a h h0; omega), (fun a h => by cases h), A6⟩
      | inr f =>
        replace f5 : FrmIs _ (.agg #[.slice q5 n5 c5]) f := f5
        replace g5 : FrmIs Y (.agg #[.slice q5 n5 c5]) f := g5
        cases k1 with
        | false =>
          have HR : r = .inr ⟨f, []⟩ := by rw [HP1.out (by first | rfl | trivial)]
          subst HR
          clear HP1 HPB HNF f5 bx b8
          unfold frmE
          go_wp2
          rw [HY.out]
          refine bodyPost_ret (ret_lab2 rfl _ _ w.heap.size _ rfl bY rfl) rfl ?_
          exact ⟨q5, n5, c5, none, 0, 0, rfl, g5, frm_nil _, (fun a h h0 => by have := K5.out a h h0; omega), (fun a h => by cases h), A6⟩
        | true =>
          have con := Frm.Parse_any qb t2.length cb t2 _ Y2.out (.inl p2) hG5.out
          obtain ⟨f2, hf2⟩ : ∃ r, parseF t2 = r := ⟨_, rfl⟩
          have HPR := HPB.out (by first | rfl | trivial) (by first | rfl | trivial)
          rw [hf2] at con HNS HPR
          have HPQ := Lib.hid HPR
          clear HPR hf2 HP1 HPB HNF Y2 g5 bY hkY hBY A6 HY kf0 kf1 z0 z1 cx
          unfold frmE
          go_wp2_with fail
          refine con.mono ?_
          rintro e w6 ⟨q6, n6, c6, rfl, f6, k6, hb⟩
          have A6 := A5.trans (hb.mono A5.size)
          have hba : Below w6.heap.size w6 (w6.alloc (.cells #[.slice q6 n6 c6] 35)) := below_alloc _
          have A7 := A6.trans (hba.mono A6.size)
          replace b8 := (b8.on hb).on hba
          replace bx := (Keep.of_below hba).boxed ((Keep.of_below hb).boxed bx bx.lt) (Nat.lt_of_lt_of_le bx.lt hb.size)
          have by2 : Boxed (w6.alloc (.cells #[.slice q6 n6 c6] 35)) w6.heap.size 35 (.slice q6 n6 c6) := Boxed.new w6 _ _
          replace f5 := (f5.below hb).below hba
          replace f6 := f6.below hba
          have K6 := Lib.hid (show ∀ a, q6 = some a → 0 < n6 → w.heap.size < a.block from fun a h _ => by
            have h1 := k6 a h
            have h2 := HS4.out
            rw [World.size_alloc] at h1
            omega)
          have kf0 := b8.frozen 0
          have kf1 := b8.frozen 1
          have z0 := b8.box 0 _ rfl
          have z1 := b8.box 1 _ rfl
          clear con hb k6 hba A5 A6
          cases f2 with
          | inl e2 =>
            have hne : e2 ≠ 0 := by rcases HNS.out e2 rfl with h | h <;> omega
            have d2 : ((e2 : Int) != 0) = true := by unfold bne; rw [beq_eq_false_iff_ne.2 hne]; rfl
            have HR : r = .inl e2 := by rw [HPQ.out]
            subst HR
            obtain ⟨Y, hY, bY, _, hBY⟩ := b8.put (.slice none 0 0) (.slice none 0 0)
            have A8 := A7.trans (hBY _ (Nat.le_refl _))
            have HY := Lib.hid hY
            clear hne HPQ HNS f5 f6 bx by2 b8 hY
            unfold frmE
            go_wp2
            rw [HY.out]
            refine bodyPost_ret (ret_lab2 rfl _ _ w.heap.size _ rfl bY rfl) rfl ?_
            exact labOut_open e2 A8
          | inr g =>
            replace f6 : FrmIs _ (.agg #[.slice q6 n6 c6]) g := f6
            have HR : r = .inr ⟨f, g⟩ := by rw [HPQ.out]
            subst HR
            obtain ⟨Y, hY, bY, hkY, hBY⟩ := b8.put (.slice q5 n5 c5) (.slice q6 n6 c6)
            have A8 := A7.trans (hBY _ (Nat.le_refl _))
            have g5 := FrmIs.off f5 b8 (fun a h h0 => by have := K5.out a h h0; omega) (hkY _ (by simp))
            have g6 := FrmIs.off f6 b8 (fun a h h0 => by have := K6.out a h h0; omega) (hkY _ (by simp))
            have HY := Lib.hid hY
            have c10 := bx.cell
            have c12 := by2.cell
            clear HPQ HNS f5 f6 bx by2 b8 hY
            unfold frmE
            go_wp2
            rw [HY.out]
            refine bodyPost_ret (ret_lab2 rfl _ _ w.heap.size _ rfl bY rfl) rfl ?_
            exact ⟨q5, n5, c5, q6, n6, c6, rfl, g5, g6, (fun a h h0 => by have := K5.out a h h0; omega), (fun a h h0 => by have := K6.out a h h0; omega), A8⟩

end Go.Proofs.YtkjkfgmoogbdiaaGreatDoor.Lbl

namespace Go.Proofs.YtkjkfgmoogbdiaaGreatDoor.Lbl
open Go.RowKit Go.Shelf Go.Sort Url Org Cls Frm
attribute [local go_sem] Oper.semAt_some
set_option linter.unusedVariables false

/-- A box that holds a label. -/
def LX (b : Nat) (q1 : Option Addr) (n1 c1 : Nat) (q2 : Option Addr) (n2 c2 : Nat) (l : Lab) (X : World) : Prop := LB b #[.slice q1 n1 c1, .slice q2 n2 c2] X ∧ LabIs X (.agg #[.slice q1 n1 c1, .slice q2 n2 c2]) l
theorem LX.on {b : Nat} {q1 : Option Addr} {n1 c1 : Nat} {q2 : Option Addr} {n2 c2 : Nat} {l : Lab} {X Y : World} (h : LX b q1 n1 c1 q2 n2 c2 l X) (hb : Below X.heap.size X Y) : LX b q1 n1 c1 q2 n2 c2 l Y := ⟨h.1.on hb, h.2.below hb⟩
theorem LX.new {q1 : Option Addr} {n1 c1 : Nat} {q2 : Option Addr} {n2 c2 : Nat} {l : Lab} {X : World} (h : LabIs X (.agg #[.slice q1 n1 c1, .slice q2 n2 c2]) l) : LX X.heap.size q1 n1 c1 q2 n2 c2 l (X.alloc (.cells #[.slice q1 n1 c1, .slice q2 n2 c2] 37)) := ⟨LB.new X _, h.below (below_alloc _)⟩
theorem LX.c0 {b : Nat} {q1 : Option Addr} {n1 c1 : Nat} {q2 : Option Addr} {n2 c2 : Nat} {l : Lab} {X : World} (h : LX b q1 n1 c1 q2 n2 c2 l X) : X.cell? ⟨b, 0, none⟩ = some (.slice q1 n1 c1) := h.1.box 0 _ rfl
theorem LX.c1 {b : Nat} {q1 : Option Addr} {n1 c1 : Nat} {q2 : Option Addr} {n2 c2 : Nat} {l : Lab} {X : World} (h : LX b q1 n1 c1 q2 n2 c2 l X) : X.cell? ⟨b, 1, none⟩ = some (.slice q2 n2 c2) := h.1.box 1 _ rfl
theorem lab_form {w : World} {v : Value} {l : Lab} (h : LabIs w v l) : ∃ q1 n1 c1 q2 n2 c2, v = .agg #[.slice q1 n1 c1, .slice q2 n2 c2] := by
  obtain ⟨q1, n1, c1, q2, n2, c2, rfl, _⟩ := h
  exact ⟨q1, n1, c1, q2, n2, c2, rfl⟩
theorem lok_few {l : Lab} (h : LOk l) : Few l := ⟨h.s.few, h.i.few⟩

/-! ### lives -/
def liveL : Lab := ⟨[[liveA]], []⟩
theorem liveL_few : Few liveL := ⟨by decide, by decide⟩
theorem open_few : Few ⟨[], []⟩ := ⟨by decide, by decide⟩
/-! ### Of -/
end Go.Proofs.YtkjkfgmoogbdiaaGreatDoor.Lbl

namespace Go.Proofs.YtkjkfgmoogbdiaaGreatDoor.Prv
open Go.RowKit Go.Shelf Go.Sort Url Org Cls Frm Lbl
attribute [local go_sem] Oper.semAt_some
set_option linter.unusedVariables false

theorem by_less (p : List (List (List UInt8))) (l o : Lab) : flowsBy p l o = (impB o.s (lessF l.s p) && impB l.i (lessF o.i p)) := by
  unfold flowsBy
  rw [less_imp, less_imp]

theorem LB.at2 (w : World) (o : Obj) (cs : Array Value) : LB (w.heap.size + 1) cs ((w.alloc o).alloc (.cells cs 37)) := by
  have := LB.new (w.alloc o) cs
  rw [World.size_alloc] at this
  exact this
theorem LB.at3 (w : World) (o o' : Obj) (cs : Array Value) : LB (w.heap.size + 2) cs (((w.alloc o).alloc o').alloc (.cells cs 37)) := by
  have := LB.new ((w.alloc o).alloc o') cs
  rw [World.size_alloc, World.size_alloc] at this
  exact this

set_option maxRecDepth 100000 in
set_option maxHeartbeats 16000000 in
theorem together_any (v1 v2 v3 : Value) (f p g : List (List (List UInt8))) (w : World) (h1 : FrmIs w v1 f) (h2 : FrmIs w v2 p) (h3 : FrmIs w v3 g) (lf : f.length ≤ 1000) (lp : p.length ≤ 1000) (lg : g.length ≤ 1000) :
    Calls Tryz.prog 60 #[v1, v2, v3] w fun e w' => e = .returned (.bool (impB f (lessF g p))) ∧ Below w.heap.size w w' := by
  obtain ⟨q1, n1, c1, rfl⟩ := frm_form h1
  obtain ⟨q2, n2, c2, rfl⟩ := frm_form h2
  obtain ⟨q3, n3, c3, rfl⟩ := frm_form h3
  obtain ⟨W, hW⟩ : ∃ W, ((w.alloc (.cells #[.slice q1 n1 c1] 35)).alloc (.cells #[.slice q2 n2 c2] 35)).alloc (.cells #[.slice q3 n3 c3] 35) = W := ⟨_, rfl⟩
  have A0 : Below w.heap.size w W := hW ▸ (((Below.refl _ w).alloc (Nat.le_refl _) _).alloc (by simp) _).alloc (by simp; omega) _
  have b0 : Boxed W w.heap.size 35 (.slice q1 n1 c1) := hW ▸ ((Boxed.new w _ _).alloc _).alloc _
  have b1 : Boxed W (w.heap.size + 1) 35 (.slice q2 n2 c2) := by
    have := (Boxed.new (w.alloc (.cells #[.slice q1 n1 c1] 35)) 35 (.slice q2 n2 c2)).alloc (.cells #[.slice q3 n3 c3] 35)
    rw [World.size_alloc] at this
    exact hW ▸ this
  have b2 : Boxed W (w.heap.size + 2) 35 (.slice q3 n3 c3) := by
    have := Boxed.new ((w.alloc (.cells #[.slice q1 n1 c1] 35)).alloc (.cells #[.slice q2 n2 c2] 35)) 35 (.slice q3 n3 c3)
    rw [World.size_alloc, World.size_alloc] at this
    exact hW ▸ this
  have HW := Lib.hid hW
  clear hW
  obtain ⟨W2, hW2⟩ : ∃ Z, W.drew = Z := ⟨_, rfl⟩
  have hd : Below W.heap.size W W2 := hW2 ▸ ⟨rfl, rfl, rfl, Nat.le_refl _, fun _ _ => rfl⟩
  have A := A0.trans (hd.mono A0.size)
  replace b0 := (Keep.of_below hd).boxed b0 b0.lt
  replace b1 := (Keep.of_below hd).boxed b1 b1.lt
  replace b2 := (Keep.of_below hd).boxed b2 b2.lt
  have HW2 := Lib.hid hW2
  clear hW2 hd A0
  have HL := Lib.hid (fun X (hb : Below w.heap.size w X) => Less_any _ _ g p X (h3.below hb) (h2.below hb) (by omega) (by omega))
  have HI := Lib.hid (fun X v (hb : Below w.heap.size w X) (hv : FrmIs X v (lessF g p)) => Frm.Implies_any _ _ f (lessF g p) X (h1.below hb) hv (by omega) (by have := less_few g p; omega))
  clear h1 h2 h3 lf lp lg
  generalize impB f (lessF g p) = R at *
  generalize lessF g p = f1 at *
  have x0 := b0.cell
  have x1 := b1.cell
  have x2 := b2.cell
  go_enter Tryz.func60, Tryz.ntmps60
  go_wp2_with fail
  rw [HW.out]
  refine pregion_any (fun X => X.cell? ⟨w.heap.size, 0, none⟩ = some (.slice q1 n1 c1) ∧ X.cell? ⟨w.heap.size + 1, 0, none⟩ = some (.slice q2 n2 c2) ∧ X.cell? ⟨w.heap.size + 2, 0, none⟩ = some (.slice q3 n3 c3)) (by kernel_rfl) ?_
  rw [HW2.out]
  refine wpAnyH_take (i := 0) (v := (.agg #[.slice q1 n1 c1])) rfl (by kernel_rfl) (by kernel_rfl) (by kernel_rfl) (fun _ _ _ h => h) (.inl ⟨by kernel_rfl, ?_⟩) ⟨x0, x1, x2⟩ ?_
  · rintro w ⟨h1, h2, h3⟩; go_simp <;> omega
  refine plist #[true, false, false, false, false, false] (by kernel_rfl) ?_
  refine wpAnyH_take (i := 1) (v := (.agg #[.slice q3 n3 c3])) rfl (by kernel_rfl) (by kernel_rfl) (by kernel_rfl) (fun _ _ _ h => h) (.inl ⟨by kernel_rfl, ?_⟩) ⟨x0, x1, x2⟩ ?_
  · rintro w ⟨h1, h2, h3⟩; go_simp <;> omega
  refine plist #[true, true, false, false, false, false] (by kernel_rfl) ?_
  refine wpAnyH_take (i := 2) (v := (.agg #[.slice q2 n2 c2])) rfl (by kernel_rfl) (by kernel_rfl) (by kernel_rfl) (fun _ _ _ h => h) (.inl ⟨by kernel_rfl, ?_⟩) ⟨x0, x1, x2⟩ ?_
  · rintro w ⟨h1, h2, h3⟩; go_simp <;> omega
  refine plist #[true, true, true, false, false, false] (by kernel_rfl) ?_
  have con := HL.out _ A
  refine pone 3 (by kernel_rfl) rfl fun K hK => ?_
  go_simp
  refine con.mono ?_
  rintro e w3 ⟨q5, n5, c5, rfl, F1, _, hb⟩
  have A2 := A.trans (hb.mono A.size)
  clear A
  have A := A2
  clear A2
  replace b0 := (Keep.of_below hb).boxed b0 b0.lt
  replace b1 := (Keep.of_below hb).boxed b1 b1.lt
  replace b2 := (Keep.of_below hb).boxed b2 b2.lt
  replace x0 := b0.cell
  replace x1 := b1.cell
  replace x2 := b2.cell
  clear con hb HL
  refine hK _ _ ⟨x0, x1, x2⟩ ?_
  clear hK K
  refine plist #[true, true, true, true, false, false] (by kernel_rfl) ?_
  have con := HI.out _ _ A F1
  refine pone 4 (by kernel_rfl) rfl fun K hK => ?_
  go_simp
  refine con.mono ?_
  rintro e w4 ⟨rfl, hb⟩
  have A2 := A.trans (hb.mono A.size)
  clear A
  have A := A2
  clear A2
  replace b0 := (Keep.of_below hb).boxed b0 b0.lt
  replace b1 := (Keep.of_below hb).boxed b1 b1.lt
  replace b2 := (Keep.of_below hb).boxed b2 b2.lt
  replace x0 := b0.cell
  replace x1 := b1.cell
  replace x2 := b2.cell
  clear con hb HI F1
  refine hK _ _ ⟨x0, x1, x2⟩ ?_
  clear hK K
  refine plist #[true, true, true, true, true, false] (by kernel_rfl) ?_
  refine pone 5 (by kernel_rfl) rfl fun K hK => ?_
  go_simp
  refine hK _ _ ⟨x0, x1, x2⟩ ?_
  clear hK K
  refine pdone (by kernel_rfl) ?_ _
  go_wp2
  go_ret
  exact ⟨rfl, A⟩

set_option maxRecDepth 100000 in
set_option maxHeartbeats 16000000 in
theorem Flows_any (vp v1 v2 : Value) (p : List (List (List UInt8))) (l o : Lab) (w : World) (hp : FrmIs w vp p) (h1 : LabIs w v1 l) (h2 : LabIs w v2 o) (fp : p.length ≤ 16) (fl : Few l) (fo : Few o) :
    Calls Tryz.prog 38 #[vp, v1, v2] w fun e w' => e = .returned (.bool (flowsBy p l o)) ∧ Below w.heap.size w w' := by
  obtain ⟨qp, np, cp, rfl⟩ := frm_form hp
  obtain ⟨q1, n1, c1, q2, n2, c2, rfl, s1, i1⟩ := h1
  obtain ⟨q3, n3, c3, q4, n4, c4, rfl, s2, i2⟩ := h2
  obtain ⟨W, hW⟩ : ∃ W, ((w.alloc (.cells #[.slice qp np cp] 35)).alloc (.cells #[.slice q1 n1 c1, .slice q2 n2 c2] 37)).alloc (.cells #[.slice q3 n3 c3, .slice q4 n4 c4] 37) = W := ⟨_, rfl⟩
  have A0 : Below w.heap.size w W := hW ▸ (((Below.refl _ w).alloc (Nat.le_refl _) _).alloc (by simp) _).alloc (by simp; omega) _
  have bP : Boxed W w.heap.size 35 (.slice qp np cp) := hW ▸ ((Boxed.new w _ _).alloc _).alloc _
  have b0 : LB (w.heap.size + 1) #[.slice q1 n1 c1, .slice q2 n2 c2] W := hW ▸ (LB.at2 w _ _).on (below_alloc _)
  have b1 : LB (w.heap.size + 2) #[.slice q3 n3 c3, .slice q4 n4 c4] W := hW ▸ LB.at3 w _ _ _
  have HW := Lib.hid hW
  clear hW
  have HT1 := Lib.hid (fun X (hb : Below w.heap.size w X) => together_any _ _ _ o.s p l.s X (s2.below hb) (hp.below hb) (s1.below hb) (by have := fo.1; omega) (by omega) (by have := fl.1; omega))
  have HT2 := Lib.hid (fun X (hb : Below w.heap.size w X) => together_any _ _ _ l.i p o.i X (i1.below hb) (hp.below hb) (i2.below hb) (by have := fl.2; omega) (by omega) (by have := fo.2; omega))
  have HF := Lib.hid (by_less p l o)
  generalize flowsBy p l o = FB at *
  obtain ⟨P1, hP1⟩ : ∃ b, impB o.s (lessF l.s p) = b := ⟨_, rfl⟩
  obtain ⟨P2, hP2⟩ : ∃ b, impB l.i (lessF o.i p) = b := ⟨_, rfl⟩
  rw [hP1] at HT1 HF
  rw [hP2] at HT2 HF
  clear hP1 hP2 s1 i1 s2 i2 fl fo hp fp
  have xP := bP.cell
  have x0 := b0.box 0 _ rfl
  have x1 := b0.box 1 _ rfl
  have y0 := b1.box 0 _ rfl
  have y1 := b1.box 1 _ rfl
  have con := HT1.out _ A0
  go_enter Tryz.func38, Tryz.ntmps38
  go_wp2_with fail
  rw [HW.out]
  refine con.mono ?_
  rintro e w2 ⟨rfl, hb⟩
  have A := A0.trans (hb.mono A0.size)
  replace bP := (Keep.of_below hb).boxed bP bP.lt
  replace b0 := b0.on hb
  replace b1 := b1.on hb
  replace xP := bP.cell
  replace x0 := b0.box 0 _ rfl
  replace x1 := b0.box 1 _ rfl
  replace y0 := b1.box 0 _ rfl
  replace y1 := b1.box 1 _ rfl
  clear con hb A0 HW HT1
  cases P1 with
  | false =>
    clear HT2
    go_wp2
    go_ret
    exact ⟨by rw [HF.out]; rfl, A⟩
  | true =>
    have con := HT2.out _ A
    go_wp2_with fail
    refine con.mono ?_
    rintro e w3 ⟨rfl, hb⟩
    have A3 := A.trans (hb.mono A.size)
    clear con hb x0 x1 y0 y1 xP b0 b1 bP A HT2
    go_wp2
    go_ret
    exact ⟨by rw [HF.out]; simp, A3⟩

end Go.Proofs.YtkjkfgmoogbdiaaGreatDoor.Prv

namespace Go.Proofs.YtkjkfgmoogbdiaaGreatDoor.Lbl
open Go.RowKit Go.Shelf Go.Sort Url Org Cls Frm
attribute [local go_sem] Oper.semAt_some
set_option linter.unusedVariables false

/-- Block B holds the cells of a label of the document's. -/
def RB (B : Nat) (cs : Array Value) (X : World) : Prop := X.heap[B]? = some (.cells cs 50 (0, 0))
end Go.Proofs.YtkjkfgmoogbdiaaGreatDoor.Lbl

namespace Go.Proofs.YtkjkfgmoogbdiaaGreatDoor.Prv
open Go.RowKit Go.Shelf Go.Sort Url Org Cls Frm Lbl
attribute [local go_sem] Oper.semAt_some
set_option linter.unusedVariables false

/-- A box that holds a formula. -/
def FX (b : Nat) (q : Option Addr) (n c : Nat) (f : List (List (List UInt8))) (X : World) : Prop := Boxed X b 35 (.slice q n c) ∧ FrmIs X (.agg #[.slice q n c]) f
theorem FX.on {b : Nat} {q : Option Addr} {n c : Nat} {f : List (List (List UInt8))} {X Y : World} (h : FX b q n c f X) (hb : Below X.heap.size X Y) : FX b q n c f Y := ⟨(Keep.of_below hb).boxed h.1 h.1.lt, h.2.below hb⟩
theorem FX.new {q : Option Addr} {n c : Nat} {f : List (List (List UInt8))} {X : World} (h : FrmIs X (.agg #[.slice q n c]) f) : FX X.heap.size q n c f (X.alloc (.cells #[.slice q n c] 35)) := ⟨Boxed.new X _ _, h.below (below_alloc _)⟩
theorem FX.c0 {b : Nat} {q : Option Addr} {n c : Nat} {f : List (List (List UInt8))} {X : World} (h : FX b q n c f X) : X.cell? ⟨b, 0, none⟩ = some (.slice q n c) := h.1.cell
theorem single_of (p : List UInt8) (hp : prinB p = true) (h1 : sortR [p] = [p]) (h2 : redL [[p]] = [[p]]) : singleR p = .inr [[p]] := by
  have hc : ofC [p] = .inr [p] := by
    unfold ofC
    rw [if_pos (by simp [hp]), h1, if_pos (by simp)]
  unfold singleR
  rw [hc]
  show ofF _ = _
  unfold ofF
  rw [h2, if_pos (by simp)]
theorem single_a : singleR liveA = .inr [[liveA]] := single_of liveA live_a (by decide +kernel) (by decide +kernel)
end Go.Proofs.YtkjkfgmoogbdiaaGreatDoor.Prv

namespace Go.Proofs.YtkjkfgmoogbdiaaGreatDoor.Prv
open Go.RowKit Go.Shelf Go.Sort Url Org Cls Frm Lbl
set_option linter.unusedVariables false

theorem frm_ok (t : List UInt8) : FOk (frmV (parseF t)) := by
  cases h : parseF t with
  | inl e => exact always_ok
  | inr f => exact parseF_ok t f h
theorem always_obj (w : World) : Calls Tryz.prog 26 #[] w fun e w' => ∃ v, e = .returned v ∧ FrmIs w' v [] ∧ Below w.heap.size w w' :=
  (Always_any w).mono fun e w' h => ⟨_, h.1, frm_nil _, h.2⟩
theorem never_obj (w : World) : Calls Tryz.prog 28 #[] w fun e w' => ∃ v, e = .returned v ∧ FrmIs w' v [[]] ∧ Below w.heap.size w w' :=
  (Never_any w).mono fun e w' ⟨q, n, c, h1, h2, h3⟩ => ⟨_, h1, h2, h3⟩
/-! ### set by set -/
end Go.Proofs.YtkjkfgmoogbdiaaGreatDoor.Prv

namespace Go.Proofs.YtkjkfgmoogbdiaaGreatDoor.Blb
open Go.RowKit Go.Shelf Go.Sort Url Org Cls Frm Lbl Arn Brn
set_option linter.unusedVariables false

/-- A blob: a label and bytes. -/
structure Bl where
  l : Lab
  d : List UInt8
/-- No cell of the blocks outside is a text or a byte. -/
def Mute (S : Nat → Prop) (w : World) : Prop := ∀ b i u, ¬ S b → w.cell? ⟨b, i, none⟩ = some u → Mt u
theorem slIn_in {S : Nat → Prop} {w : World} {q : Option Addr} {n : Nat} {xs : List (List UInt8)} (h : SlIn encStr w q n xs) (hm : Mute S w) : ∀ a, q = some a → 0 < n → S a.block := by
  rintro a rfl hn
  refine Classical.byContradiction fun hS => ?_
  obtain ⟨b, o, he, _, hc⟩ := h.at hn
  cases he
  cases xs with
  | nil => have := h.1; simp at this; omega
  | cons x xs => exact (hm b _ _ hS (hc 0 x rfl)).1 _ rfl
theorem frm_from {S : Nat → Prop} {w Y : World} {q : Option Addr} {n c : Nat} {f : List (List (List UInt8))} (h : FrmIs w (.agg #[.slice q n c]) f) (hk : Keep S w Y) (hm : Mute S w) (hq : ∀ a, q = some a → 0 < n → S a.block) : FrmIs Y (.agg #[.slice q n c]) f := by
  obtain ⟨h1, h2, zs, s, z, rfl⟩ := h.row
  exact ⟨q, n, c, rfl, h1, h2, zs, s.keep hk hq, fun x hx => (z x hx).from hk fun a ha h0 => by
    obtain ⟨_, _, _, he, _, _, hs, _⟩ := (z x hx).set
    cases he
    exact slIn_in hs hm a ha h0, rfl⟩
theorem by_from {S : Nat → Prop} {w Y : World} {v : Value} {l : List UInt8} (h : By w v l) (hk : Keep S w Y) (hm : Mute S w) : By Y v l := by
  obtain ⟨q, c, rfl, h2, h3, h4, h5⟩ := h
  refine ⟨q, c, rfl, h2, h3, h4, bytes_keep h5 hk fun a ha h0 => Classical.byContradiction fun hS => ?_⟩
  subst ha
  obtain ⟨b, o, he, hc⟩ := h5.at h0
  cases he
  exact (hm b _ _ hS (hc 0 h0)).2 _ rfl
/-- Both rows of a label lie within. -/
def In2 (S : Nat → Prop) (q1 : Option Addr) (n1 : Nat) (q2 : Option Addr) (n2 : Nat) : Prop := (∀ a, q1 = some a → 0 < n1 → S a.block) ∧ ∀ a, q2 = some a → 0 < n2 → S a.block
theorem lab_from {S : Nat → Prop} {w Y : World} {q1 : Option Addr} {n1 c1 : Nat} {q2 : Option Addr} {n2 c2 : Nat} {l : Lab} (h : LabIs w (.agg #[.slice q1 n1 c1, .slice q2 n2 c2]) l) (hk : Keep S w Y) (hm : Mute S w) (ho : In2 S q1 n1 q2 n2) : LabIs Y (.agg #[.slice q1 n1 c1, .slice q2 n2 c2]) l := by
  obtain ⟨_, _, _, _, _, _, he, h1, h2⟩ := h
  cases he
  exact ⟨_, _, _, _, _, _, rfl, frm_from h1 hk hm ho.1, frm_from h2 hk hm ho.2⟩
theorem lab_lt {w : World} {q1 : Option Addr} {n1 c1 : Nat} {q2 : Option Addr} {n2 c2 : Nat} {l : Lab} (h : LabIs w (.agg #[.slice q1 n1 c1, .slice q2 n2 c2]) l) : In2 (· < w.heap.size) q1 n1 q2 n2 := by
  obtain ⟨_, _, _, _, _, _, he, h1, h2⟩ := h
  cases he
  exact ⟨Lbl.FrmIs.lt h1, Lbl.FrmIs.lt h2⟩
theorem In2.mono {S T : Nat → Prop} {q1 : Option Addr} {n1 : Nat} {q2 : Option Addr} {n2 : Nat} (h : In2 S q1 n1 q2 n2) (k : ∀ b, S b → T b) : In2 T q1 n1 q2 n2 := ⟨fun a ha h0 => k _ (h.1 a ha h0), fun a ha h0 => k _ (h.2 a ha h0)⟩

/-- The thing reads as the blob. -/
def BIs (w : World) (x : Bx) (b : Bl) : Prop := LabIs w (.agg #[.slice x.q0 x.n0 x.c0, .slice x.q1 x.n1 x.c1]) b.l ∧ By w (.slice x.q2 x.n2 x.c2) b.d
theorem BIs.below {w w' : World} {x : Bx} {b : Bl} (h : BIs w x b) (hb : Below w.heap.size w w') : BIs w' x b := ⟨h.1.below hb, h.2.on hb⟩
def Ofs (S : Nat → Prop) (x : Bx) : Prop := In2 S x.q0 x.n0 x.q1 x.n1
theorem BIs.from {S : Nat → Prop} {w Y : World} {x : Bx} {b : Bl} (h : BIs w x b) (hk : Keep S w Y) (hm : Mute S w) (ho : Ofs S x) : BIs Y x b := ⟨lab_from h.1 hk hm ho, by_from h.2 hk hm⟩

/-- What an arena's block and row aren't. -/
def Els (b : Nat) (v : Value) (k : Nat) : Prop := k ≠ b ∧ v.ownBlock ≠ some k
theorem at_mute {base b size : Nat} {v : Value} {sl : List (Sl Bx)} {w : World} (h : Brn.At base b size v sl w) : Mute (Els b v) w := by
  intro k i u hk hu
  by_cases e : k = b
  · subst e
    have hb := h.bl
    unfold BL at hb
    unfold World.cell? at hu
    simp only [hb] at hu
    rcases (show i = 0 ∨ i = 1 ∨ 2 ≤ i by omega) with rfl | rfl | hi
    · simp at hu
      subst hu
      exact ⟨fun x h => (by cases h), fun n h => (by cases h)⟩
    · simp at hu
      subst hu
      obtain ⟨q, cap, rfl, -⟩ := h.sl
      exact ⟨fun x h => (by cases h), fun n h => (by cases h)⟩
    · simp at hu
      rw [List.getElem?_eq_none (by simp; omega)] at hu
      cases hu
  · refine h.all k (Classical.byContradiction fun h2 => hk ⟨e, h2⟩) i u hu
/-- Slot by slot the things read as the blobs; their labels' rows lie elsewhere. -/
structure Rds (S : Nat → Prop) (sl : List (Sl Bx)) (bl : List (Sl Bl)) (w : World) : Prop where
  len : sl.length = bl.length
  num : ∀ (i : Nat) (s : Sl Bx) (t : Sl Bl), sl[i]? = some s → bl[i]? = some t → s.n = t.n ∧ s.x.isSome = t.x.isSome
  rd : ∀ (i : Nat) (s : Sl Bx) (t : Sl Bl) (x : Bx) (y : Bl), sl[i]? = some s → bl[i]? = some t → s.x = some x → t.x = some y → BIs w x y ∧ Ofs S x
theorem Rds.at {S : Nat → Prop} {sl : List (Sl Bx)} {bl : List (Sl Bl)} {w : World} (h : Rds S sl bl w) {i : Nat} {s : Sl Bx} (hs : sl[i]? = some s) : ∃ t, bl[i]? = some t ∧ s.n = t.n ∧ s.x.isSome = t.x.isSome := by
  have hl := (List.getElem?_eq_some_iff.1 hs).1
  exact ⟨_, List.getElem?_eq_getElem (by rw [← h.len]; exact hl), h.num i _ _ hs (List.getElem?_eq_getElem (by rw [← h.len]; exact hl))⟩
theorem rds_nil (S : Nat → Prop) (w : World) : Rds S [] [] w := ⟨rfl, fun i s t h => by simp at h, fun i s t x y h => by simp at h⟩
theorem Rds.below {S : Nat → Prop} {sl : List (Sl Bx)} {bl : List (Sl Bl)} {w w' : World} (h : Rds S sl bl w) (hb : Below w.heap.size w w') : Rds S sl bl w' := ⟨h.len, h.num, fun i s t x y h1 h2 h3 h4 => ⟨(h.rd i s t x y h1 h2 h3 h4).1.below hb, (h.rd i s t x y h1 h2 h3 h4).2⟩⟩
/-- Where the arena's block and row alone are written. -/
theorem Rds.from {b : Nat} {v v' : Value} {sl : List (Sl Bx)} {bl : List (Sl Bl)} {w Y : World} (h : Rds (Els b v) sl bl w) (hk : Wrote b v v' w Y) (hm : Mute (Els b v) w) : Rds (Els b v') sl bl Y := ⟨h.len, h.num, fun i s t x y h1 h2 h3 h4 => by
  obtain ⟨r1, r2⟩ := h.rd i s t x y h1 h2 h3 h4
  refine ⟨r1.from hk.1 hm r2, ?_⟩
  have key : ∀ a : Addr, a.block < w.heap.size → Els b v a.block → Els b v' a.block := fun a hl he => ⟨he.1, fun e => by
    rcases hk.2 _ e with e | e
    · exact he.2 e
    · omega⟩
  have hl := lab_lt r1.1
  exact ⟨fun a ha h0 => key a (hl.1 a ha h0) (r2.1 a ha h0), fun a ha h0 => key a (hl.2 a ha h0) (r2.2 a ha h0)⟩⟩
theorem Rds.fr {S : Nat → Prop} {w : World} : ∀ {sl : List (Sl Bx)} {bl : List (Sl Bl)}, Rds S sl bl w → freeF sl = freeF bl
  | [], [], _ => rfl
  | [], t :: r, h => by have := h.len; simp at this
  | s :: r, [], h => by have := h.len; simp at this
  | s :: r, t :: q, h => by
    have h0 := h.num 0 s t rfl rfl
    have ih := Rds.fr (sl := r) (bl := q) (S := S) (w := w) ⟨by simpa using h.len, fun i s t h1 h2 => h.num (i + 1) s t (by simpa using h1) (by simpa using h2), fun i s t x y h1 h2 => h.rd (i + 1) s t x y (by simpa using h1) (by simpa using h2)⟩
    unfold freeF
    rw [ih]
    have : s.x.isNone = t.x.isNone := by cases hs : s.x <;> cases ht : t.x <;> simp_all
    rw [this]
theorem Rds.find {S : Nat → Prop} {w : World} {sl : List (Sl Bx)} {bl : List (Sl Bl)} (h : Rds S sl bl w) (hd : Int) : findS sl hd = findS bl hd := by
  unfold findS
  split
  · rfl
  · cases hs : sl[(hd % 1024).toNat]? with
    | none =>
      have : bl[(hd % 1024).toNat]? = none := by rw [List.getElem?_eq_none_iff] at hs ⊢; rw [← h.len]; exact hs
      rw [this]
    | some s =>
      obtain ⟨t, ht, h1, h2⟩ := h.at hs
      rw [ht]
      simp only [h1, h2]
theorem Rds.hd {S : Nat → Prop} {w : World} {sl : List (Sl Bx)} {bl : List (Sl Bl)} (h : Rds S sl bl w) (size : Nat) : Brn.putHd size sl = Brn.putHd size bl ∧ Brn.putE size sl = Brn.putE size bl := by
  unfold Brn.putHd Brn.putE
  rw [← h.fr, h.len]
  cases hf : freeF sl with
  | none => exact ⟨rfl, rfl⟩
  | some i =>
    obtain ⟨s, hs, -⟩ := free_lt sl i hf
    obtain ⟨t, ht, h1, -⟩ := h.at hs
    simp only [hs, ht, h1, and_self]
theorem Rds.set {S : Nat → Prop} {w : World} {sl : List (Sl Bx)} {bl : List (Sl Bl)} (h : Rds S sl bl w) (i n : Nat) (x : Bx) (y : Bl) (hx : BIs w x y) (ho : Ofs S x) : Rds S (sl.set i ⟨n, some x⟩) (bl.set i ⟨n, some y⟩) w := by
  refine ⟨by rw [List.length_set, List.length_set]; exact h.len, fun j s t h1 h2 => ?_, fun j s t x' y' h1 h2 h3 h4 => ?_⟩
  · by_cases e : i = j
    · subst e
      have l1 := (List.getElem?_eq_some_iff.1 h1).1
      have l2 := (List.getElem?_eq_some_iff.1 h2).1
      rw [List.length_set] at l1 l2
      rw [List.getElem?_set_self l1] at h1
      rw [List.getElem?_set_self l2] at h2
      cases h1; cases h2
      exact ⟨rfl, rfl⟩
    · rw [List.getElem?_set_ne e] at h1 h2
      exact h.num j s t h1 h2
  · by_cases e : i = j
    · subst e
      have l1 := (List.getElem?_eq_some_iff.1 h1).1
      have l2 := (List.getElem?_eq_some_iff.1 h2).1
      rw [List.length_set] at l1 l2
      rw [List.getElem?_set_self l1] at h1
      rw [List.getElem?_set_self l2] at h2
      cases h1; cases h2; cases h3; cases h4
      exact ⟨hx, ho⟩
    · rw [List.getElem?_set_ne e] at h1 h2
      exact h.rd j s t x' y' h1 h2 h3 h4
theorem Rds.out {S : Nat → Prop} {w : World} {sl : List (Sl Bx)} {bl : List (Sl Bl)} (h : Rds S sl bl w) (i n : Nat) : Rds S (sl.set i ⟨n, none⟩) (bl.set i ⟨n, none⟩) w := by
  refine ⟨by rw [List.length_set, List.length_set]; exact h.len, fun j s t h1 h2 => ?_, fun j s t x' y' h1 h2 h3 h4 => ?_⟩
  all_goals by_cases e : i = j
  · subst e
    have l1 := (List.getElem?_eq_some_iff.1 h1).1
    have l2 := (List.getElem?_eq_some_iff.1 h2).1
    rw [List.length_set] at l1 l2
    rw [List.getElem?_set_self l1] at h1
    rw [List.getElem?_set_self l2] at h2
    cases h1; cases h2
    exact ⟨rfl, rfl⟩
  · rw [List.getElem?_set_ne e] at h1 h2
    exact h.num j s t h1 h2
  · subst e
    have l1 := (List.getElem?_eq_some_iff.1 h1).1
    rw [List.length_set] at l1
    rw [List.getElem?_set_self l1] at h1
    cases h1; cases h3
  · rw [List.getElem?_set_ne e] at h1 h2
    exact h.rd j s t x' y' h1 h2 h3 h4
theorem Rds.more {S : Nat → Prop} {w : World} {sl : List (Sl Bx)} {bl : List (Sl Bl)} (h : Rds S sl bl w) (n : Nat) (x : Bx) (y : Bl) (hx : BIs w x y) (ho : Ofs S x) : Rds S (sl ++ [⟨n, some x⟩]) (bl ++ [⟨n, some y⟩]) w := by
  have key : ∀ {j : Nat} {s : Sl Bx} {t : Sl Bl}, (sl ++ [(⟨n, some x⟩ : Sl Bx)])[j]? = some s → (bl ++ [(⟨n, some y⟩ : Sl Bl)])[j]? = some t → (sl[j]? = some s ∧ bl[j]? = some t) ∨ (s = ⟨n, some x⟩ ∧ t = ⟨n, some y⟩) := fun {j s t} h1 h2 => by
    rcases Nat.lt_or_ge j sl.length with hj | hj
    · rw [List.getElem?_append_left hj] at h1
      rw [List.getElem?_append_left (by rw [← h.len]; exact hj)] at h2
      exact .inl ⟨h1, h2⟩
    · have hl := (List.getElem?_eq_some_iff.1 h1).1
      rw [List.length_append] at hl
      have : j = sl.length := by simp at hl; omega
      subst this
      rw [List.getElem?_append_right (Nat.le_refl _)] at h1
      rw [h.len, List.getElem?_append_right (Nat.le_refl _)] at h2
      simp at h1 h2
      exact .inr ⟨h1.symm, h2.symm⟩
  refine ⟨by rw [List.length_append, List.length_append, h.len]; rfl, fun j s t h1 h2 => ?_, fun j s t x' y' h1 h2 h3 h4 => ?_⟩
  · rcases key h1 h2 with ⟨k1, k2⟩ | ⟨rfl, rfl⟩
    · exact h.num j s t k1 k2
    · exact ⟨rfl, rfl⟩
  · rcases key h1 h2 with ⟨k1, k2⟩ | ⟨rfl, rfl⟩
    · exact h.rd j s t x' y' k1 k2 h3 h4
    · cases h3; cases h4
      exact ⟨hx, ho⟩
theorem Rds.put {S : Nat → Prop} {w : World} {sl : List (Sl Bx)} {bl : List (Sl Bl)} (h : Rds S sl bl w) (size : Nat) (x : Bx) (y : Bl) (hx : BIs w x y) (ho : Ofs S x) : Rds S (Brn.putL size sl x) (Brn.putL size bl y) w := by
  unfold Brn.putL
  rw [← h.fr, ← h.len]
  cases hf : freeF sl with
  | none =>
    simp only []
    split
    · exact h.more 1 x y hx ho
    · exact h
  | some i =>
    obtain ⟨s, hs, -⟩ := free_lt sl i hf
    obtain ⟨t, ht, h1, -⟩ := h.at hs
    simp only [hs, ht, h1]
    exact h.set i _ x y hx ho
theorem Rds.drop {S : Nat → Prop} {w : World} {sl : List (Sl Bx)} {bl : List (Sl Bl)} (h : Rds S sl bl w) (hd : Int) : Rds S (dropS sl hd) (dropS bl hd) w := by
  unfold dropS
  rw [← h.find hd]
  cases hf : findS sl hd with
  | none => exact h
  | some i =>
    simp only []
    cases hs : sl[i]? with
    | none =>
      have : bl[i]? = none := by rw [List.getElem?_eq_none_iff] at hs ⊢; rw [← h.len]; exact hs
      rw [this]
      exact h
    | some s =>
      obtain ⟨t, ht, h1, -⟩ := h.at hs
      simp only [ht, h1]
      exact h.out i _
theorem Rds.get {S : Nat → Prop} {w : World} {sl : List (Sl Bx)} {bl : List (Sl Bl)} (h : Rds S sl bl w) (hd : Int) : (Brn.getX sl hd = none ∧ Brn.getX bl hd = none) ∨ ∃ x y, Brn.getX sl hd = some x ∧ Brn.getX bl hd = some y ∧ BIs w x y ∧ Ofs S x := by
  unfold Brn.getX
  rw [← h.find hd]
  cases hf : findS sl hd with
  | none => exact .inl ⟨rfl, rfl⟩
  | some i =>
    simp only []
    cases hs : sl[i]? with
    | none =>
      have : bl[i]? = none := by rw [List.getElem?_eq_none_iff] at hs ⊢; rw [← h.len]; exact hs
      rw [this]
      exact .inl ⟨rfl, rfl⟩
    | some s =>
      obtain ⟨t, ht, h1, h2⟩ := h.at hs
      simp only [ht]
      cases hx : s.x with
      | none => rw [hx] at h2; exact .inl ⟨rfl, Option.isSome_eq_false_iff.1 h2.symm |> Option.isNone_iff_eq_none.1⟩
      | some x =>
        rw [hx] at h2
        obtain ⟨y, hy⟩ := Option.isSome_iff_exists.1 h2.symm
        exact .inr ⟨x, y, rfl, hy, h.rd i s t x y hs ht hx hy⟩
theorem Rds.few {S : Nat → Prop} {w : World} {sl : List (Sl Bx)} {bl : List (Sl Bl)} (h : Rds S sl bl w) {K : Nat} (hf : ∀ t ∈ bl, t.n ≤ K) : Brn.Few K sl := fun s hs => by
  obtain ⟨i, hi⟩ := List.getElem?_of_mem hs
  obtain ⟨t, ht, h1, -⟩ := h.at hi
  rw [h1]
  exact hf t (List.mem_of_getElem? ht)
theorem Rds.lenS {S : Nat → Prop} {w : World} : ∀ {sl : List (Sl Bx)} {bl : List (Sl Bl)}, Rds S sl bl w → Arn.lenS sl = Arn.lenS bl
  | [], [], _ => rfl
  | [], t :: r, h => by have := h.len; simp at this
  | s :: r, [], h => by have := h.len; simp at this
  | s :: r, t :: q, h => by
    have h0 := (h.num 0 s t rfl rfl).2
    have ih := Rds.lenS (sl := r) (bl := q) (S := S) (w := w) ⟨by simpa using h.len, fun i s t h1 h2 => h.num (i + 1) s t (by simpa using h1) (by simpa using h2), fun i s t x y h1 h2 => h.rd (i + 1) s t x y (by simpa using h1) (by simpa using h2)⟩
    unfold Arn.lenS at ih ⊢
    rw [List.filter_cons, List.filter_cons, h0]
    split
    · rw [List.length_cons, List.length_cons, ih]
    · exact ih
end Go.Proofs.YtkjkfgmoogbdiaaGreatDoor.Blb

namespace Go.Proofs.YtkjkfgmoogbdiaaGreatDoor.Blb
open Go.RowKit Go.Shelf Go.Sort Url Org Cls Frm Lbl Arn Brn
attribute [local go_sem] Oper.semAt_some
set_option linter.unusedVariables false

/-- A row of one's own that reads as these bytes. -/
def Rw (base : Nat) (v : Value) (d : List UInt8) (w : World) : Prop := w.ownsRow base 5 1 v d.length ((Lib.numsL d).map (Value.int .u8))
theorem Rw.by {base : Nat} {v : Value} {d : List UInt8} {w : World} (h : Rw base v d w) : By w v d := By.row h
theorem Rw.on {base : Nat} {v : Value} {d : List UInt8} {w w' : World} (h : Rw base v d w) (hb : Below w.heap.size w w') : Rw base v d w' := (Keep.of_below hb).row h fun k hk => (World.ownsRow.lt h k hk).2
theorem Rw.keep {base : Nat} {v : Value} {d : List UInt8} {S : Nat → Prop} {w w' : World} (h : Rw base v d w) (hk : Keep S w w') (hs : ∀ k, v.ownBlock = some k → S k) : Rw base v d w' := hk.row h hs
theorem Rw.lower {base base' : Nat} {v : Value} {d : List UInt8} {w : World} (h : Rw base v d w) (hb : base' ≤ base) : Rw base' v d w := row_lower h hb
theorem Rw.ge {base : Nat} {v : Value} {d : List UInt8} {w : World} (h : Rw base v d w) : ∀ k, v.ownBlock = some k → base ≤ k ∧ k < w.heap.size := World.ownsRow.lt h
theorem two_cells (t u : TypeId) (w : World) (cs ds : Array Value) : BL t w.heap.size cs ((w.alloc (.cells cs t)).alloc (.cells ds u)) ∧ BL u (w.heap.size + 1) ds ((w.alloc (.cells cs t)).alloc (.cells ds u)) := by
  have := BL.new u (w.alloc (.cells cs t)) ds
  rw [World.size_alloc] at this
  exact ⟨(BL.new t w cs).on (blk_alloc _), this⟩
theorem blk_two (w : World) (o o' : Obj) : Below w.heap.size w ((w.alloc o).alloc o') := ((Below.refl _ w).alloc (Nat.le_refl _) _).alloc (by simp) _

set_option maxRecDepth 100000 in
set_option maxHeartbeats 4000000 in
theorem apart_any (x : Bx) (d : List UInt8) (w : World) (h : By w (.slice x.q2 x.n2 x.c2) d) (hd : d.length ≤ 140737488355328) :
    Calls Tryz.prog 35 #[.agg #[.slice x.q0 x.n0 x.c0, .slice x.q1 x.n1 x.c1, .slice x.q2 x.n2 x.c2]] w fun e w' => ∃ q n c, e = .returned (.agg #[.slice x.q0 x.n0 x.c0, .slice x.q1 x.n1 x.c1, .slice q n c]) ∧ Rw w.heap.size (.slice q n c) d w' ∧ Below w.heap.size w w' := by
  obtain ⟨W0, hW0⟩ : ∃ W0, (w.alloc (.cells #[.slice x.q0 x.n0 x.c0, .slice x.q1 x.n1 x.c1, .slice x.q2 x.n2 x.c2] 44)).alloc (.cells #[.slice none 0 0, .slice none 0 0, .slice none 0 0] 44) = W0 := ⟨_, rfl⟩
  obtain ⟨b0, b1⟩ := two_cells 44 44 w #[.slice x.q0 x.n0 x.c0, .slice x.q1 x.n1 x.c1, .slice x.q2 x.n2 x.c2] #[.slice none 0 0, .slice none 0 0, .slice none 0 0]
  have hB0 := blk_two w (.cells #[.slice x.q0 x.n0 x.c0, .slice x.q1 x.n1 x.c1, .slice x.q2 x.n2 x.c2] 44) (.cells #[.slice none 0 0, .slice none 0 0, .slice none 0 0] 44)
  rw [hW0] at b0 b1 hB0
  obtain ⟨e1, e2, e3, e4, e5⟩ := (h.on hB0).at
  have con := Go.Proofs.YtkjkfgmoogbdiaaGreatDoor.Clone_any x.q2 x.n2 x.c2 d W0 e1 (by omega) e5
  have HE1 := Lib.hid e1
  have HW0 := Lib.hid hW0
  have c2 := b0.cell 2 _ rfl
  clear hW0 e1 e2 e3 e4 e5 h
  go_enter Tryz.func35, Tryz.ntmps35
  go_wp2_with fail
  rw [HW0.out]
  refine con.mono ?_
  rintro e w2 ⟨v', rfl, hr, hb⟩
  rw [← HE1.out] at hr
  obtain ⟨q, c, rfl⟩ := row_sl hr
  have hs0 := b1.lt
  replace b0 := b0.on hb
  replace b1 := b1.on hb
  obtain ⟨n, hn⟩ : ∃ n, d.length = n := ⟨_, rfl⟩
  have HN := Lib.hid hn
  rw [hn]
  have hr2 : Rw w.heap.size (.slice q n c) d w2 := hn ▸ row_lower hr (by omega)
  have hge : ∀ k, (Value.slice q n c).ownBlock = some k → w.heap.size + 1 < k := fun k hk => Nat.lt_of_lt_of_le hs0 (World.ownsRow.lt hr k (hn ▸ hk)).1
  have k2 := b0.cell 2 _ rfl
  have f2 := b0.frozen 2
  have bY := b0.set 2 (.slice q n c)
  obtain ⟨Y, hY⟩ : ∃ Y, w2.setCell ⟨w.heap.size, 2, none⟩ (.slice q n c) = Y := ⟨_, rfl⟩
  have kY : Keep (fun k => k ≠ w.heap.size) w2 Y := hY ▸ Keep.setCell w2 _ _ (by simp)
  rw [hY] at bY
  replace bY : BL 44 w.heap.size #[.slice x.q0 x.n0 x.c0, .slice x.q1 x.n1 x.c1, .slice q n c] Y := bY
  have rY := hr2.keep kY fun k hk e => by have := hge k hk; omega
  have b1Y := b1.keep kY (by omega)
  have A2 := hB0.trans (hb.mono hB0.size)
  have AY : Below w.heap.size w Y := A2.trans ((kY.mono fun k _ hk => by omega).below A2.size)
  obtain ⟨V, hV, bV, kV, hbV⟩ := put_th b1Y (.slice x.q0 x.n0 x.c0) (.slice x.q1 x.n1 x.c1) (.slice q n c)
  have rV := rY.keep (kV (fun k => k ≠ w.heap.size + 1) (by simp)) fun k hk e => by have := hge k hk; omega
  have AV := AY.trans (hbV _ (by omega))
  have y0 := bY.cell 0 _ rfl
  have y1 := bY.cell 1 _ rfl
  have y2 := bY.cell 2 _ rfl
  have z0 := b1Y.cell 0 _ rfl
  have z1 := b1Y.cell 1 _ rfl
  have z2 := b1Y.cell 2 _ rfl
  have g0 := b1Y.frozen 0
  have g1 := b1Y.frozen 1
  have g2 := b1Y.frozen 2
  have HY := Lib.hid hY
  have HV := Lib.hid hV
  have HR := Lib.hid rV
  have HA := Lib.hid AV
  clear con hr hb b0 b1 hr2 hge bY hY kY rY b1Y A2 AY hV kV hbV rV AV hB0 hs0 HW0 hn c2
  go_upto_region 2 with fail
  rw [HY.out]
  clear k2 f2
  go_wp2
  rw [HV.out]
  refine bodyPost_ret (ret_th rfl _ _ (w.heap.size + 1) _ rfl bV rfl) rfl ?_
  exact ⟨q, n, c, rfl, HR.out, HA.out⟩

/-- A table at block p. -/
structure Tab (base p b : Nat) (v : Value) (sl : List (Sl Bx)) (bl : List (Sl Bl)) (w : World) : Prop where
  tb : BL 88 p #[.pointer (some ⟨b, 0, none⟩)] w
  ar : Brn.At base b 16 v sl w
  rd : Rds (Els b v) sl bl w
  lo : base ≤ p
  few : ∀ t ∈ bl, t.n ≤ 1000000
  sz : ∀ t ∈ bl, ∀ y, t.x = some y → y.d.length ≤ 4096
theorem Tab.on {base p b : Nat} {v : Value} {sl : List (Sl Bx)} {bl : List (Sl Bl)} {w w' : World} (h : Tab base p b v sl bl w) (hb : Below w.heap.size w w') : Tab base p b v sl bl w' := ⟨h.tb.on hb, h.ar.on hb, h.rd.below hb, h.lo, h.few, h.sz⟩
theorem Tab.few40 {base p b : Nat} {v : Value} {sl : List (Sl Bx)} {bl : List (Sl Bl)} {w : World} (h : Tab base p b v sl bl w) : Brn.Few 1099511627776 sl := fun s hs => Nat.le_trans (h.rd.few h.few s hs) (by decide)
theorem Tab.c0 {base p b : Nat} {v : Value} {sl : List (Sl Bx)} {bl : List (Sl Bl)} {w : World} (h : Tab base p b v sl bl w) : w.cell? ⟨p, 0, none⟩ = some (.pointer (some ⟨b, 0, none⟩)) := h.tb.cell 0 _ rfl
theorem Tab.ne {base p b : Nat} {v : Value} {sl : List (Sl Bx)} {bl : List (Sl Bl)} {w : World} (h : Tab base p b v sl bl w) : Els b v p :=
  ⟨BL.ne h.tb h.ar.bl (show (88 : TypeId) ≠ 117 by decide), fun e => BL.ne_row h.tb (show (88 : TypeId) ≠ 121 by decide) h.ar.row e⟩
/-- A block of another type is not written. -/
theorem Tab.oth {base p b : Nat} {v : Value} {sl : List (Sl Bx)} {bl : List (Sl Bl)} {w : World} (h : Tab base p b v sl bl w) {t : TypeId} {B : Nat} {cs : Array Value} (hB : BL t B cs w) (h1 : t ≠ 117) (h2 : t ≠ 121) : Els b v B :=
  ⟨BL.ne hB h.ar.bl h1, fun e => BL.ne_row hB h2 h.ar.row e⟩
theorem wrote_id {b : Nat} {v : Value} {w w' : World} (h : Below w.heap.size w w') : Wrote b v v w w' := ⟨(Keep.of_below h).mono fun k hk _ => hk, fun k hk => .inl hk⟩
theorem New_any (base : Nat) (w : World) (hb : base ≤ w.heap.size) : Calls Tryz.prog 8 #[] w fun e w' => ∃ p b, e = .returned (.pointer (some ⟨p, 0, none⟩)) ∧ Tab base p b (.slice none 0 0) [] [] w' ∧ w.heap.size ≤ p ∧ w.heap.size ≤ b ∧ Below w.heap.size w w' := by
  have con := New_good 16 w ⟨by decide, by decide⟩
  obtain ⟨W1, hW1⟩ : ∃ W1, w.alloc (.cells #[.int .i64 16, .slice none 0 0] 117) = W1 := ⟨_, rfl⟩
  have a1 := At.new base 16 w hb (by decide) (by decide)
  have hb1 := blk_alloc (w := w) (.cells #[.int .i64 16, .slice none 0 0] 117)
  replace a1 : Brn.At base w.heap.size 16 (.slice none 0 0) [] (w.alloc (.cells #[.int .i64 16, .slice none 0 0] 117)) := a1
  rw [hW1] at a1 hb1 con
  have t1 := BL.new 88 W1 #[.pointer (some ⟨w.heap.size, 0, none⟩)]
  have a2 := a1.on (blk_alloc (.cells #[.pointer (some ⟨w.heap.size, 0, none⟩)] 88))
  have hs := hb1.size
  have HE := Lib.hid (show Tab base W1.heap.size w.heap.size (.slice none 0 0) [] [] (W1.alloc (.cells #[.pointer (some ⟨w.heap.size, 0, none⟩)] 88)) from ⟨t1, a2, rds_nil _ _, by omega, fun t ht => (by cases ht), fun t ht => (by cases ht)⟩)
  have HB := Lib.hid (hb1.trans ((blk_alloc (w := W1) (.cells #[.pointer (some ⟨w.heap.size, 0, none⟩)] 88)).mono hs))
  clear hW1 a1 hb1 t1 a2
  go_enter Tryz.func8, Tryz.ntmps8
  go_wp2_with fail
  refine con.mono ?_
  rintro e w' ⟨rfl, rfl⟩
  clear con
  go_wp2
  go_ret
  exact ⟨_, _, rfl, HE.out, hs, Nat.le_refl _, HB.out⟩
theorem all_tab (base p b : Nat) (v : Value) (sl : List (Sl Bx)) (bl : List (Sl Bl)) (w : World) (h : Tab base p b v sl bl w) : Calls Tryz.prog 42 #[.pointer (some ⟨p, 0, none⟩)] w fun e w' => e = .returned (.pointer (some ⟨b, 0, none⟩)) ∧ w = w' := by
  have c0 := h.c0
  clear h
  go_enter Tryz.func42, Tryz.ntmps42
  go_wp2
  go_ret
  exact ⟨rfl, rfl⟩
theorem TLen_any (base p b : Nat) (v : Value) (sl : List (Sl Bx)) (bl : List (Sl Bl)) (w : World) (h : Tab base p b v sl bl w) : Calls Tryz.prog 24 #[.pointer (some ⟨p, 0, none⟩)] w fun e w' => e = .returned (.int .i64 (lenS bl)) ∧ Below w.heap.size w w' := by
  have con := all_tab base p b v sl bl w h
  have con2 := Brn.Len_any base b 16 v sl w h.ar h.few40
  rw [h.rd.lenS] at con2
  clear h
  go_enter Tryz.func24, Tryz.ntmps24
  go_wp2_with fail
  refine con.mono ?_
  rintro e w' ⟨rfl, rfl⟩
  clear con
  go_wp2_with fail
  refine con2.mono ?_
  rintro e w2 ⟨rfl, hb⟩
  clear con2
  go_wp2
  go_ret
  exact ⟨rfl, hb⟩
theorem drop_few {bl : List (Sl Bl)} {hd : Int} {K : Nat} (h : ∀ t ∈ bl, t.n ≤ K) : ∀ t ∈ dropS bl hd, t.n ≤ K := by
  intro t ht
  unfold dropS at ht
  cases hf : findS bl hd with
  | none => simp only [hf] at ht; exact h t ht
  | some i =>
    cases hs : bl[i]? with
    | none => simp only [hf, hs] at ht; exact h t ht
    | some s =>
      simp only [hf, hs] at ht
      rcases List.mem_or_eq_of_mem_set ht with h' | rfl
      · exact h t h'
      · exact h s (List.mem_of_getElem? hs)
theorem drop_sz {bl : List (Sl Bl)} {hd : Int} (h : ∀ t ∈ bl, ∀ y, t.x = some y → y.d.length ≤ 4096) : ∀ t ∈ dropS bl hd, ∀ y, t.x = some y → y.d.length ≤ 4096 := by
  intro t ht y hy
  unfold dropS at ht
  cases hf : findS bl hd with
  | none => simp only [hf] at ht; exact h t ht y hy
  | some i =>
    cases hs : bl[i]? with
    | none => simp only [hf, hs] at ht; exact h t ht y hy
    | some s =>
      simp only [hf, hs] at ht
      rcases List.mem_or_eq_of_mem_set ht with h' | rfl
      · exact h t h' y hy
      · cases hy
/-- What Drop leaves. -/
def DropOut (base p b : Nat) (v : Value) (bl : List (Sl Bl)) (hd : Int) (w : World) (e : Ending) (w' : World) : Prop :=
  e = .returned (.bool (findS bl hd).isSome) ∧ ∃ v' sl', Tab base p b v' sl' (dropS bl hd) w' ∧ Wrote b v v' w w'
theorem TDrop_any (base p b : Nat) (v : Value) (sl : List (Sl Bx)) (bl : List (Sl Bl)) (hd : Int) (w : World) (h : Tab base p b v sl bl w) (hh : -9223372036854775808 ≤ hd ∧ hd ≤ 9223372036854775807) :
    Calls Tryz.prog 21 #[.pointer (some ⟨p, 0, none⟩), .int .i64 hd] w (DropOut base p b v bl hd w) := by
  have con := all_tab base p b v sl bl w h
  have con2 := Brn.Drop_any base b 16 v sl hd w h.ar h.few40 hh
  rw [h.rd.find hd] at con2
  have H := Lib.hid h
  clear h hh
  go_enter Tryz.func21, Tryz.ntmps21
  go_wp2_with fail
  refine con.mono ?_
  rintro e w' ⟨rfl, rfl⟩
  clear con
  go_wp2_with fail
  refine con2.mono ?_
  rintro e w2 ⟨rfl, v', ha, hw⟩
  clear con2
  have HE := Lib.hid (show ∃ v' sl', Tab base p b v' sl' (dropS bl hd) w2 ∧ Wrote b v v' w w2 from ⟨v', _, ⟨H.out.tb.keep hw.1 H.out.ne, ha, (H.out.rd.from hw (at_mute H.out.ar)).drop hd, H.out.lo, drop_few H.out.few, drop_sz H.out.sz⟩, hw⟩)
  clear ha hw
  go_wp2
  go_ret
  exact ⟨rfl, HE.out⟩
/-! ### Take -/
def noB : Bl := ⟨⟨[], []⟩, []⟩
/-- What Take leaves. -/
def TakeOut (y : Option Bl) (w : World) (e : Ending) (w' : World) : Prop := ∃ q0 n0 c0 q1 n1 c1 q n c, e = .returned (.tuple #[.agg #[.slice q0 n0 c0, .slice q1 n1 c1, .slice q n c], .bool y.isSome]) ∧ LabIs w' (.agg #[.slice q0 n0 c0, .slice q1 n1 c1]) (y.getD noB).l ∧
  Rw w.heap.size (.slice q n c) (y.getD noB).d w' ∧ Below w.heap.size w w'
set_option maxRecDepth 100000 in
set_option maxHeartbeats 4000000 in
theorem Take_of (pv bv : Option Addr) (hd : Int) (x : Bx) (y : Option Bl) (w : World) (con : ∀ W, Below w.heap.size w W → Calls Tryz.prog 42 #[.pointer pv] W fun e w' => e = .returned (.pointer bv) ∧ W = w')
    (con2 : ∀ W, Below w.heap.size w W → Calls Tryz.prog 43 #[.pointer bv, .int .i64 hd] W fun e w' => e = .returned (.tuple #[.agg #[.slice x.q0 x.n0 x.c0, .slice x.q1 x.n1 x.c1, .slice x.q2 x.n2 x.c2], .bool y.isSome]) ∧ Below W.heap.size W w')
    (hr : BIs w x (y.getD noB)) (hl : (y.getD noB).d.length ≤ 140737488355328) :
    Calls Tryz.prog 18 #[.pointer pv, .int .i64 hd] w (TakeOut y w) := by
  obtain ⟨W0, hW0⟩ : ∃ W0, w.alloc (.cells #[.slice none 0 0, .slice none 0 0, .slice none 0 0] 44) = W0 := ⟨_, rfl⟩
  have r0 : BL 44 w.heap.size #[.slice none 0 0, .slice none 0 0, .slice none 0 0] W0 := hW0 ▸ BL.new _ w _
  have hB0 : Below w.heap.size w W0 := hW0 ▸ blk_alloc _
  have HW0 := Lib.hid hW0
  have k1 := con W0 hB0
  have k2 := con2 W0 hB0
  unfold TakeOut
  obtain ⟨yb, hyb⟩ : ∃ yb, y.isSome = yb := ⟨_, rfl⟩
  obtain ⟨l, hl1⟩ : ∃ l, (y.getD noB).l = l := ⟨_, rfl⟩
  obtain ⟨d, hd1⟩ : ∃ d, (y.getD noB).d = d := ⟨_, rfl⟩
  have h1 := hr.1
  have HL0 := Lib.hid hr.1
  have h2 := hr.2
  rw [hyb] at k2
  rw [hl1] at h1 HL0
  rw [hd1] at h2 hl
  rw [hyb, hl1, hd1]
  clear hW0 con con2 hr hyb hl1 hd1
  go_enter Tryz.func18, Tryz.ntmps18
  go_wp2_with fail
  rw [HW0.out]
  refine k1.mono ?_
  rintro e w' ⟨rfl, rfl⟩
  clear k1
  go_wp2_with fail
  refine k2.mono ?_
  rintro e w2 ⟨rfl, hb⟩
  clear k2
  have A2 := hB0.trans (hb.mono hB0.size)
  replace r0 := r0.on hb
  obtain ⟨W3, hW3⟩ : ∃ W3, w2.alloc (.cells #[.slice x.q0 x.n0 x.c0, .slice x.q1 x.n1 x.c1, .slice x.q2 x.n2 x.c2] 44) = W3 := ⟨_, rfl⟩
  have x3 : BL 44 w2.heap.size #[.slice x.q0 x.n0 x.c0, .slice x.q1 x.n1 x.c1, .slice x.q2 x.n2 x.c2] W3 := hW3 ▸ BL.new _ w2 _
  have hB3 : Below w2.heap.size w2 W3 := hW3 ▸ blk_alloc _
  have r3 := r0.on hB3
  have A3 := A2.trans (hB3.mono A2.size)
  have hl3 := h1.below A3
  have con := apart_any x d W3 (h2.on A3) hl
  have HW3 := Lib.hid hW3
  have x0 := x3.cell 0 _ rfl
  have x1 := x3.cell 1 _ rfl
  have x2 := x3.cell 2 _ rfl
  clear hW3 hb A2 r0 hB3 hB0 h1 h2
  go_upto_region 2 with fail
  rw [HW3.out]
  go_wp2_with fail
  refine con.mono ?_
  rintro e w4 ⟨q, n, c, rfl, rr, hb⟩
  clear con x0 x1 x2
  have r4 := r3.on hb
  have A4 := A3.trans (hb.mono A3.size)
  have hl4 := hl3.below hb
  have rlt := r3.lt
  have hge : ∀ k, (Value.slice q n c).ownBlock = some k → w.heap.size < k := fun k hk => Nat.lt_of_lt_of_le rlt (rr.ge k hk).1
  obtain ⟨Y, hY, bY, kY, hbY⟩ := put_th r4 (.slice x.q0 x.n0 x.c0) (.slice x.q1 x.n1 x.c1) (.slice q n c)
  have AY := A4.trans (hbY _ (Nat.le_refl _))
  have HR := Lib.hid ((rr.lower (A3.size)).keep (kY (fun k => k ≠ w.heap.size) (by simp)) fun k hk e => by have := hge k hk; omega)
  have HLY := Lib.hid (HL0.out.below AY)
  have z0 := r4.cell 0 _ rfl
  have z1 := r4.cell 1 _ rfl
  have z2 := r4.cell 2 _ rfl
  have g0 := r4.frozen 0
  have g1 := r4.frozen 1
  have g2 := r4.frozen 2
  have HY := Lib.hid hY
  have HA := Lib.hid AY
  clear hb rr r3 r4 A3 A4 hl3 hl4 rlt hge hY kY hbY AY
  go_wp2
  rw [HY.out]
  refine bodyPost_ret (ret_th2 rfl _ _ w.heap.size _ rfl bY rfl) rfl ?_
  exact ⟨_, _, _, _, _, _, _, _, _, rfl, HLY.out, HR.out, HA.out⟩
end Go.Proofs.YtkjkfgmoogbdiaaGreatDoor.Blb

namespace Go.Proofs.YtkjkfgmoogbdiaaGreatDoor.Blb
open Go.RowKit Go.Shelf Go.Sort Url Org Cls Frm Lbl Arn Brn
attribute [local go_sem] Oper.semAt_some
set_option linter.unusedVariables false

theorem noB_is (w : World) : BIs w zB noB := ⟨lab_open w, by_nil w⟩
theorem TTake_any (base p b : Nat) (v : Value) (sl : List (Sl Bx)) (bl : List (Sl Bl)) (hd : Int) (w : World) (h : Tab base p b v sl bl w) (hh : -9223372036854775808 ≤ hd ∧ hd ≤ 9223372036854775807) :
    Calls Tryz.prog 18 #[.pointer (some ⟨p, 0, none⟩), .int .i64 hd] w (TakeOut (Brn.getX bl hd) w) := by
  refine Take_of (some ⟨p, 0, none⟩) (some ⟨b, 0, none⟩) hd ((Brn.getX sl hd).getD zB) (Brn.getX bl hd) w (fun W hb => all_tab base p b v sl bl W (h.on hb)) (fun W hb => ?_) ?_ ?_
  · have := Brn.Get_any base b 16 v sl hd W (h.ar.on hb) h.few40 hh
    rcases h.rd.get hd with ⟨e1, e2⟩ | ⟨x, y, e1, e2, -, -⟩
    · rw [e1] at this; rw [e1, e2]; exact this
    · rw [e1] at this; rw [e1, e2]; exact this
  · rcases h.rd.get hd with ⟨e1, e2⟩ | ⟨x, y, e1, e2, e3, -⟩
    · rw [e1, e2]; exact noB_is w
    · rw [e1, e2]; exact e3
  · cases e : Brn.getX bl hd with
    | none => exact Nat.zero_le _
    | some y =>
      unfold Brn.getX at e
      cases hf : findS bl hd with
      | none => simp only [hf] at e; cases e
      | some i =>
        cases hs : bl[i]? with
        | none => simp only [hf, hs] at e; cases e
        | some s =>
          simp only [hf, hs] at e
          have := h.sz s (List.mem_of_getElem? hs) y e
          show y.d.length ≤ _
          omega
/-! ### Put -/
def tL (bl : List (Sl Bl)) (y : Bl) : List (Sl Bl) := if 4096 < y.d.length then bl else Brn.putL 16 bl y
def tH (bl : List (Sl Bl)) (y : Bl) : Int := if 4096 < y.d.length then 0 else Brn.putHd 16 bl
def tE (bl : List (Sl Bl)) (y : Bl) : Int := if 4096 < y.d.length then 3 else Brn.putE 16 bl
theorem put_few {α : Type} {K size : Nat} {sl : List (Sl α)} (h : ∀ t ∈ sl, t.n ≤ K) (x : α) : ∀ t ∈ Brn.putL size sl x, t.n ≤ K + 1 := by
  intro t ht
  unfold Brn.putL at ht
  cases hf : freeF sl with
  | none =>
    simp only [hf] at ht
    split at ht
    · rcases List.mem_append.1 ht with h' | h'
      · exact Nat.le_succ_of_le (h t h')
      · obtain rfl := List.mem_singleton.1 h'
        show 1 ≤ K + 1
        omega
    · exact Nat.le_succ_of_le (h t ht)
  | some i =>
    obtain ⟨s, hs, hx⟩ := free_lt sl i hf
    simp only [hf, hs] at ht
    rcases List.mem_or_eq_of_mem_set ht with h' | rfl
    · exact Nat.le_succ_of_le (h t h')
    · have := h s (List.mem_of_getElem? hs)
      show s.n + 1 ≤ K + 1
      omega
theorem put_all {α : Type} {P : α → Prop} {size : Nat} {sl : List (Sl α)} (h : ∀ t ∈ sl, ∀ y, t.x = some y → P y) (x : α) (hx : P x) : ∀ t ∈ Brn.putL size sl x, ∀ y, t.x = some y → P y := by
  intro t ht y hy
  unfold Brn.putL at ht
  cases hf : freeF sl with
  | none =>
    simp only [hf] at ht
    split at ht
    · rcases List.mem_append.1 ht with h' | h'
      · exact h t h' y hy
      · obtain rfl := List.mem_singleton.1 h'
        cases hy
        exact hx
    · exact h t ht y hy
  | some i =>
    obtain ⟨s, hs, hx2⟩ := free_lt sl i hf
    simp only [hf, hs] at ht
    rcases List.mem_or_eq_of_mem_set ht with h' | rfl
    · exact h t h' y hy
    · cases hy
      exact hx
theorem in2_wrote {b : Nat} {v v' : Value} {w w' : World} {q1 : Option Addr} {n1 : Nat} {q2 : Option Addr} {n2 : Nat} (h : In2 (Els b v) q1 n1 q2 n2) (hl : In2 (· < w.heap.size) q1 n1 q2 n2) (hw : Wrote b v v' w w') : In2 (Els b v') q1 n1 q2 n2 := by
  have key : ∀ a : Addr, a.block < w.heap.size → Els b v a.block → Els b v' a.block := fun a hl he => ⟨he.1, fun e => by
    rcases hw.2 _ e with e | e
    · exact he.2 e
    · omega⟩
  exact ⟨fun a ha h0 => key a (hl.1 a ha h0) (h.1 a ha h0), fun a ha h0 => key a (hl.2 a ha h0) (h.2 a ha h0)⟩
/-- The table behind the arena's Put. -/
theorem Tab.put {base p b : Nat} {v v' : Value} {sl : List (Sl Bx)} {bl : List (Sl Bl)} {w w' : World} (h : Tab base p b v sl bl w) (x : Bx) (y : Bl) (hx : BIs w x y) (ho : Ofs (Els b v) x) (hd : y.d.length ≤ 4096) (hK : ∀ t ∈ bl, t.n ≤ 999999)
    (ha : Brn.At base b 16 v' (Brn.putL 16 sl x) w') (hw : Wrote b v v' w w') : Tab base p b v' (Brn.putL 16 sl x) (Brn.putL 16 bl y) w' :=
  ⟨h.tb.keep hw.1 h.ne, ha, (h.rd.from hw (at_mute h.ar)).put 16 x y (hx.from hw.1 (at_mute h.ar) ho) (in2_wrote ho (lab_lt hx.1) hw), h.lo, put_few hK y, put_all h.sz y hd⟩
/-- What Put leaves. -/
def TPutOut (base p b : Nat) (v : Value) (bl : List (Sl Bl)) (y : Bl) (w : World) (e : Ending) (w' : World) : Prop :=
  e = .returned (.tuple #[.int .i64 (tH bl y), .int .i64 (tE bl y)]) ∧ ∃ v' sl', Tab base p b v' sl' (tL bl y) w' ∧ Wrote b v v' w w'

set_option maxRecDepth 100000 in
set_option maxHeartbeats 8000000 in
theorem TPut_any (base p b : Nat) (v : Value) (sl : List (Sl Bx)) (bl : List (Sl Bl)) (x : Bx) (y : Bl) (w : World) (h : Tab base p b v sl bl w) (hx : BIs w x y) (ho : Ofs (Els b v) x) (hK : ∀ t ∈ bl, t.n ≤ 999999) (hb : base ≤ w.heap.size) :
    Calls Tryz.prog 11 #[.pointer (some ⟨p, 0, none⟩), .agg #[.slice x.q0 x.n0 x.c0, .slice x.q1 x.n1 x.c1, .slice x.q2 x.n2 x.c2]] w (TPutOut base p b v bl y w) := by
  obtain ⟨W0, hW0⟩ : ∃ W0, w.alloc (.cells #[.slice x.q0 x.n0 x.c0, .slice x.q1 x.n1 x.c1, .slice x.q2 x.n2 x.c2] 44) = W0 := ⟨_, rfl⟩
  have b0 : BL 44 w.heap.size #[.slice x.q0 x.n0 x.c0, .slice x.q1 x.n1 x.c1, .slice x.q2 x.n2 x.c2] W0 := hW0 ▸ BL.new _ w _
  have hB0 : Below w.heap.size w W0 := hW0 ▸ blk_alloc _
  have t0 := h.on hB0
  have x0 := hx.below hB0
  have HW0 := Lib.hid hW0
  obtain ⟨e1, -, -, -, -⟩ := x0.2.at
  have k0 := b0.cell 0 _ rfl
  have k1 := b0.cell 1 _ rfl
  have k2 := b0.cell 2 _ rfl
  by_cases hlong : 4096 < y.d.length
  · have H1 := Lib.hid (show tH bl y = 0 by unfold tH; rw [if_pos hlong])
    have H2 := Lib.hid (show tE bl y = 3 by unfold tE; rw [if_pos hlong])
    have H3 := Lib.hid (show tL bl y = bl by unfold tL; rw [if_pos hlong])
    have d0 : decide ((4096 : Int) < (x.n2 : Int)) = true := by simp; omega
    have HT := Lib.hid t0
    have HB := Lib.hid (wrote_id (b := b) (v := v) hB0)
    clear hW0 hlong e1 h hx ho hK b0 hB0 t0 x0
    go_enter Tryz.func11, Tryz.ntmps11
    go_upto_region 3 with fail
    rw [HW0.out]
    go_wp2
    go_ret2
    exact ⟨by rw [H1.out, H2.out]; rfl, v, _, by rw [H3.out]; exact HT.out, HB.out⟩
  · have H1 := Lib.hid (show tH bl y = Brn.putHd 16 bl by unfold tH; rw [if_neg hlong])
    have H2 := Lib.hid (show tE bl y = Brn.putE 16 bl by unfold tE; rw [if_neg hlong])
    have H3 := Lib.hid (show tL bl y = Brn.putL 16 bl y by unfold tL; rw [if_neg hlong])
    have d0 : decide ((4096 : Int) < (x.n2 : Int)) = false := by simp; omega
    obtain ⟨Z, hZ⟩ : ∃ Z, W0.drew = Z := ⟨_, rfl⟩
    have hd : Below W0.heap.size W0 Z := hZ ▸ (Below.refl _ _).drew
    have tZ := t0.on hd
    have bZ := b0.on hd
    have xZ := x0.below hd
    have BZ := hB0.trans (hd.mono hB0.size)
    have HZ := Lib.hid hZ
    have z0 := bZ.cell 0 _ rfl
    have z1 := bZ.cell 1 _ rfl
    have z2 := bZ.cell 2 _ rfl
    have zp := tZ.c0
    have con5 := apart_any x y.d Z xZ.2 (by omega)
    have HXZ := Lib.hid (And.intro xZ (And.intro tZ BZ))
    have HH := Lib.hid (h.rd.hd 16)
    obtain ⟨hd1, hdh⟩ : ∃ a, Brn.putHd 16 bl = a := ⟨_, rfl⟩
    obtain ⟨er1, her⟩ : ∃ a, Brn.putE 16 bl = a := ⟨_, rfl⟩
    rw [hdh] at H1 HH
    rw [her] at H2 HH
    have HL := Lib.hid hlong
    have HO := Lib.hid ho
    have HK := Lib.hid hK
    have HBW := Lib.hid hb
    clear hb hW0 hlong e1 h hx ho hK b0 hB0 t0 x0 hd hZ xZ BZ tZ hdh her
    go_enter Tryz.func11, Tryz.ntmps11
    go_upto_region 3 with fail
    rw [HW0.out]
    go_upto_region 5 with fail
    refine pregion_any (fun X => X.cell? ⟨p, 0, none⟩ = some (.pointer (some ⟨b, 0, none⟩)) ∧ X.cell? ⟨w.heap.size, 0, none⟩ = some (.slice x.q0 x.n0 x.c0) ∧ X.cell? ⟨w.heap.size, 1, none⟩ = some (.slice x.q1 x.n1 x.c1) ∧ X.cell? ⟨w.heap.size, 2, none⟩ = some (.slice x.q2 x.n2 x.c2)) (by kernel_rfl) ?_
    rw [HZ.out]
    refine wpAnyH_take (i := 0) (v := (.pointer (some ⟨p, 0, none⟩))) rfl (by kernel_rfl) (by kernel_rfl) (by kernel_rfl) (fun _ _ _ h => h) (.inl ⟨by kernel_rfl, ?_⟩) ⟨zp, z0, z1, z2⟩ ?_
    · rintro w ⟨hp, h0, h1, h2⟩; go_simp <;> omega
    refine plist #[true, false, false, false, false, false, false, false, false, false, false] (by kernel_rfl) ?_
    refine wpAnyH_take (i := 1) (v := (.pointer (some ⟨p, 0, none⟩))) rfl (by kernel_rfl) (by kernel_rfl) (by kernel_rfl) (fun _ _ _ h => h) (.inl ⟨by kernel_rfl, ?_⟩) ⟨zp, z0, z1, z2⟩ ?_
    · rintro w ⟨hp, h0, h1, h2⟩; go_simp <;> omega
    refine plist #[true, true, false, false, false, false, false, false, false, false, false] (by kernel_rfl) ?_
    refine wpAnyH_take (i := 2) (v := (.pointer (some ⟨p, 0, none⟩))) rfl (by kernel_rfl) (by kernel_rfl) (by kernel_rfl) (fun _ _ _ h => h) (.inl ⟨by kernel_rfl, ?_⟩) ⟨zp, z0, z1, z2⟩ ?_
    · rintro w ⟨hp, h0, h1, h2⟩; go_simp <;> omega
    refine plist #[true, true, true, false, false, false, false, false, false, false, false] (by kernel_rfl) ?_
    refine wpAnyH_take (i := 3) (v := (.pointer (some ⟨b, 0, none⟩))) rfl (by kernel_rfl) (by kernel_rfl) (by kernel_rfl) (fun _ _ _ h => h) (.inl ⟨by kernel_rfl, ?_⟩) ⟨zp, z0, z1, z2⟩ ?_
    · rintro w ⟨hp, h0, h1, h2⟩; go_simp <;> omega
    refine plist #[true, true, true, true, false, false, false, false, false, false, false] (by kernel_rfl) ?_
    refine wpAnyH_take (i := 4) (v := (.agg #[.slice x.q0 x.n0 x.c0, .slice x.q1 x.n1 x.c1, .slice x.q2 x.n2 x.c2])) rfl (by kernel_rfl) (by kernel_rfl) (by kernel_rfl) (fun _ _ _ h => h) (.inl ⟨by kernel_rfl, ?_⟩) ⟨zp, z0, z1, z2⟩ ?_
    · rintro w ⟨hp, h0, h1, h2⟩; go_simp <;> omega
    refine plist #[true, true, true, true, true, false, false, false, false, false, false] (by kernel_rfl) ?_
    refine pone 5 (by kernel_rfl) rfl fun K hK => ?_
    go_simp
    refine con5.mono ?_
    rintro e w2 ⟨q, n, c, rfl, hr, hb⟩
    obtain ⟨xZ, tZ, BZ⟩ := HXZ.out
    have t2 := tZ.on hb
    have b2 := bZ.on hb
    have A2 := BZ.trans (hb.mono BZ.size)
    have HX2 := Lib.hid (show BIs w2 ⟨x.q0, x.n0, x.c0, x.q1, x.n1, x.c1, q, n, c⟩ y from ⟨(xZ.below hb).1, hr.by⟩)
    have HT2 := Lib.hid t2
    have HA2 := Lib.hid A2
    replace zp := t2.c0
    replace z0 := b2.cell 0 _ rfl
    replace z1 := b2.cell 1 _ rfl
    replace z2 := b2.cell 2 _ rfl
    have con6 := Brn.Put_any base b 16 v sl ⟨x.q0, x.n0, x.c0, x.q1, x.n1, x.c1, q, n, c⟩ w2 t2.ar (fun s hs => Nat.le_trans (t2.rd.few HK.out s hs) (by decide)) (Nat.le_trans HBW.out A2.size)
    have HB2 := Lib.hid b2
    clear con5 xZ tZ BZ t2 b2 A2 hr hb bZ
    refine hK _ _ ⟨zp, z0, z1, z2⟩ ?_
    clear hK K
    refine plist #[true, true, true, true, true, true, false, false, false, false, false] (by kernel_rfl) ?_
    refine pone 6 (by kernel_rfl) rfl fun K hK => ?_
    go_simp
    refine con6.mono ?_
    rintro e w3 ⟨rfl, v3, ha, hw⟩
    rw [HH.out.1, HH.out.2]
    have t3 := HT2.out.put _ y HX2.out HO.out (by have := HL.out; omega) HK.out ha hw
    have b3 := HB2.out.keep hw.1 (HT2.out.oth HB2.out (by decide) (by decide))
    have HE := Lib.hid (show TPutOut base p b v bl y w (.returned (.tuple #[.int .i64 (tH bl y), .int .i64 (tE bl y)])) w3 from ⟨rfl, v3, _, by rw [H3.out]; exact t3, (wrote_id HA2.out).trans hw⟩)
    replace zp := t3.c0
    replace z0 := b3.cell 0 _ rfl
    replace z1 := b3.cell 1 _ rfl
    replace z2 := b3.cell 2 _ rfl
    clear con6 ha hw t3 b3
    refine hK _ _ ⟨zp, z0, z1, z2⟩ ?_
    clear hK K
    refine plist #[true, true, true, true, true, true, true, false, false, false, false] (by kernel_rfl) ?_
    refine wpAnyH_take (i := 7) (v := (.int .i64 hd1)) rfl (by kernel_rfl) (by kernel_rfl) (by kernel_rfl) (fun _ _ _ h => h) (.inl ⟨by kernel_rfl, ?_⟩) ⟨zp, z0, z1, z2⟩ ?_
    · rintro w ⟨hp, h0, h1, h2⟩; go_simp <;> omega
    refine plist #[true, true, true, true, true, true, true, true, false, false, false] (by kernel_rfl) ?_
    refine pone 8 (by kernel_rfl) rfl fun K hK => ?_
    go_simp
    refine hK _ _ ⟨zp, z0, z1, z2⟩ ?_
    clear hK K
    refine plist #[true, true, true, true, true, true, true, true, true, false, false] (by kernel_rfl) ?_
    refine pone 9 (by kernel_rfl) rfl fun K hK => ?_
    go_simp
    refine hK _ _ ⟨zp, z0, z1, z2⟩ ?_
    clear hK K
    refine plist #[true, true, true, true, true, true, true, true, true, true, false] (by kernel_rfl) ?_
    refine pone 10 (by kernel_rfl) rfl fun K hK => ?_
    go_simp
    refine hK _ _ ⟨zp, z0, z1, z2⟩ ?_
    clear hK K
    refine pdone (by kernel_rfl) ?_ _
    go_wp2
    go_ret2
    exact ⟨by rw [H1.out, H2.out]; rfl, HE.out.2⟩

/-! ### Open -/
def openE (y : Option Bl) (l : Lab) (f : List (List (List UInt8))) : Int := match y with | none => 14 | some b => if flowsBy f b.l l then 0 else 7
def openD (y : Option Bl) (l : Lab) (f : List (List (List UInt8))) : List UInt8 := match y with | none => [] | some b => if flowsBy f b.l l then b.d else []
def OpenOut (y : Option Bl) (l : Lab) (f : List (List (List UInt8))) (w : World) (e : Ending) (w' : World) : Prop :=
  ∃ q n c, e = .returned (.tuple #[.slice q n c, .int .i64 (openE y l f)]) ∧ Rw w.heap.size (.slice q n c) (openD y l f) w' ∧ Below w.heap.size w w'
theorem rw_nil (base : Nat) (w : World) : Rw base (.slice none 0 0) [] w := World.ownsRow_nil _ _ _ _
set_option maxRecDepth 100000 in
set_option maxHeartbeats 8000000 in
theorem TOpen_any (base p b : Nat) (v : Value) (sl : List (Sl Bx)) (bl : List (Sl Bl)) (hd : Int) (q0 : Option Addr) (n0 c0 : Nat) (q1 : Option Addr) (n1 c1 : Nat) (q2 : Option Addr) (n2 c2 : Nat) (l : Lab) (f : List (List (List UInt8))) (w : World)
    (h : Tab base p b v sl bl w) (hh : -9223372036854775808 ≤ hd ∧ hd ≤ 9223372036854775807) (h1 : LabIs w (.agg #[.slice q0 n0 c0, .slice q1 n1 c1]) l) (h2 : FrmIs w (.agg #[.slice q2 n2 c2]) f) (fl : Lbl.Few l) (ff : f.length ≤ 16)
    (hfew : ∀ t ∈ bl, ∀ y, t.x = some y → Lbl.Few y.l) :
    Calls Tryz.prog 15 #[.pointer (some ⟨p, 0, none⟩), .int .i64 hd, .agg #[.slice q0 n0 c0, .slice q1 n1 c1], .agg #[.slice q2 n2 c2]] w (OpenOut (Brn.getX bl hd) l f w) := by
  have hy : ∀ y, Brn.getX bl hd = some y → Lbl.Few y.l := fun y e => by
    unfold Brn.getX at e
    cases hf : findS bl hd with
    | none => simp only [hf] at e; cases e
    | some i =>
      cases hs : bl[i]? with
      | none => simp only [hf, hs] at e; cases e
      | some s =>
        simp only [hf, hs] at e
        exact hfew s (List.mem_of_getElem? hs) y e
  obtain ⟨W0, hW0⟩ : ∃ W0, (w.alloc (.cells #[.slice q0 n0 c0, .slice q1 n1 c1] 37)).alloc (.cells #[.slice q2 n2 c2] 35) = W0 := ⟨_, rfl⟩
  obtain ⟨bl0, bf0⟩ := two_cells 37 35 w #[.slice q0 n0 c0, .slice q1 n1 c1] #[.slice q2 n2 c2]
  have hB0 := blk_two w (.cells #[.slice q0 n0 c0, .slice q1 n1 c1] 37) (.cells #[.slice q2 n2 c2] 35)
  rw [hW0] at bl0 bf0 hB0
  have con := TTake_any base p b v sl bl hd W0 (h.on hB0) hh
  have HW0 := Lib.hid hW0
  have HP := Lib.hid (And.intro h1 h2)
  obtain ⟨Y, hY⟩ : ∃ y, Brn.getX bl hd = y := ⟨_, rfl⟩
  rw [hY] at con hy ⊢
  have HY := Lib.hid hy
  clear hW0 h hh h1 h2 hY hy hfew
  go_enter Tryz.func15, Tryz.ntmps15
  go_upto_region 3 with fail
  rw [HW0.out]
  go_wp2_with fail
  refine con.mono ?_
  rintro e w2 ⟨t0, m0, d0, t1, m1, d1, q, n, c, rfl, hl, hr, hb⟩
  clear con
  replace bl0 := bl0.on hb
  replace bf0 := bf0.on hb
  have A2 := hB0.trans (hb.mono hB0.size)
  obtain ⟨W3, hW3⟩ : ∃ W3, w2.alloc (.cells #[.slice t0 m0 d0, .slice t1 m1 d1, .slice q n c] 44) = W3 := ⟨_, rfl⟩
  have x3 : BL 44 w2.heap.size #[.slice t0 m0 d0, .slice t1 m1 d1, .slice q n c] W3 := hW3 ▸ BL.new _ w2 _
  have hB3 : Below w2.heap.size w2 W3 := hW3 ▸ blk_alloc _
  replace bl0 := bl0.on hB3
  replace bf0 := bf0.on hB3
  have hl3 := hl.below hB3
  have hr3 := (hr.lower hB0.size).on hB3
  have A3 := A2.trans (hB3.mono A2.size)
  have HW3 := Lib.hid hW3
  have l0 := bl0.cell 0 _ rfl
  have l1 := bl0.cell 1 _ rfl
  have g0 := bf0.cell 0 _ rfl
  have x0 := x3.cell 0 _ rfl
  have x1 := x3.cell 1 _ rfl
  have x2 := x3.cell 2 _ rfl
  clear hW3 hb A2 hB3 hB0 hl hr
  go_upto_region 4 with fail
  rw [HW3.out]
  clear HW3 HW0
  cases Y with
  | none =>
    have HA := Lib.hid A3
    clear A3 hl3 hr3 bl0 bf0 x3
    go_wp2
    go_ret2
    exact ⟨_, _, _, rfl, rw_nil _ _, HA.out⟩
  | some y =>
    have con2 := Prv.Flows_any _ _ _ f y.l l W3 (HP.out.2.below A3) hl3 (HP.out.1.below A3) ff (HY.out y rfl) fl
    obtain ⟨bb, hbb⟩ : ∃ bb, flowsBy f y.l l = bb := ⟨_, rfl⟩
    have H1 := Lib.hid (show openE (some y) l f = if bb then 0 else 7 by unfold openE; rw [← hbb])
    have H2 := Lib.hid (show openD (some y) l f = if bb then y.d else [] by unfold openD; rw [← hbb])
    have con3 : Calls Tryz.prog 38 #[.agg #[.slice q2 n2 c2], .agg #[.slice t0 m0 d0, .slice t1 m1 d1], .agg #[.slice q0 n0 c0, .slice q1 n1 c1]] W3 (fun e w' => e = .returned (.bool bb) ∧ Below W3.heap.size W3 w') := hbb ▸ con2
    have HA := Lib.hid A3
    have HR := Lib.hid hr3
    clear con2 hbb A3 hl3 hr3 bl0 bf0
    go_wp2_with fail
    refine con3.mono ?_
    rintro e w4 ⟨rfl, hb⟩
    clear con3 l0 l1 g0 x0 x1 x2
    replace x3 := x3.on hb
    have x2 := x3.cell 2 _ rfl
    have HA4 := Lib.hid (HA.out.trans (hb.mono HA.out.size))
    have HR4 := Lib.hid (HR.out.on hb)
    clear hb x3
    cases bb with
    | true =>
      go_wp2
      go_ret2
      exact ⟨_, _, _, by rw [H1.out]; rfl, by rw [H2.out]; exact HR4.out, HA4.out⟩
    | false =>
      go_wp2
      go_ret2
      exact ⟨_, _, _, by rw [H1.out]; rfl, by rw [H2.out]; exact rw_nil _ _, HA4.out⟩
end Go.Proofs.YtkjkfgmoogbdiaaGreatDoor.Blb

namespace Go.Proofs.YtkjkfgmoogbdiaaGreatDoor.Blb
open Go.RowKit Go.Shelf Go.Sort Url Org Cls Frm Lbl Arn Brn
attribute [local go_sem] Oper.semAt_some Arn.wide_fn
set_option linter.unusedVariables false

theorem cell_obj {W : World} {b i : Nat} {u : Value} (h : W.cell? ⟨b, i, none⟩ = some u) : ∃ cs t f, W.heap[b]? = some (.cells cs t f) := by
  unfold World.cell? at h
  cases e : W.heap[b]? with
  | none => simp only [e] at h; cases h
  | some o =>
    cases o with
    | cells cs t f => exact ⟨cs, t, f, rfl⟩
    | _ => simp only [e] at h; cases h
theorem frm_cell {W : World} {q : Option Addr} {n c : Nat} {f : List (List (List UInt8))} (h : FrmIs W (.agg #[.slice q n c]) f) : ∀ a, q = some a → 0 < n → ∃ i z, W.cell? ⟨a.block, i, none⟩ = some (encC z) := by
  obtain ⟨h1, h2, zs, s, z, rfl⟩ := h.row
  rintro a rfl hn
  obtain ⟨b, o, he, _, hc⟩ := s.at hn
  cases he
  cases zs with
  | nil => have := s.1; simp at this; omega
  | cons x xs => exact ⟨_, x, hc 0 x rfl⟩
theorem lab_cell {W : World} {q1 : Option Addr} {n1 c1 : Nat} {q2 : Option Addr} {n2 c2 : Nat} {l : Lab} (h : LabIs W (.agg #[.slice q1 n1 c1, .slice q2 n2 c2]) l) {S : Nat → Prop} (hS : ∀ b i z, W.cell? ⟨b, i, none⟩ = some (encC z) → S b) : In2 S q1 n1 q2 n2 := by
  obtain ⟨_, _, _, _, _, _, he, h1, h2⟩ := h
  cases he
  refine ⟨fun a ha h0 => ?_, fun a ha h0 => ?_⟩
  · obtain ⟨i, z, hz⟩ := frm_cell h1 a ha h0
    exact hS _ i z hz
  · obtain ⟨i, z, hz⟩ := frm_cell h2 a ha h0
    exact hS _ i z hz
/-- Things keep reading where what is written holds no text, no byte, no clause. -/
theorem Rds.keep {S R : Nat → Prop} {sl : List (Sl Bx)} {bl : List (Sl Bl)} {W Y : World} (h : Rds R sl bl W) (hk : Keep S W Y) (hm : Mute S W) (hS : ∀ b i z, W.cell? ⟨b, i, none⟩ = some (encC z) → S b) : Rds R sl bl Y := ⟨h.len, h.num, fun i s t x y h1 h2 h3 h4 => by
  obtain ⟨r1, r2⟩ := h.rd i s t x y h1 h2 h3 h4
  exact ⟨r1.from hk hm (lab_cell r1.1 hS), r2⟩⟩
/-- In all objects that are cells nothing is written. -/
theorem Rds.cells {S R : Nat → Prop} {sl : List (Sl Bx)} {bl : List (Sl Bl)} {W Y : World} (h : Rds R sl bl W) (hk : Keep S W Y) (h1 : ∀ b cs t f, W.heap[b]? = some (.cells cs t f) → S b) : Rds R sl bl Y :=
  h.keep hk (fun b i u hb hu => by obtain ⟨cs, t, f, he⟩ := cell_obj hu; exact absurd (h1 b cs t f he) hb) (fun b i z hz => by obtain ⟨cs, t, f, he⟩ := cell_obj hz; exact h1 b cs t f he)
/-- A box of a pointer is written. -/
theorem Rds.box {R : Nat → Prop} {sl : List (Sl Bx)} {bl : List (Sl Bl)} {W Y : World} {B : Nat} {t : TypeId} {a : Option Addr} (h : Rds R sl bl W) (hB : BL t B #[.pointer a] W) (hk : Keep (fun k => k ≠ B) W Y) : Rds R sl bl Y := by
  have key : ∀ i u, W.cell? ⟨B, i, none⟩ = some u → u = .pointer a := fun i u hu => by
    unfold BL at hB
    unfold World.cell? at hu
    simp only [hB] at hu
    cases i with
    | zero => simpa using hu.symm
    | succ i => simp at hu
  refine h.keep hk (fun b i u hb hu => ?_) (fun b i z hz e => ?_)
  · obtain rfl : b = B := Classical.byContradiction fun e => hb e
    rw [key i u hu]
    exact ⟨fun x h => (by cases h), fun n h => (by cases h)⟩
  · subst e
    have := key i _ hz
    unfold encC at this
    cases this
theorem Rds.fresh {S R : Nat → Prop} {sl : List (Sl Bx)} {bl : List (Sl Bl)} {W : World} (h : Rds S sl bl W) (hR : ∀ k, k < W.heap.size → R k) : Rds R sl bl W := ⟨h.len, h.num, fun i s t x y h1 h2 h3 h4 => by
  obtain ⟨r1, r2⟩ := h.rd i s t x y h1 h2 h3 h4
  exact ⟨r1, (lab_lt r1.1).mono hR⟩⟩
theorem setS_at {α : Type} {sl : List (Sl α)} {k : Nat} {s : Sl α} {x x' : α} (hs : sl[k]? = some s) (hx : s.x = some x) (hn : sl.length ≤ 1024) : Arn.setS sl (hOf s.n k) x' = sl.set k ⟨s.n, some x'⟩ := by
  have h := (find_is sl (hOf s.n k) k hn).2 ⟨s, x, hs, hx, rfl⟩
  unfold Arn.setS
  simp only [h, hs]
theorem set_bl {bl : List (Sl Bl)} {k : Nat} {t : Sl Bl} {y : Bl} (ht : bl[k]? = some t) (hy : t.x = some y) : bl.set k ⟨t.n, some y⟩ = bl := by
  obtain ⟨hi, rfl⟩ := List.getElem?_eq_some_iff.1 ht
  have : (⟨bl[k].n, some y⟩ : Sl Bl) = bl[k] := by cases he : bl[k]; rw [he] at hy; simp only at hy ⊢; rw [hy]
  rw [this]
  exact List.set_getElem_self hi
theorem Rds.imp {S R : Nat → Prop} {sl : List (Sl Bx)} {bl : List (Sl Bl)} {W : World} (h : Rds S sl bl W) (k : ∀ b, S b → R b) : Rds R sl bl W := ⟨h.len, h.num, fun i s t x y h1 h2 h3 h4 => ⟨(h.rd i s t x y h1 h2 h3 h4).1, (h.rd i s t x y h1 h2 h3 h4).2.mono k⟩⟩
/-- The deferred function: nothing panics, nothing is recovered. -/
theorem idle_any (p : Option Addr) (w : World) (n : Nat) : CallsDIn Fence.wide n Tryz.prog 69 #[.pointer p] .returning w fun e u' w' => e = .returned (.tuple #[]) ∧ u' = .returning ∧ w' = w := by
  refine callsDIn_of_wpSIn Tryz.func69 rfl trivial fun c₀ cs hu => ?_
  apply wpSIn_seq
  apply wpSIn_region
  simp [wpOpsSIn, go_sem, recoverD, hu, Tryz.ntmps69]
  show Code.wpSIn _ _ _ _ _ _ _ _
  refine wpSIn_cond (t := false) rfl ?_
  refine wpSIn_of_wpIn rfl ?_
  gi_wp2
  cases c₀
  simp_all [Go.bodyPostS, results, Tryz.f69]
/-- Between two rounds of Copy. -/
def CopyI (w : World) (c bt bb pb : Nat) (bl : List (Sl Bl)) (sl : List (Sl Bx)) (k : Nat) (W : World) : Prop :=
  sl.length = bl.length ∧ k ≤ bl.length ∧ Below w.heap.size w W ∧ (∃ v, Brn.At w.heap.size c 16 v sl W ∧ Rds (Els c v) sl bl W) ∧ Boxed W bt 90 (.func (.func 35) #[] #[]) ∧ Boxed W bb 85 (.pointer (some ⟨c, 0, none⟩)) ∧ Boxed W pb 85 (.pointer (some ⟨c, 0, none⟩))
theorem CopyI.keep {w : World} {c bt bb pb : Nat} {bl : List (Sl Bl)} {sl : List (Sl Bx)} {k : Nat} {W W' : World} {S : Nat → Prop} (h : CopyI w c bt bb pb bl sl k W) (hk : Keep S W W') (h1 : ∀ b cs t f, W.heap[b]? = some (.cells cs t f) → S b) (h2 : ∀ b, b < w.heap.size → S b) : CopyI w c bt bb pb bl sl k W' := by
  obtain ⟨a1, a2, a3, ⟨v, a4, ar⟩, a5, a6, a7⟩ := h
  refine ⟨a1, a2, a3.trans ((hk.mono fun j _ hj => h2 j hj).below a3.size), ⟨v, a4.keep hk (h1 _ _ _ _ a4.bl) fun b hb => ?_, ar.cells hk h1⟩, hk.boxed a5 (h1 _ _ _ _ (Brn.box_bl a5)), hk.boxed a6 (h1 _ _ _ _ (Brn.box_bl a6)), hk.boxed a7 (h1 _ _ _ _ (Brn.box_bl a7))⟩
  rcases a4.row.2 with ⟨rfl, _⟩ | ⟨g, cap, cur, rfl, _, hg, _⟩
  · cases hb
  · cases hb
    exact h1 g _ _ _ hg

set_option maxRecDepth 100000 in
set_option maxHeartbeats 8000000 in
theorem Copy_any (base b : Nat) (v : Value) (sl : List (Sl Bx)) (bl : List (Sl Bl)) (w : World) (ha : Brn.At base b 16 v sl w) (hr0 : Rds (Els b v) sl bl w) (hfw : ∀ t ∈ bl, t.n ≤ 1000000) (hsz : ∀ t ∈ bl, ∀ y, t.x = some y → y.d.length ≤ 4096) :
    Calls Tryz.prog 48 #[.pointer (some ⟨b, 0, none⟩), .func (.func 35) #[] #[]] w fun e w' => ∃ c v' sl', e = .returned (.pointer (some ⟨c, 0, none⟩)) ∧ Brn.At w.heap.size c 16 v' sl' w' ∧ Rds (Els c v') sl' bl w' ∧ Below w.heap.size w w' := by
  have HBLN := Lib.hid hr0.len
  have hln : sl.length ≤ 1024 := by have := ha.len; have := ha.size2; omega
  obtain ⟨Wa, hWa⟩ : ∃ Wa, (w.alloc (.cells #[.func (.func 35) #[] #[]] 90)).alloc (.cells #[.pointer none] 85) = Wa := ⟨_, rfl⟩
  have hBa : Below w.heap.size w Wa := by rw [← hWa]; exact ((Below.refl _ w).alloc (Nat.le_refl _) _).alloc (by simp) _
  have hsa : Wa.heap.size = w.heap.size + 2 := by rw [← hWa]; simp
  have bt : Boxed Wa w.heap.size 90 (.func (.func 35) #[] #[]) := by rw [← hWa]; exact (Boxed.new w _ _).alloc _
  have bb : Boxed Wa (w.heap.size + 1) 85 (.pointer none) := by
    rw [← hWa]
    have := Boxed.new (w.alloc (.cells #[.func (.func 35) #[] #[]] 90)) 85 (.pointer none)
    rwa [World.size_alloc] at this
  have haA := ha.on hBa
  have hrA := hr0.below hBa
  have hlt0 : ∀ k, v.ownBlock = some k → k < w.heap.size := fun k hk => (ha.row.lt k hk).2
  have HWa := Lib.hid hWa
  have hmf : ∀ (fn : Fn) (first cap : Array Value) (w : World), (Instr.makeFunc fn first cap).run Tryz.prog w = .ok (.func fn first cap) w := fun _ _ _ _ => rfl
  have HR0 := Lib.hid hr0
  clear hWa ha hr0
  refine (callsIn_wide (n := 1)).1 ?_
  refine callsIn_of_wp_marks Tryz.func48 rfl trivial ?_ rfl
  simp only [Tryz.ntmps48, List.size_toArray, List.length_cons, List.length_nil, Nat.reduceAdd, Nat.reduceSub, Array.replicate_succ, Array.replicate_zero, List.push_toArray, List.append_toArray, List.nil_append, List.cons_append]
  obtain ⟨Z, hZ⟩ : ∃ Z, Wa.drew = Z := ⟨_, rfl⟩
  have hdr : Below Wa.heap.size Wa Z := by rw [← hZ]; exact (Below.refl _ _).drew
  replace haA := haA.on hdr
  have HRZ0 := Lib.hid (hrA.below hdr)
  clear hrA
  replace bt := (Keep.of_below hdr).boxed bt bt.lt
  replace bb := (Keep.of_below hdr).boxed bb bb.lt
  have hBZ := hBa.trans (hdr.mono hBa.size)
  have hsz : Z.heap.size = w.heap.size + 2 := by rw [← hZ]; exact hsa
  have HZ := Lib.hid hZ
  have c0 : Z.cell? ⟨b, 0, none⟩ = some (.int .i64 16) := haA.bl.cell 0 _ rfl
  have c1 : Z.cell? ⟨b, 1, none⟩ = some v := haA.bl.cell 1 _ rfl
  have con := Brn.Clone_any v sl base Z haA.row hln
  have HA := Lib.hid haA
  have HBZ := Lib.hid hBZ
  clear hZ hdr haA hBa hBZ hsa
  gi_wp2
  rw [HWa.out]
  refine region_any (fun X => X.cell? ⟨b, 0, none⟩ = some (.int .i64 16) ∧ X.cell? ⟨b, 1, none⟩ = some v) (by kernel_rfl) ?_
  rw [HZ.out]
  refine anyH_take 0 (v := (.pointer (some ⟨b, 0, none⟩))) rfl (by kernel_rfl) (by kernel_rfl) (by kernel_rfl) (by kernel_rfl) (fun _ _ _ h => h) ⟨.inl ⟨by rfl, ?_⟩, fun _ => rfl⟩ ⟨c0, c1⟩ ?_
  · rintro w -; go_simp
  simp only [Act.put, List.getElem_toArray, List.getElem_cons_zero, List.setIfInBounds_toArray, List.set_cons_zero, List.set_cons_succ]
  refine anyH_take 1 (v := (.pointer (some ⟨b, 0, none⟩))) rfl (by kernel_rfl) (by kernel_rfl) (by kernel_rfl) (by kernel_rfl) (fun _ _ _ h => h) ⟨.inl ⟨by rfl, ?_⟩, fun _ => rfl⟩ ⟨c0, c1⟩ ?_
  · rintro w -; go_simp
  simp only [Act.put, List.getElem_toArray, List.getElem_cons_zero, List.getElem_cons_succ, List.setIfInBounds_toArray, List.set_cons_zero, List.set_cons_succ]
  refine anyH_take 2 (v := (.pointer (some ⟨b, 0, none⟩))) rfl (by kernel_rfl) (by kernel_rfl) (by kernel_rfl) (by kernel_rfl) (fun _ _ _ h => h) ⟨.inl ⟨by rfl, ?_⟩, fun _ => rfl⟩ ⟨c0, c1⟩ ?_
  · rintro w -; go_simp
  simp only [Act.put, List.getElem_toArray, List.getElem_cons_zero, List.getElem_cons_succ, List.setIfInBounds_toArray, List.set_cons_zero, List.set_cons_succ]
  refine anyH_take 3 (v := (.int .i64 16)) rfl (by kernel_rfl) (by kernel_rfl) (by kernel_rfl) (by kernel_rfl) (fun _ _ _ h => h) ⟨.inl ⟨by rfl, ?_⟩, fun _ => rfl⟩ ⟨c0, c1⟩ ?_
  · rintro w ⟨h1, h2⟩; go_simp
  simp only [Act.put, List.getElem_toArray, List.getElem_cons_zero, List.getElem_cons_succ, List.setIfInBounds_toArray, List.set_cons_zero, List.set_cons_succ]
  refine anyH_take 4 (v := (.pointer (some ⟨b, 0, none⟩))) rfl (by kernel_rfl) (by kernel_rfl) (by kernel_rfl) (by kernel_rfl) (fun _ _ _ h => h) ⟨.inl ⟨by rfl, ?_⟩, fun _ => rfl⟩ ⟨c0, c1⟩ ?_
  · rintro w -; go_simp
  simp only [Act.put, List.getElem_toArray, List.getElem_cons_zero, List.getElem_cons_succ, List.setIfInBounds_toArray, List.set_cons_zero, List.set_cons_succ]
  refine anyH_take 5 (v := (.pointer (some ⟨b, 0, none⟩))) rfl (by kernel_rfl) (by kernel_rfl) (by kernel_rfl) (by kernel_rfl) (fun _ _ _ h => h) ⟨.inl ⟨by rfl, ?_⟩, fun _ => rfl⟩ ⟨c0, c1⟩ ?_
  · rintro w -; go_simp
  simp only [Act.put, List.getElem_toArray, List.getElem_cons_zero, List.getElem_cons_succ, List.setIfInBounds_toArray, List.set_cons_zero, List.set_cons_succ]
  refine anyH_take 6 (v := (.pointer (some ⟨b, 1, none⟩))) rfl (by kernel_rfl) (by kernel_rfl) (by kernel_rfl) (by kernel_rfl) (fun _ _ _ h => h) ⟨.inl ⟨by rfl, ?_⟩, fun _ => rfl⟩ ⟨c0, c1⟩ ?_
  · rintro w -; go_simp
  simp only [Act.put, List.getElem_toArray, List.getElem_cons_zero, List.getElem_cons_succ, List.setIfInBounds_toArray, List.set_cons_zero, List.set_cons_succ]
  refine anyH_take 7 (v := v) rfl (by kernel_rfl) (by kernel_rfl) (by kernel_rfl) (by kernel_rfl) (fun _ _ _ h => h) ⟨.inl ⟨by rfl, ?_⟩, fun _ => rfl⟩ ⟨c0, c1⟩ ?_
  · rintro w ⟨h1, h2⟩; go_simp
  simp only [Act.put, List.getElem_toArray, List.getElem_cons_zero, List.getElem_cons_succ, List.setIfInBounds_toArray, List.set_cons_zero, List.set_cons_succ]
  refine anyH_one 8 (by kernel_rfl) rfl fun K hK => ?_
  go_simp
  refine (callsIn_wide.2 con).mono ?_
  rintro e W1 ⟨v', rfl, hr1, hb1, hall1⟩
  obtain ⟨q', c', rfl⟩ := Brn.row_sl hr1
  have rd1 := HRZ0.out.below hb1
  have A1 := HA.out.on hb1
  have bt1 := (Keep.of_below hb1).boxed bt bt.lt
  have bb1 := (Keep.of_below hb1).boxed bb bb.lt
  have hs1 := hb1.size
  have hB1 := HBZ.out.trans (hb1.mono HBZ.out.size)
  have d0 : W1.cell? ⟨b, 0, none⟩ = some (.int .i64 16) := A1.bl.cell 0 _ rfl
  have d1 : W1.cell? ⟨b, 1, none⟩ = some v := A1.bl.cell 1 _ rfl
  refine hK _ _ ⟨d0, d1⟩ ?_
  clear hK K con
  refine anyH_one 9 (by kernel_rfl) rfl fun K hK => ?_
  go_simp
  refine hK _ _ ⟨d0, d1⟩ ?_
  clear hK K
  have A2 := A1.on (blk_alloc (.cells #[.int .i64 16, .slice q' sl.length c'] 117))
  have bt2 := bt1.alloc (.cells #[.int .i64 16, .slice q' sl.length c'] 117)
  have bb2 := bb1.alloc (.cells #[.int .i64 16, .slice q' sl.length c'] 117)
  have rd2 := rd1.below (blk_alloc (.cells #[.int .i64 16, .slice q' sl.length c'] 117))
  have all2 := hall1.keep (Keep.of_below (blk_alloc (.cells #[.int .i64 16, .slice q' sl.length c'] 117))) fun k hk => ⟨(hr1.lt k hk).2, (hr1.lt k hk).2⟩
  have n2 := BL.new 117 W1 #[.int .i64 16, .slice q' sl.length c']
  have hr2 := hr1.alloc (.cells #[.int .i64 16, .slice q' sl.length c'] 117)
  refine anyH_one 10 (by kernel_rfl) rfl fun K hK => ?_
  go_simp
  refine hK _ _ ⟨A2.bl.cell 0 _ rfl, A2.bl.cell 1 _ rfl⟩ ?_
  clear hK K
  have e0 := bb2.cell
  have e1 := bb2.frozen
  have bb3 := bb2.set (.pointer (some ⟨W1.heap.size, 0, none⟩))
  have k3 := Keep.setCell (S := fun k => k ≠ w.heap.size + 1) (W1.alloc (.cells #[.int .i64 16, .slice q' sl.length c'] 117)) ⟨w.heap.size + 1, 0, none⟩ (.pointer (some ⟨W1.heap.size, 0, none⟩)) (by simp)
  have zb := Brn.box_bl bb2
  have A3 := A2.keep k3 (fun e => BL.ne A2.bl zb (by decide) e) (fun k hk e => zb.ne_row (by decide) A2.row (e ▸ hk))
  have bt3 := k3.boxed bt2 (by omega)
  have n3 : Brn.At w.heap.size W1.heap.size 16 (.slice q' sl.length c') sl (((W1.alloc (.cells #[.int .i64 16, .slice q' sl.length c'] 117))).setCell ⟨w.heap.size + 1, 0, none⟩ (.pointer (some ⟨W1.heap.size, 0, none⟩))) :=
    ⟨n2.keep k3 (by omega), by omega, k3.row (row_lower hr2 (by omega)) (fun k hk e => zb.ne_row (by decide) hr2 (e ▸ hk)), HA.out.len, HA.out.size1, HA.out.size2, all2.keep k3 fun k hk => ⟨fun e => zb.ne_row (by decide) hr2 (e ▸ hk), (hr2.lt k hk).2⟩⟩
  have rd3 : Rds (Els W1.heap.size (.slice q' sl.length c')) sl bl _ := ((HRZ0.out.fresh (R := fun k => k < W1.heap.size ∧ (Value.slice q' sl.length c').ownBlock ≠ some k) (fun k hk => ⟨Nat.lt_of_lt_of_le hk hb1.size, fun e => by have := (hr1.lt k e).1; omega⟩)).below hb1).below (blk_alloc (.cells #[.int .i64 16, .slice q' sl.length c'] 117)) |>.box zb k3 |>.imp fun k hk => ⟨by have := hk.1; omega, hk.2⟩
  have hB3 := (hB1.trans ((blk_alloc (w := W1) (.cells #[.int .i64 16, .slice q' sl.length c'] 117)).mono hB1.size)).trans ((k3.mono fun j _ hj => by omega).below (Nat.le_trans hB1.size (by simp)))
  refine anyH_one 11 (by kernel_rfl) rfl fun K hK => ?_
  clear n2 hr1 hr2 hall1 all2 rd1 rd2 A2 bt2 bb2 bb1 bt1 bt bb A1 hb1 k3 hB1 zb
  go_simp
  refine hK _ _ ⟨A3.bl.cell 0 _ rfl, A3.bl.cell 1 _ rfl⟩ ?_
  clear hK K e0 e1 d0 d1 A3
  refine anyH_done (by kernel_rfl) ?_ _
  obtain ⟨c, hc⟩ : ∃ c, W1.heap.size = c := ⟨_, rfl⟩
  rw [hc] at bb3 n3 rd3 bt3 hB3 ⊢
  obtain ⟨W3, hW3⟩ : ∃ W3, (W1.alloc (.cells #[.int .i64 16, .slice q' sl.length c'] 117)).setCell ⟨w.heap.size + 1, 0, none⟩ (.pointer (some ⟨c, 0, none⟩)) = W3 := ⟨_, rfl⟩
  rw [hW3] at bb3 n3 rd3 bt3 hB3 ⊢
  have conA := Brn.All_any (some ⟨c, 0, none⟩) W3 c rfl
  have e0 := bb3.cell
  have pb := Boxed.new W3 85 (.pointer (some ⟨c, 0, none⟩))
  have rd4 := rd3.below (blk_alloc (.cells #[.pointer (some ⟨c, 0, none⟩)] 85))
  have n4 := n3.on (blk_alloc (.cells #[.pointer (some ⟨c, 0, none⟩)] 85))
  have bt4 := bt3.alloc (.cells #[.pointer (some ⟨c, 0, none⟩)] 85)
  have bb4 := bb3.alloc (.cells #[.pointer (some ⟨c, 0, none⟩)] 85)
  have hB4 := hB3.trans ((blk_alloc (w := W3) (.cells #[.pointer (some ⟨c, 0, none⟩)] 85)).mono hB3.size)
  have HC0 := Lib.hid hc
  clear hc hW3 n3 rd3 bt3 bb3 hB3 HA HBZ c0 c1 hs1 hsz
  gi_wp2_with fail
  refine (callsIn_wide.2 conA).mono ?_
  rintro e W4 ⟨rfl, rfl⟩
  clear conA e0
  obtain ⟨W4, hW4⟩ : ∃ W4, W3.alloc (.cells #[.pointer (some ⟨c, 0, none⟩)] 85) = W4 := ⟨_, rfl⟩
  rw [hW4] at pb n4 rd4 bt4 bb4 hB4 ⊢
  have hs4 := hB4.size
  have hw3 : W3.heap.size < W4.heap.size := by rw [← hW4]; simp
  clear hW4
  gi_wp2
  refine rf_lawV (gf := 90) (lb := #[.pointer (some ⟨W3.heap.size, 0, none⟩)]) rfl eg_all2 (Brn.All2_iter w.heap.size c 16 W3.heap.size) rfl (CopyI w c w.heap.size (w.heap.size + 1) W3.heap.size bl) sl ?_ ?_ ?_ ?_ ⟨HBLN.out, Nat.zero_le _, hB4, ⟨_, n4, rd4⟩, bt4, bb4, pb⟩ ?round ?done
  · rintro sl' k W ⟨-, -, -, ⟨v9, ha, har⟩, -, -, hp⟩
    exact ⟨⟨v9, ha⟩, fun s hs => Nat.le_trans (har.few hfw s hs) (by decide), hp.cell⟩
  · rintro sl' k A B h hB
    exact h.keep (Keep.of_below hB) (fun b cs t f hb => (Array.getElem?_eq_some_iff.1 hb).1) (fun b hb => Nat.lt_of_lt_of_le hb h.2.2.1.size)
  · rintro sl' k A B h ⟨r, hr⟩ hB hs
    exact h.keep hB (fun b cs t f hb e => by subst e; rw [hr] at hb; cases hb) (fun b hb => by omega)
  · rintro sl' k W s ⟨hl9, hk, hrest⟩ hs hx
    exact ⟨hl9, by rw [← hl9]; exact (List.getElem?_eq_some_iff.1 hs).1, hrest⟩
  case round =>
    rintro sl' k s x W ⟨hl9, hk, hb, ⟨va, ha, har⟩, h1, h2, h3⟩ hs hx ⟨r, hr⟩ hD
    have hl16 : sl'.length ≤ 1024 := by have := ha.len; omega
    have hk1 : k + 1 ≤ bl.length := by rw [← hl9]; exact (List.getElem?_eq_some_iff.1 hs).1
    obtain ⟨t, ht, htn, htx⟩ := har.at hs
    obtain ⟨y, hy⟩ : ∃ y, t.x = some y := Option.isSome_iff_exists.1 (by rw [← htx, hx]; rfl)
    have hyd := hsz t (List.mem_of_getElem? ht) y hy
    have hsn : s.n ≤ 1000000 := har.few hfw s (List.mem_of_getElem? hs)
    obtain ⟨H, hH⟩ : ∃ H, hOf s.n k = H := ⟨_, rfl⟩
    have HSS := Lib.hid (fun x' => setS_at (x' := x') hs hx hl16)
    have hHb : -9223372036854775808 ≤ H ∧ H ≤ 9223372036854775807 := by rw [← hH]; unfold hOf; omega
    rw [hH] at HSS ⊢
    have HSB := Lib.hid (show bl.set k ⟨s.n, some y⟩ = bl by rw [htn]; exact set_bl ht hy)
    have HRD := Lib.hid (fun S W (h : Rds S sl' bl W) => h.rd k s t x y hs ht hx hy)
    have HLK := Lib.hid hl9
    have HDr := Lib.hid hD
    have HI := Lib.hid (show CopyI w c w.heap.size (w.heap.size + 1) W3.heap.size bl sl' k W from ⟨hl9, hk, hb, ⟨va, ha, har⟩, h1, h2, h3⟩)
    have hlw : W4.heap.size + 1 < W.heap.size := (Array.getElem?_eq_some_iff.1 hr).1
    obtain ⟨bx, hbx⟩ : ∃ bx, W.heap.size = bx := ⟨_, rfl⟩
    obtain ⟨Wx, hWx⟩ : ∃ Wx, W.alloc (.cells #[.slice x.q0 x.n0 x.c0, .slice x.q1 x.n1 x.c1, .slice x.q2 x.n2 x.c2] 44) = Wx := ⟨_, rfl⟩
    have xb : BL 44 bx #[.slice x.q0 x.n0 x.c0, .slice x.q1 x.n1 x.c1, .slice x.q2 x.n2 x.c2] Wx := by rw [← hWx, ← hbx]; exact BL.new _ W _
    have hbW : Below W.heap.size W Wx := hWx ▸ blk_alloc _
    have HIx := Lib.hid (HI.out.keep (Keep.of_below hbW) (fun b cs t f hb => (Array.getElem?_eq_some_iff.1 hb).1) (fun b hb => by have := HI.out.2.2.1.size; omega))
    have HKx := Lib.hid (show Keep (fun b => b = W4.heap.size ∨ b = W4.heap.size + 1) W Wx from (Keep.of_below hbW).mono fun j hj _ => hj)
    have hrx : Wx.heap[W4.heap.size + 1]? = some (.loop r) := (hbW.block _ hlw).trans hr
    have hDx : Wx.heap[W4.heap.size]? = some (.deferred (some [])) := (hbW.block _ (by omega)).trans hD
    have HWx := Lib.hid hWx
    have HBX := Lib.hid hbx
    clear hs hx hH hD hb ha har h1 h2 h3 hsn n4 rd4 bt4 bb4 pb hB4 ht htn htx hy hWx hbx hl9 hk HI hbW hr
    rewrite [show Bx.val x = .agg #[.slice x.q0 x.n0 x.c0, .slice x.q1 x.n1 x.c1, .slice x.q2 x.n2 x.c2] from rfl]
    gi_wp2
    rewrite [HWx.out, HBX.out]
    refine ⟨HKx.out, fun W2 hk2 hs2 ⟨r2, hr2⟩ => ?_⟩
    have HI2 := Lib.hid (HIx.out.keep hk2 (fun b cs t f hb e => by subst e; rw [hrx] at hb; cases hb) (fun b hb => by omega))
    have hD2 := hk2.heap (show W4.heap.size ≠ W4.heap.size + 1 by omega) hDx
    have xb2 := xb.keep hk2 (fun e => by have h := xb; unfold BL at h; rw [e, hrx] at h; cases h)
    obtain ⟨Zd, hZd⟩ : ∃ Zd, W2.drew = Zd := ⟨_, rfl⟩
    have hdz : Below W2.heap.size W2 Zd := by rw [← hZd]; exact (Below.refl _ _).drew
    have HIZ := HI2.out.keep (S := fun _ => True) (show Keep _ W2 Zd by rw [← hZd]; exact Keep.drew _ _) (fun _ _ _ _ _ => trivial) (fun _ _ => trivial)
    have HKZ := Lib.hid (show Keep (fun b => b = W4.heap.size ∨ b = W4.heap.size + 1) W2 Zd by rw [← hZd]; exact Keep.drew _ _)
    have HDZ := Lib.hid (show Zd.heap[W4.heap.size]? = some (.deferred (some [])) by rw [← hZd]; exact hD2)
    have HRZ := Lib.hid (show Zd.heap[W4.heap.size + 1]? = some (.loop r2) by rw [← hZd]; exact hr2)
    have xbZ := xb2.on hdz
    have HZd := Lib.hid hZd
    obtain ⟨-, -, hbz, ⟨vz, haz, harz⟩, z1, z2, z3⟩ := HIZ
    have e1 := z1.cell
    have e2 := z2.cell
    have e3 := xbZ.cell 0 _ rfl
    have e4 := xbZ.cell 1 _ rfl
    have e5 := xbZ.cell 2 _ rfl
    have hbo := haz.lo
    have hrdz := HRD.out _ _ harz
    have conT := apart_any x y.d Zd hrdz.1.2 (by omega)
    have efn := enters_of Tryz.func35 (by kernel_rfl) rfl
    have HZ3 := Lib.hid (And.intro hbz (And.intro haz (And.intro harz (And.intro z1 (And.intro z2 (And.intro z3 (And.intro xbZ hrdz)))))))
    clear hk2 hrx hr2 hs2 HIx HI2 hD2 hDx hZd hbz haz harz z1 z2 z3 xb xb2 xbZ hrdz hdz
    gi_wp2
    refine region_any (fun X => X.cell? ⟨w.heap.size, 0, none⟩ = some (.func (.func 35) #[] #[]) ∧ X.cell? ⟨w.heap.size + 1, 0, none⟩ = some (.pointer (some ⟨c, 0, none⟩)) ∧ X.cell? ⟨bx, 0, none⟩ = some (.slice x.q0 x.n0 x.c0) ∧ X.cell? ⟨bx, 1, none⟩ = some (.slice x.q1 x.n1 x.c1) ∧ X.cell? ⟨bx, 2, none⟩ = some (.slice x.q2 x.n2 x.c2)) (by kernel_rfl) ?_
    rw [HZd.out]
    refine anyH_take 0 (v := (.pointer (some ⟨c, 0, none⟩))) rfl (by kernel_rfl) (by kernel_rfl) (by kernel_rfl) (by kernel_rfl) (fun _ _ _ h => h) ⟨.inl ⟨by rfl, ?_⟩, fun _ => rfl⟩ ⟨e1, e2, e3, e4, e5⟩ ?_
    · rintro w ⟨h1, h2, h3, h4, h5⟩; go_simp
    simp only [Act.put, List.getElem_toArray, List.getElem_cons_zero, List.setIfInBounds_toArray, List.set_cons_zero, List.set_cons_succ]
    refine anyH_take 1 (v := (.int .i64 H)) rfl (by kernel_rfl) (by kernel_rfl) (by kernel_rfl) (by kernel_rfl) (fun _ _ _ h => h) ⟨.inl ⟨by rfl, ?_⟩, fun _ => rfl⟩ ⟨e1, e2, e3, e4, e5⟩ ?_
    · rintro w ⟨h1, h2, h3, h4, h5⟩; go_simp
    simp only [Act.put, List.getElem_toArray, List.getElem_cons_zero, List.getElem_cons_succ, List.setIfInBounds_toArray, List.set_cons_zero, List.set_cons_succ]
    refine anyH_take 2 (v := (.func (.func 35) #[] #[])) rfl (by kernel_rfl) (by kernel_rfl) (by kernel_rfl) (by kernel_rfl) (fun _ _ _ h => h) ⟨.inl ⟨by rfl, ?_⟩, fun _ => rfl⟩ ⟨e1, e2, e3, e4, e5⟩ ?_
    · rintro w ⟨h1, h2, h3, h4, h5⟩; go_simp
    simp only [Act.put, List.getElem_toArray, List.getElem_cons_zero, List.getElem_cons_succ, List.setIfInBounds_toArray, List.set_cons_zero, List.set_cons_succ]
    refine anyH_take 3 (v := (.agg #[.slice x.q0 x.n0 x.c0, .slice x.q1 x.n1 x.c1, .slice x.q2 x.n2 x.c2])) rfl (by kernel_rfl) (by kernel_rfl) (by kernel_rfl) (by kernel_rfl) (fun _ _ _ h => h) ⟨.inl ⟨by rfl, ?_⟩, fun _ => rfl⟩ ⟨e1, e2, e3, e4, e5⟩ ?_
    · rintro w ⟨h1, h2, h3, h4, h5⟩; go_simp
    simp only [Act.put, List.getElem_toArray, List.getElem_cons_zero, List.getElem_cons_succ, List.setIfInBounds_toArray, List.set_cons_zero, List.set_cons_succ]
    refine anyH_one 4 (by kernel_rfl) rfl fun K hK => ?_
    go_simp
    refine ⟨rfl, (CallsIn.inRound (W4.heap.size + 1) (callsIn_wide.2 conT)).mono ?_⟩
    rintro e W6 ⟨qn, nn, cn, rfl, hrw, hb6⟩
    obtain ⟨hbz, haz, harz, z1, z2, z3, xbZ, hrd, hof⟩ := HZ3.out
    have ha6 := haz.on hb6
    have hr6 := harz.below hb6
    have y1 := (Keep.of_below hb6).boxed z1 z1.lt
    have y2 := (Keep.of_below hb6).boxed z2 z2.lt
    have y3 := (Keep.of_below hb6).boxed z3 z3.lt
    have x6 := xbZ.on hb6
    have hB6 := hbz.trans (hb6.mono hbz.size)
    have HX6 := Lib.hid (show BIs W6 ⟨x.q0, x.n0, x.c0, x.q1, x.n1, x.c1, qn, nn, cn⟩ y from ⟨(hrd.below hb6).1, hrw.by⟩)
    have HO6 := Lib.hid (show Ofs (Els c vz) ⟨x.q0, x.n0, x.c0, x.q1, x.n1, x.c1, qn, nn, cn⟩ from hof)
    have conS := Brn.Set_any w.heap.size c 16 vz sl' H ⟨x.q0, x.n0, x.c0, x.q1, x.n1, x.c1, qn, nn, cn⟩ W6 ha6 (fun s hs => Nat.le_trans (hr6.few hfw s hs) (by decide)) hHb
    rw [HSS.out] at conS
    have HD6 := Lib.hid (show W6.heap[W4.heap.size]? = some (.deferred (some [])) from (hb6.block _ (Array.getElem?_eq_some_iff.1 HDZ.out).1).trans HDZ.out)
    have HR6 := Lib.hid (show W6.heap[W4.heap.size + 1]? = some (.loop r2) from (hb6.block _ (Array.getElem?_eq_some_iff.1 HRZ.out).1).trans HRZ.out)
    have HK6 := Lib.hid (show Keep (fun b => b = W4.heap.size ∨ b = W4.heap.size + 1) Zd W6 from (Keep.of_below hb6).mono fun j hj _ => hj)
    replace e1 := y1.cell
    replace e2 := y2.cell
    replace e3 := x6.cell 0 _ rfl
    replace e4 := x6.cell 1 _ rfl
    replace e5 := x6.cell 2 _ rfl
    have HZ6 := Lib.hid (And.intro hB6 (And.intro ha6 (And.intro hr6 (And.intro y1 (And.intro y2 (And.intro y3 x6))))))
    clear hbz haz harz z1 z2 z3 xbZ hrd hof hb6 hrw ha6 hr6 y1 y2 y3 x6 hB6 HZ3 conT
    refine hK _ _ ⟨e1, e2, e3, e4, e5⟩ ?_
    clear hK K
    refine anyH_one 5 (by kernel_rfl) rfl fun K hK => ?_
    go_simp
    refine ⟨rfl, (CallsIn.inRound (W4.heap.size + 1) (callsIn_wide.2 conS)).mono ?_⟩
    rintro e W5 ⟨rfl, v5, h5, hw5⟩
    obtain ⟨hbz, haz, harz, z1, z2, z3, xbZ⟩ := HZ6.out
    have o1 := BL.ne haz.bl (Brn.box_bl z1) (by decide)
    have o2 := BL.ne haz.bl (Brn.box_bl z2) (by decide)
    have o3 := BL.ne haz.bl (Brn.box_bl z3) (by decide)
    have y1 := hw5.1.boxed z1 ⟨fun e => o1 e.symm, fun e => (Brn.box_bl z1).ne_row (by decide) haz.row e⟩
    have y2 := hw5.1.boxed z2 ⟨fun e => o2 e.symm, fun e => (Brn.box_bl z2).ne_row (by decide) haz.row e⟩
    have y3 := hw5.1.boxed z3 ⟨fun e => o3 e.symm, fun e => (Brn.box_bl z3).ne_row (by decide) haz.row e⟩
    have x5 := xbZ.keep hw5.1 ⟨fun e => (BL.ne xbZ haz.bl (by decide)) e, fun e => xbZ.ne_row (by decide) haz.row e⟩
    refine hK _ _ ⟨y1.cell, y2.cell, x5.cell 0 _ rfl, x5.cell 1 _ rfl, x5.cell 2 _ rfl⟩ ?_
    clear hK K
    refine anyH_done (by kernel_rfl) ?_ _
    have hKD : Keep (fun b => b = W4.heap.size ∨ b = W4.heap.size + 1) W6 W5 := hw5.1.mono fun j _ hj => by
      have hcd : ∀ j o, W6.heap[j]? = some o → (∀ c t f, o ≠ .cells c t f) → j ≠ c ∧ vz.ownBlock ≠ some j := fun j o ho hc => ⟨fun e => by subst e; have := haz.bl; unfold BL at this; rw [ho] at this; cases this; exact hc _ _ _ rfl, row_not_obj haz.row ho hc⟩
      rcases hj with rfl | rfl
      · exact hcd _ _ HD6.out (by simp)
      · exact hcd _ _ HR6.out (by simp)
    have hB5 := hbz.trans ((hw5.1.mono fun j _ hj => ⟨by omega, fun e => by have := (haz.row.lt _ e).1; omega⟩).below hbz.size)
    have rd5 := (harz.from hw5 (at_mute haz)).set k s.n _ y (HX6.out.from hw5.1 (at_mute haz) HO6.out) (in2_wrote HO6.out (lab_lt HX6.out.1) hw5)
    rw [HSB.out] at rd5
    have HE := Lib.hid (show CopyI w c w.heap.size (w.heap.size + 1) W3.heap.size bl (sl'.set k ⟨s.n, some ⟨x.q0, x.n0, x.c0, x.q1, x.n1, x.c1, qn, nn, cn⟩⟩) (k + 1) W5 from ⟨by rw [List.length_set]; exact HLK.out, hk1, hB5, ⟨_, h5, rd5⟩, y1, y2, y3⟩)
    have HK5 := Lib.hid hKD
    clear hbz haz harz z1 z2 z3 xbZ o1 o2 o3 y1 y2 y3 x5 hw5 h5 rd5 hKD hB5 conS
    gi_wp2
    exact ⟨(HKZ.out.trans HK6.out).trans HK5.out, _, by rw [List.length_set], HE.out⟩
  case done =>
    rintro sl' W hsl ⟨hl9, hk, hb, ⟨va, ha, har⟩, h1, h2, h3⟩ hD hlt
    have e0 := h2.cell
    have e1 := h2.frozen
    have zb := Brn.box_bl h2
    have k1 := Keep.setCell (S := fun k => k ≠ w.heap.size + 1) W ⟨w.heap.size + 1, 0, none⟩ (.pointer (some ⟨c, 0, none⟩)) (by simp)
    have a1 := ha.keep k1 (fun e => BL.ne ha.bl zb (by decide) e) (fun k hk e => zb.ne_row (by decide) ha.row (e ▸ hk))
    have r1 := har.box zb k1
    have b1 := h2.set (.pointer (some ⟨c, 0, none⟩))
    have d1 := k1.heap (fun e => by unfold BL at zb; rw [← e, hD] at zb; cases zb) hD
    have hB1 := hb.trans ((k1.mono fun j _ hj => by omega).below hb.size)
    clear hb ha har h1 h2 h3 hD zb k1 n4 rd4 bt4 bb4 pb hB4
    gi_wp2
    obtain ⟨We, hWe⟩ : ∃ We, W.setCell ⟨w.heap.size + 1, 0, none⟩ (.pointer (some ⟨c, 0, none⟩)) = We := ⟨_, rfl⟩
    rw [hWe] at a1 r1 b1 d1 hB1 ⊢
    clear e0 e1 hWe
    refine ⟨by simp, .inl ⟨_, _, rfl, run_takeDeferred d1, ?_⟩⟩
    have hkP : Keep (fun j => j ≠ W4.heap.size) We (We.putObj W4.heap.size (.deferred none)) := Keep.putObj _ _ _ (by simp)
    have br4 := (hkP.boxed b1 (box_not_obj b1 d1 (by simp))).cell
    have a4 := a1.keep hkP (fun e => by have h := a1.bl; unfold BL at h; rw [e, d1] at h; cases h) (fun k hk e => row_not_obj a1.row d1 (by simp) (e ▸ hk))
    have r4 := r1.cells hkP (fun b cs t f hb e => by rw [e, d1] at hb; cases hb)
    have hB4 := hB1.trans ((hkP.mono fun j _ hj => by omega).below hB1.size)
    refine ⟨by simp, .inr ⟨(fun h => by cases h), .func 69, #[.pointer (some ⟨w.heap.size + 1, 0, none⟩)], 69, #[.pointer (some ⟨w.heap.size + 1, 0, none⟩)], rfl, by simp [go_sem], fun _ _ => trivial, ?_⟩⟩
    refine (idle_any _ _ _).mono ?_
    rintro e u' w'' ⟨rfl, rfl, rfl⟩
    refine ⟨.pointer (some ⟨c, 0, none⟩), ?_, c, _, _, rfl, a4, r4, hB4⟩
    simp [results, Tryz.f48, go_sem, br4]


/-- A table apart. -/
theorem TCopy_any (base p b : Nat) (v : Value) (sl : List (Sl Bx)) (bl : List (Sl Bl)) (w : World) (h : Tab base p b v sl bl w) :
    Calls Tryz.prog 27 #[.pointer (some ⟨p, 0, none⟩)] w fun e w' => ∃ p' b' v' sl', e = .returned (.pointer (some ⟨p', 0, none⟩)) ∧ Tab w.heap.size p' b' v' sl' bl w' ∧ Below w.heap.size w w' := by
  have con := Copy_any base b v sl bl w h.ar h.rd h.few h.sz
  have c0 := h.c0
  have HF := Lib.hid h.few
  have HS := Lib.hid h.sz
  clear h
  go_enter Tryz.func27, Tryz.ntmps27
  go_wp2_with fail
  refine con.mono ?_
  rintro e w2 ⟨c, v', sl', rfl, ha, hr, hb⟩
  clear con
  have t1 := BL.new 88 w2 #[.pointer (some ⟨c, 0, none⟩)]
  have hb2 := blk_alloc (w := w2) (.cells #[.pointer (some ⟨c, 0, none⟩)] 88)
  have HE := Lib.hid (show Tab w.heap.size w2.heap.size c v' sl' bl (w2.alloc (.cells #[.pointer (some ⟨c, 0, none⟩)] 88)) from ⟨t1, ha.on hb2, hr.below hb2, hb.size, HF.out, HS.out⟩)
  have HB := Lib.hid (hb.trans (hb2.mono hb.size))
  clear ha hr hb t1 hb2
  go_wp2
  go_ret
  exact ⟨_, _, _, _, rfl, HE.out, HB.out⟩
end Go.Proofs.YtkjkfgmoogbdiaaGreatDoor.Blb

namespace Go.Proofs.YtkjkfgmoogbdiaaGreatDoor.Blb
open Go.RowKit Go.Shelf Url Lbl Arn Brn
attribute [local go_sem] Oper.semAt_some
set_option linter.unusedVariables false

set_option maxRecDepth 100000 in
set_option maxHeartbeats 8000000 in
theorem few_any (q : Option Addr) (n c : Nat) (l : List Ax) (w : World) (h : ActsIn w q n l) :
    Calls Tryz.prog 7 #[.slice q n c] w fun e w' => ∃ r, e = .returned (.bool r) ∧ (r = true → n ≤ 40) ∧ Below w.heap.size w w' := by
  by_cases hbig : 40 < n
  · have d1 : decide ((40 : Int) < (n : Int)) = true := by simp; omega
    clear h
    go_enter Tryz.func7, Tryz.ntmps7
    go_wp2
    go_ret
    exact ⟨false, rfl, (fun h => by cases h), Below.refl _ _⟩
  · have d1 : decide ((40 : Int) < (n : Int)) = false := by simp; omega
    have HA := Lib.hid h
    have HN : n ≤ 40 := by omega
    clear h hbig
    go_enter Tryz.func7, Tryz.ntmps7
    go_wp2
    clear d1
    go_loopw [10] (fun i wr => ∃ k : Nat, k ≤ n ∧ i = .int .i64 k ∧ Below w.heap.size w wr) (fun i _ => n - (intOf i).toNat)
    case atStart => exact ⟨0, Nat.zero_le _, rfl, Below.refl _ _⟩
    case round =>
      obtain ⟨k, hk, rfl, hB⟩ := hrel
      by_cases hlt : k < n
      · obtain ⟨x, hx⟩ : ∃ x, l[k]? = some x := ⟨_, List.getElem?_eq_getElem (by have := HA.out.1; omega)⟩
        obtain ⟨g, o, rfl, hg, hc⟩ := (HA.out.on hB).2 (by omega)
        obtain ⟨q3, n3, c3, q4, n4, c4, q5, n5, c5, q6, n6, c6, k0, k1, k2, k3, k4, k5, k6, -, y3, y4, y5, y6⟩ := hc k x hx
        have hB1 := hB.alloc hB.size (.cells #[.int .i64 x.kind, .int .i64 x.h, .int .i64 x.old, .slice q3 n3 c3, .slice q4 n4 c4, .slice q5 n5 c5, .slice q6 n6 c6] 32)
        obtain ⟨b1, d1⟩ : ∃ b, decide ((300 : Int) < (n3 : Int)) = b := ⟨_, rfl⟩
        obtain ⟨b2, d2⟩ : ∃ b, decide ((300 : Int) < (n4 : Int)) = b := ⟨_, rfl⟩
        obtain ⟨b3, d3⟩ : ∃ b, decide ((300 : Int) < (n5 : Int)) = b := ⟨_, rfl⟩
        obtain ⟨b4, d4⟩ : ∃ b, decide ((300 : Int) < (n6 : Int)) = b := ⟨_, rfl⟩
        obtain ⟨b5, d5⟩ : ∃ b, decide ((3 : Int) < (k : Int)) = b := ⟨_, rfl⟩
        obtain ⟨b6, d6⟩ : ∃ b, decide ((5000 : Int) < (n6 : Int)) = b := ⟨_, rfl⟩
        clear hc hx y3 y4 y5 y6 hg
        cases b1 with
        | true =>
          go_wp2
          go_ret
          exact ⟨false, rfl, (fun h => by cases h), hB1⟩
        | false => cases b2 with
          | true =>
            go_wp2
            go_ret
            exact ⟨false, rfl, (fun h => by cases h), hB1⟩
          | false => cases b3 with
            | true =>
              go_wp2
              go_ret
              exact ⟨false, rfl, (fun h => by cases h), hB1⟩
            | false => cases b4 with
              | false =>
                go_wp2
                go_roundw
                case rel => exact ⟨k + 1, by omega, by go_num, hB1⟩
                case measure => simp [intOf]; omega
              | true => cases b5 with
                | true =>
                  go_wp2
                  go_ret
                  exact ⟨false, rfl, (fun h => by cases h), hB1⟩
                | false => cases b6 with
                  | true =>
                    go_wp2
                    go_ret
                    exact ⟨false, rfl, (fun h => by cases h), hB1⟩
                  | false =>
                    go_wp2
                    go_roundw
                    case rel => exact ⟨k + 1, by omega, by go_num, hB1⟩
                    case measure => simp [intOf]; omega
      · obtain rfl : k = n := by omega
        go_wp2
        go_ret
        exact ⟨true, rfl, fun _ => HN, hB⟩

/-! ### plain -/
def bB (d : List UInt8) : Bl := ⟨⟨[], []⟩, d⟩
/-- Slots that are all full, each the first time. -/
def fl (ds : List (List UInt8)) : List (Sl Bl) := ds.map fun d => ⟨1, some (bB d)⟩
/-- So many handles of first things. -/
def hs (m : Nat) : List Int := (List.range m).map fun i => hOf 1 i
theorem hs_succ (m : Nat) : hs (m + 1) = hs m ++ [hOf 1 m] := by unfold hs; rw [List.range_succ, List.map_append]; rfl
theorem hs_at {m i : Nat} (h : i < m) : (hs m)[i]? = some (hOf 1 i) := by unfold hs; simp [h]
/-- The first k of them are emptied. -/
def emp (k : Nat) (ds : List (List UInt8)) : List (Sl Bl) := List.replicate k ⟨1, none⟩ ++ fl (ds.drop k)
theorem fl_free : ∀ ds : List (List UInt8), freeF (fl ds) = none
  | [] => rfl
  | d :: r => by
    have := fl_free r
    unfold fl at this ⊢
    rw [List.map_cons]
    unfold freeF
    rw [this]
    rfl
theorem fl_len (ds : List (List UInt8)) : (fl ds).length = ds.length := by unfold fl; simp
theorem fl_lenS (ds : List (List UInt8)) : lenS (fl ds) = ds.length := by
  unfold lenS
  rw [List.filter_eq_self.2 (fun a ha => by obtain ⟨d, _, rfl⟩ := List.mem_map.1 ha; rfl)]
  exact fl_len ds
theorem fl_n {ds : List (List UInt8)} : ∀ t ∈ fl ds, t.n = 1 := fun t ht => by obtain ⟨d, _, rfl⟩ := List.mem_map.1 ht; rfl
theorem fl_l {ds : List (List UInt8)} : ∀ t ∈ fl ds, ∀ y, t.x = some y → y.l = ⟨[], []⟩ := fun t ht y hy => by obtain ⟨d, _, rfl⟩ := List.mem_map.1 ht; cases hy; rfl
theorem fl_app (ds : List (List UInt8)) (d : List UInt8) : fl (ds ++ [d]) = fl ds ++ [⟨1, some (bB d)⟩] := by unfold fl; rw [List.map_append]; rfl
theorem put_long {ds : List (List UInt8)} {d : List UInt8} (h : 4096 < d.length) : tE (fl ds) (bB d) = 3 ∧ tL (fl ds) (bB d) = fl ds := by
  unfold tE tL
  rw [show (bB d).d.length = d.length from rfl, if_pos h, if_pos h]
  exact ⟨rfl, rfl⟩
theorem put_fits {ds : List (List UInt8)} {d : List UInt8} (h : ¬ 4096 < d.length) (h16 : ds.length < 16) : tE (fl ds) (bB d) = 0 ∧ tH (fl ds) (bB d) = hOf 1 ds.length ∧ tL (fl ds) (bB d) = fl (ds ++ [d]) := by
  unfold tE tH tL Brn.putE Brn.putHd Brn.putL
  rw [show (bB d).d.length = d.length from rfl, if_neg h, if_neg h, if_neg h, fl_free, fl_len]
  simp only [if_pos h16]
  exact ⟨trivial, trivial, (fl_app ds d).symm⟩
theorem put_full {ds : List (List UInt8)} {d : List UInt8} (h : ¬ 4096 < d.length) (h16 : ¬ ds.length < 16) : tE (fl ds) (bB d) = 6 ∧ tL (fl ds) (bB d) = fl ds := by
  unfold tE tL Brn.putE Brn.putL
  rw [show (bB d).d.length = d.length from rfl, if_neg h, if_neg h, fl_free, fl_len]
  simp only [if_neg h16]
  exact ⟨trivial, trivial⟩
theorem gl_at {ds : List (List UInt8)} {k : Nat} {d : List UInt8} (h : ds[k]? = some d) : (emp k ds)[k]? = some ⟨1, some (bB d)⟩ := by
  unfold emp
  rw [List.getElem?_append_right (by simp)]
  simp only [List.length_replicate, Nat.sub_self]
  unfold fl
  rw [List.getElem?_map, List.getElem?_drop, Nat.add_zero, h]
  rfl
theorem gl_len {ds : List (List UInt8)} {k : Nat} (h : k ≤ ds.length) : (emp k ds).length = ds.length := by
  unfold emp fl
  simp
  omega
theorem gl_find {ds : List (List UInt8)} {k : Nat} {d : List UInt8} (h : ds[k]? = some d) (h16 : ds.length ≤ 16) : findS (emp k ds) (hOf 1 k) = some k := by
  have hk := (List.getElem?_eq_some_iff.1 h).1
  exact (find_is (emp k ds) (hOf 1 k) k (by rw [gl_len (by omega)]; omega)).2 ⟨_, _, gl_at h, rfl, rfl⟩
theorem gl_get {ds : List (List UInt8)} {k : Nat} {d : List UInt8} (h : ds[k]? = some d) (h16 : ds.length ≤ 16) : Brn.getX (emp k ds) (hOf 1 k) = some (bB d) := by
  unfold Brn.getX
  simp only [gl_find h h16, gl_at h]
theorem gl_drop {ds : List (List UInt8)} {k : Nat} {d : List UInt8} (h : ds[k]? = some d) (h16 : ds.length ≤ 16) : dropS (emp k ds) (hOf 1 k) = emp (k + 1) ds := by
  have hk := (List.getElem?_eq_some_iff.1 h).1
  unfold dropS
  simp only [gl_find h h16, gl_at h]
  unfold emp
  rw [List.set_append_right _ _ (by simp)]
  simp only [List.length_replicate, Nat.sub_self]
  rw [List.drop_eq_getElem_cons hk]
  unfold fl
  rw [List.map_cons, List.set_cons_zero, List.replicate_succ', List.append_assoc]
  rfl
theorem fl_find {ds : List (List UInt8)} {k : Nat} {d : List UInt8} (h : ds[k]? = some d) (h16 : ds.length ≤ 16) : Brn.getX (fl ds) (hOf 1 k) = some (bB d) := by
  have hk := (List.getElem?_eq_some_iff.1 h).1
  have ha : (fl ds)[k]? = some ⟨1, some (bB d)⟩ := by unfold fl; rw [List.getElem?_map, h]; rfl
  have hf : findS (fl ds) (hOf 1 k) = some k := (find_is (fl ds) (hOf 1 k) k (by rw [fl_len]; omega)).2 ⟨_, _, ha, rfl, rfl⟩
  unfold Brn.getX
  simp only [hf, ha]
theorem tL_few {bl : List (Sl Bl)} {K : Nat} (h : ∀ t ∈ bl, t.n ≤ K) (y : Bl) : ∀ t ∈ tL bl y, t.n ≤ K + 1 := by
  unfold tL
  split
  · exact fun t ht => Nat.le_succ_of_le (h t ht)
  · exact put_few h y
theorem lab0 {S : Nat → Prop} {w : World} {q1 : Option Addr} {n1 c1 : Nat} {q2 : Option Addr} {n2 c2 : Nat} (h : LabIs w (.agg #[.slice q1 n1 c1, .slice q2 n2 c2]) ⟨[], []⟩) : In2 S q1 n1 q2 n2 := by
  obtain ⟨_, _, _, _, _, _, he, h1, h2⟩ := h
  cases he
  have e1 := (Frm.FrmIs.row h1).2.2.len
  have e2 := (Frm.FrmIs.row h2).2.2.len
  simp at e1 e2
  exact ⟨fun a _ h0 => by omega, fun a _ h0 => by omega⟩
/-- A table of blobs without labels where other cells are written. -/
theorem Tab.keep0 {S : Nat → Prop} {base p b : Nat} {v : Value} {sl : List (Sl Bx)} {bl : List (Sl Bl)} {w w' : World} (h : Tab base p b v sl bl w) (hk : Keep S w w') (hm : Mute S w) (hp : S p) (hb : S b) (hv : ∀ k, v.ownBlock = some k → S k)
    (ho : ∀ t ∈ bl, ∀ y, t.x = some y → y.l = ⟨[], []⟩) : Tab base p b v sl bl w' := by
  refine ⟨h.tb.keep hk hp, h.ar.keep hk hb hv, ⟨h.rd.len, h.rd.num, fun i s t x y h1 h2 h3 h4 => ?_⟩, h.lo, h.few, h.sz⟩
  obtain ⟨r1, r2⟩ := h.rd.rd i s t x y h1 h2 h3 h4
  have e := ho t (List.mem_of_getElem? h2) y h4
  have r3 := r1.1
  rw [e] at r3
  exact ⟨r1.from hk hm (lab0 r3), r2⟩
theorem info_hdl : (Tryz.prog.info? 39).map (fun i => (i.zero, i.size, i.bytes)) = some (some (.int .i64 0), 1, 8) := by kernel_rfl
theorem mt_i64 : ∀ (l : List Int), ∀ u ∈ l.map (Value.int .i64), Mt u := fun l u hu => by
  obtain ⟨n, _, rfl⟩ := List.mem_map.1 hu
  exact ⟨fun x h => (by cases h), fun n h => (by cases h)⟩
theorem grownB {base : Nat} {w w' : World} {row : Option Nat} (h : w.grownBy w' row) (hb : base ≤ w.heap.size) (hr : ∀ k, row = some k → base ≤ k) : Below base w w' := ⟨h.os, h.tape, h.output, h.size, fun k hk => h.block k (by omega) (fun e => by have := hr k e.symm; omega)⟩
theorem mt_row {v : Value} {w : World} (h : All Mt v w) : Mute (fun k => v.ownBlock ≠ some k) w := fun b i u hb hu => h b (Classical.byContradiction fun e => hb e) i u hu
end Go.Proofs.YtkjkfgmoogbdiaaGreatDoor.Blb

namespace Go.Proofs.YtkjkfgmoogbdiaaGreatDoor.Blb
open Go.RowKit Go.Shelf Go.Sort Url Org Cls Frm Lbl Arn Brn
attribute [local go_sem] Oper.semAt_some
set_option linter.unusedVariables false

set_option maxRecDepth 100000 in
set_option maxHeartbeats 8000000 in
theorem lawOfN_any (q : Option Addr) (n c : Nat) (t : List UInt8) (w : World) (hby : By w (.slice q n c) t) (hG : Gl w) :
    Calls Tryz.prog 10 #[.slice q n c] w fun e w' => ∃ q1 n1 c1 q2 n2 c2, e = .returned (.agg #[.slice q1 n1 c1, .slice q2 n2 c2]) ∧ LabIs w' (.agg #[.slice q1 n1 c1, .slice q2 n2 c2]) (labV (parseL (t.take 400))) ∧ In2 (w.heap.size ≤ ·) q1 n1 q2 n2 ∧ Below w.heap.size w w' := by
  obtain ⟨h1, h2, h3, h4, h5⟩ := hby.at
  obtain ⟨W, hW⟩ : ∃ W, w.alloc (.cells #[.slice none 0 0, .slice none 0 0] 37) = W := ⟨_, rfl⟩
  have A1 : Below w.heap.size w W := hW ▸ below_alloc _
  have b8 : LB w.heap.size #[.slice none 0 0, .slice none 0 0] W := hW ▸ LB.new w _
  have HSZ := Lib.hid (show W.heap.size = w.heap.size + 1 by rw [← hW]; simp)
  have HW := Lib.hid hW
  have hsub := hby.sub (Nat.zero_le (min n 400)) (Nat.min_le_left n 400)
  rw [subA_zero, Nat.sub_zero, Nat.sub_zero] at hsub
  have et : sub t 0 (min n 400) = t.take 400 := by
    unfold sub
    rw [List.drop_zero, Nat.sub_zero, ← h1]
    rcases Nat.le_total t.length 400 with h | h
    · rw [Nat.min_eq_left h, List.take_of_length_le h, List.take_of_length_le (Nat.le_refl _)]
    · rw [Nat.min_eq_right h]
  rw [et] at hsub
  have con := Lbl.Parse_any q (min n 400) c (t.take 400) W (hsub.on A1) (by omega) (fun _ => by have h1 := Frm.at_len 59 (t.take 400); rw [List.length_take] at h1; omega) (hG.on A1)
  have HM := Lib.hid (show (min (n : Int) 400).toNat = min n 400 by omega)
  obtain ⟨r, hr⟩ : ∃ r, parseL (t.take 400) = r := ⟨_, rfl⟩
  rw [hr] at con ⊢
  unfold LabOut at con
  obtain ⟨en, hen⟩ : ∃ n, labE r = n := ⟨_, rfl⟩
  obtain ⟨rv, hrv⟩ : ∃ v, labV r = v := ⟨_, rfl⟩
  rw [hen, hrv] at con
  rw [hrv]
  clear hW hsub et hr hG h5 hby h1 hen hrv
  go_enter Tryz.func10, Tryz.ntmps10
  go_wp2_with fail
  rw [HW.out, HM.out]
  refine con.mono ?_
  rintro e w2 ⟨q5, n5, c5, q6, n6, c6, rfl, f5, f6, k5, k6, hb⟩
  have A2 := A1.trans (hb.mono A1.size)
  have hba : Below w2.heap.size w2 (w2.alloc (.cells #[.slice q5 n5 c5, .slice q6 n6 c6] 37)) := below_alloc _
  have A3 := A2.trans (hba.mono A2.size)
  replace b8 := (b8.on hb).on hba
  have bx := LB.new w2 #[.slice q5 n5 c5, .slice q6 n6 c6]
  replace f5 := f5.below hba
  replace f6 := f6.below hba
  have K5 := Lib.hid (show ∀ a, q5 = some a → 0 < n5 → w.heap.size < a.block from fun a h h0 => by have := k5 a h h0; have := HSZ.out; omega)
  have K6 := Lib.hid (show ∀ a, q6 = some a → 0 < n6 → w.heap.size < a.block from fun a h h0 => by have := k6 a h h0; have := HSZ.out; omega)
  have kf0 := b8.frozen 0
  have kf1 := b8.frozen 1
  have z0 := b8.box 0 _ rfl
  have z1 := b8.box 1 _ rfl
  have x0 := bx.box 0 _ rfl
  have x1 := bx.box 1 _ rfl
  obtain ⟨Y, hY, bY, hkY, hBY⟩ := b8.put (.slice q5 n5 c5) (.slice q6 n6 c6)
  have A6 := A3.trans (hBY _ (Nat.le_refl _))
  have g5 := FrmIs.off f5 b8 (fun a h h0 => by have := K5.out a h h0; omega) (hkY _ (by simp))
  have g6 := FrmIs.off f6 b8 (fun a h h0 => by have := K6.out a h h0; omega) (hkY _ (by simp))
  have HY := Lib.hid hY
  clear con hb A1 HW k5 k6 hba hY f5 f6 bx
  go_wp2
  rw [HY.out]
  refine bodyPost_ret (ret_lab rfl _ _ w.heap.size _ rfl bY rfl) rfl ?_
  exact ⟨q5, n5, c5, q6, n6, c6, rfl, ⟨_, _, _, _, _, _, rfl, g5, g6⟩, ⟨fun a h h0 => by have := K5.out a h h0; omega, fun a h h0 => by have := K6.out a h h0; omega⟩, A6⟩


theorem of_liveN (w : World) (hG : Gl w) : Calls Tryz.prog 31 #[.string ⟨#[104, 116, 116, 112, 58, 47, 47, 97]⟩] w fun e w' => ∃ q1 n1 c1 q2 n2 c2, e = .returned (.tuple #[.agg #[.slice q1 n1 c1, .slice q2 n2 c2], .int .i64 0]) ∧ LabIs w' (.agg #[.slice q1 n1 c1, .slice q2 n2 c2]) liveL ∧
    In2 (w.heap.size ≤ ·) q1 n1 q2 n2 ∧ Below w.heap.size w w' := by
  have con := Lbl.Of_any liveA w (by decide) hG
  rw [show oneL liveA = .inr liveL by unfold oneL; rw [Prv.single_a]; rfl] at con
  refine con.mono ?_
  rintro e w' ⟨q1, n1, c1, q2, n2, c2, rfl, f1, f2, k1, k2, hb⟩
  exact ⟨q1, n1, c1, q2, n2, c2, rfl, ⟨_, _, _, _, _, _, rfl, f1, f2⟩, ⟨k1, k2⟩, hb⟩
theorem lab_s {w : World} {q1 : Option Addr} {n1 c1 : Nat} {q2 : Option Addr} {n2 c2 : Nat} {l : Lab} (h : LabIs w (.agg #[.slice q1 n1 c1, .slice q2 n2 c2]) l) : FrmIs w (.agg #[.slice q1 n1 c1]) l.s := by
  obtain ⟨_, _, _, _, _, _, he, h1, -⟩ := h
  cases he
  exact h1
def liveB : Bl := ⟨liveL, [120]⟩
theorem live_get : Brn.getX (tL [] liveB) 1024 = some liveB := rfl
theorem live_h : tH [] liveB = 1024 := rfl
theorem live_e : tE [] liveB = 0 := rfl
theorem live_few : ∀ t ∈ tL [] liveB, ∀ y, t.x = some y → Lbl.Few y.l := by
  intro t ht y hy
  have : tL [] liveB = [⟨1, some liveB⟩] := rfl
  rw [this] at ht
  obtain rfl := List.mem_singleton.1 ht
  cases hy
  exact liveL_few
theorem live_no : openE (some liveB) ⟨[], []⟩ [] = 7 := by
  show (if flowsBy [] liveB.l ⟨[], []⟩ then (0 : Int) else 7) = 7
  rw [show flowsBy [] liveB.l ⟨[], []⟩ = false by decide +kernel]
  rfl
theorem live_f : flowsBy [[liveA]] liveB.l ⟨[], []⟩ = true := by decide +kernel
theorem live_yes : openE (some liveB) ⟨[], []⟩ [[liveA]] = 0 := by
  show (if flowsBy [[liveA]] liveB.l ⟨[], []⟩ then (0 : Int) else 7) = 0
  rw [live_f]; rfl
theorem live_d : openD (some liveB) ⟨[], []⟩ [[liveA]] = [120] := by
  show (if flowsBy [[liveA]] liveB.l ⟨[], []⟩ then liveB.d else []) = [120]
  rw [live_f]; rfl
/-- A label in a box of its own outlives what a table writes. -/
theorem lx_wrote {base p b : Nat} {v v' : Value} {sl : List (Sl Bx)} {bl : List (Sl Bl)} {w w' : World} (h : Tab base p b v sl bl w) {B : Nat} {q1 : Option Addr} {n1 c1 : Nat} {q2 : Option Addr} {n2 c2 : Nat} {l : Lab} (hL : LX B q1 n1 c1 q2 n2 c2 l w) (hi : In2 (Els b v) q1 n1 q2 n2) (hw : Wrote b v v' w w') : LX B q1 n1 c1 q2 n2 c2 l w' :=
  ⟨BL.keep (t := 37) hL.1 hw.1 (h.oth (t := 37) hL.1 (by decide) (by decide)), lab_from hL.2 hw.1 (at_mute h.ar) hi⟩
theorem wrote_below {base p b : Nat} {v v' : Value} {sl : List (Sl Bx)} {bl : List (Sl Bl)} {w w' : World} {M : Nat} (h : Tab base p b v sl bl w) (hw : Wrote b v v' w w') (hM : M ≤ base) (hs : M ≤ w.heap.size) : Below M w w' :=
  (hw.1.mono fun k _ hk => ⟨by have := h.ar.lo; omega, fun e => by have := (h.ar.row.lt k e).1; omega⟩).below hs
set_option maxRecDepth 100000 in
set_option maxHeartbeats 16000000 in
theorem lives_any (w : World) (hG : Gl w) : Calls Tryz.prog 6 #[] w fun e w' => e = .returned (.bool true) ∧ Below w.heap.size w w' := by
  have kc := fun (w : World) (C : Array Value) (n c : Nat) => Lib.run_convert_bytes_const (P := Tryz.prog) w 30 5 C n c Tryz.underlying30 Tryz.underlying5
  have con := New_any w.heap.size w (Nat.le_refl _)
  have HG := Lib.hid hG
  clear hG
  go_enter Tryz.func6, Tryz.ntmps6
  go_wp2_with fail
  refine con.mono ?_
  rintro e X1 ⟨p, b, rfl, hT, -, -, hB⟩
  clear con
  have con := of_liveN X1 (HG.out.on hB)
  go_wp2_with fail
  refine con.mono ?_
  rintro e X2 ⟨q1, n1, c1, q2, n2, c2, rfl, hl, hi, hb⟩
  clear con
  have hT2 := hT.on hb
  have B2 := hB.trans (hb.mono hB.size)
  have hi2 : In2 (Els b (.slice none 0 0)) q1 n1 q2 n2 := hi.mono fun k hk => ⟨fun e => by have := hT.ar.bl.lt; have : X1.heap.size ≤ k := hk; omega, fun e => by cases e⟩
  obtain ⟨B0, hB0⟩ : ∃ B0, X2.heap.size = B0 := ⟨_, rfl⟩
  obtain ⟨X3, hX3⟩ : ∃ X3, X2.alloc (.cells #[.slice q1 n1 c1, .slice q2 n2 c2] 37) = X3 := ⟨_, rfl⟩
  have L3 : LX B0 q1 n1 c1 q2 n2 c2 liveL X3 := by rw [← hX3, ← hB0]; exact LX.new hl
  have hb3 : Below X2.heap.size X2 X3 := hX3 ▸ below_alloc _
  have T3 := hT2.on hb3
  have B3 := B2.trans (hb3.mono B2.size)
  have HX3 := Lib.hid hX3
  have HB0 := Lib.hid hB0
  clear hX3 hB0 hl hi hT hT2 hb hB B2 hb3
  have l0 := L3.c0
  have l1 := L3.c1
  obtain ⟨X4, hX4⟩ : ∃ X4, X3.alloc (.cells #[.int .u8 120] 5 (1, 2)) = X4 := ⟨_, rfl⟩
  have hb4 : Below X3.heap.size X3 X4 := hX4 ▸ below_alloc _
  have by4 : By X4 (.slice (some ⟨X3.heap.size, 0, none⟩) 1 1) [120] := by rw [← hX4]; exact Hdr.by_lit X3 #[.int .u8 120] [120] (1, 2) 1 rfl rfl (by decide)
  have T4 := T3.on hb4
  have L4 := L3.on hb4
  have B4 := B3.trans (hb4.mono B3.size)
  have con := TPut_any w.heap.size p b (.slice none 0 0) _ [] ⟨q1, n1, c1, q2, n2, c2, some ⟨X3.heap.size, 0, none⟩, 1, 1⟩ liveB X4 T4 ⟨L4.2, by4⟩ hi2 (fun t ht => by cases ht) B4.size
  unfold TPutOut at con
  rw [live_h, live_e] at con
  have HX4 := Lib.hid hX4
  clear hX4 hb4 by4 T3 L3 B3
  go_upto_region 3 with fail
  rewrite [HX3.out, HB0.out]
  go_wp2_with fail
  rewrite [HX4.out]
  refine con.mono ?_
  rintro e X5 ⟨rfl, v5, sl5, T5, W5⟩
  clear con kc l0 l1
  have L5 := lx_wrote T4 L4 hi2 W5
  have B5 := B4.trans (wrote_below T4 W5 (Nat.le_refl _) B4.size)
  clear T4 L4 B4 W5 hi2 HX4 HX3 HB0
  have con := Lbl.Open_any X5
  go_wp2_with fail
  refine con.mono ?_
  rintro e X6 ⟨v6, rfl, hl6, hb⟩
  clear con
  obtain ⟨a1, a2, a3, a4, a5, a6, rfl⟩ := lab_form hl6
  have T6 := T5.on hb
  have L6 := L5.on hb
  have B6 := B5.trans (hb.mono B5.size)
  clear T5 L5 B5 hb
  have con := Prv.always_obj X6
  go_wp2_with fail
  refine con.mono ?_
  rintro e X7 ⟨v7, rfl, hf7, hb⟩
  clear con
  obtain ⟨d1, d2, d3, rfl⟩ := frm_form hf7
  have T7 := T6.on hb
  have L7 := L6.on hb
  have B7 := B6.trans (hb.mono B6.size)
  have con := TOpen_any w.heap.size p b v5 sl5 (tL [] liveB) 1024 a1 a2 a3 a4 a5 a6 d1 d2 d3 ⟨[], []⟩ [] X7 T7 ⟨by decide, by decide⟩ (hl6.below hb) hf7 open_few (by decide) live_few
  unfold OpenOut at con
  rw [live_get, live_no] at con
  clear T6 L6 B6 hb hl6 hf7
  go_wp2_with fail
  refine con.mono ?_
  rintro e X8 ⟨q8, n8, c8, rfl, -, hb⟩
  clear con
  have T8 := T7.on hb
  have L8 := L7.on hb
  have B8 := B7.trans (hb.mono B7.size)
  clear T7 L7 B7 hb
  obtain ⟨Z, hZ⟩ : ∃ Z, X8.drew = Z := ⟨_, rfl⟩
  have hd : Below X8.heap.size X8 Z := hZ ▸ (Below.refl _ _).drew
  have TZ := T8.on hd
  have LZ := L8.on hd
  have BZ := B8.trans (hd.mono B8.size)
  have HZ := Lib.hid hZ
  clear hZ hd T8 L8 B8
  have z0 := LZ.c0
  have con := Lbl.Open_any Z
  go_wp2_with fail
  refine pregion_any (fun X => X.cell? ⟨B0, 0, none⟩ = some (.slice q1 n1 c1)) (by kernel_rfl) ?_
  rw [HZ.out]
  refine wpAnyH_take (i := 0) (v := (.pointer (some ⟨p, 0, none⟩))) rfl (by kernel_rfl) (by kernel_rfl) (by kernel_rfl) (fun _ _ _ h => h) (.inl ⟨by kernel_rfl, ?_⟩) z0 ?_
  · rintro w h0; go_simp <;> omega
  refine plist #[true, false, false, false, false, false, false, false, false, false, false] (by kernel_rfl) ?_
  refine wpAnyH_take (i := 1) (v := (.int .i64 1024)) rfl (by kernel_rfl) (by kernel_rfl) (by kernel_rfl) (fun _ _ _ h => h) (.inl ⟨by kernel_rfl, ?_⟩) z0 ?_
  · rintro w h0; go_simp <;> omega
  refine plist #[true, true, false, false, false, false, false, false, false, false, false] (by kernel_rfl) ?_
  refine wpAnyH_take (i := 3) (v := (.pointer (some ⟨B0, 0, none⟩))) rfl (by kernel_rfl) (by kernel_rfl) (by kernel_rfl) (fun _ _ _ h => h) (.inl ⟨by kernel_rfl, ?_⟩) z0 ?_
  · rintro w h0; go_simp <;> omega
  refine plist #[true, true, false, true, false, false, false, false, false, false, false] (by kernel_rfl) ?_
  refine wpAnyH_take (i := 4) (v := (.agg #[.slice q1 n1 c1])) rfl (by kernel_rfl) (by kernel_rfl) (by kernel_rfl) (fun _ _ _ h => h) (.inl ⟨by kernel_rfl, ?_⟩) z0 ?_
  · rintro w h0; go_simp <;> omega
  refine plist #[true, true, false, true, true, false, false, false, false, false, false] (by kernel_rfl) ?_
  refine pone 2 (by kernel_rfl) rfl fun K hK => ?_
  go_simp
  refine con.mono ?_
  rintro e X9 ⟨v9, rfl, hl9, hb⟩
  clear con
  obtain ⟨a1, a2, a3, a4, a5, a6, rfl⟩ := lab_form hl9
  have T9 := TZ.on hb
  have L9 := LZ.on hb
  have B9 := BZ.trans (hb.mono BZ.size)
  replace z0 := L9.c0
  have con := TOpen_any w.heap.size p b v5 sl5 (tL [] liveB) 1024 a1 a2 a3 a4 a5 a6 q1 n1 c1 ⟨[], []⟩ [[liveA]] X9 T9 ⟨by decide, by decide⟩ hl9 (lab_s L9.2) open_few (by decide) live_few
  unfold OpenOut at con
  rw [live_get, live_yes, live_d] at con
  clear TZ LZ BZ hb hl9
  refine hK _ _ z0 ?_
  clear hK K
  refine plist #[true, true, true, true, true, false, false, false, false, false, false] (by kernel_rfl) ?_
  refine pone 5 (by kernel_rfl) rfl fun K hK => ?_
  go_simp
  refine con.mono ?_
  rintro e X10 ⟨q10, n10, c10, rfl, hr, hb⟩
  clear con
  have L10 := L9.on hb
  have HB10 := Lib.hid (B9.trans (hb.mono B9.size))
  have HR := Lib.hid hr
  replace z0 := L10.c0
  clear T9 L9 B9 hb hr L10
  refine hK _ _ z0 ?_
  clear hK K
  refine plist #[true, true, true, true, true, true, false, false, false, false, false] (by kernel_rfl) ?_
  refine pone 6 (by kernel_rfl) rfl fun K hK => ?_
  go_simp
  refine hK _ _ z0 ?_
  clear hK K
  refine plist #[true, true, true, true, true, true, true, false, false, false, false] (by kernel_rfl) ?_
  refine wpAnyH_take (i := 7) (v := (.slice q10 n10 c10)) rfl (by kernel_rfl) (by kernel_rfl) (by kernel_rfl) (fun _ _ _ h => h) (.inl ⟨by kernel_rfl, ?_⟩) z0 ?_
  · rintro w h0; go_simp <;> omega
  refine plist #[true, true, true, true, true, true, true, true, false, false, false] (by kernel_rfl) ?_
  refine wpAnyH_take (i := 8) (v := (.int .i64 0)) rfl (by kernel_rfl) (by kernel_rfl) (by kernel_rfl) (fun _ _ _ h => h) (.inl ⟨by kernel_rfl, ?_⟩) z0 ?_
  · rintro w h0; go_simp <;> omega
  refine plist #[true, true, true, true, true, true, true, true, true, false, false] (by kernel_rfl) ?_
  refine pone 9 (by kernel_rfl) rfl fun K hK => ?_
  go_simp
  refine hK _ _ z0 ?_
  clear hK K
  refine plist #[true, true, true, true, true, true, true, true, true, true, false] (by kernel_rfl) ?_
  refine pone 10 (by kernel_rfl) rfl fun K hK => ?_
  go_simp
  refine hK _ _ z0 ?_
  clear hK K
  refine pdone (by kernel_rfl) ?_ _
  have hcv := Cls.conv_by HR.out.by
  clear z0
  go_wp2
  go_ret
  exact ⟨rfl, HB10.out⟩
end Go.Proofs.YtkjkfgmoogbdiaaGreatDoor.Blb
