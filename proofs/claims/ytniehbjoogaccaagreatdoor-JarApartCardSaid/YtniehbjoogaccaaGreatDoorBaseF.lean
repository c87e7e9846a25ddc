/- The texts that these laws rest on, put together, part 6. Conditions: as each says. -/
import Derived.Test.YtniehbjoogaccaaGreatDoorBaseE
import Derived.Sort.CutIn
import Derived.Lib.OwnBridge
namespace Go.Proofs.YtniehbjoogaccaaGreatDoor.Jar
open Go.RowKit Go.Shelf Url Go.Sort
attribute [local go_sem] Oper.semAt_some
set_option linter.unusedVariables false
def KArg (_RB : Nat → Prop) (k : Key) (args : Array Value) (G : Nat → Prop) (_W : World) : Prop := args = #[MapO.keyV k] ∧ G = fun _ => False
def WayK (ks pre : List Key) : Prop := ∃ left, (pre ++ left).Perm ks
def EndK (ks ys : List Key) : Prop := ys.Perm ks
theorem way_stepK {ks pre left : List Key} {k : Key} (h : (pre ++ left).Perm ks) (hn : ks.Nodup) (hk : k ∈ left) : ((pre ++ [k]) ++ left.filter fun x => decide (x ≠ k)).Perm ks := by
  have hnd : (pre ++ left).Nodup := (h.nodup_iff).2 hn
  have hl : left.Nodup := (List.nodup_append.1 hnd).2.1
  have hp : (k :: left.filter fun x => decide (x ≠ k)).Perm left := by
    clear h hnd
    induction left with
    | nil => cases hk
    | cons y r ih =>
      rw [List.nodup_cons] at hl
      by_cases hy : y = k
      · subst hy
        rw [List.filter_cons_of_neg (by simp), List.filter_eq_self.2 (fun x hx => by simp only [decide_eq_true_eq]; exact fun e => hl.1 (e ▸ hx))]
      · have hkr : k ∈ r := (List.mem_cons.1 hk).resolve_left (fun e => hy e.symm)
        rw [List.filter_cons_of_pos (by simpa using hy)]
        exact (List.Perm.swap y k _).trans ((ih hkr hl.2).cons y)
  rw [List.append_assoc]
  exact (List.Perm.append_left pre hp).trans h
theorem run_range_nil {P : Program} {T K E : TypeId} (hT : P.underlying T = some (.map K E)) (w : World) : (Instr.range T (.map none)).run P w = .ok (.pointer (some ⟨w.heap.size, 0, none⟩)) (w.alloc (.mapIter none 0 #[] 0)) := by
  simp [Instr.range, run_underlying hT]
theorem run_next_nil {P : Program} {w : World} {r : Nat} (h : w.heap[r]? = some (.mapIter none 0 #[] 0)) (ty : TypeId) : (Instr.next (.pointer (some ⟨r, 0, none⟩)) false ty).run P w = .ok (.tuple #[.bool false]) w := by
  simp only [Instr.next, getObj, Sem.run_bind, Sem.run, h, Result.andThen]
  rfl
set_option maxRecDepth 100000 in
set_option maxHeartbeats 4000000 in
theorem Keys1_some (B b : Nat) (ks : List Key) (f : Key → Value) (RB : Nat → Prop) (w0 : World) (hM : MapO.MapAt w0 b ks f) (hb : RB b) (hB : Boxed w0 B 83 (.map (some b))) (hRB : RB B) (hRs : ∀ k, RB k → k < w0.heap.size) :
    IterP Tryz.prog 162 #[.pointer (some ⟨B, 0, none⟩)] (KArg RB) (WayK ks) (EndK ks) RB w0 := by
  intro l' J Jx W hW hJ hJx hY h0
  refine (callsIn_wide (n := 1)).1 ?_
  refine callsIn_of_wp Tryz.func162 rfl trivial ?_ rfl
  simp only [Tryz.ntmps162, List.size_toArray, List.length_cons, List.length_nil, Nat.reduceAdd, Nat.reduceSub, Array.replicate_succ, Array.replicate_zero, List.push_toArray, List.append_toArray, List.nil_append, List.cons_append]
  have bB := (hW.boxed hB hRB).cell
  have hMW := hM.keep hW hb
  have hnd := Lib.hid hMW.nodup
  obtain ⟨W1, hr, hI, hbl, hs1⟩ := MapO.range_map hMW Tryz.underlying83
  have hbW : b < W.heap.size := hMW.lt
  have hRW : ∀ k, RB k → k < W.heap.size := fun k hk => Nat.lt_of_lt_of_le (hRs k hk) hW.size
  have j1 : J [] (fun k => k = W.heap.size) W1 := hJ _ _ _ _ _ h0 ((Keep.of_below hbl).mono fun k hk _ => hk) (fun k hk => ⟨.inr (Nat.le_of_eq hk.symm), by omega⟩)
  have k1 : Keep RB W W1 := (Keep.of_below hbl).mono fun k hk _ => hk
  have HY := Lib.hid hY
  clear hM hMW hB hbl hY
  gi_wp2
  gi_loopw [3] (fun s wr => Keep RB W wr ∧ ∃ pre left : List Key, ∃ Q : Nat → Prop, J pre Q wr ∧ (∀ k, Q k → k < wr.heap.size) ∧ Q W.heap.size ∧ MapO.IterAt wr b W.heap.size ks f left ∧ Hid ((pre ++ left).Perm ks)) (fun _ wr => MapO.iterLeft wr b W.heap.size)
  case atStart => exact ⟨k1, [], ks, _, j1, (fun k hk => by omega), rfl, hI, Lib.hid (List.Perm.refl _)⟩
  case round =>
    obtain ⟨hKr, pre, left, Q, hj, hQl, hQr, hIr, HP⟩ := hrel
    rcases MapO.next_map (P := Tryz.prog) hIr (by omega) 0 with ⟨rfl, hn⟩ | ⟨k, hkl, W2, hn, hI2, hen, hk2, hs2⟩
    · clear hr
      gi_wp2
      refine bodyPost_end (results_none rfl _ _ _) rfl ?_
      exact ⟨⟨_, rfl⟩, Q, hQl, .inl ⟨pre, by have := HP.out; rwa [List.append_nil] at this, hj⟩⟩
    · obtain ⟨X2, hX2⟩ : ∃ X, W2.alloc (.cells #[.string ⟨k.1.toArray⟩, .string ⟨k.2.1.toArray⟩, .int .i64 k.2.2, .int .i64 0] 62) = X := ⟨_, rfl⟩
      have hal : ∀ S, Keep S W2 X2 := fun S => by rw [← hX2]; exact Keep.alloc S _ _
      have hsx : X2.heap.size = W2.heap.size + 1 := by rw [← hX2]; simp
      have j2 := hJ _ _ Q _ _ hj ((hk2 (fun k => ¬ Q k) (fun h => h hQr)).trans (hal _)) (fun k hk => ⟨.inl hk, by have := hQl k hk; omega⟩)
      have hQ2 : ∀ k, Q k → k < X2.heap.size := fun k hk => by have := hQl k hk; omega
      have HP2 := Lib.hid (way_stepK HP.out hnd.out hkl)
      have hKr2 : Keep RB W X2 := (hKr.trans (hk2 RB (fun h => by have := hRW _ h; omega))).trans (hal _)
      have hmeas : (left.filter fun x => decide (x ≠ k)).length < left.length := List.length_filter_lt_length_iff_exists.2 ⟨k, hkl, by simp⟩
      have HM := Lib.hid (show MapO.iterLeft wr b W.heap.size = left.length from hIr.left_eq)
      obtain ⟨fn, tmps, assign, body, hy, hR⟩ := HY.out pre k Q (fun _ => False) #[MapO.keyV k] X2 ⟨_, HP2.out⟩ j2 hQ2 ⟨rfl, rfl⟩ (fun _ h => h.elim)
      have HL := Lib.hid hmeas
      have HI2 := Lib.hid (hI2.keep (hal (fun _ => True)) trivial trivial)
      have HX := Lib.hid hX2
      unfold MapO.keyV Org.orgV at hn hen hy
      rw [← hX2] at hy hR
      clear hr hj j2 hkl hk2 hs2 hIr hI2 hmeas hQl hX2 hal
      gi_wp2_with fail
      refine hR.mono ?_
      rintro e W5 ⟨hk5, hpost⟩
      rw [HX.out] at hk5
      have hI5 := HI2.out.keep hk5 (.inl hb) (.inr ⟨hQr, fun h => h⟩)
      have hQ5 : ∀ k, (Q k ∧ ¬ False) → k < W5.heap.size := fun k hk => Nat.lt_of_lt_of_le (hQ2 k hk.1) hk5.size
      have hK5 : Keep RB W W5 := hKr2.trans (hk5.mono fun k _ h => .inl h)
      clear hR hy hn hen hk5
      rcases hpost with ⟨rfl, j5⟩ | ⟨rfl, j5⟩
      · gi_wp2
        go_roundw
        case rel => exact ⟨hK5, _, _, _, j5, hQ5, ⟨hQr, fun h => h⟩, hI5, HP2⟩
        case measure => rw [hI5.left_eq, HM.out]; exact HL.out
      · gi_wp2
        refine bodyPost_ret (results_none rfl _ _ _) rfl ?_
        exact ⟨⟨_, rfl⟩, _, hQ5, .inr ⟨pre ++ [k], ⟨_, HP2.out⟩, j5⟩⟩
set_option maxRecDepth 100000 in
set_option maxHeartbeats 4000000 in
theorem Keys1_none (B : Nat) (RB : Nat → Prop) (w0 : World) (hB : Boxed w0 B 83 (.map none)) (hRB : RB B) (hRs : ∀ k, RB k → k < w0.heap.size) :
    IterP Tryz.prog 162 #[.pointer (some ⟨B, 0, none⟩)] (KArg RB) (WayK []) (EndK []) RB w0 := by
  intro l' J Jx W hW hJ hJx hY h0
  refine (callsIn_wide (n := 1)).1 ?_
  refine callsIn_of_wp Tryz.func162 rfl trivial ?_ rfl
  simp only [Tryz.ntmps162, List.size_toArray, List.length_cons, List.length_nil, Nat.reduceAdd, Nat.reduceSub, Array.replicate_succ, Array.replicate_zero, List.push_toArray, List.append_toArray, List.nil_append, List.cons_append]
  have bB := (hW.boxed hB hRB).cell
  have hr := run_range_nil (P := Tryz.prog) Tryz.underlying83 W
  obtain ⟨W1, hW1⟩ : ∃ W1, W.alloc (.mapIter none 0 #[] 0) = W1 := ⟨_, rfl⟩
  have hit : W1.heap[W.heap.size]? = some (.mapIter none 0 #[] 0) := by rw [← hW1]; exact World.alloc_heap_new W _
  have hn := run_next_nil (P := Tryz.prog) hit 0
  have hs1 : W1.heap.size = W.heap.size + 1 := by rw [← hW1]; simp
  have j1 : J [] (fun k => k = W.heap.size) W1 := hJ _ _ _ _ _ h0 (by rw [← hW1]; exact Keep.alloc _ _ _) (fun k hk => ⟨.inr (Nat.le_of_eq hk.symm), by omega⟩)
  rw [hW1] at hr
  have HJ := Lib.hid j1
  clear hY h0 hB hW1 hit j1
  gi_wp2
  gi_loopw [3] (fun s wr => wr = W1) (fun _ wr => 0)
  case atStart => rfl
  case round =>
    subst hrel
    gi_wp2
    refine bodyPost_end (results_none rfl _ _ _) rfl ?_
    exact ⟨⟨_, rfl⟩, _, (fun k hk => by omega), .inl ⟨[], List.Perm.refl _, HJ.out⟩⟩
theorem Keys_any (mv : Option Nat) (w : World) :
    Calls Tryz.prog 124 #[.map mv] w fun e w' => e = .returned (.func (.func 162) #[] #[.pointer (some ⟨w.heap.size, 0, none⟩)]) ∧ w' = w.alloc (.cells #[.map mv] 83) := by
  go_enter Tryz.func124, Tryz.ntmps124
  go_wp2
  go_ret
  exact ⟨rfl, rfl⟩
theorem keys_iter (mv : Option Nat) (pb : Nat) (ks : List Key) (f : Key → Value) (w : World) (hM : MapV w pb mv ks f) : ∃ RB : Nat → Prop,
    IterP Tryz.prog 162 #[.pointer (some ⟨w.heap.size, 0, none⟩)] (KArg RB) (WayK ks) (EndK ks) RB (w.alloc (.cells #[.map mv] 83)) ∧ (∀ k, RB k → k < (w.alloc (.cells #[.map mv] 83)).heap.size) := by
  cases mv with
  | none =>
    rw [show ks = [] from hM]
    exact ⟨fun k => k = w.heap.size, Keys1_none w.heap.size _ _ (Boxed.new w _ _) rfl (fun k hk => by rw [World.size_alloc]; omega), fun k hk => by rw [World.size_alloc]; omega⟩
  | some b =>
    have hlt := hM.2.lt
    exact ⟨fun k => k = w.heap.size ∨ k = b, Keys1_some w.heap.size b ks f _ _ (hM.2.on (below_alloc _)) (.inr rfl) (Boxed.new w _ _) (.inl rfl) (fun k hk => by rw [World.size_alloc]; omega), fun k hk => by rw [World.size_alloc]; omega⟩
def orgC (k : Key) : List Value := [.string ⟨k.1.toArray⟩, .string ⟨k.2.1.toArray⟩, .int .i64 k.2.2, .int .i64 0]
theorem orgC_len (ks : List Key) : (ks.flatMap orgC).length = ks.length * 4 := by
  induction ks with
  | nil => rfl
  | cons k r ih => rw [List.flatMap_cons, List.length_append, ih, List.length_cons]; show 4 + _ = _; omega
theorem orgC_one (k : Key) : ∀ u ∈ orgC k, u.oneCell' = true := by
  intro u hu
  simp only [orgC, List.mem_cons, List.not_mem_nil, or_false] at hu
  rcases hu with rfl | rfl | rfl | rfl <;> rfl
theorem info_org : (Tryz.prog.info? 62).map (fun i => (i.zero, i.size, i.bytes)) = some (some (.agg #[.string ⟨#[]⟩, .string ⟨#[]⟩, .int .i64 0, .int .i64 0]), 4, 48) := by kernel_rfl
def ColK (Bo : Nat) (RB : Nat → Prop) (W0 : World) (pre : List Key) (Pv : Nat → Prop) (W : World) : Prop :=
  ∃ v, Boxed W Bo 170 v ∧ W.ownsRow W0.heap.size 62 4 v pre.length (pre.flatMap orgC) ∧ (∀ b, Pv b → W0.heap.size ≤ b) ∧ (∀ b, v.ownBlock = some b → ¬ Pv b) ∧ Keep RB W0 W
theorem ColK_abide (Bo : Nat) (RB : Nat → Prop) (W0 : World) (hBo : Bo < W0.heap.size) (hRB : ∀ b, RB b → b < W0.heap.size) : Abide (ColK Bo RB W0) := by
  rintro pre Pv Pv' A B ⟨v, h1, h2, h3, h5, h6⟩ hk hp
  have hs := h6.size
  refine ⟨v, hk.boxed h1 (fun h => by have := h3 _ h; omega), hk.row h2 h5, fun b hb => ?_, fun b hb hp' => ?_, h6.trans (hk.mono fun b _ hb hpb => by have := h3 b hpb; have := hRB b hb; omega)⟩
  · rcases (hp b hb).1 with h | h
    · exact h3 b h
    · omega
  · rcases (hp _ hp').1 with h | h
    · exact h5 b hb h
    · have := (h2.lt b hb).2; omega
theorem keys_form {w : World} {base n : Nat} {v : Value} {xs : List Value} (h : w.ownsRow base 62 4 v n xs) : ∃ q m c, Hid (m = n) ∧ v = .slice q m c := by
  rcases h.2 with ⟨rfl, rfl⟩ | ⟨g, cap, cur, rfl, -⟩
  · exact ⟨none, 0, 0, Lib.hid rfl, rfl⟩
  · exact ⟨_, n, cap, Lib.hid rfl, rfl⟩
set_option maxRecDepth 100000 in
set_option maxHeartbeats 4000000 in
theorem AppendSeq_key (gf : Nat) (lb : Array Value) (ks : List Key) (RB : Nat → Prop) (w : World) (eg : ∀ args w, (callFunc gf args).run Tryz.prog w = .ok (.enter gf args) w)
    (hi : IterP Tryz.prog gf lb (KArg RB) (WayK ks) (EndK ks) RB w) (hRs : ∀ b, RB b → b < w.heap.size) (hN : ks.length ≤ 1099511627776) :
    Calls Tryz.prog 191 #[.slice none 0 0, .func (.func gf) #[] lb] w fun e w' => ∃ (v : Value) (ys : List Key), e = .returned v ∧ ys.Perm ks ∧ w'.ownsRow w.heap.size 62 4 v ys.length (ys.flatMap orgC) ∧ Below w.heap.size w w' := by
  obtain ⟨i0, hi0, hz0, hz1, hz2⟩ := info_parts info_org
  refine (callsIn_wide (n := 1)).1 ?_
  refine callsIn_of_wp_marks Tryz.func191 rfl trivial ?_ rfl
  simp only [Tryz.ntmps191, List.size_toArray, List.length_cons, List.length_nil, Nat.reduceAdd, Nat.reduceSub, Array.replicate_succ, Array.replicate_zero, List.push_toArray, List.append_toArray, List.nil_append, List.cons_append]
  gi_wp2
  obtain ⟨W0, hW0⟩ : ∃ W0, w.alloc (.cells #[.slice none 0 0] 170) = W0 := ⟨_, rfl⟩
  have b0 : Boxed W0 w.heap.size 170 (.slice none 0 0) := by rw [← hW0]; exact Boxed.new w _ _
  have hB0 : Below w.heap.size w W0 := by rw [← hW0]; exact below_alloc _
  have hs0 : W0.heap.size = w.heap.size + 1 := by rw [← hW0]; simp
  rw [hW0]
  clear hW0
  have hRl : ∀ b, RB b → b < W0.heap.size := fun b hb => by have := hRs b hb; omega
  refine rf_lawP (gf := gf) (lb := lb) rfl eg hi ((Keep.of_below hB0).mono fun b _ hb => hRs b hb) hRl (fun x args G W h => by rw [h.1]; rfl)
    (ColK w.heap.size (fun b => b < w.heap.size) W0) (fun _ _ _ _ => False) (ColK_abide _ _ _ (by omega) (fun b hb => by omega)) (fun _ _ _ _ _ _ h _ _ => h)
    ⟨_, b0, World.ownsRow_nil _ _ _ _, (fun _ h => h.elim), (fun _ h => by cases h), Keep.refl _ _⟩ ?round ?done ?stop
  case round =>
    rintro ll pre t Pv G args Wr hll ⟨left, hway⟩ ⟨v, hbx, hrow, hge, hnv, hKW⟩ hPl hGl hPb hGP ⟨rfl, rfl⟩
    have hlen : pre.length + 1 ≤ ks.length := by have := hway.length_eq; simp at this; omega
    have hpl : pre.length + 1 ≤ 1099511627776 := by omega
    clear hlen hway
    unfold MapO.keyV Org.orgV
    obtain ⟨W1, hW1⟩ : ∃ W1, Wr.alloc (.cells #[.string ⟨t.1.toArray⟩, .string ⟨t.2.1.toArray⟩, .int .i64 t.2.2, .int .i64 0] 62) = W1 := ⟨_, rfl⟩
    have bT : Box Wr.heap.size #[.string ⟨t.1.toArray⟩, .string ⟨t.2.1.toArray⟩, .int .i64 t.2.2, .int .i64 0] W1 := by rw [← hW1]; exact Box.new Wr _ _
    have k1 : ∀ S, Keep S Wr W1 := fun S => by rw [← hW1]; exact Keep.alloc S _ _
    have hs1 : W1.heap.size = Wr.heap.size + 1 := by rw [← hW1]; simp
    have HW1 := Lib.hid hW1
    clear hW1
    gi_wp2
    rw [HW1.out]
    refine ⟨k1 _, fun W2 hk2 hs2 r hr => ?_⟩
    have hlw := hPb ll hPl
    have hlg := hge ll hPl
    have hrl := hKW.size
    have k12 : Keep (fun b => b ≠ ll) Wr W2 := (k1 _).trans hk2
    have hs2' : W2.heap.size = Wr.heap.size + 1 := by first | exact hs2 | exact hs2.trans hs1
    have hbx2 : Boxed W2 w.heap.size 170 v := k12.boxed hbx (by omega)
    have hrow2 := k12.row hrow (fun b hb e => hnv b hb (e ▸ hPl))
    have bT2 : Box Wr.heap.size #[.string ⟨t.1.toArray⟩, .string ⟨t.2.1.toArray⟩, .int .i64 t.2.2, .int .i64 0] W2 := fun i x hx => (World.cell?_of_block (hk2.block Wr.heap.size (by omega) (by omega))).trans (bT i x hx)
    have hcT2 : ∀ j u, (orgC t)[j]? = some u → (W2.alloc (.cells #[.string ⟨t.1.toArray⟩, .string ⟨t.2.1.toArray⟩, .int .i64 t.2.2, .int .i64 0] 62)).cell? ((⟨W2.heap.size, 0, none⟩ : Addr).add j) = some u := fun j u hu => by
      rw [Go.WideShapes.add_plain, Nat.zero_add]
      exact Box.new W2 #[.string ⟨t.1.toArray⟩, .string ⟨t.2.1.toArray⟩, .int .i64 t.2.2, .int .i64 0] 62 j u (by simpa [orgC] using hu)
    have hnP : ∀ b, b < W0.heap.size → ¬ Pv b := fun b hb h => by have := hge b h; omega
    have hK2 : Keep (fun b => b < w.heap.size) W0 W2 := hKW.trans (k12.mono fun b _ hb => by omega)
    have cB := hbx2.cell
    have t0 : W2.cell? ⟨Wr.heap.size, 0, none⟩ = some (.string ⟨t.1.toArray⟩) := bT2 0 _ rfl
    have t1 : W2.cell? ⟨Wr.heap.size, 1, none⟩ = some (.string ⟨t.2.1.toArray⟩) := bT2 1 _ rfl
    have t2 : W2.cell? ⟨Wr.heap.size, 2, none⟩ = some (.int .i64 t.2.2) := bT2 2 _ rfl
    have t3 : W2.cell? ⟨Wr.heap.size, 3, none⟩ = some (.int .i64 0) := bT2 3 _ rfl
    obtain ⟨S, hS⟩ : ∃ S : Nat → Prop, S = fun b => RB b ∨ Pv b ∨ b < w.heap.size := ⟨_, rfl⟩
    have hSv : ∀ b, v.ownBlock = some b → ¬ S b := fun b hb hb2 => by
      have h1 := hrow.lt b hb
      rw [hS] at hb2
      rcases hb2 with h | h | h
      · have := hRl b h; omega
      · exact hnv b hb h
      · omega
    have hSB : ¬ S w.heap.size := fun hb => by
      rw [hS] at hb
      rcases hb with h | h | h
      · have := hRs _ h; omega
      · exact hnP _ (by omega) h
      · omega
    have hSl : ∀ b, S b → b < W2.heap.size := fun b hb => by
      rw [hS] at hb
      rcases hb with h | h | h
      · have := hRl b h; omega
      · have := hPb b h; omega
      · omega
    have HSS := Lib.hid hS
    have HGE := Lib.hid (And.intro hge (And.intro hK2 k12))
    have hszW : W0.heap.size ≤ W2.heap.size + 1 := by omega
    have HS2 := Lib.hid hs2'
    clear hS hk2 hs2 hr k12 hbx bT bT2 hge hKW k1 hPb hGP hs1 hs2'
    gi_wp2_with (gi_at_builtin; refine wpListIn_append_own_at _ rfl _ _ 170 rfl W0.heap.size 62 i0 (.agg #[.string ⟨#[]⟩, .string ⟨#[]⟩, .int .i64 0, .int .i64 0]) 4 48 Tryz.underlying170 hi0 hz0 hz1 hz2 rfl (by decide) _ _ _ rfl (hrow2.alloc _) ⟨W2.heap.size, 0, none⟩ 1 1 (orgC t) rfl rfl hcT2 (orgC_one t) (by unfold maxLen; omega) (by omega) (by simp; omega) ?_; intro v' w1 hown' hgrow _ hat; obtain ⟨q', n', k', hn', rfl⟩ := keys_form hown'; obtain ⟨hv1, hv2, hr2, hkk⟩ := appended_keep (S := S) hbx2 (by decide) hrow2 hSB hSv hown' hgrow; have hc1 := hv1.cell; have hf1 := hv1.frozen)
    refine ⟨hkk.mono fun b _ h => ?_, _, hv2, ?_, fun b hb => HGE.out.1 b hb, fun b hb hp => ?_, HGE.out.2.1.trans (hkk.mono fun b _ h => ?_)⟩
    · rw [HSS.out]
      exact h.elim .inl fun h => .inr (.inl h)
    · rw [List.flatMap_append, List.length_append, List.flatMap_cons, List.flatMap_nil, List.append_nil]
      exact hr2
    · rcases hat with h | h
      · have := hSv b (h ▸ hb)
        rw [HSS.out] at this
        exact this (.inr (.inl hp))
      · rw [h] at hb
        cases hb
        have h5 := hSl _ (by rw [HSS.out]; exact .inr (.inl hp))
        simp at h5
        omega
    · rw [HSS.out]
      exact .inr (.inr h)
  case done =>
    rintro D ys Pv Wd hD hPD hPl hys ⟨v, hbx, hrow, hge, hnv, hKW⟩ hK
    obtain ⟨q', n', k', hn', rfl⟩ := keys_form hrow
    have cB := hbx.cell
    gi_wp2
    have hB : Keep (fun b => b < w.heap.size) w Wd := (Keep.of_below hB0).trans hKW
    refine ⟨by simp, .inl ⟨_, _, rfl, run_takeDeferred hK, ?_⟩⟩
    refine ⟨_, results_tmp rfl _ _ _, .slice q' n' k', ys, rfl, hys, row_base ((Keep.putObj (S := fun b => ¬ Pv b) Wd D _ (fun h => h hPD)).row hrow hnv) (by omega), (hB.trans (Keep.putObj _ _ _ (by omega))).below (Nat.le_refl _)⟩
  case stop =>
    rintro D c pre Pv Wd _ _ _ _ h _
    exact h.elim
theorem Collect_key (gf : Nat) (lb : Array Value) (ks : List Key) (RB : Nat → Prop) (w : World) (eg : ∀ args w, (callFunc gf args).run Tryz.prog w = .ok (.enter gf args) w)
    (hi : IterP Tryz.prog gf lb (KArg RB) (WayK ks) (EndK ks) RB w) (hRs : ∀ b, RB b → b < w.heap.size) (hN : ks.length ≤ 1099511627776) :
    Calls Tryz.prog 160 #[.func (.func gf) #[] lb] w fun e w' => ∃ (v : Value) (ys : List Key), e = .returned v ∧ ys.Perm ks ∧ w'.ownsRow w.heap.size 62 4 v ys.length (ys.flatMap orgC) ∧ Below w.heap.size w w' := by
  have con := AppendSeq_key gf lb ks RB w eg hi hRs hN
  clear hi eg hRs
  go_enter Tryz.func160, Tryz.ntmps160
  go_wp2_with fail
  refine con.mono ?_
  rintro e w' ⟨v, ys, rfl, hp, hrow, hb⟩
  go_wp2
  go_ret
  exact ⟨v, ys, rfl, hp, hrow, hb⟩
set_option maxRecDepth 100000 in
set_option maxHeartbeats 8000000 in
theorem byText_any (a b : KS) (w : World) (hG : Gl w) : Calls Tryz.prog 120 #[MapO.keyV a.1, MapO.keyV b.1] w fun e w' => e = .returned (.int .i64 (cfK a b)) ∧ Below w.heap.size w w' := by
  obtain ⟨a, u, hu, lu, rfl⟩ := a
  obtain ⟨b, v, hv, lv, rfl⟩ := b
  obtain ⟨W, hW⟩ : ∃ W, (w.alloc (.cells #[.string ⟨u.scheme.toArray⟩, .string ⟨u.host.toArray⟩, .int .i64 u.port, .int .i64 0] 62)).alloc (.cells #[.string ⟨v.scheme.toArray⟩, .string ⟨v.host.toArray⟩, .int .i64 v.port, .int .i64 0] 62) = W := ⟨_, rfl⟩
  have A1 : Below w.heap.size w W := by rw [← hW]; exact ((Below.refl _ _).alloc (Nat.le_refl _) _).alloc (by simp) _
  have bA : Box w.heap.size #[.string ⟨u.scheme.toArray⟩, .string ⟨u.host.toArray⟩, .int .i64 u.port, .int .i64 0] W := by rw [← hW]; exact (Box.new w _ _).on (below_alloc _)
  have bB : Box (w.heap.size + 1) #[.string ⟨v.scheme.toArray⟩, .string ⟨v.host.toArray⟩, .int .i64 v.port, .int .i64 0] W := by
    have := Box.new (w.alloc (.cells #[.string ⟨u.scheme.toArray⟩, .string ⟨u.host.toArray⟩, .int .i64 u.port, .int .i64 0] 62)) #[.string ⟨v.scheme.toArray⟩, .string ⟨v.host.toArray⟩, .int .i64 v.port, .int .i64 0] 62
    rw [World.size_alloc] at this
    rw [← hW]
    exact this
  have HT := Lib.hid (fun X (hb : Below W.heap.size W X) => Org.Text_server u hu X ((hG.on A1).on hb))
  have HV := Lib.hid (fun X (hb : Below W.heap.size W X) => Org.Text_server v hv X ((hG.on A1).on hb))
  have HR := Lib.hid (show cfK ⟨keyU u, u, hu, lu, rfl⟩ ⟨keyU v, v, hv, lv, rfl⟩ = Lib.compareBytes (Org.placeU u) (Org.placeU v) from rfl)
  generalize cfK ⟨keyU u, u, hu, lu, rfl⟩ ⟨keyU v, v, hv, lv, rfl⟩ = R at *
  unfold MapO.keyV Org.orgV keyU
  have HW := Lib.hid hW
  have A0 := Lib.hid A1
  clear hW hG
  obtain ⟨us, hus⟩ : ∃ x, u.scheme = x := ⟨_, rfl⟩
  obtain ⟨uh, huh⟩ : ∃ x, u.host = x := ⟨_, rfl⟩
  obtain ⟨up, hup⟩ : ∃ x, u.port = x := ⟨_, rfl⟩
  obtain ⟨vs, hvs⟩ : ∃ x, v.scheme = x := ⟨_, rfl⟩
  obtain ⟨vh, hvh⟩ : ∃ x, v.host = x := ⟨_, rfl⟩
  obtain ⟨vp, hvp⟩ : ∃ x, v.port = x := ⟨_, rfl⟩
  dsimp only
  rw [hus, huh, hup] at bA HW ⊢
  rw [hvs, hvh, hvp] at bB HW ⊢
  have HU := Lib.hid (And.intro hus (And.intro huh hup))
  have HVV := Lib.hid (And.intro hvs (And.intro hvh hvp))
  clear hus huh hup hvs hvh hvp
  go_enter Tryz.func120, Tryz.ntmps120
  go_upto_region 1 with fail
  rw [HW.out]
  refine pregion_any (fun X => Box w.heap.size #[.string ⟨us.toArray⟩, .string ⟨uh.toArray⟩, .int .i64 up, .int .i64 0] X ∧ Box (w.heap.size + 1) #[.string ⟨vs.toArray⟩, .string ⟨vh.toArray⟩, .int .i64 vp, .int .i64 0] X) (by kernel_rfl) ?_
  have hBd : Below W.heap.size W W.drew := (Below.refl _ _).drew
  replace bA : Box w.heap.size #[.string ⟨us.toArray⟩, .string ⟨uh.toArray⟩, .int .i64 up, .int .i64 0] W.drew := bA
  replace bB : Box (w.heap.size + 1) #[.string ⟨vs.toArray⟩, .string ⟨vh.toArray⟩, .int .i64 vp, .int .i64 0] W.drew := bB
  clear A1
  generalize W.drew = X1 at *
  refine wpAnyH_take (i := 0) (v := (.agg #[.string ⟨us.toArray⟩, .string ⟨uh.toArray⟩, .int .i64 up, .int .i64 0])) rfl (by kernel_rfl) (by kernel_rfl) (by kernel_rfl) (fun _ _ _ h => h) (.inl ⟨by kernel_rfl, ?_⟩) ⟨bA, bB⟩ ?_
  · rintro w ⟨ha, hb⟩; have x0 := ha 0 _ rfl; have x1 := ha 1 _ rfl; have x2 := ha 2 _ rfl; have x3 := ha 3 _ rfl; go_simp
  refine plist #[true, false, false, false, false, false] (by kernel_rfl) ?_
  refine wpAnyH_take (i := 2) (v := (.agg #[.string ⟨vs.toArray⟩, .string ⟨vh.toArray⟩, .int .i64 vp, .int .i64 0])) rfl (by kernel_rfl) (by kernel_rfl) (by kernel_rfl) (fun _ _ _ h => h) (.inl ⟨by kernel_rfl, ?_⟩) ⟨bA, bB⟩ ?_
  · rintro w ⟨ha, hb⟩; have x0 := hb 0 _ rfl; have x1 := hb 1 _ rfl; have x2 := hb 2 _ rfl; have x3 := hb 3 _ rfl; go_simp
  refine plist #[true, false, true, false, false, false] (by kernel_rfl) ?_
  have con := HT.out X1 hBd
  unfold Org.orgV at con
  rw [HU.out.1, HU.out.2.1, HU.out.2.2] at con
  refine pone 1 (by kernel_rfl) rfl fun K hK => ?_
  go_simp
  refine con.mono ?_
  rintro e X2 ⟨rfl, hb2⟩
  clear con
  replace bA := bA.on hb2
  replace bB := bB.on hb2
  replace hBd := hBd.trans (hb2.mono hBd.size)
  refine hK _ _ ⟨bA, bB⟩ ?_
  clear hK K
  refine plist #[true, true, true, false, false, false] (by kernel_rfl) ?_
  have con := HV.out X2 hBd
  unfold Org.orgV at con
  rw [HVV.out.1, HVV.out.2.1, HVV.out.2.2] at con
  refine pone 3 (by kernel_rfl) rfl fun K hK => ?_
  go_simp
  refine con.mono ?_
  rintro e X3 ⟨rfl, hb3⟩
  clear con
  replace bA := bA.on hb3
  replace bB := bB.on hb3
  replace hBd := hBd.trans (hb3.mono hBd.size)
  refine hK _ _ ⟨bA, bB⟩ ?_
  clear hK K
  refine plist #[true, true, true, true, false, false] (by kernel_rfl) ?_
  have con := Tryz.strings_Compare ⟨(Org.placeU u).toArray⟩ ⟨(Org.placeU v).toArray⟩ X3
  refine pone 4 (by kernel_rfl) rfl fun K hK => ?_
  go_simp
  refine con.mono ?_
  rintro e X4 ⟨rfl, rfl⟩
  clear con
  refine hK _ _ ⟨bA, bB⟩ ?_
  clear hK K
  refine plist #[true, true, true, true, true, false] (by kernel_rfl) ?_
  refine pone 5 (by kernel_rfl) rfl fun K hK => ?_
  go_simp
  refine hK _ _ ⟨bA, bB⟩ ?_
  clear hK K
  refine pdone (by kernel_rfl) ?_ _
  go_wp2
  go_ret
  exact ⟨by rw [HR.out]; rfl, A0.out.trans (hBd.mono A0.out.size)⟩
theorem lift_ks {kk ys : List Key} (hk : ∀ k ∈ kk, KOk k) (hp : ys.Perm kk) : ∃ zs : List KS, zs.map Subtype.val = ys := by
  refine ⟨ys.attach.map fun y => (⟨y.1, hk y.1 (hp.mem_iff.1 y.2)⟩ : KS), ?_⟩
  rw [List.map_map]
  have : (Subtype.val ∘ fun y : {x // x ∈ ys} => (⟨y.1, hk y.1 (hp.mem_iff.1 y.2)⟩ : KS)) = Subtype.val := rfl
  rw [this, List.attach_map_subtype_val]
set_option maxHeartbeats 4000000 in
theorem sort_keys (w0 : World) (v : Value) (zs : List KS) (w : World) (h : w.ownsRow w0.heap.size 62 4 v zs.length ((zs.map Subtype.val).flatMap orgC)) (hb0 : RowKit.Below w0.heap.size w0 w) (hn : zs.length ≤ 1099511627776) (hnd : zs.Nodup) (hG : Gl w0) :
    Calls Tryz.prog 161 #[v, .func (.func 120) #[] #[]] w fun e w' => ∃ ys : List Key, e = .returned (.tuple #[]) ∧ ys.Perm (zs.map Subtype.val) ∧ ys.map textK = Frm.sortR ((zs.map Subtype.val).map textK) ∧ w'.ownsRow w0.heap.size 62 4 v zs.length (ys.flatMap orgC) ∧ RowKit.Below w0.heap.size w0 w' := by
  by_cases hz0 : zs = []
  · subst hz0
    obtain ⟨q, m, c, hm, rfl⟩ := keys_form h
    have hm := hm.out
    obtain rfl : m = 0 := hm
    refine (AnyF.slices_SortFunc_none Tryz.sortLays q c (.func (.func 120) #[] #[]) w).mono ?_
    rintro e w' ⟨rfl, rfl⟩
    exact ⟨[], rfl, List.Perm.refl _, rfl, h, hb0⟩
  rcases h.2 with ⟨-, hm⟩ | ⟨R, cap, cur, rfl, hgb, hg, h1, h2, h3, h4⟩
  · exact absurd (List.eq_nil_of_length_eq_zero hm) hz0
  · haveI : Inhabited KS := ⟨zs.head hz0⟩
    have hRl := (Array.getElem?_eq_some_iff.1 hg).1
    have hs := hb0.size
    have hfl : ∀ l : List KS, l.flatMap (fun x => orgC x.1) = (l.map Subtype.val).flatMap orgC := fun l => by rw [List.flatMap_map]
    have hk : ∀ x : KS, (orgC x.1).length = 4 := fun x => rfl
    have hK : HoldsK (fun x : KS => orgC x.1) 4 w R 0 zs.toArray := SorK.holds_row hk (by decide) hg (by rw [show zs.toArray.toList = zs from rfl, hfl]; exact h4)
    have hcmp : CmpLays Tryz.prog 120 #[] (fun x : KS => orgC x.1) 4 cfK R 0 zs.toArray.size w := fun m os dk _ x y => by
      have hkb : RowKit.Below w0.heap.size w0 (sortWorldK (fun x : KS => orgC x.1) 4 w R 0 m dk os) := hb0.trans ((SorK.keep_sort (· < w0.heap.size) w R 0 m dk os (by omega)).below hb0.size)
      exact Drawn.calls_grown (byText_any x y _ (hG.on hkb))
    have con := AnyQ.slices_SortFunc_total Tryz.sortLays 4 Tryz.isAgg62 Tryz.sizeOf62 (fun x : KS => orgC x.1) hk (fun x => orgC_one x.1) cfK swoK 120 #[] R 0 cap zs.toArray w (enters_of Tryz.func120 (by kernel_rfl) rfl) hcmp hK hRl (by simp; omega) totK
    refine con.mono ?_
    rintro e w' ⟨rfl, m, os, rfl⟩
    have hsz : (sortKs zs).length = zs.length := (sortKs_perm zs).length_eq
    obtain ⟨cur', g1, g2, g3⟩ := SorK.row_sorted hk (by decide) (n := m) (os := os) (sortKs zs).toArray hg (by rw [List.size_toArray, hsz, h3]; exact Nat.mul_le_mul_right _ h1)
    rw [List.size_toArray, hsz] at g3
    refine ⟨(sortKs zs).map Subtype.val, rfl, (sortKs_perm zs).map _, ?_, ⟨by rw [orgC_len, List.length_map, hsz], .inr ⟨R, cap, cur', rfl, hgb, g1, h1, h2, by rw [g2, h3], ?_⟩⟩, hb0.trans ((SorK.keep_sort (· < w0.heap.size) w R 0 m _ os (by omega)).below hs)⟩
    · rw [List.map_map, List.map_map]
      exact sortKs_texts zs hnd
    · rw [← hfl]
      exact g3
theorem nodup_lift : ∀ zs : List KS, (zs.map Subtype.val).Nodup → zs.Nodup := fun zs h => (List.pairwise_map.1 h).imp fun hne e => hne (by rw [e])
theorem SortedFunc_key (gf : Nat) (lb : Array Value) (kk : List Key) (RB : Nat → Prop) (w : World) (eg : ∀ args w, (callFunc gf args).run Tryz.prog w = .ok (.enter gf args) w)
    (hi : IterP Tryz.prog gf lb (KArg RB) (WayK kk) (EndK kk) RB w) (hRs : ∀ b, RB b → b < w.heap.size) (hN : kk.length ≤ 1099511627776) (hnd : kk.Nodup) (hk : ∀ k ∈ kk, KOk k) (hG : Gl w) :
    Calls Tryz.prog 123 #[.func (.func gf) #[] lb, .func (.func 120) #[] #[]] w fun e w' => ∃ (v : Value) (ys : List Key), e = .returned v ∧ ys.Perm kk ∧ ys.map textK = Frm.sortR (kk.map textK) ∧ w'.ownsRow w.heap.size 62 4 v ys.length (ys.flatMap orgC) ∧ Below w.heap.size w w' := by
  have con := Collect_key gf lb kk RB w eg hi hRs hN
  have HS := Lib.hid (fun (w1 : World) (v : Value) (zs : List KS) => sort_keys w v zs w1)
  have HG := Lib.hid hG
  have HN := Lib.hid hN
  have HND := Lib.hid hnd
  have HK := Lib.hid hk
  clear hi eg hRs hG hN hnd hk
  go_enter Tryz.func123, Tryz.ntmps123
  go_wp2_with fail
  refine con.mono ?_
  rintro e w1 ⟨v, ys, rfl, hp, hrow, hb⟩
  obtain ⟨zs, rfl⟩ := lift_ks HK.out hp
  rw [List.length_map] at hrow
  have hl : zs.length ≤ 1099511627776 := by have := hp.length_eq; rw [List.length_map] at this; have := HN.out; omega
  have con2 := HS.out w1 v zs hrow hb hl (nodup_lift zs (hp.nodup_iff.2 HND.out)) HG.out
  have HP := Lib.hid hp
  obtain ⟨q', n', k', hn', rfl⟩ := keys_form hrow
  clear con hp hrow hb hl
  go_wp2_with fail
  refine con2.mono ?_
  rintro e w2 ⟨xs, rfl, hx1, hx2, hx3, hx4⟩
  have HX := Lib.hid (And.intro hx1 (And.intro hx2 (And.intro hx3 hx4)))
  clear con2 hx1 hx2 hx3 hx4
  go_wp2
  go_ret
  refine ⟨_, xs, rfl, HX.out.1.trans HP.out, ?_, ?_, HX.out.2.2.2⟩
  · rw [HX.out.2.1]
    refine rises_ext (Frm.sort_rises _) (Frm.sort_rises _) fun a => ?_
    rw [Frm.mem_sort, Frm.mem_sort, List.mem_map, List.mem_map]
    exact ⟨fun ⟨k, hk, e⟩ => ⟨k, HP.out.mem_iff.1 hk, e⟩, fun ⟨k, hk, e⟩ => ⟨k, HP.out.mem_iff.2 hk, e⟩⟩
  · have := HX.out.1.length_eq
    rw [List.length_map] at this
    rw [this]
    exact HX.out.2.2.1
end Go.Proofs.YtniehbjoogaccaaGreatDoor.Jar
namespace Go.Proofs.YtniehbjoogaccaaGreatDoor.Jar
open Go.RowKit Go.Shelf Url Ck
attribute [local go_sem] Oper.semAt_some
set_option linter.unusedVariables false
def lineC : List Ck → List UInt8
  | [] => []
  | [c] => c.name ++ 61 :: c.value
  | c :: d :: r => c.name ++ 61 :: c.value ++ 59 :: 32 :: lineC (d :: r)
theorem line_map : ∀ l : List En, lineL l = lineC (l.map En.c)
  | [] => rfl
  | [e] => rfl
  | e :: f :: r => by
    rw [lineL, line_map (f :: r)]
    rfl
def sepC (pre : List Ck) : List UInt8 := if pre = [] then [] else lineC pre ++ [59, 32]
theorem line_snoc : ∀ (pre : List Ck) (c : Ck), lineC (pre ++ [c]) = sepC pre ++ c.name ++ [61] ++ c.value
  | [], c => by simp [lineC, sepC]
  | [d], c => by simp [lineC, sepC]
  | d :: e :: r, c => by
    have ih := line_snoc (e :: r) c
    unfold sepC at ih ⊢
    rw [if_neg (by simp)] at ih ⊢
    rw [show d :: e :: r ++ [c] = d :: e :: (r ++ [c]) from rfl, lineC, show e :: (r ++ [c]) = e :: r ++ [c] from rfl, ih, lineC]
    simp
theorem line_len : ∀ pre : List Ck, (∀ c ∈ pre, Small 4096 c) → (lineC pre).length ≤ pre.length * 8195
  | [], _ => Nat.zero_le _
  | [c], h => by
    have h1 := h c (by simp)
    have h2 := h1.1
    have h3 := h1.2.1
    simp only [lineC, List.length_append, List.length_cons, List.length_nil]
    omega
  | c :: d :: r, h => by
    have h1 := h c (by simp)
    have h2 := h1.1
    have h3 := h1.2.1
    have ih := line_len (d :: r) (fun x hx => h x (by simp [hx]))
    simp only [lineC, List.length_append, List.length_cons] at ih ⊢
    omega
theorem line_nil {pre : List Ck} (h : pre ≠ []) : 0 < (lineC pre).length := by
  match pre, h with
  | [c], _ => simp [lineC]; omega
  | c :: d :: r, _ => simp [lineC]; omega
theorem grow_box {X X' : World} {Bo base n : Nat} {v v0 : Value} {xs : List Value} (hv : Boxed X Bo 29 v0) (hrow : X.ownsRow base 5 1 v n xs) (hg : X.grownBy X' v.ownBlock) : Boxed X' Bo 29 v0 := hv.kept hg (hv.not_row (by decide) hrow)
theorem grow_keep {X X' : World} {v : Value} {S : Nat → Prop} (hg : X.grownBy X' v.ownBlock) (hSo : ∀ b, v.ownBlock = some b → ¬ S b) : Keep S X X' := Keep.of_grownBy hg hSo
theorem CB.keepS {B : Nat} {cs : Array Value} {X Y : World} {S : Nat → Prop} (h : CB B cs X) (k : Keep S X Y) (hs : S B) : CB B cs Y := Keep.heap k hs h
theorem own_form {w : World} {base n : Nat} {v : Value} {xs : List Value} (h : w.ownsRow base 5 1 v n xs) : ∃ q m c, Hid (m = n) ∧ v = .slice q m c := by
  rcases h.2 with ⟨rfl, rfl⟩ | ⟨g, cap, cur, rfl, -⟩
  · exact ⟨none, 0, 0, Lib.hid rfl, rfl⟩
  · exact ⟨_, n, cap, Lib.hid rfl, rfl⟩
theorem own_next {X : World} {v v' : Value} {S : Nat → Prop} (hat : v'.ownBlock = v.ownBlock ∨ v'.ownBlock = some X.heap.size) (hX : ∀ b, S b → b < X.heap.size) (h : ∀ b, v.ownBlock = some b → ¬ S b) : ∀ b, v'.ownBlock = some b → ¬ S b := fun b hb hs => by
  rcases hat with e | e
  · exact h b (e ▸ hb) hs
  · rw [e] at hb
    cases hb
    exact Nat.lt_irrefl _ (hX _ hs)
theorem set_row {X : World} {Bo base n : Nat} {v v0 : Value} {xs : List Value} (hv : Boxed X Bo 29 v0) (hrow : X.ownsRow base 5 1 v n xs) : (X.setCell ⟨Bo, 0, none⟩ v).ownsRow base 5 1 v n xs :=
  hrow.kept (grownBy_setCell' X Bo v) (.inr (hv.not_row (by decide) hrow).symm)
theorem ne_nil {w : World} {base n : Nat} {v : Value} {xs : List Value} (h : w.ownsRow base 5 1 v n xs) (hn : 0 < n) : ∃ a c, v = .slice (some a) n c := by
  rcases h.2 with ⟨rfl, rfl⟩ | ⟨g, cap, cur, rfl, -⟩
  · exact absurd hn (by decide)
  · exact ⟨_, _, rfl⟩
def LineI (b0 Bo : Nat) (RB : Nat → Prop) (W0 : World) (pre : List Ck) (Pv : Nat → Prop) (W : World) : Prop :=
  ∃ v, Boxed W Bo 29 v ∧ W.ownsRow W0.heap.size 5 1 v (lineC pre).length (byV (lineC pre)) ∧ (∀ b, Pv b → W0.heap.size ≤ b) ∧ (∀ b, v.ownBlock = some b → ¬ Pv b) ∧ Keep (fun b => RB b ∨ b < b0) W0 W ∧ (pre = [] → v = .slice none 0 0)
theorem LineI_abide (b0 Bo : Nat) (RB : Nat → Prop) (W0 : World) (hBo : Bo < W0.heap.size) (hRB : ∀ b, RB b → b < W0.heap.size) (hb : b0 ≤ W0.heap.size) : Abide (LineI b0 Bo RB W0) := by
  rintro pre Pv Pv' A B ⟨v, h1, h2, h3, h5, h6, h7⟩ hk hp
  have hs := h6.size
  refine ⟨v, hk.boxed h1 (fun h => by have := h3 _ h; omega), hk.row h2 h5, fun b hb => ?_, fun b hb hp' => ?_, h6.trans (hk.mono fun b _ hb hpb => by have := h3 b hpb; rcases hb with hb | hb; have := hRB b hb; omega; omega), h7⟩
  · rcases (hp b hb).1 with h | h
    · exact h3 b h
    · omega
  · rcases (hp _ hp').1 with h | h
    · exact h5 b hb h
    · have := (h2.lt b hb).2; omega
set_option maxRecDepth 100000 in
set_option maxHeartbeats 16000000 in
theorem Line_gen (p : Option Addr) (l : List En) (o x : U) (b : Value) (now : Int) (w : World) (hf : ∀ cs W, b = .agg cs → Below w.heap.size w W → Calls Tryz.prog 20 #[.pointer p, Org.orgV o.scheme o.host o.port 0, .agg cs, .int .i64 now] W (ForOut ((forJ (keyU o) x now l).map En.c) W)) (hb : UrlIn w b x) :
    Calls Tryz.prog 22 #[.pointer p, Org.orgV o.scheme o.host o.port 0, b, .int .i64 now] w (BysOut (lineL (forJ (keyU o) x now l)) w) := by
  obtain ⟨cs, rfl⟩ : ∃ cs, b = .agg cs := by
    obtain ⟨_, _, _, _, _, _, _, _, _, _, _, _, _, _, _, he, -⟩ := hb
    exact ⟨_, he⟩
  obtain ⟨W, hW⟩ : ∃ W, ((w.alloc (.cells #[.string ⟨o.scheme.toArray⟩, .string ⟨o.host.toArray⟩, .int .i64 o.port, .int .i64 0] 62)).alloc (.cells cs 33)).alloc (.cells #[.slice none 0 0] 29) = W := ⟨_, rfl⟩
  have b1 : Below (w.alloc (.cells #[.string ⟨o.scheme.toArray⟩, .string ⟨o.host.toArray⟩, .int .i64 o.port, .int .i64 0] 62)).heap.size (w.alloc (.cells #[.string ⟨o.scheme.toArray⟩, .string ⟨o.host.toArray⟩, .int .i64 o.port, .int .i64 0] 62)) W := by
    rw [← hW]
    exact ((Below.refl _ _).alloc (Nat.le_refl _) _).alloc (by simp) _
  have A1 : Below w.heap.size w W := (below_alloc _).trans (b1.mono (by simp))
  have hWs : W.heap.size = w.heap.size + 3 := by rw [← hW]; simp
  have bO : Box w.heap.size #[.string ⟨o.scheme.toArray⟩, .string ⟨o.host.toArray⟩, .int .i64 o.port, .int .i64 0] W := (Box.new w _ _).on b1
  have bU : Box (w.heap.size + 1) cs W := by
    have := (Box.new (w.alloc (.cells #[.string ⟨o.scheme.toArray⟩, .string ⟨o.host.toArray⟩, .int .i64 o.port, .int .i64 0] 62)) cs 33).on (below_alloc (.cells #[.slice none 0 0] 29))
    rw [World.size_alloc] at this
    rw [← hW]
    exact this
  have bL : Boxed W (w.heap.size + 1 + 1) 29 (.slice none 0 0) := by
    have := Boxed.new ((w.alloc (.cells #[.string ⟨o.scheme.toArray⟩, .string ⟨o.host.toArray⟩, .int .i64 o.port, .int .i64 0] 62)).alloc (.cells cs 33)) 29 (.slice none 0 0)
    simp only [World.size_alloc] at this
    rw [← hW]
    exact this
  have con := hf cs W rfl A1
  rw [line_map]
  generalize (forJ (keyU o) x now l).map En.c = fs at *
  obtain ⟨u0, u1, u2, u3, u4, u5, u6, u7, u8, u9, ua, ub, uc, ud, ue, he, -⟩ := hb
  cases he
  obtain ⟨i0, hi0, hz0, hz1, hz2⟩ := info_parts info_u8
  have HW := Lib.hid hW
  have A0 := Lib.hid A1
  have HWS := Lib.hid hWs
  clear hf A1 b1 hW hWs
  simp only [Org.orgV] at con ⊢
  have x0 := bO 0 _ rfl
  have x1 := bO 1 _ rfl
  have x2 := bO 2 _ rfl
  have x3 := bO 3 _ rfl
  have y0 := bU 0 _ rfl
  have y1 := bU 1 _ rfl
  have y2 := bU 2 _ rfl
  have y3 := bU 3 _ rfl
  have y4 := bU 4 _ rfl
  have y5 := bU 5 _ rfl
  have y6 := bU 6 _ rfl
  have y7 := bU 7 _ rfl
  clear bO bU
  refine (callsIn_wide (n := 1)).1 ?_
  refine callsIn_of_wp_marks Tryz.func22 rfl trivial ?_ rfl
  simp only [Tryz.ntmps22, List.size_toArray, List.length_cons, List.length_nil, Nat.reduceAdd, Nat.reduceSub, Array.replicate_succ, Array.replicate_zero, List.push_toArray, List.append_toArray, List.nil_append, List.cons_append]
  gi_wp2_with fail
  rw [HW.out]
  refine ⟨trivial, (callsIn_wide.2 con).mono ?_⟩
  rintro e W0 ⟨gf, lb, RB, rfl, eg, hi, hRl, hb0, hRn, hl8, hsm⟩
  clear con x0 x1 x2 x3 y0 y1 y2 y3 y4 y5 y6 y7
  have hws := HWS.out
  have hs0 := hb0.size
  have bL0 : Boxed W0 (w.heap.size + 1 + 1) 29 (.slice none 0 0) := (Keep.of_below hb0).boxed bL (by omega)
  have hRo : ¬ RB (w.heap.size + 1 + 1) := fun hr => by
    rcases hRn _ hr with h1 | ⟨i, z, hc⟩
    · omega
    · have hh : W0.heap[w.heap.size + 1 + 1]? = some (.cells #[.slice none 0 0] 29 (0, 0)) := bL0
      simp only [World.cell?, hh] at hc
      rcases i with _ | i <;> simp at hc
  clear bL hRn
  have HB0 := Lib.hid hb0
  clear hb0
  gi_wp2
  refine rf_law (gf := gf) (lb := lb) rfl eg hi (Keep.refl _ _) hRl (fun x args G W h => by obtain ⟨z, -, rfl, -⟩ := h; rfl)
    (LineI w.heap.size (w.heap.size + 1 + 1) RB W0) (fun _ _ _ _ => False) (LineI_abide _ _ _ _ (by omega) hRl (by omega)) (fun _ _ _ _ _ _ h _ _ => h)
    ⟨_, bL0, World.ownsRow_nil _ _ _ _, (fun _ h => h.elim), (fun _ h => by cases h), Keep.refl _ _, fun _ => rfl⟩ ?round ?done ?stop
  case round =>
    rintro ll pre c rest Pv G args Wr hll hxs ⟨v, hbx, hrow, hge, hnv, hKW, hv0⟩ hPl hGl hPb hGP ⟨z, rfl, rfl, hcz, hcb⟩
    have hsc := hsm z.2 (by rw [hxs]; simp)
    have hpre : (lineC pre).length ≤ 65560 := by
      have h1 := line_len pre (fun c hc => hsm c (by rw [hxs]; simp [hc]))
      have h2 : pre.length + rest.length + 1 = fs.length := by rw [hxs]; simp; omega
      omega
    have hrl := hKW.size
    have HSN := Lib.hid (line_snoc pre z.2)
    obtain ⟨⟨⟨⟨q1, n1, c1⟩, ⟨q2, n2, c2⟩⟩, ⟨q3, n3, c3⟩⟩, ⟨l1, l2, l3, l4, age, sec⟩⟩ := z
    have hl1 : l1.length ≤ 4096 := hsc.1
    have hl2 : l2.length ≤ 4096 := hsc.2.1
    simp only [ckRow, vC] at *
    have hbC := CB.new Wr #[.slice q1 n1 c1, .slice q2 n2 c2, .slice q3 n3 c3, .string ⟨l4.toArray⟩, .int .i64 age, .bool sec]
    obtain ⟨W1, hW1⟩ : ∃ W1, Wr.alloc (.cells #[.slice q1 n1 c1, .slice q2 n2 c2, .slice q3 n3 c3, .string ⟨l4.toArray⟩, .int .i64 age, .bool sec] 42) = W1 := ⟨_, rfl⟩
    rw [hW1] at hbC
    have k1 : ∀ S, Keep S Wr W1 := fun S => by rw [← hW1]; exact Keep.alloc S _ _
    have hs1 : W1.heap.size = Wr.heap.size + 1 := by rw [← hW1]; simp
    have HW1 := Lib.hid hW1
    clear hxs hsm hsc hW1
    gi_wp2
    rw [HW1.out]
    refine ⟨k1 _, fun W2 hk2 hs2 hr => ?_⟩
    have hlw := hPb ll hPl
    have hlg := hge ll hPl
    have k12 : Keep (fun b => b ≠ ll) Wr W2 := (k1 _).trans hk2
    have hs2' : W2.heap.size = Wr.heap.size + 1 := hs2.trans hs1
    have hbx2 : Boxed W2 (w.heap.size + 1 + 1) 29 v := k12.boxed hbx (by omega)
    have hrow2 := k12.row hrow (fun b hb e => hnv b hb (e ▸ hPl))
    have hcz2 := hcz.keep k12 (fun b hb e => (hcb b hb).elim (fun h => hGl (e ▸ h)) (fun h => by have := hRl b h; omega))
    have hbC2 : CB Wr.heap.size #[.slice q1 n1 c1, .slice q2 n2 c2, .slice q3 n3 c3, .string ⟨l4.toArray⟩, .int .i64 age, .bool sec] W2 := hk2.heap (by omega) hbC
    obtain ⟨S, hS⟩ : ∃ S : Nat → Prop, S = fun b => RB b ∨ Pv b ∨ b = Wr.heap.size ∨ b < w.heap.size := ⟨_, rfl⟩
    have hSX : ∀ b, S b → b < W2.heap.size := fun b hb => by
      rw [hS] at hb
      rcases hb with hb | hb | hb | hb
      · have := hRl b hb; omega
      · have := hPb b hb; omega
      · omega
      · omega
    have hSv : ∀ b, v.ownBlock = some b → ¬ S b := fun b hb hb2 => by
      have h1 := hrow.lt b hb
      rw [hS] at hb2
      rcases hb2 with h | h | h | h
      · have := hRl b h; omega
      · exact hnv b hb h
      · omega
      · omega
    have hSB : ¬ S (w.heap.size + 1 + 1) := fun hb => by
      rw [hS] at hb
      rcases hb with h | h | h | h
      · exact hRo h
      · have := hge _ h; omega
      · omega
      · omega
    have hSC : S Wr.heap.size := by rw [hS]; exact .inr (.inr (.inl rfl))
    have hSz : ∀ b, blkZ ((((q1, n1, c1), (q2, n2, c2)), (q3, n3, c3)), ⟨l1, l2, l3, l4, age, sec⟩) b → S b := fun b hb => by
      rw [hS]
      exact (hcb b hb).elim (fun h => .inr (.inl (hGP b h))) .inl
    have hW2 : W0.heap.size ≤ W2.heap.size := by omega
    have HKW := Lib.hid hKW
    have HK12 := Lib.hid k12
    have HSS := Lib.hid hS
    have HPP := Lib.hid (And.intro hge (And.intro hPb (And.intro hRl hGP)))
    clear hS hk2 hs2 hr hKW k12 hbx hrow hcz hbC k1 hs1 hcb hge hPb hGP hRl hnv
    have cB := hbx2.cell
    by_cases hp0 : pre = []
    · obtain rfl := hv0 hp0
      subst hp0
      have hbxY := hbx2
      have hrY : W2.ownsRow W0.heap.size 5 1 (.slice none 0 0) (sepC []).length (byV (sepC [])) := hrow2
      have hSvY := hSv
      have kSY : Keep S W2 W2 := Keep.refl _ _
      have hczY := hcz2
      have hbCY := hbC2
      have hTl : (sepC []).length ≤ 65562 := by decide
      have hxC0 : W2.cell? ⟨Wr.heap.size, 0, none⟩ = some (.slice q1 n1 c1) := hbC2.box 0 _ rfl
      gi_upto_region 6 with fail
      clear hxC0
      have hB1 := (CAt.keep hczY (Keep.refl (fun _ => True) _) (fun _ _ => trivial)).1
      have hxC : W2.cell? ⟨Wr.heap.size, 0, none⟩ = some (.slice q1 n1 c1) := hbCY.box 0 _ rfl
      simp only [vC] at hB1
      have hYs := kSY.size
      gi_upto_region 7 with (first | (gi_at_builtin; refine wpListIn_by rfl _ _ rfl W0.heap.size _ _ _ rfl hrY _ _ rfl hB1 (by omega) (by omega) ?_; intro v6 X6 hr6 hg6 hat6; obtain ⟨q6', n6', k6', hn6, rfl⟩ := own_form hr6; have bx6 := grow_box hbxY hrY hg6; have hr6a := hr6.alloc (.cells #[.int .u8 61] 5); have hB61 := by_lit X6 #[.int .u8 61] [61] (0, 0) 1 rfl rfl (by decide); have kS6 : Keep S W2 X6 := kSY.trans (grow_keep hg6 hSvY); have hs6 := kS6.size; have hs6a : (X6.alloc (.cells #[.int .u8 61] 5)).heap.size = X6.heap.size + 1 := by simp) | (gi_at_builtin; refine wpListIn_by rfl _ _ rfl W0.heap.size _ _ _ rfl hr6a _ _ rfl hB61 (by simp; omega) (by omega) ?_; intro v7 X7 hr7 hg7 hat7; obtain ⟨q7', n7', k7', hn7, rfl⟩ := own_form hr7; have bx7 := grow_box (bx6.alloc _) hr6a hg7; have c7 := bx7.cell; have f7 := bx7.frozen; have c7s := (bx7.set (.slice q7' n7' k7')).cell; have own6 := own_next hat6 (fun b hb => Nat.lt_of_lt_of_le (hSX b hb) kSY.size) hSvY; have own7 := own_next hat7 (fun b hb => by have := hSX b hb; omega) own6; have kS7 : Keep S W2 (X7.setCell ⟨w.heap.size + 1 + 1, 0, none⟩ (.slice q7' n7' k7')) := ((kS6.trans (Keep.alloc _ _ _)).trans (grow_keep hg7 own6)).trans (Keep.setCell _ _ _ hSB); have bC7 := CB.keepS hbC2 kS7 hSC; have xC7 : (X7.setCell ⟨w.heap.size + 1 + 1, 0, none⟩ (.slice q7' n7' k7')).cell? ⟨Wr.heap.size, 1, none⟩ = some (.slice q2 n2 c2) := bC7.box 1 _ rfl))
      obtain ⟨Y7, hY7⟩ : ∃ Y, X7.setCell ⟨w.heap.size + 1 + 1, 0, none⟩ (.slice q7' n7' k7') = Y := ⟨_, rfl⟩
      have hr7s := set_row bx7 hr7
      have bx7s := bx7.set (.slice q7' n7' k7')
      rw [hY7] at kS7 hr7s bx7s ⊢
      have hcz7 := hcz2.keep kS7 hSz
      have hB2 := hcz7.2.1
      simp only [vC] at hB2
      have hY7s := kS7.size
      have c7y := bx7s.cell
      have xC7y : Y7.cell? ⟨Wr.heap.size, 1, none⟩ = some (.slice q2 n2 c2) := (CB.keepS hbC2 kS7 hSC).box 1 _ rfl
      clear c7 f7 c7s bx7 xC7 bC7 hg6 hg7 hr7 hr6 hr6a hB61 bx6 hY7 hB1 hxC
      gi_wp2_with (gi_at_builtin; refine wpListIn_by rfl _ _ rfl W0.heap.size _ _ _ rfl hr7s _ _ rfl hB2 (by simp; omega) (by omega) ?_; intro v8 X8 hr8 hg8 hat8; obtain ⟨q8', n8', k8', hn8, rfl⟩ := own_form hr8; have bx8 := grow_box bx7s hr7s hg8; have c8 := bx8.cell; have f8 := bx8.frozen)
      have own8 := own_next hat8 (fun b hb => Nat.lt_of_lt_of_le (hSX b hb) kS7.size) own7
      have kS8 : Keep S W2 (X8.setCell ⟨w.heap.size + 1 + 1, 0, none⟩ (.slice q8' n8' k8')) := (kS7.trans (grow_keep hg8 own7)).trans (Keep.setCell _ _ _ hSB)
      refine ⟨kS8.mono fun b _ hb => ?_, _, bx8.set _, ?_, fun b hb => HPP.out.1 b hb.1, fun b hb hp => ?_, ?_, fun h => absurd h (by simp)⟩
      · rw [HSS.out]
        exact hb.elim .inl (fun h => .inr (.inl h.1))
      · have hb := set_row bx8 hr8
        rw [show lineC ([{ name := l1, value := l2, path := l3, dom := l4, age := age, secure := sec }]) = sepC [] ++ l1 ++ [61] ++ l2 from HSN.out]
        rw [byV_app, byV_app, byV_app, List.length_append, List.length_append, List.length_append]
        exact hb
      · have := own8 b hb
        rw [HSS.out] at this
        exact this (.inr (.inl hp.1))
      · refine HKW.out.trans ((HK12.out.mono fun b hlt hb => ?_).trans (kS8.mono fun b _ hb => ?_))
        · rcases hb with hb | hb
          · have := HPP.out.2.2.1 b hb
            omega
          · omega
        · rw [HSS.out]
          exact hb.elim .inl (fun h => .inr (.inr (.inr h)))
    · obtain ⟨av, cv, rfl⟩ := ne_nil hrow2 (line_nil hp0)
      gi_upto_region 6 with (gi_at_builtin; refine wpListIn_str rfl _ _ rfl W0.heap.size _ _ _ rfl hrow2 [59, 32] rfl (by simp; omega) hW2 ?_; intro v5 X5 hr5 hg5 hat5; obtain ⟨q5', n5', k5', hn5, rfl⟩ := own_form hr5; have bx5 := grow_box hbx2 hrow2 hg5; have c5 := bx5.cell; have f5 := bx5.frozen; have c5s := (bx5.set (.slice q5' n5' k5')).cell; have own5 := own_next hat5 hSX hSv; have kS5 : Keep S W2 (X5.setCell ⟨w.heap.size + 1 + 1, 0, none⟩ (.slice q5' n5' k5')) := (grow_keep hg5 hSv).trans (Keep.setCell _ _ _ hSB); have bC5 := CB.keepS hbC2 kS5 hSC; have xC5 : (X5.setCell ⟨w.heap.size + 1 + 1, 0, none⟩ (.slice q5' n5' k5')).cell? ⟨Wr.heap.size, 0, none⟩ = some (.slice q1 n1 c1) := bC5.box 0 _ rfl)
      obtain ⟨Y5, hY5⟩ : ∃ Y, X5.setCell ⟨w.heap.size + 1 + 1, 0, none⟩ (.slice q5' n5' k5') = Y := ⟨_, rfl⟩
      have hr5s := set_row bx5 hr5
      have hbxY := bx5.set (.slice q5' n5' k5')
      have hSvY := own5
      have kSY := kS5
      have hbCY := bC5
      rw [hY5] at hr5s hbxY kSY hbCY ⊢
      have hczY := hcz2.keep kSY hSz
      have hrY : Y5.ownsRow W0.heap.size 5 1 (.slice q5' n5' k5') (sepC pre).length (byV (sepC pre)) := by
        unfold sepC
        rw [if_neg hp0, List.length_append, byV_app]
        exact hr5s
      have hTl : (sepC pre).length ≤ 65562 := by
        unfold sepC
        rw [if_neg hp0, List.length_append]
        simp only [List.length_cons, List.length_nil]
        omega
      clear hY5 c5 f5 c5s own5 kS5 bC5 xC5 bx5 hr5s hr5 hg5 hat5 cB
      have cB := hbxY.cell
      have hB1 := (CAt.keep hczY (Keep.refl (fun _ => True) _) (fun _ _ => trivial)).1
      have hxC : Y5.cell? ⟨Wr.heap.size, 0, none⟩ = some (.slice q1 n1 c1) := hbCY.box 0 _ rfl
      simp only [vC] at hB1
      have hYs := kSY.size
      gi_upto_region 7 with (first | (gi_at_builtin; refine wpListIn_by rfl _ _ rfl W0.heap.size _ _ _ rfl hrY _ _ rfl hB1 (by omega) (by omega) ?_; intro v6 X6 hr6 hg6 hat6; obtain ⟨q6', n6', k6', hn6, rfl⟩ := own_form hr6; have bx6 := grow_box hbxY hrY hg6; have hr6a := hr6.alloc (.cells #[.int .u8 61] 5); have hB61 := by_lit X6 #[.int .u8 61] [61] (0, 0) 1 rfl rfl (by decide); have kS6 : Keep S W2 X6 := kSY.trans (grow_keep hg6 hSvY); have hs6 := kS6.size; have hs6a : (X6.alloc (.cells #[.int .u8 61] 5)).heap.size = X6.heap.size + 1 := by simp) | (gi_at_builtin; refine wpListIn_by rfl _ _ rfl W0.heap.size _ _ _ rfl hr6a _ _ rfl hB61 (by simp; omega) (by omega) ?_; intro v7 X7 hr7 hg7 hat7; obtain ⟨q7', n7', k7', hn7, rfl⟩ := own_form hr7; have bx7 := grow_box (bx6.alloc _) hr6a hg7; have c7 := bx7.cell; have f7 := bx7.frozen; have c7s := (bx7.set (.slice q7' n7' k7')).cell; have own6 := own_next hat6 (fun b hb => Nat.lt_of_lt_of_le (hSX b hb) kSY.size) hSvY; have own7 := own_next hat7 (fun b hb => by have := hSX b hb; omega) own6; have kS7 : Keep S W2 (X7.setCell ⟨w.heap.size + 1 + 1, 0, none⟩ (.slice q7' n7' k7')) := ((kS6.trans (Keep.alloc _ _ _)).trans (grow_keep hg7 own6)).trans (Keep.setCell _ _ _ hSB); have bC7 := CB.keepS hbC2 kS7 hSC; have xC7 : (X7.setCell ⟨w.heap.size + 1 + 1, 0, none⟩ (.slice q7' n7' k7')).cell? ⟨Wr.heap.size, 1, none⟩ = some (.slice q2 n2 c2) := bC7.box 1 _ rfl))
      obtain ⟨Y7, hY7⟩ : ∃ Y, X7.setCell ⟨w.heap.size + 1 + 1, 0, none⟩ (.slice q7' n7' k7') = Y := ⟨_, rfl⟩
      have hr7s := set_row bx7 hr7
      have bx7s := bx7.set (.slice q7' n7' k7')
      rw [hY7] at kS7 hr7s bx7s ⊢
      have hcz7 := hcz2.keep kS7 hSz
      have hB2 := hcz7.2.1
      simp only [vC] at hB2
      have hY7s := kS7.size
      have c7y := bx7s.cell
      have xC7y : Y7.cell? ⟨Wr.heap.size, 1, none⟩ = some (.slice q2 n2 c2) := (CB.keepS hbC2 kS7 hSC).box 1 _ rfl
      clear c7 f7 c7s bx7 xC7 bC7 hg6 hg7 hr7 hr6 hr6a hB61 bx6 hY7 hB1 hxC
      gi_wp2_with (gi_at_builtin; refine wpListIn_by rfl _ _ rfl W0.heap.size _ _ _ rfl hr7s _ _ rfl hB2 (by simp; omega) (by omega) ?_; intro v8 X8 hr8 hg8 hat8; obtain ⟨q8', n8', k8', hn8, rfl⟩ := own_form hr8; have bx8 := grow_box bx7s hr7s hg8; have c8 := bx8.cell; have f8 := bx8.frozen)
      have own8 := own_next hat8 (fun b hb => Nat.lt_of_lt_of_le (hSX b hb) kS7.size) own7
      have kS8 : Keep S W2 (X8.setCell ⟨w.heap.size + 1 + 1, 0, none⟩ (.slice q8' n8' k8')) := (kS7.trans (grow_keep hg8 own7)).trans (Keep.setCell _ _ _ hSB)
      refine ⟨kS8.mono fun b _ hb => ?_, _, bx8.set _, ?_, fun b hb => HPP.out.1 b hb.1, fun b hb hp => ?_, ?_, fun h => absurd h (by simp)⟩
      · rw [HSS.out]
        exact hb.elim .inl (fun h => .inr (.inl h.1))
      · have hb := set_row bx8 hr8
        rw [show lineC (pre ++ [{ name := l1, value := l2, path := l3, dom := l4, age := age, secure := sec }]) = sepC pre ++ l1 ++ [61] ++ l2 from HSN.out]
        rw [byV_app, byV_app, byV_app, List.length_append, List.length_append, List.length_append]
        exact hb
      · have := own8 b hb
        rw [HSS.out] at this
        exact this (.inr (.inl hp.1))
      · refine HKW.out.trans ((HK12.out.mono fun b hlt hb => ?_).trans (kS8.mono fun b _ hb => ?_))
        · rcases hb with hb | hb
          · have := HPP.out.2.2.1 b hb
            omega
          · omega
        · rw [HSS.out]
          exact hb.elim .inl (fun h => .inr (.inr (.inr h)))
  case done =>
    rintro D Pv Wd hD hPD hPl ⟨v, hbx, hrow, hge, hnv, hKW, hv0⟩ hK
    obtain ⟨q', n', k', hn', rfl⟩ := own_form hrow
    have cB := hbx.cell
    clear bL0 hi hsm hl8 eg
    gi_wp2
    refine ⟨by simp, .inl ⟨_, _, rfl, run_takeDeferred hK, ?_⟩⟩
    have hs := hKW.size
    refine ⟨_, results_tmp rfl _ _ _, q', n', k', rfl, By.row ((Keep.putObj (S := fun b => ¬ Pv b) Wd D _ (fun h => h hPD)).row hrow hnv), A0.out.trans ((show Below w.heap.size W W0 from HB0.out.mono (by omega)).trans ?_)⟩
    exact ((hKW.mono fun b _ h => .inr h).trans (Keep.putObj (S := (· < w.heap.size)) _ _ _ (by omega))).below (by omega)
  case stop =>
    rintro D c pre rest Pv Wd _ _ _ _ h _
    exact h.elim
theorem Line_any (M : Nat → Prop) (p : Addr) (l : List En) (o x : U) (b : Value) (now : Int) (w : World) (h : JarIn M (.pointer (some p)) l w) (ho : OkZ o) (hb : UrlIn w b x) (hx : OkZ x) (hn : 0 ≤ now ∧ now ≤ 9223372036854775807) (hG : Gl w) :
    Calls Tryz.prog 22 #[.pointer (some p), Org.orgV o.scheme o.host o.port 0, b, .int .i64 now] w (BysOut (lineL (forJ (keyU o) x now l)) w) :=
  Line_gen (some p) l o x b now w (fun cs W hc A1 => For_out M p l o x (.agg cs) now W (h.keep ((Keep.of_below A1).mono fun b hb _ => hb) (Soft.of_below A1)) ho (hc ▸ hb.on A1) hx hn (hG.on A1)) hb
theorem Line_nil (o x : U) (b : Value) (now : Int) (w : World) (ho : OkZ o) (hb : UrlIn w b x) (hx : OkZ x) (hn : 0 ≤ now ∧ now ≤ 9223372036854775807) (hG : Gl w) :
    Calls Tryz.prog 22 #[.pointer none, Org.orgV o.scheme o.host o.port 0, b, .int .i64 now] w (BysOut [] w) :=
  Line_gen none [] o x b now w (fun cs W hc A1 => For_nil o x (.agg cs) now W ho (hc ▸ hb.on A1) hx hn (hG.on A1)) hb
end Go.Proofs.YtniehbjoogaccaaGreatDoor.Jar
namespace Go.Proofs.YtniehbjoogaccaaGreatDoor.Jar
open Go.RowKit Go.Shelf Url Ck
attribute [local go_sem] Oper.semAt_some
set_option linter.unusedVariables false
def SetOut (M : Nat → Prop) (v : Value) (l : List En) (r : Int) (w : World) (e : Ending) (w' : World) : Prop := ∃ M' : Nat → Prop, e = .returned (.int .i64 r) ∧ JarIn M' v l w' ∧ (∀ b, M' b → M b ∨ w.heap.size ≤ b) ∧ Keep (fun b => ¬ M b) w w'
theorem box3 (w : World) (t1 t2 t3 : TypeId) (os us : Array Value) (m : Value) : ∃ W, ((w.alloc (.cells os t1)).alloc (.cells us t2)).alloc (.cells #[m] t3) = W ∧ Box w.heap.size os W ∧ Box (w.heap.size + 1) us W ∧ W.cell? ⟨w.heap.size + 2, 0, none⟩ = some m ∧ Below w.heap.size w W ∧ W.heap.size = w.heap.size + 3 := by
  have b1 : Below (w.alloc (.cells os t1)).heap.size (w.alloc (.cells os t1)) (((w.alloc (.cells os t1)).alloc (.cells us t2)).alloc (.cells #[m] t3)) := ((Below.refl _ _).alloc (Nat.le_refl _) _).alloc (by simp) _
  refine ⟨_, rfl, (Box.new w os _).on b1, ?_, ?_, (below_alloc _).trans (b1.mono (by simp)), by simp⟩
  · have := (Box.new (w.alloc (.cells os t1)) us t2).on (below_alloc (.cells #[m] t3))
    rw [World.size_alloc] at this
    exact this
  · have := (Boxed.new ((w.alloc (.cells os t1)).alloc (.cells us t2)) t3 m).cell
    simp only [World.size_alloc] at this
    exact this
theorem setOut_same {M : Nat → Prop} {v : Value} {l : List En} {r : Int} {w w' : World} (h : JarIn M v l w) (hb : Below w.heap.size w w') : SetOut M v l r w (.returned (.int .i64 r)) w' :=
  ⟨M, rfl, h.keep ((Keep.of_below hb).mono fun b hb _ => hb) (Soft.of_below hb), fun b hb => .inl hb, (Keep.of_below hb).mono fun b hb _ => hb⟩
set_option maxRecDepth 100000 in
set_option maxHeartbeats 16000000 in
theorem Set_any (M : Nat → Prop) (p : Addr) (l : List En) (a x : Value) (u : U) (c : Ck) (now : Int) (w : World) (h : JarIn M (.pointer (some p)) l w) (ha : UrlIn w a u) (hu : Url.Ok u) (ht : (textU u).length ≤ 4096)
    (hx : CkIs w x c) (hc : Ck.Ok c) (hs : Small 4096 c) (hn : -9223372036854775808 ≤ now ∧ now ≤ 9223372036854775807) (B : Nat) (hM : ∀ b, M b → B ≤ b) (hG : GlB B w) :
    Calls Tryz.prog 14 #[.pointer (some p), a, x, .int .i64 now] w (SetOut M (.pointer (some p)) (setN l u c now) (setE u c now) w) := by
  obtain ⟨uz, rfl, rfl, hua⟩ := uat_of ha
  obtain ⟨cz, rfl, rfl, hca⟩ := cat_of hx
  obtain ⟨W, hW, bU, bC, bN, A1, hWs⟩ := box3 w 33 42 3 (urlRow uz).toArray (ckRow cz).toArray (.int .i64 now)
  have HH := Lib.hid h
  have HW := Lib.hid hW
  have A0 := Lib.hid A1
  have HUA := Lib.hid (hua.soft (Soft.of_below A1))
  have HCA := Lib.hid (hca.soft (Soft.of_below A1))
  have HG := Lib.hid (hG.gl.on A1)
  have HU := Lib.hid (And.intro hu ht)
  have HC := Lib.hid (And.intro hc hs)
  have hp1 : 1 ≤ uz.2.port := hu.port1
  clear h ha hx hua hca hG hW A1 hu ht hc hs
  have dp : decide ((uz.2.port : Int) = 0) = false := by simp; omega
  by_cases hr : 0 ≤ now ∧ now ≤ 1099511627776
  · have d1 : decide (now < 0) = false := by simp; omega
    have d2 : decide (1099511627776 < now) = false := by simp; omega
    have hN : setN l uz.2 cz.2 now = setJ l uz.2 cz.2 now := by unfold setN; rw [if_pos hr]
    have hE : setE uz.2 cz.2 now = if mayB cz.2 uz.2.host uz.2.scheme = true then 0 else 17 := by unfold setE; rw [if_pos hr]
    rw [hN, hE]
    have con := May_any (.agg (ckRow cz).toArray) (.agg (urlRow uz).toArray) cz.2 uz.2 W HCA.out.is HC.out.2 HUA.out.is HU.out.2 HG.out
    have HAp := Lib.hid (fun X (hb : Below W.heap.size W X) => apart_any cz X (HCA.out.soft (Soft.of_below hb)) HC.out.2)
    have HSv := Lib.hid (fun X (hb : Below W.heap.size W X) => server_any (.agg (urlRow uz).toArray) uz.2 X (HUA.out.soft (Soft.of_below hb)).is HU.out.1 HU.out.2)
    have HOf := Lib.hid (fun X (hb : Below W.heap.size W X) => Org.Of_any uz.2 (.agg (urlRow uz).toArray) X (HUA.out.soft (Soft.of_below hb)).is)
    obtain ⟨L', hL'⟩ : ∃ L', setJ l uz.2 cz.2 now = L' := ⟨_, rfl⟩
    have HL := Lib.hid hL'
    rw [hL']
    clear hL' hN hE
    by_cases hm : mayB cz.2 uz.2.host uz.2.scheme = true
    · rw [if_pos hm] at con ⊢
      have HM := Lib.hid hm
      clear hm
      obtain ⟨⟨⟨uq1, un1, uc1⟩, ⟨uq2, un2, uc2⟩, ⟨uq3, un3, uc3⟩, ⟨uq4, un4, uc4⟩, ⟨uq5, un5, uc5⟩⟩, ⟨us1, us2, us3, us4, us5, us6, us7, us8⟩⟩ := uz
      obtain ⟨⟨⟨⟨cq1, cn1, cc1⟩, ⟨cq2, cn2, cc2⟩⟩, ⟨cq3, cn3, cc3⟩⟩, ⟨cl1, cl2, cl3, cl4, cage, csec⟩⟩ := cz
      simp only [urlRow, ckRow, vC] at con bU bC dp hp1 HW ⊢
      have HBU := Lib.hid bU
      have HBC := Lib.hid bC
      have HBN := Lib.hid bN
      have x0 := bU 0 _ rfl
      have x1 := bU 1 _ rfl
      have x2 := bU 2 _ rfl
      have x3 := bU 3 _ rfl
      have x4 := bU 4 _ rfl
      have x5 := bU 5 _ rfl
      have x6 := bU 6 _ rfl
      have x7 := bU 7 _ rfl
      have y0 := bC 0 _ rfl
      have y1 := bC 1 _ rfl
      have y2 := bC 2 _ rfl
      have y3 := bC 3 _ rfl
      have y4 := bC 4 _ rfl
      have y5 := bC 5 _ rfl
      clear bU bC
      go_enter Tryz.func14, Tryz.ntmps14
      go_upto_region 1 with fail
      rw [HW.out]
      go_wp2_with fail
      refine con.mono ?_
      rintro e w1 ⟨rfl, hb1⟩
      have bU := Box.on HBU.out hb1
      have bC := Box.on HBC.out hb1
      have bN1 := cell_on bN hb1
      clear con x0 x1 x2 x3 x4 x5 x6 x7 y0 y1 y2 y3 y4 y5 bN d1 d2 dp hp1
      go_upto_region 7 with fail
      refine pregion_any (fun X => Box w.heap.size #[.slice uq1 un1 uc1, .slice uq2 un2 uc2, .int .i64 us3, .slice uq3 un3 uc3, .slice uq4 un4 uc4, .slice uq5 un5 uc5, .bool us7, .bool us8] X ∧ Box (w.heap.size + 1) #[.slice cq1 cn1 cc1, .slice cq2 cn2 cc2, .slice cq3 cn3 cc3, .string ⟨cl4.toArray⟩, .int .i64 cage, .bool csec] X ∧ X.cell? ⟨w.heap.size + 2, 0, none⟩ = some (.int .i64 now)) (by kernel_rfl) ?_
      have HB1 := Lib.hid (hb1.drew)
      replace bU : Box w.heap.size #[.slice uq1 un1 uc1, .slice uq2 un2 uc2, .int .i64 us3, .slice uq3 un3 uc3, .slice uq4 un4 uc4, .slice uq5 un5 uc5, .bool us7, .bool us8] w1.drew := bU
      replace bC : Box (w.heap.size + 1) #[.slice cq1 cn1 cc1, .slice cq2 cn2 cc2, .slice cq3 cn3 cc3, .string ⟨cl4.toArray⟩, .int .i64 cage, .bool csec] w1.drew := bC
      replace bN1 : w1.drew.cell? ⟨w.heap.size + 2, 0, none⟩ = some (.int .i64 now) := bN1
      have hs1 : w.heap.size + 3 ≤ w1.drew.heap.size := by have := HB1.out.size; omega
      clear hb1
      generalize w1.drew = X1 at *
      refine wpAnyH_take (i := 0) (v := (.agg #[.slice cq1 cn1 cc1, .slice cq2 cn2 cc2, .slice cq3 cn3 cc3, .string ⟨cl4.toArray⟩, .int .i64 cage, .bool csec])) rfl (by kernel_rfl) (by kernel_rfl) (by kernel_rfl) (fun _ _ _ h => h) (.inl ⟨by kernel_rfl, ?_⟩) ⟨bU, bC, bN1⟩ ?_
      · rintro w ⟨hu, hc, hn⟩; have x0 := hc 0 _ rfl; have x1 := hc 1 _ rfl; have x2 := hc 2 _ rfl; have x3 := hc 3 _ rfl; have x4 := hc 4 _ rfl; have x5 := hc 5 _ rfl; go_simp
      refine plist #[true, false, false, false, false, false, false, false] (by kernel_rfl) ?_
      refine wpAnyH_take (i := 2) (v := (.agg #[.slice uq1 un1 uc1, .slice uq2 un2 uc2, .int .i64 us3, .slice uq3 un3 uc3, .slice uq4 un4 uc4, .slice uq5 un5 uc5, .bool us7, .bool us8])) rfl (by kernel_rfl) (by kernel_rfl) (by kernel_rfl) (fun _ _ _ h => h) (.inl ⟨by kernel_rfl, ?_⟩) ⟨bU, bC, bN1⟩ ?_
      · rintro w ⟨hu, hc, hn⟩; have x0 := hu 0 _ rfl; have x1 := hu 1 _ rfl; have x2 := hu 2 _ rfl; have x3 := hu 3 _ rfl; have x4 := hu 4 _ rfl; have x5 := hu 5 _ rfl; have x6 := hu 6 _ rfl; have x7 := hu 7 _ rfl; go_simp
      refine plist #[true, false, true, false, false, false, false, false] (by kernel_rfl) ?_
      refine wpAnyH_take (i := 4) (v := (.int .i64 now)) rfl (by kernel_rfl) (by kernel_rfl) (by kernel_rfl) (fun _ _ _ h => h) (.inl ⟨by kernel_rfl, ?_⟩) ⟨bU, bC, bN1⟩ ?_
      · rintro w ⟨hu, hc, hn⟩; go_simp
      refine plist #[true, false, true, false, true, false, false, false] (by kernel_rfl) ?_
      apply oft4 (fun (B : Nat) (z1 : CZ) (z2 : UZ) (V : World) => PRow V B 1 1 [zZ] ∧ Below W.heap.size W V ∧ w.heap.size + 3 ≤ B ∧ CAt V z1 ∧ z1.2 = ⟨cl1, cl2, cl3, cl4, cage, csec⟩ ∧ UAt V z2 ∧ z2.2 = srvU ⟨us1, us2, us3, us4, us5, us6, us7, us8⟩)
      · intro fin
        refine ptwo 1 6 (by kernel_rfl) rfl rfl (fun K hK => ?_) (fun K hK => ?_)
        ·
          have con := HAp.out X1 HB1.out
          simp only [ckRow, vC] at con
          go_simp
          refine con.mono ?_
          rintro e X2 ⟨z1, rfl, hz1, hc1, hn1, hb2⟩
          clear con
          have bU := Box.on bU hb2
          have bC := Box.on bC hb2
          have bN1 := cell_on bN1 hb2
          have HB2 := Lib.hid (HB1.out.trans (hb2.mono HB1.out.size))
          have HC1 := Lib.hid (And.intro hz1 hc1)
          refine hK _ _ ⟨bU, bC, bN1⟩ ?_
          clear hK K
          refine plist #[true, true, true, false, true, false, false, false] (by kernel_rfl) ?_
          refine ptwo 3 6 (by kernel_rfl) rfl rfl (fun K hK => ?_) (fun K hK => ?_)
          ·
            have con := HSv.out X2 HB2.out
            simp only [urlRow, vC] at con
            go_simp
            refine con.mono ?_
            rintro e X3 ⟨v', rfl, hv', hb3⟩
            obtain ⟨z2, rfl, hz2, hu2⟩ := uat_of hv'
            clear con
            have bU := Box.on bU hb3
            have bC := Box.on bC hb3
            have bN1 := cell_on bN1 hb3
            have HB3 := Lib.hid (HB2.out.trans (hb3.mono HB2.out.size))
            have HC2 := Lib.hid (And.intro hz2 hu2)
            refine hK _ _ ⟨bU, bC, bN1⟩ ?_
            clear hK K
            refine plist #[true, true, true, true, true, false, false, false] (by kernel_rfl) ?_
            refine wpAnyH_take (i := 5) (v := (plV (z1, z2, now))) rfl (by kernel_rfl) (by kernel_rfl) (by kernel_rfl) (fun _ _ _ h => h) (.inl ⟨by kernel_rfl, ?_⟩) ⟨bU, bC, bN1⟩ ?_
            · rintro w ⟨hu, hc, hn⟩; simp only [plV, plRow, ckRow, urlRow, vC]; go_simp
            refine plist #[true, true, true, true, true, true, false, false] (by kernel_rfl) ?_
            refine pone 6 (by kernel_rfl) rfl fun K hK => ?_
            have hal := below_alloc (w := X3) (.cells (plRow zZ).toArray 105)
            have hpr := prow_new X3 zZ
            go_simp
            obtain ⟨B, hB⟩ : ∃ B, X3.heap.size = B := ⟨_, rfl⟩
            obtain ⟨X4, hV⟩ : ∃ V, X3.alloc (.cells (plRow zZ).toArray 105) = V := ⟨_, rfl⟩
            rw [hV] at hal hpr
            rw [hB] at hpr ⊢
            change K _ (X3.alloc (.cells (plRow zZ).toArray 105))
            rw [hV]
            have bU := Box.on bU hal
            have bC := Box.on bC hal
            have bN1 := cell_on bN1 hal
            have HB4 := Lib.hid (HB3.out.trans (hal.mono HB3.out.size))
            have HPR := Lib.hid hpr
            have HLB := Lib.hid (show w.heap.size + 3 ≤ B by have := HB3.out.size; omega)
            clear hpr hV hB
            refine hK _ _ ⟨bU, bC, bN1⟩ ?_
            clear hK K
            refine plist #[true, true, true, true, true, true, true, false] (by kernel_rfl) ?_
            exact fin B z1 z2 X4 ⟨HPR.out, HB4.out, HLB.out, HC1.out.2.soft (Soft.of_below (hb3.trans (hal.mono hb3.size))), HC1.out.1, HC2.out.2.soft (Soft.of_below hal), HC2.out.1⟩
          ·
            have hal := below_alloc (w := X2) (.cells (plRow zZ).toArray 105)
            have hpr := prow_new X2 zZ
            go_simp
            obtain ⟨B, hB⟩ : ∃ B, X2.heap.size = B := ⟨_, rfl⟩
            obtain ⟨X3, hV⟩ : ∃ V, X2.alloc (.cells (plRow zZ).toArray 105) = V := ⟨_, rfl⟩
            rw [hV] at hal hpr
            rw [hB] at hpr ⊢
            change K _ (X2.alloc (.cells (plRow zZ).toArray 105))
            rw [hV]
            have bU := Box.on bU hal
            have bC := Box.on bC hal
            have bN1 := cell_on bN1 hal
            have HB3 := Lib.hid (HB2.out.trans (hal.mono HB2.out.size))
            have HPR := Lib.hid hpr
            have HLB := Lib.hid (show w.heap.size + 3 ≤ B by have := HB2.out.size; omega)
            clear hpr hV hB
            refine hK _ _ ⟨bU, bC, bN1⟩ ?_
            clear hK K
            refine plist #[true, true, true, false, true, false, true, false] (by kernel_rfl) ?_
            refine pone 3 (by kernel_rfl) rfl fun K hK => ?_
            have con := HSv.out X3 HB3.out
            simp only [urlRow, vC] at con
            go_simp
            refine con.mono ?_
            rintro e X4 ⟨v', rfl, hv', hb3⟩
            obtain ⟨z2, rfl, hz2, hu2⟩ := uat_of hv'
            clear con
            have bU := Box.on bU hb3
            have bC := Box.on bC hb3
            have bN1 := cell_on bN1 hb3
            have HB4 := Lib.hid (HB3.out.trans (hb3.mono HB3.out.size))
            have HC2 := Lib.hid (And.intro hz2 hu2)
            refine hK _ _ ⟨bU, bC, bN1⟩ ?_
            clear hK K
            refine plist #[true, true, true, true, true, false, true, false] (by kernel_rfl) ?_
            refine wpAnyH_take (i := 5) (v := (plV (z1, z2, now))) rfl (by kernel_rfl) (by kernel_rfl) (by kernel_rfl) (fun _ _ _ h => h) (.inl ⟨by kernel_rfl, ?_⟩) ⟨bU, bC, bN1⟩ ?_
            · rintro w ⟨hu, hc, hn⟩; simp only [plV, plRow, ckRow, urlRow, vC]; go_simp
            refine plist #[true, true, true, true, true, true, true, false] (by kernel_rfl) ?_
            exact fin B z1 z2 X4 ⟨HPR.out.keep (Keep.of_below hb3) HPR.out.lt, HB4.out, HLB.out, HC1.out.2.soft (Soft.of_below (hal.trans (hb3.mono hal.size))), HC1.out.1, HC2.out.2, HC2.out.1⟩
        ·
          have hal := below_alloc (w := X1) (.cells (plRow zZ).toArray 105)
          have hpr := prow_new X1 zZ
          go_simp
          obtain ⟨B, hB⟩ : ∃ B, X1.heap.size = B := ⟨_, rfl⟩
          obtain ⟨X2, hV⟩ : ∃ V, X1.alloc (.cells (plRow zZ).toArray 105) = V := ⟨_, rfl⟩
          rw [hV] at hal hpr
          rw [hB] at hpr ⊢
          change K _ (X1.alloc (.cells (plRow zZ).toArray 105))
          rw [hV]
          have bU := Box.on bU hal
          have bC := Box.on bC hal
          have bN1 := cell_on bN1 hal
          have HB2 := Lib.hid (HB1.out.trans (hal.mono HB1.out.size))
          have HPR := Lib.hid hpr
          have HLB := Lib.hid (show w.heap.size + 3 ≤ B by have := HB1.out.size; omega)
          clear hpr hV hB
          refine hK _ _ ⟨bU, bC, bN1⟩ ?_
          clear hK K
          refine plist #[true, false, true, false, true, false, true, false] (by kernel_rfl) ?_
          refine pone 1 (by kernel_rfl) rfl fun K hK => ?_
          have con := HAp.out X2 HB2.out
          simp only [ckRow, vC] at con
          go_simp
          refine con.mono ?_
          rintro e X3 ⟨z1, rfl, hz1, hc1, hn1, hb2⟩
          clear con
          have bU := Box.on bU hb2
          have bC := Box.on bC hb2
          have bN1 := cell_on bN1 hb2
          have HB3 := Lib.hid (HB2.out.trans (hb2.mono HB2.out.size))
          have HC1 := Lib.hid (And.intro hz1 hc1)
          refine hK _ _ ⟨bU, bC, bN1⟩ ?_
          clear hK K
          refine plist #[true, true, true, false, true, false, true, false] (by kernel_rfl) ?_
          refine pone 3 (by kernel_rfl) rfl fun K hK => ?_
          have con := HSv.out X3 HB3.out
          simp only [urlRow, vC] at con
          go_simp
          refine con.mono ?_
          rintro e X4 ⟨v', rfl, hv', hb3⟩
          obtain ⟨z2, rfl, hz2, hu2⟩ := uat_of hv'
          clear con
          have bU := Box.on bU hb3
          have bC := Box.on bC hb3
          have bN1 := cell_on bN1 hb3
          have HB4 := Lib.hid (HB3.out.trans (hb3.mono HB3.out.size))
          have HC2 := Lib.hid (And.intro hz2 hu2)
          refine hK _ _ ⟨bU, bC, bN1⟩ ?_
          clear hK K
          refine plist #[true, true, true, true, true, false, true, false] (by kernel_rfl) ?_
          refine wpAnyH_take (i := 5) (v := (plV (z1, z2, now))) rfl (by kernel_rfl) (by kernel_rfl) (by kernel_rfl) (fun _ _ _ h => h) (.inl ⟨by kernel_rfl, ?_⟩) ⟨bU, bC, bN1⟩ ?_
          · rintro w ⟨hu, hc, hn⟩; simp only [plV, plRow, ckRow, urlRow, vC]; go_simp
          refine plist #[true, true, true, true, true, true, true, false] (by kernel_rfl) ?_
          exact fin B z1 z2 X4 ⟨HPR.out.keep (Keep.of_below (hb2.trans (hb3.mono hb2.size))) HPR.out.lt, HB4.out, HLB.out, HC1.out.2.soft (Soft.of_below hb3), HC1.out.1, HC2.out.2, HC2.out.1⟩
      · intro B z1 z2 V hV
        obtain ⟨hP, hB, hLB, hc1, hc1e, hu2, hu2e⟩ := hV
        obtain ⟨y, hy⟩ : ∃ y : PZ, y = (z1, z2, now) := ⟨_, rfl⟩
        have hya : PAt V y := by rw [hy]; exact ⟨hc1, hu2⟩
        have hy1 : y.1.2 = ⟨cl1, cl2, cl3, cl4, cage, csec⟩ := by rw [hy]; exact hc1e
        have hy2 : y.2.1.2 = srvU ⟨us1, us2, us3, us4, us5, us6, us7, us8⟩ := by rw [hy]; exact hu2e
        have hy3 : y.2.2 = now := by rw [hy]
        rw [← hy]
        have HF := Lib.hid (And.intro HB1.out HB1.out)
        clear bU bC bN1 HF hy hc1 hc1e hu2 hu2e
        have bU := Box.on HBU.out hB
        have bC := Box.on HBC.out hB
        have bN1 := cell_on HBN.out hB
        obtain ⟨V2, hV2⟩ : ∃ V2, V.setCells B 0 (plRow y) = V2 := ⟨_, rfl⟩
        have hset := hP.set (show 0 < 1 by decide) y
        rw [Nat.zero_mul, hV2] at hset
        have hkS : Keep (fun b => b ≠ B) V V2 := by rw [← hV2]; exact keep_setCells (fun b => b ≠ B) B (fun h => h rfl) (plRow y) 0 V
        have hro := fun t (ht : t < 15) => (hP.room (j := t) (by omega)).2
        have hce := hP.box
        have f0 := hro 0 (by decide)
        have f1 := hro 1 (by decide)
        have f2 := hro 2 (by decide)
        have f3 := hro 3 (by decide)
        have f4 := hro 4 (by decide)
        have f5 := hro 5 (by decide)
        have f6 := hro 6 (by decide)
        have f7 := hro 7 (by decide)
        have f8 := hro 8 (by decide)
        have f9 := hro 9 (by decide)
        have f10 := hro 10 (by decide)
        have f11 := hro 11 (by decide)
        have f12 := hro 12 (by decide)
        have f13 := hro 13 (by decide)
        have f14 := hro 14 (by decide)
        simp only [plRow, zZ, vC] at hce
        have e0 := hce 0 _ rfl
        have e1 := hce 1 _ rfl
        have e2 := hce 2 _ rfl
        have e3 := hce 3 _ rfl
        have e4 := hce 4 _ rfl
        have e5 := hce 5 _ rfl
        have e6 := hce 6 _ rfl
        have e7 := hce 7 _ rfl
        have e8 := hce 8 _ rfl
        have e9 := hce 9 _ rfl
        have e10 := hce 10 _ rfl
        have e11 := hce 11 _ rfl
        have e12 := hce 12 _ rfl
        have e13 := hce 13 _ rfl
        have e14 := hce 14 _ rfl
        clear hro hce
        have HYA := Lib.hid (hya.by (by_off (M := fun b => b = B) (fun b hb => by subst hb; exact hP.nou8) hkS))
        have HY := Lib.hid (And.intro hy1 (And.intro hy2 hy3))
        clear hya hy1 hy2 hy3 hP
        refine pone 7 (by kernel_rfl) rfl fun K hK => ?_
        simp only [plV]
        simp only [plRow, vC] at hV2 ⊢
        go_simp
        rw [chain0, hV2]
        have bU := Box.keepB bU hkS (by omega)
        have bC := Box.keepB bC hkS (by omega)
        have bN1 := (World.cell?_of_block (hkS.block (w.heap.size + 2) (World.block_lt_of_cell? V _ bN1) (by omega))).trans bN1
        refine hK _ _ ⟨bU, bC, bN1⟩ ?_
        have HB5 := Lib.hid (hB.trans ((hkS.mono fun b hb h => by omega : Keep (· < W.heap.size) V V2).below hB.size))
        have HSET := Lib.hid hset
        clear hK K hV2 hkS hset hB f0 f1 f2 f3 f4 f5 f6 f7 f8 f9 f10 f11 f12 f13 f14 e0 e1 e2 e3 e4 e5 e6 e7 e8 e9 e10 e11 e12 e13 e14
        refine pdone (by kernel_rfl) ?_ _
        have con := HOf.out V2 HB5.out
        simp only [urlRow, vC, Org.orgV] at con
        have x0 := bU 0 _ rfl
        have x1 := bU 1 _ rfl
        have x2 := bU 2 _ rfl
        have x3 := bU 3 _ rfl
        have x4 := bU 4 _ rfl
        have x5 := bU 5 _ rfl
        have x6 := bU 6 _ rfl
        have x7 := bU 7 _ rfl
        go_wp2_with fail
        refine con.mono ?_
        rintro e V3 ⟨rfl, hb4⟩
        clear con x0 x1 x2 x3 x4 x5 x6 x7
        go_upto_region 9 with fail
        obtain ⟨g1, hg1⟩ : ∃ g, plV y = g := ⟨_, rfl⟩
        simp only [plV, plRow, vC] at hg1
        rw [hg1]
        obtain ⟨g2, hg2⟩ : ∃ g, Value.agg #[.slice uq1 un1 uc1, .slice uq2 un2 uc2, .int .i64 us3, .slice uq3 un3 uc3, .slice uq4 un4 uc4, .slice uq5 un5 uc5, .bool us7, .bool us8] = g := ⟨_, rfl⟩
        rw [hg2]
        obtain ⟨g3, hg3⟩ : ∃ g, Value.agg #[.slice cq1 cn1 cc1, .slice cq2 cn2 cc2, .slice cq3 cn3 cc3, .string ⟨cl4.toArray⟩, .int .i64 cage, .bool csec] = g := ⟨_, rfl⟩
        rw [hg3]
        generalize Value.agg (ckRow z1).toArray = g4
        generalize Value.agg (urlRow z2).toArray = g5
        clear hg1 hg2 hg3
        obtain ⟨V4, hV4⟩ : ∃ V4, V3.alloc (.cells #[.string ⟨us1.toArray⟩, .string ⟨us2.toArray⟩, .int .i64 us3, .int .i64 0] 62) = V4 := ⟨_, rfl⟩
        rw [hV4]
        have hal : Below V3.heap.size V3 V4 := by rw [← hV4]; exact below_alloc _
        have bO : Box V3.heap.size #[.string ⟨us1.toArray⟩, .string ⟨us2.toArray⟩, .int .i64 us3, .int .i64 0] V4 := by rw [← hV4]; exact Box.new V3 _ _
        have h24 := (hb4.trans (hal.mono hb4.size)).drew
        replace bO : Box V3.heap.size #[.string ⟨us1.toArray⟩, .string ⟨us2.toArray⟩, .int .i64 us3, .int .i64 0] V4.drew := bO
        have hOlt : V3.heap.size < V4.drew.heap.size := World.block_lt_of_cell? _ _ (bO 0 _ rfl)
        clear hb4 hal hV4 bU bC bN1
        have hB7 : Below W.heap.size W V4.drew := HB5.out.trans (h24.mono HB5.out.size)
        have hPR : PRow V4.drew B 1 1 [y] := HSET.out.keep (Keep.of_below h24) HSET.out.lt
        have hYA : PAt V4.drew y := HYA.out.soft (Soft.of_below h24)
        have bw := A0.out.trans (hB7.mono A0.out.size)
        have hJ4 : JarIn M (.pointer (some p)) l V4.drew := HH.out.keep ((Keep.of_below bw).mono fun b hb _ => hb) (Soft.of_below bw)
        obtain ⟨pb, mv, lv, zs, rfl, bJ, hpl, hzs, hlk⟩ := hJ4.look (keyU ⟨us1, us2, us3, us4, us5, us6, us7, us8⟩)
        replace hlk := hlk _ (Below.refl _ _)
        simp only [MapO.keyV, Org.orgV, keyU] at hlk
        refine pregion_any (fun X => Boxed X pb 85 (.map mv) ∧ Box V3.heap.size #[.string ⟨us1.toArray⟩, .string ⟨us2.toArray⟩, .int .i64 us3, .int .i64 0] X) (by kernel_rfl) ?_
        clear h24
        generalize V4.drew = X5 at *
        obtain ⟨hzo, hzl⟩ := HH.out.zs hzs
        have HEN := Lib.hid (⟨HC.out.1, HC.out.2, HU.out.1, HU.out.2, hr.1, hr.2⟩ : EOk ⟨⟨us1, us2, us3, us4, us5, us6, us7, us8⟩, ⟨cl1, cl2, cl3, cl4, cage, csec⟩, now⟩)
        have hye : enZ y = srvE ⟨⟨us1, us2, us3, us4, us5, us6, us7, us8⟩, ⟨cl1, cl2, cl3, cl4, cage, csec⟩, now⟩ := by show (⟨y.2.1.2, y.1.2, y.2.2⟩ : En) = _; rw [HY.out.1, HY.out.2.1, HY.out.2.2]; rfl
        have hat := hpl.at
        have pr := pred_set X5 (w.heap.size + 2) B now y zs hn (cell_on HBN.out hB7) hPR.box hYA (by rw [hye]; exact HEN.out.srv) (fun z hm => ⟨hat z hm, hzo z hm⟩) (HG.out.on hB7)
        have con := without_any 54 #[.pointer (some ⟨w.heap.size + 2, 0, none⟩), .pointer (some ⟨B, 0, none⟩)] _ lv zs X5 (enters_of Tryz.func54 (by kernel_rfl) rfl) pr hpl (by omega)
        have hws := left_zs y ⟨cl1, cl2, cl3, cl4, cage, csec⟩ now HY.out.2.1 HY.out.1 hzs
        have hwm : ∀ z ∈ zs.filter (fun z => !(overE now (enZ z) || sameE y.2.1.2 y.1.2 (enZ z))), PAt X5 z ∧ EOk (enZ z) := fun z hm => ⟨hat z (List.mem_filter.1 hm).1, hzo z (List.mem_filter.1 hm).1⟩
        obtain ⟨hall, hfew⟩ := HH.out.all
        have hlf := left_few ⟨us1, us2, us3, us4, us5, us6, us7, us8⟩ ⟨cl1, cl2, cl3, cl4, cage, csec⟩ now hfew
        have hwl : (zs.filter (fun z => !(overE now (enZ z) || sameE y.2.1.2 y.1.2 (enZ z)))).length ≤ 8 := by have := congrArg List.length hws; simp only [List.length_map] at this; rw [this]; exact hlf
        generalize zs.filter (fun z => !(overE now (enZ z) || sameE y.2.1.2 y.1.2 (enZ z))) = ws at *
        have HWS := Lib.hid hws
        have HWM := Lib.hid hwm
        have HWL := Lib.hid hwl
        have HLF := Lib.hid hlf
        have HAF := Lib.hid (And.intro hall hfew)
        have HYE := Lib.hid hye
        have HB7 := Lib.hid hB7
        have HPR := Lib.hid hPR
        have HYA5 := Lib.hid hYA
        have HBW := Lib.hid bw
        have HJ4 := Lib.hid hJ4
        clear hzo hzl hat pr hws hwm hall hfew hlf hwl hye hB7 hPR hYA bw hJ4 hpl hzs HYA HSET HB5
        refine wpAnyH_take (i := 0) (v := (.pointer (some ⟨pb, 0, none⟩))) rfl (by kernel_rfl) (by kernel_rfl) (by kernel_rfl) (fun _ _ _ h => h) (.inl ⟨by kernel_rfl, ?_⟩) ⟨bJ, bO⟩ ?_
        · rintro w ⟨hj, hk⟩; go_simp
        refine plist #[true, false, false, false, false, false, false, false, false] (by kernel_rfl) ?_
        refine wpAnyH_take (i := 1) (v := (.pointer (some ⟨pb, 0, none⟩))) rfl (by kernel_rfl) (by kernel_rfl) (by kernel_rfl) (fun _ _ _ h => h) (.inl ⟨by kernel_rfl, ?_⟩) ⟨bJ, bO⟩ ?_
        · rintro w ⟨hj, hk⟩; go_simp
        refine plist #[true, true, false, false, false, false, false, false, false] (by kernel_rfl) ?_
        refine wpAnyH_take (i := 2) (v := (.pointer (some ⟨pb, 0, none⟩))) rfl (by kernel_rfl) (by kernel_rfl) (by kernel_rfl) (fun _ _ _ h => h) (.inl ⟨by kernel_rfl, ?_⟩) ⟨bJ, bO⟩ ?_
        · rintro w ⟨hj, hk⟩; go_simp
        refine plist #[true, true, true, false, false, false, false, false, false] (by kernel_rfl) ?_
        refine wpAnyH_take (i := 3) (v := (.map mv)) rfl (by kernel_rfl) (by kernel_rfl) (by kernel_rfl) (fun _ _ _ h => h) (.inl ⟨by kernel_rfl, ?_⟩) ⟨bJ, bO⟩ ?_
        · rintro w ⟨hj, hk⟩; have x0 := hj.cell; go_simp
        refine plist #[true, true, true, true, false, false, false, false, false] (by kernel_rfl) ?_
        refine wpAnyH_take (i := 4) (v := (.agg #[.string ⟨us1.toArray⟩, .string ⟨us2.toArray⟩, .int .i64 us3, .int .i64 0])) rfl (by kernel_rfl) (by kernel_rfl) (by kernel_rfl) (fun _ _ _ h => h) (.inl ⟨by kernel_rfl, ?_⟩) ⟨bJ, bO⟩ ?_
        · rintro w ⟨hj, hk⟩; have x0 := hk 0 _ rfl; have x1 := hk 1 _ rfl; have x2 := hk 2 _ rfl; have x3 := hk 3 _ rfl; go_simp
        refine plist #[true, true, true, true, true, false, false, false, false] (by kernel_rfl) ?_
        refine wpAnyH_take (i := 6) (v := (.func (.func 54) #[] #[.pointer (some ⟨w.heap.size + 2, 0, none⟩), .pointer (some ⟨B, 0, none⟩)])) rfl (by kernel_rfl) (by kernel_rfl) (by kernel_rfl) (fun _ _ _ h => h) (.inl ⟨by kernel_rfl, ?_⟩) ⟨bJ, bO⟩ ?_
        · rintro w ⟨hj, hk⟩; go_simp
        refine plist #[true, true, true, true, true, false, true, false, false] (by kernel_rfl) ?_
        simp only [Act.put, List.getElem_toArray, List.getElem_cons_zero, List.getElem_cons_succ, List.setIfInBounds_toArray, List.set_cons_zero, List.set_cons_succ]
        refine pone 5 (by kernel_rfl) rfl fun K hK => ?_
        refine step_lookup rfl _ _ _ rfl _ _ _ _ rfl rfl hlk ?_
        refine hK _ _ ⟨bJ, bO⟩ ?_
        clear hK K hlk
        refine plist #[true, true, true, true, true, true, true, false, false] (by kernel_rfl) ?_
        refine pone 7 (by kernel_rfl) rfl fun K hK => ?_
        go_simp
        refine con.mono ?_
        rintro e V5 ⟨v5, m5, rfl, hr5, hb5⟩
        replace bJ := (Keep.of_below hb5).boxed bJ bJ.lt
        replace bO := Box.on bO hb5
        refine hK _ _ ⟨bJ, bO⟩ ?_
        clear hK K con
        refine plist #[true, true, true, true, true, true, true, true, false] (by kernel_rfl) ?_
        refine pone 8 (by kernel_rfl) rfl fun K hK => ?_
        go_simp
        refine hK _ _ ⟨bJ, bO⟩ ?_
        clear hK K
        refine pdone (by kernel_rfl) ?_ _
        have hm5 : m5 = ws.length := by have := hr5.1; rw [plrows_len] at this; omega
        have hv5 : ∃ q c, v5 = .slice q m5 c := by
          rcases hr5.2 with ⟨rfl, rfl⟩ | ⟨g, cap, cur, rfl, -⟩
          · exact ⟨_, _, rfl⟩
          · exact ⟨_, _, rfl⟩
        obtain ⟨q5, c5, rfl⟩ := hv5
        have HB8 := Lib.hid (HB7.out.trans (hb5.mono HB7.out.size))
        have bC := Box.on HBC.out HB8.out
        have hJ5 : JarIn M (.pointer (some ⟨pb, 0, none⟩)) l V5 := HJ4.out.keep ((Keep.of_below hb5).mono fun b hb _ => hb) (Soft.of_below hb5)
        have HJ5 := Lib.hid hJ5
        have HBW5 := Lib.hid (HBW.out.trans (hb5.mono HBW.out.size))
        have HM5 := Lib.hid hm5
        have HR5 := Lib.hid hr5
        have HB5 := Lib.hid hb5
        clear bJ hJ5 hm5 hr5 hb5
        by_cases h0 : cage = 0
        · subst h0
          have con := keep_any M ⟨pb, 0, none⟩ l L' (keyU ⟨us1, us2, us3, us4, us5, us6, us7, us8⟩) q5 m5 c5 ws V5 HJ5.out HM5.out (fun hne => ?hplv) ?hkk
          case hplv =>
            rcases prow_of HR5.out with ⟨-, -, h1⟩ | ⟨R, cap, h1, -, hp⟩
            · exact absurd h1 hne
            · cases h1
              exact hp.plv (by have := HM5.out; have := List.length_pos_iff.2 hne; omega) (fun z hm => ((HWM.out z hm).1.soft (Soft.of_below HB5.out)))
          case hkk =>
            rw [← HL.out]
            exact set_keepK HAF.out.1 HAF.out.2 HEN.out (by rw [gone_mine ⟨us1, us2, us3, us4, us5, us6, us7, us8⟩ ⟨cl1, cl2, cl3, cl4, 0, csec⟩ now HM.out rfl]; exact HWS.out)
          simp only [MapO.keyV, Org.orgV, keyU] at con
          have y0 := bC 0 _ rfl
          have y1 := bC 1 _ rfl
          have y2 := bC 2 _ rfl
          have y3 := bC 3 _ rfl
          have y4 := bC 4 _ rfl
          have y5 := bC 5 _ rfl
          have o0 := bO 0 _ rfl
          have o1 := bO 1 _ rfl
          have o2 := bO 2 _ rfl
          have o3 := bO 3 _ rfl
          clear bC bO
          go_wp2_with fail
          refine con.mono ?_
          rintro e V6 ⟨rfl, M', hJ', hM', hk'⟩
          clear con y0 y1 y2 y3 y4 y5 o0 o1 o2 o3
          have HF := Lib.hid (And.intro hJ' (And.intro hM' hk'))
          clear hJ' hM' hk'
          go_wp2
          go_ret
          exact ⟨M', rfl, HF.out.1, fun b hb => (HF.out.2.1 b hb).imp id (fun h => Nat.le_trans HBW5.out.size h), ((Keep.of_below HBW5.out).mono fun b hb _ => hb).trans HF.out.2.2⟩
        · have d0 : decide (cage = 0) = false := by simpa using h0
          have y0 := bC 0 _ rfl
          have y1 := bC 1 _ rfl
          have y2 := bC 2 _ rfl
          have y3 := bC 3 _ rfl
          have y4 := bC 4 _ rfl
          have y5 := bC 5 _ rfl
          clear bC
          go_upto_region 11 with fail
          clear y0 y1 y2 y3 y4 y5
          have hBX : B < X5.heap.size := HPR.out.lt
          refine pregion_any (fun X => Box B (plRow y).toArray X) (by kernel_rfl) ?_
          have bP : Box B (plRow y).toArray V5.drew := Box.on HPR.out.box HB5.out.drew
          have hr6 : V5.drew.ownsRow X5.heap.size 105 15 (.slice q5 m5 c5) m5 (ws.flatMap plRow) := HR5.out
          have hb6 : Below X5.heap.size X5 V5.drew := HB5.out.drew
          have hbV : Below V5.heap.size V5 V5.drew := (Below.refl _ _).drew
          replace bO := Box.on bO hbV
          have HBV := Lib.hid hbV
          clear hbV
          generalize V5.drew = X6 at *
          refine wpAnyH_take (i := 0) (v := (.slice q5 m5 c5)) rfl (by kernel_rfl) (by kernel_rfl) (by kernel_rfl) (fun _ _ _ h => h) (.inl ⟨by kernel_rfl, ?_⟩) bP ?_
          · rintro w hk; go_simp
          refine plist #[true, false, false, false, false, false] (by kernel_rfl) ?_
          refine wpAnyH_take (i := 2) (v := (plV y)) rfl (by kernel_rfl) (by kernel_rfl) (by kernel_rfl) (fun _ _ _ h => h) (.inl ⟨by kernel_rfl, ?_⟩) bP ?_
          · rintro w hk
            simp only [plRow, vC] at hk
            have x0 := hk 0 _ rfl
            have x1 := hk 1 _ rfl
            have x2 := hk 2 _ rfl
            have x3 := hk 3 _ rfl
            have x4 := hk 4 _ rfl
            have x5 := hk 5 _ rfl
            have x6 := hk 6 _ rfl
            have x7 := hk 7 _ rfl
            have x8 := hk 8 _ rfl
            have x9 := hk 9 _ rfl
            have x10 := hk 10 _ rfl
            have x11 := hk 11 _ rfl
            have x12 := hk 12 _ rfl
            have x13 := hk 13 _ rfl
            have x14 := hk 14 _ rfl
            simp only [plV, plRow, vC]
            go_simp
          refine plist #[true, false, true, false, false, false] (by kernel_rfl) ?_
          apply oft4 (fun (v6 : Value) (m6 : Nat) (Bb : Nat) (V : World) => V.ownsRow X5.heap.size 105 15 v6 m6 ((ws.drop (ws.length - 7)).flatMap plRow) ∧ m6 ≤ 7 ∧ Box Bb (plRow y).toArray V ∧ Below X5.heap.size X6 V)
          · intro fin
            refine ptwo 1 3 (by kernel_rfl) rfl rfl (fun K hK => ?_) (fun K hK => ?_)
            ·
              have con := latest_row X5.heap.size (.slice q5 m5 c5) m5 ws X6 hr6 (by have := HM5.out; have := HWL.out; omega)
              go_simp
              refine con.mono ?_
              rintro e X7 ⟨v6, m6, rfl, hr7, hm6, hk6⟩
              clear con
              have hnB : ∀ b, rowB (.slice q5 m5 c5) b → X5.heap.size ≤ b := fun b hb => (row_lt HR5.out b hb).1
              have hk7 : Below X5.heap.size X6 X7 := (hk6.mono (T := (· < X5.heap.size)) fun b hb h => ⟨hb, fun hh => by have := hnB b hh; omega⟩).below (by have := hb6.size; first | omega | (have := hal.size; omega))
              have bP2 := Box.keepB bP hk6 ⟨by have := hb6.size; omega, fun hh => by have := hnB B hh; omega⟩
              refine hK _ _ bP2 ?_
              clear hK K
              refine plist #[true, true, true, false, false, false] (by kernel_rfl) ?_
              refine pone 3 (by kernel_rfl) rfl fun K hK => ?_
              have hal := below_alloc (w := X7) (.cells (plRow y).toArray 105)
              have hbb := Box.new X7 (plRow y).toArray 105
              simp only [plV, plRow, vC]
              go_simp
              obtain ⟨Bb, hBb⟩ : ∃ B, X7.heap.size = B := ⟨_, rfl⟩
              obtain ⟨X8, hV⟩ : ∃ V, X7.alloc (.cells (plRow y).toArray 105) = V := ⟨_, rfl⟩
              rw [hV] at hal hbb
              rw [hBb] at hbb ⊢
              change K _ (X7.alloc (.cells (plRow y).toArray 105))
              rw [hV]
              clear hV
              refine hK _ _ (Box.on bP2 hal) ?_
              clear hK K
              refine plist #[true, true, true, true, false, false] (by kernel_rfl) ?_
              exact fin v6 m6 Bb X8 ⟨own_keepP hr7 (Keep.of_below hal) (fun b hb => (row_lt hr7 b hb).2), hm6, hbb, hk7.trans (hal.mono (by have := hb6.size; have := hk7.size; omega))⟩
            ·
              have hal := below_alloc (w := X6) (.cells (plRow y).toArray 105)
              have hbb := Box.new X6 (plRow y).toArray 105
              simp only [plV, plRow, vC]
              go_simp
              obtain ⟨Bb, hBb⟩ : ∃ B, X6.heap.size = B := ⟨_, rfl⟩
              obtain ⟨X7, hV⟩ : ∃ V, X6.alloc (.cells (plRow y).toArray 105) = V := ⟨_, rfl⟩
              rw [hV] at hal hbb
              rw [hBb] at hbb ⊢
              change K _ (X6.alloc (.cells (plRow y).toArray 105))
              rw [hV]
              clear hV
              refine hK _ _ (Box.on bP hal) ?_
              clear hK K
              refine plist #[true, false, true, true, false, false] (by kernel_rfl) ?_
              refine pone 1 (by kernel_rfl) rfl fun K hK => ?_
              have con := latest_row X5.heap.size (.slice q5 m5 c5) m5 ws X7 (own_keepP hr6 (Keep.of_below hal) (fun b hb => (row_lt hr6 b hb).2)) (by have := HM5.out; have := HWL.out; omega)
              go_simp
              refine con.mono ?_
              rintro e X8 ⟨v6, m6, rfl, hr7, hm6, hk6⟩
              clear con
              have hnB : ∀ b, rowB (.slice q5 m5 c5) b → X5.heap.size ≤ b := fun b hb => (row_lt HR5.out b hb).1
              have hk7 : Below X5.heap.size X7 X8 := (hk6.mono (T := (· < X5.heap.size)) fun b hb h => ⟨hb, fun hh => by have := hnB b hh; omega⟩).below (by have := hb6.size; first | omega | (have := hal.size; omega))
              have hb7 := hb6.size
              have hb8 := hal.size
              refine hK _ _ (Box.keepB (Box.on bP hal) hk6 ⟨by omega, fun hh => by have := hnB B hh; omega⟩) ?_
              clear hK K
              refine plist #[true, true, true, true, false, false] (by kernel_rfl) ?_
              exact fin v6 m6 Bb X8 ⟨hr7, hm6, Box.keepB hbb hk6 ⟨World.block_lt_of_cell? _ _ (hbb 0 _ rfl), fun hh => by have := (row_lt hr6 Bb hh).2; omega⟩, (hal.mono (by omega)).trans (hk7)⟩
          · intro v6 m6 Bb X8 hX
            obtain ⟨hr7, hm6, hbb, hb8⟩ := hX
            obtain ⟨v7, X9, happ, hr8, hk8⟩ := append_row hr7 hbb hm6 (by have := hb6.size; have := hb8.size; omega)
            have hb9 : Below X5.heap.size X8 X9 := (hk8.mono (T := (· < X5.heap.size)) fun b hb h => ⟨hb, fun hh => by have := (row_lt hr7 b hh).1; omega⟩).below (by have := hb6.size; have := hb8.size; omega)
            have hb10 := (hb6.trans hb8).trans hb9
            have bP := Box.keepB HPR.out.box (Keep.of_below hb10) hBX
            refine pone 4 (by kernel_rfl) rfl fun K hK => ?_
            refine step_append rfl _ _ _ rfl _ _ _ _ rfl rfl (happ _) ?_
            refine hK _ _ bP ?_
            clear hK K
            refine plist #[true, true, true, true, true, false] (by kernel_rfl) ?_
            refine pone 5 (by kernel_rfl) rfl fun K hK => ?_
            go_simp
            refine hK _ _ bP ?_
            clear hK K
            refine pdone (by kernel_rfl) ?_ _
            have hv7 : ∃ q c, v7 = .slice q (m6 + 1) c := by
              rcases hr8.2 with ⟨rfl, h0⟩ | ⟨g, cap, cur, rfl, -⟩
              · exact absurd h0 (by omega)
              · exact ⟨_, _, rfl⟩
            obtain ⟨q7, c7, rfl⟩ := hv7
            have hJ9 : JarIn M (.pointer (some ⟨pb, 0, none⟩)) l X9 := HJ4.out.keep ((Keep.of_below hb10).mono fun b hb _ => hb) (Soft.of_below hb10)
            have hlen : m6 + 1 = (ws.drop (ws.length - 7) ++ [y]).length := by have := hr8.1; rw [plrows_len] at this; omega
            have con := keep_any M ⟨pb, 0, none⟩ l L' (keyU ⟨us1, us2, us3, us4, us5, us6, us7, us8⟩) q7 (m6 + 1) c7 (ws.drop (ws.length - 7) ++ [y]) X9 hJ9 hlen (fun hne => ?hplv) ?hkk
            case hplv =>
              rcases prow_of hr8 with ⟨-, h1, -⟩ | ⟨R, cap, h1, -, hp⟩
              · exact absurd h1 (by omega)
              · cases h1
                refine hp.plv (by omega) (fun z hm => ?_)
                rcases List.mem_append.1 hm with hm | hm
                · exact (HWM.out z (List.mem_of_mem_drop hm)).1.soft (Soft.of_below hb10)
                · rw [List.mem_singleton.1 hm]; exact HYA5.out.soft (Soft.of_below hb10)
            case hkk =>
              rw [← HL.out]
              exact set_keepK HAF.out.1 HAF.out.2 HEN.out (put_zs HWS.out HYE.out HM.out h0 HLF.out)
            simp only [MapO.keyV, Org.orgV, keyU] at con
            replace bO := Box.keepB bO (Keep.of_below (hb8.trans hb9)) hOlt
            have o0 := bO 0 _ rfl
            have o1 := bO 1 _ rfl
            have o2 := bO 2 _ rfl
            have o3 := bO 3 _ rfl
            have HBWX := Lib.hid (HBW.out.trans (hb10.mono HBW.out.size))
            clear bO bP hr7 hbb hb8 happ hr8 hk8 hb9 hb10 hJ9 hlen hr6 hb6 d0
            go_wp2_with fail
            refine con.mono ?_
            rintro e V6 ⟨rfl, M', hJ', hM', hk'⟩
            clear con o0 o1 o2 o3
            have HF := Lib.hid (And.intro hJ' (And.intro hM' hk'))
            clear hJ' hM' hk'
            go_wp2
            go_ret
            exact ⟨M', rfl, HF.out.1, fun b hb => (HF.out.2.1 b hb).imp id (fun h => Nat.le_trans HBWX.out.size h), ((Keep.of_below HBWX.out).mono fun b hb _ => hb).trans HF.out.2.2⟩
    · rw [if_neg hm] at con ⊢
      have e : L' = l := by rw [← HL.out]; unfold setJ; rw [if_neg hm]
      subst e
      obtain ⟨⟨⟨uq1, un1, uc1⟩, ⟨uq2, un2, uc2⟩, ⟨uq3, un3, uc3⟩, ⟨uq4, un4, uc4⟩, ⟨uq5, un5, uc5⟩⟩, ⟨us1, us2, us3, us4, us5, us6, us7, us8⟩⟩ := uz
      obtain ⟨⟨⟨⟨cq1, cn1, cc1⟩, ⟨cq2, cn2, cc2⟩⟩, ⟨cq3, cn3, cc3⟩⟩, ⟨cl1, cl2, cl3, cl4, cage, csec⟩⟩ := cz
      simp only [urlRow, ckRow, vC] at con bU bC dp hp1 HW ⊢
      have x0 := bU 0 _ rfl
      have x1 := bU 1 _ rfl
      have x2 := bU 2 _ rfl
      have x3 := bU 3 _ rfl
      have x4 := bU 4 _ rfl
      have x5 := bU 5 _ rfl
      have x6 := bU 6 _ rfl
      have x7 := bU 7 _ rfl
      have y0 := bC 0 _ rfl
      have y1 := bC 1 _ rfl
      have y2 := bC 2 _ rfl
      have y3 := bC 3 _ rfl
      have y4 := bC 4 _ rfl
      have y5 := bC 5 _ rfl
      clear bU bC
      have hbd : Bool.true = Bool.true := rfl
      go_enter Tryz.func14, Tryz.ntmps14
      go_upto_region 1 with fail
      rw [HW.out]
      go_wp2_with fail
      refine con.mono ?_
      rintro e w1 ⟨rfl, hb1⟩
      clear con x0 x1 x2 x3 x4 x5 x6 x7 y0 y1 y2 y3 y4 y5 bN d1 d2 dp hp1
      go_wp2
      go_ret
      exact setOut_same HH.out (A0.out.trans (hb1.mono A0.out.size))
  · have hN : setN l uz.2 cz.2 now = l := by unfold setN; rw [if_neg hr]
    have hE : setE uz.2 cz.2 now = 13 := by unfold setE; rw [if_neg hr]
    rw [hN, hE]
    obtain ⟨⟨⟨uq1, un1, uc1⟩, ⟨uq2, un2, uc2⟩, ⟨uq3, un3, uc3⟩, ⟨uq4, un4, uc4⟩, ⟨uq5, un5, uc5⟩⟩, ⟨us1, us2, us3, us4, us5, us6, us7, us8⟩⟩ := uz
    obtain ⟨⟨⟨⟨cq1, cn1, cc1⟩, ⟨cq2, cn2, cc2⟩⟩, ⟨cq3, cn3, cc3⟩⟩, ⟨cl1, cl2, cl3, cl4, cage, csec⟩⟩ := cz
    simp only [urlRow, ckRow, vC] at *
    have x0 := bU 0 _ rfl
    have x1 := bU 1 _ rfl
    have x2 := bU 2 _ rfl
    have x3 := bU 3 _ rfl
    have x4 := bU 4 _ rfl
    have x5 := bU 5 _ rfl
    have x6 := bU 6 _ rfl
    have x7 := bU 7 _ rfl
    have y0 := bC 0 _ rfl
    have y1 := bC 1 _ rfl
    have y2 := bC 2 _ rfl
    have y3 := bC 3 _ rfl
    have y4 := bC 4 _ rfl
    have y5 := bC 5 _ rfl
    clear bU bC
    by_cases hz : now < 0
    · have d1 : decide (now < 0) = true := by simpa using hz
      go_enter Tryz.func14, Tryz.ntmps14
      go_upto_region 1 with fail
      rw [HW.out]
      go_wp2
      go_ret
      exact setOut_same HH.out A0.out
    · have d1 : decide (now < 0) = false := by simpa using hz
      have d2 : decide (1099511627776 < now) = true := by simp; omega
      go_enter Tryz.func14, Tryz.ntmps14
      go_upto_region 1 with fail
      rw [HW.out]
      go_wp2
      go_ret
      exact setOut_same HH.out A0.out
end Go.Proofs.YtniehbjoogaccaaGreatDoor.Jar
namespace Go.Proofs.YtniehbjoogaccaaGreatDoor.Jar
open Go.RowKit Go.Shelf Url Yld
attribute [local go_sem] Oper.semAt_some
set_option linter.unusedVariables false
def KRow (w : World) (R n cap : Nat) (ys : List Key) : Prop := ∃ cur : Array Value, w.heap[R]? = some (.cells cur 62 (0, 0)) ∧ cur.toList.take (n * 4) = ys.flatMap orgC ∧ n ≤ cap ∧ cap ≤ maxLen
theorem KRow.keep {w w' : World} {R n cap : Nat} {ys : List Key} {S : Nat → Prop} (h : KRow w R n cap ys) (hk : Keep S w w') (hS : S R) : KRow w' R n cap ys := by
  obtain ⟨cur, h1, h2⟩ := h
  exact ⟨cur, hk.heap hS h1, h2⟩
theorem org_get : ∀ (zs : List Key) (i : Nat) (z : Key), zs[i]? = some z → ∀ j v, (orgC z)[j]? = some v → (zs.flatMap orgC)[i * 4 + j]? = some v
  | [], i, z, h => by simp at h
  | y :: r, 0, z, h => by
    simp at h; subst h
    intro j v hv
    rw [List.flatMap_cons, Nat.zero_mul, Nat.zero_add, List.getElem?_append_left (List.getElem?_eq_some_iff.1 hv).1]
    exact hv
  | y :: r, i + 1, z, h => by
    have h' : r[i]? = some z := by simpa using h
    intro j v hv
    have ih := org_get r i z h' j v hv
    have hl : (orgC y).length = 4 := rfl
    rw [List.flatMap_cons, List.getElem?_append_right (by rw [hl]; omega), hl, show (i + 1) * 4 + j - 4 = i * 4 + j by omega]
    exact ih
theorem KRow.cells {w : World} {R n cap : Nat} {ys : List Key} (h : KRow w R n cap ys) (hl : ys.length = n) {i : Nat} {k : Key} (hi : ys[i]? = some k) : ∀ j v, (orgC k)[j]? = some v → w.cell? ⟨R, i * 4 + j, none⟩ = some v := by
  obtain ⟨cur, h1, h2, -⟩ := h
  intro j u hu
  have hil : i < ys.length := (List.getElem?_eq_some_iff.1 hi).1
  have hj : j < 4 := (List.getElem?_eq_some_iff.1 hu).1
  have hc := org_get ys i k hi j u hu
  rw [← h2, List.getElem?_take, if_pos (by omega)] at hc
  simp only [World.cell?, h1]
  simpa using hc
def KArgQ (k : Key) (args : Array Value) : Prop := args = #[MapO.keyV k]
set_option maxRecDepth 100000 in
set_option maxHeartbeats 8000000 in
theorem Values1_key (B9 : Nat) (q : Option Addr) (n c : Nat) (ys : List Key) (RB : Nat → Prop) (w0 : World) (hb : Boxed w0 B9 170 (.slice q n c)) (hR9 : RB B9) (hRs : ∀ b, RB b → b < w0.heap.size)
    (hrow : 0 < n → ∃ R, q = some ⟨R, 0, none⟩ ∧ KRow w0 R n c ys ∧ RB R) (hl : ys.length = n) (hn : n ≤ 1099511627776) :
    IterQ Tryz.prog 159 #[.pointer (some ⟨B9, 0, none⟩)] KArgQ ys RB w0 := by
  intro l' J Jx W hW hJ hJx hY h0
  refine (callsIn_wide (n := 1)).1 ?_
  refine callsIn_of_wp Tryz.func159 rfl trivial ?_ rfl
  simp only [Tryz.ntmps159, List.size_toArray, List.length_cons, List.length_nil, Nat.reduceAdd, Nat.reduceSub, Array.replicate_succ, Array.replicate_zero, List.push_toArray, List.append_toArray, List.nil_append, List.cons_append]
  have k1 := (hW.boxed hb hR9).cell
  have HRow := Lib.hid hrow
  have HL := Lib.hid hl
  have HW0 := Lib.hid hW
  have HRs := Lib.hid hRs
  have HY := Lib.hid hY
  clear hb hrow hl hRs hY
  gi_wp2
  gi_loopw [7] (fun i wr => ∃ k : Nat, k ≤ n ∧ i = .int .i64 k ∧ Hid (Keep RB W wr) ∧ Hid (J (ys.take k) wr)) (fun i _ => n - (intOf i).toNat)
  case atStart => exact ⟨0, Nat.zero_le _, rfl, Lib.hid (Keep.refl _ _), Lib.hid h0⟩
  case round =>
    obtain ⟨i, hk, rfl, HK, HJ⟩ := hrel
    by_cases hlt : i < n
    · obtain ⟨R, rfl, hp, hRR⟩ := HRow.out (by omega)
      have kw : Keep RB w0 wr := HW0.out.trans HK.out
      have hc0 := hp.keep kw hRR
      obtain ⟨k, hzk, hd⟩ := drop_getElemZ ys i (by rw [HL.out]; exact hlt)
      have hc := hc0.cells HL.out hzk
      obtain ⟨X, hX⟩ : ∃ X, wr.alloc (.cells #[.string ⟨k.1.toArray⟩, .string ⟨k.2.1.toArray⟩, .int .i64 k.2.2, .int .i64 0] 62) = X := ⟨_, rfl⟩
      have A1 : Below wr.heap.size wr X := by rw [← hX]; exact below_alloc _
      have hHE : ys = ys.take i ++ k :: ys.drop (i + 1) := by conv => lhs; rw [← List.take_append_drop i ys, hd]
      have HTK := Lib.hid (show ys.take (i + 1) = ys.take i ++ [k] from take_snocA ys i k hzk)
      obtain ⟨fn, tmps, assign, body, hy, hR⟩ := HY.out (ys.take i) k (ys.drop (i + 1)) #[MapO.keyV k] X hHE (hJ _ _ _ HJ.out A1) rfl
      unfold MapO.keyV Org.orgV at hy
      have HKX := Lib.hid (show Keep RB W X from HK.out.trans ((Keep.of_below A1).mono fun b hb hr => hb))
      rw [← hX] at hy hR
      have c0 : wr.cell? ⟨R, i * 4, none⟩ = some (.string ⟨k.1.toArray⟩) := hc 0 _ rfl
      have c1 : wr.cell? ⟨R, i * 4 + 1, none⟩ = some (.string ⟨k.2.1.toArray⟩) := hc 1 _ rfl
      have c2 : wr.cell? ⟨R, i * 4 + 2, none⟩ = some (.int .i64 k.2.2) := hc 2 _ rfl
      have c3 : wr.cell? ⟨R, i * 4 + 3, none⟩ = some (.int .i64 0) := hc 3 _ rfl
      have HX := Lib.hid hX
      have HHE := Lib.hid hHE
      clear hp hc0 hzk hd kw hc A1 hX hHE
      gi_wp2_with fail
      refine hR.mono ?_
      rintro e W5 ⟨hkp, hpost⟩
      rw [HX.out] at hkp
      have hk5 : Keep RB W W5 := HKX.out.trans hkp
      clear hR hy hkp c0 c1 c2 c3
      rcases hpost with ⟨rfl, hj5⟩ | ⟨rfl, hj5⟩
      · gi_wp2
        go_roundw
        case rel => exact ⟨i + 1, by omega, by go_num, Lib.hid hk5, Lib.hid (by rw [HTK.out]; exact hj5)⟩
        case measure => simp [intOf]; omega
      · gi_wp2
        refine bodyPost_ret (results_none rfl _ _ _) rfl ?_
        exact ⟨⟨_, rfl⟩, .inr ⟨ys.take i ++ [k], _, by rw [List.append_assoc]; exact HHE.out, hj5⟩⟩
    · have HX2 := Lib.hid (show ys.take i = ys from List.take_of_length_le (by rw [HL.out]; omega))
      gi_wp2
      refine bodyPost_end (results_none rfl _ _ _) rfl ?_
      exact ⟨⟨_, rfl⟩, .inl (by have h := HJ.out; rw [HX2.out] at h; exact h)⟩
theorem Values_key (q : Option Addr) (n c : Nat) (w : World) : Calls Tryz.prog 122 #[.slice q n c] w fun e w' => e = .returned (.func (.func 159) #[] #[.pointer (some ⟨w.heap.size, 0, none⟩)]) ∧ w' = w.alloc (.cells #[.slice q n c] 170) := by
  go_enter Tryz.func122, Tryz.ntmps122
  go_wp2
  go_ret
  exact ⟨rfl, rfl⟩
theorem own_lt4 {w : World} {base n : Nat} {v : Value} {xs : List Value} (h : w.ownsRow base 62 4 v n xs) : ∀ b, rowB v b → base ≤ b ∧ b < w.heap.size := fun b hh => by
  obtain ⟨o', n', c', rfl⟩ := hh
  exact h.lt b rfl
def OrdOut (l : List En) (w : World) (e : Ending) (w' : World) : Prop := ∃ (ys : List Key) (gf : Nat) (lb : Array Value) (RB : Nat → Prop), e = .returned (.func (.func gf) #[] lb) ∧ (∀ args w, (callFunc gf args).run Tryz.prog w = .ok (.enter gf args) w) ∧ IterQ Tryz.prog gf lb KArgQ ys RB w' ∧
  (∀ b, RB b → w.heap.size ≤ b ∧ b < w'.heap.size) ∧ Below w.heap.size w w' ∧ ys.Nodup ∧ (∀ k, k ∈ ys ↔ ∃ e ∈ l, keyU e.at_ = k) ∧ ys.map textK = ownersJ l
set_option maxRecDepth 100000 in
set_option maxHeartbeats 8000000 in
theorem inOrder_any (M : Nat → Prop) (p : Addr) (l : List En) (w : World) (h : JarIn M (.pointer (some p)) l w) (hl : l.length ≤ 1048576) (hG : Gl w) : Calls Tryz.prog 74 #[.pointer (some p)] w (OrdOut l w) := by
  obtain ⟨pb, mv, ks, f, hp, h1, h2, h3, h4, h5, h6, h7⟩ := h
  cases hp
  have hnd : ks.Nodup := by
    cases mv with
    | none => rw [show ks = [] from h3]; exact List.nodup_nil
    | some mb => exact h3.2.nodup
  have hko : ∀ k ∈ ks, KOk k := fun k hk => by
    obtain ⟨e, he, rfl⟩ := (h4 k).1 hk
    exact ⟨e.at_, (h6 e he).url, (h6 e he).len, rfl⟩
  have hlen : ks.length ≤ 1099511627776 := by
    have := nodup_few ks (l.map fun e => keyU e.at_) hnd (fun k hk => by
      obtain ⟨e, he, rfl⟩ := (h4 k).1 hk
      exact List.mem_map.2 ⟨e, he, rfl⟩)
    rw [List.length_map] at this
    omega
  obtain ⟨RB0, hit, hRB0⟩ := keys_iter mv pb ks f w h3
  obtain ⟨W1, hW1⟩ : ∃ W1, w.alloc (.cells #[.map mv] 83) = W1 := ⟨_, rfl⟩
  have b1 : Below w.heap.size w W1 := by rw [← hW1]; exact below_alloc _
  rw [hW1] at hit hRB0
  have con := Keys_any mv w
  rw [hW1] at con
  have con2 := SortedFunc_key _ _ ks RB0 W1 (enters_of Tryz.func162 (by kernel_rfl) rfl) hit hRB0 hlen hnd hko (hG.on b1)
  have HB1 := Lib.hid b1
  have HOW := Lib.hid (owners_keys h4)
  have H4 := Lib.hid h4
  have HND := Lib.hid hnd
  have HLN := Lib.hid hlen
  have x0 := h1.cell
  clear h1 h2 h3 h4 h5 h6 h7 hnd hko hlen hit hRB0 b1 hW1 hG
  go_enter Tryz.func74, Tryz.ntmps74
  go_wp2_with fail
  refine con.mono ?_
  rintro e w1 ⟨rfl, rfl⟩
  clear con x0
  go_wp2_with fail
  refine con2.mono ?_
  rintro e w2 ⟨v, ys, rfl, hp, ht, hr, hb⟩
  clear con2
  obtain ⟨q', n', k', hn', rfl⟩ := keys_form hr
  have con3 := Values_key q' n' k' w2
  have HP := Lib.hid (And.intro hp (And.intro ht (And.intro hr hb)))
  obtain ⟨W3, hW3⟩ : ∃ W3, w2.alloc (.cells #[.slice q' n' k'] 170) = W3 := ⟨_, rfl⟩
  rw [hW3] at con3
  have HW3 := Lib.hid hW3
  clear hp ht hr hb hW3
  go_wp2_with fail
  refine con3.mono ?_
  rintro e w3 ⟨rfl, rfl⟩
  clear con3
  go_wp2
  go_ret
  obtain ⟨hp, ht, hr, hb⟩ := HP.out
  have hn := hn'.out
  subst hn
  have hs1 := HB1.out.size
  have hs2 := hb.size
  have b3 : Below w2.heap.size w2 w3 := by rw [← HW3.out]; exact below_alloc _
  have bx : Boxed w3 w2.heap.size 170 (.slice q' ys.length k') := by rw [← HW3.out]; exact Boxed.new w2 _ _
  have hs3 : w3.heap.size = w2.heap.size + 1 := by rw [← HW3.out]; simp
  have hrow := own_lt4 hr
  refine ⟨ys, _, _, fun b => b = w2.heap.size ∨ rowB (.slice q' ys.length k') b, rfl, enters_of Tryz.func159 (by kernel_rfl) rfl, ?_, ?_, (HB1.out.trans ((hb.mono hs1).trans (b3.mono (by omega)))), hp.nodup_iff.2 HND.out, fun k => hp.mem_iff.trans (H4.out k), ht.trans HOW.out⟩
  · refine Values1_key w2.heap.size q' ys.length k' ys _ w3 bx (.inl rfl) ?_ (fun h0 => ?_) rfl ?_
    · rintro b (rfl | hb')
      · omega
      · have := hrow b hb'; omega
    · rcases hr.2 with ⟨-, hm⟩ | ⟨g, cap, cur, he, hgb, hg, g1, g2, g3, g4⟩
      · omega
      · cases he
        exact ⟨g, rfl, ⟨cur, (b3.block g (Array.getElem?_eq_some_iff.1 hg).1).trans hg, g4, g1, g2⟩, .inr ⟨_, _, _, rfl⟩⟩
    · have := hp.length_eq
      have := HLN.out
      omega
  · rintro b (rfl | hb')
    · exact ⟨by omega, by omega⟩
    · have := hrow b hb'; exact ⟨by omega, by omega⟩
theorem inOrder1_iter (RB : Nat → Prop) (w0 : World) : IterQ Tryz.prog 119 #[] KArgQ [] RB w0 := by
  intro l' J Jx W hW hJ hJx hY h0
  refine (callsIn_wide (n := 1)).1 ?_
  refine callsIn_of_wp Tryz.func119 rfl trivial ?_ rfl
  simp only [Tryz.ntmps119, List.size_toArray, List.length_cons, List.length_nil, Nat.reduceAdd, Nat.reduceSub, Array.replicate_succ, Array.replicate_zero, List.push_toArray, List.append_toArray, List.nil_append, List.cons_append]
  clear hY
  gi_wp2
  refine bodyPost_end (results_none rfl _ _ _) rfl ?_
  exact ⟨⟨_, rfl⟩, .inl h0⟩
theorem inOrder_nil (w : World) : Calls Tryz.prog 74 #[.pointer none] w fun e w' => e = .returned (.func (.func 119) #[] #[]) ∧ Below w.heap.size w w' := by
  go_enter Tryz.func74, Tryz.ntmps74
  go_wp2
  go_ret
  exact ⟨rfl, Below.refl _ _⟩
end Go.Proofs.YtniehbjoogaccaaGreatDoor.Jar
namespace Go.Proofs.YtniehbjoogaccaaGreatDoor.Jar
open Go.RowKit Go.Shelf Url Ck
attribute [local go_sem] Oper.semAt_some
set_option linter.unusedVariables false
def goneJ (now : Int) (pre : List Key) (l : List En) : List En := l.filter fun e => !(overE now e && decide (keyU e.at_ ∈ pre))
theorem gone_nil (now : Int) (l : List En) : goneJ now [] l = l := List.filter_eq_self.2 (fun e _ => by simp)
theorem gone_all {now : Int} {ys : List Key} {l : List En} (h : ∀ e ∈ l, keyU e.at_ ∈ ys) : goneJ now ys l = sweepJ now l :=
  List.filter_congr fun e he => by rw [decide_eq_true (h e he), Bool.and_true]
theorem gone_snoc (now : Int) (pre : List Key) (k : Key) (l : List En) : goneJ now (pre ++ [k]) l = (goneJ now pre l).filter fun e => !(overE now e && mine k e) := by
  unfold goneJ
  rw [List.filter_filter]
  refine List.filter_congr fun e _ => ?_
  have h : decide (keyU e.at_ ∈ pre ++ [k]) = (decide (keyU e.at_ ∈ pre) || mine k e) := by
    unfold mine
    rw [Bool.eq_iff_iff]
    simp
  rw [h]
  cases overE now e <;> cases decide (keyU e.at_ ∈ pre) <;> cases mine k e <;> rfl
theorem gone_le (now : Int) (pre : List Key) (l : List En) : (goneJ now pre l).length ≤ l.length := List.length_filter_le _ _
theorem part_len {α : Type} (q : α → Bool) : ∀ l : List α, (l.filter q).length + (l.filter fun e => !q e).length = l.length
  | [] => rfl
  | x :: r => by
    have ih := part_len q r
    cases hq : q x with
    | true =>
      rw [List.filter_cons_of_pos hq, List.filter_cons_of_neg (by rw [hq]; decide), List.length_cons, List.length_cons]
      omega
    | false =>
      rw [List.filter_cons_of_neg (by rw [hq]; decide), List.filter_cons_of_pos (by rw [hq]; rfl), List.length_cons, List.length_cons]
      omega
theorem gone_own {now : Int} {l : List En} {k : Key} {zs : List PZ} (hz : zs.map enZ = (l.filter (mine k)).map srvE) :
    (zs.filter fun z => !overE now (enZ z)).map enZ = ((l.filter fun e => !(overE now e && mine k e)).filter (mine k)).map srvE := by
  have h1 : (zs.filter fun z => !overE now (enZ z)).map enZ = (zs.map enZ).filter fun e => !overE now e := by rw [List.filter_map]; rfl
  rw [h1, hz, List.filter_map, List.filter_filter, List.filter_filter]
  congr 1
  refine List.filter_congr fun e _ => ?_
  show ((!overE now (srvE e)) && mine k e) = (mine k e && !(overE now e && mine k e))
  rw [over_srv]
  cases overE now e <;> cases mine k e <;> rfl
theorem gone_keepK {now : Int} {l : List En} {k : Key} {zs : List PZ} (h : ∀ e ∈ l, EOk e) (hf : ∀ k, lenJ k l ≤ 8) (hz : zs.map enZ = (l.filter (mine k)).map srvE) :
    KeepK l (l.filter fun e => !(overE now e && mine k e)) k (zs.filter fun z => !overE now (enZ z)) where
  own := gone_own hz
  other := fun k' hk => by
    rw [List.filter_filter]
    refine List.filter_congr fun e _ => ?_
    cases hm : mine k' e with
    | false => rfl
    | true =>
      have : mine k e = false := decide_eq_false (fun h' => hk ((of_decide_eq_true hm).symm.trans h'))
      rw [this, Bool.and_false]
      rfl
  ok := fun e he => h e (List.mem_filter.1 he).1
  few := fun k' => Nat.le_trans ((List.filter_sublist (l := l)).filter _).length_le (hf k')
theorem gone_count {now : Int} {l : List En} {k : Key} {zs : List PZ} (hz : zs.map enZ = (l.filter (mine k)).map srvE) :
    l.length + (zs.filter fun z => !overE now (enZ z)).length = (l.filter fun e => !(overE now e && mine k e)).length + zs.length := by
  have h1 := part_len (fun e => overE now e && mine k e) l
  have h2 := part_len (fun z => overE now (enZ z)) zs
  have h3 : (zs.filter fun z => overE now (enZ z)).length = (l.filter fun e => overE now e && mine k e).length := by
    have a1 : ((zs.filter fun z => overE now (enZ z)).map enZ) = (zs.map enZ).filter fun e => overE now e := by rw [List.filter_map]; rfl
    have a2 := congrArg List.length a1
    rw [List.length_map, hz, List.filter_map, List.length_map, List.filter_filter] at a2
    rw [a2]
    rfl
  omega
def SweepI (M : Nat → Prop) (p : Addr) (l : List En) (now : Int) (N : Nat) (W0 : World) (pre : List Key) (W : World) : Prop :=
  ∃ M' : Nat → Prop, JarIn M' (.pointer (some p)) (goneJ now pre l) W ∧ (∀ b, M' b → (M b ∧ b < N) ∨ W0.heap.size + 2 ≤ b) ∧
    Boxed W (N + 1 + 1) 3 (.int .i64 ((l.length - (goneJ now pre l).length : Nat) : Int)) ∧ W.cell? ⟨N, 0, none⟩ = some (.pointer (some p)) ∧ W.cell? ⟨N + 1, 0, none⟩ = some (.int .i64 now) ∧ Keep (fun b => ¬ M b ∧ b < N) W0 W
theorem Sweep_abide (M : Nat → Prop) (p : Addr) (l : List En) (now : Int) (N : Nat) (W0 : World) : AbideQ (SweepI M p l now N W0) := by
  rintro pre A B ⟨M', h1, h2, h3, h4, h5, h6⟩ hb
  have hk := Keep.of_below hb
  exact ⟨M', h1.keep (hk.mono fun b hb' _ => hb') (Soft.of_below hb), h2, hk.boxed h3 h3.lt, cell_on h4 hb, cell_on h5 hb, h6.trans (hk.mono fun b hb' _ => hb')⟩
theorem loop_off {A : World} {d : Nat} (hd : ∃ r, A.heap[d]? = some (.loop r)) : Off (fun b => b = d) A := by
  obtain ⟨r, hr⟩ := hd
  rintro b rfl
  refine ⟨(Array.getElem?_eq_some_iff.1 hr).1, fun i z hz => ?_, fun i q n c hz => ?_⟩ <;> simp [World.cell?, hr] at hz
theorem Sweep_loop (M : Nat → Prop) (p : Addr) (l : List En) (now : Int) (N : Nat) (W0 : World) (hN : N + 3 ≤ W0.heap.size) : ∀ s A B, SweepI M p l now N W0 s A → (∃ r, A.heap[W0.heap.size + 1]? = some (.loop r)) → Keep (fun b => b ≠ W0.heap.size + 1) A B → B.heap.size = A.heap.size → SweepI M p l now N W0 s B := by
  rintro pre A B ⟨M', h1, h2, h3, h4, h5, h6⟩ hl hk hs
  have hc : ∀ a v, A.cell? a = some v → a.block ≠ W0.heap.size + 1 → B.cell? a = some v := fun a v ha hne => (World.cell?_of_block (hk.block _ (World.block_lt_of_cell? A _ ha) hne)).trans ha
  refine ⟨M', h1.keep (hk.mono fun b _ hm => ?_) ((loop_off hl).soft (hk.mono fun b _ h => h)), h2, hk.boxed h3 (by omega), hc _ _ h4 (by simp; omega), hc _ _ h5 (by simp; omega), h6.trans (hk.mono fun b _ h => by have := h.2; omega)⟩
  rcases h2 b hm with h | h
  · have := h.2; omega
  · omega
theorem int_off {A : World} {d : Nat} {t : TypeId} {n : Int} (hd : Boxed A d t (.int .i64 n)) : Off (fun b => b = d) A := by
  have hh : A.heap[d]? = some (.cells #[.int .i64 n] t (0, 0)) := hd
  rintro b rfl
  refine ⟨hd.lt, fun i z hz => ?_, fun i q n c hz => ?_⟩ <;>
  · simp only [World.cell?, hh] at hz
    rcases i with _ | i <;> simp at hz
theorem def_off {A : World} {d : Nat} {x : Option (List Deferred)} (hd : A.heap[d]? = some (.deferred x)) : Off (fun b => b = d) A := by
  rintro b rfl
  refine ⟨(Array.getElem?_eq_some_iff.1 hd).1, fun i z hz => ?_, fun i q n c hz => ?_⟩ <;> simp [World.cell?, hd] at hz
theorem pl_form {w : World} {base n : Nat} {v : Value} {xs : List PZ} (h : w.ownsRow base 105 15 v n (xs.flatMap plRow)) : ∃ q c, v = .slice q n c ∧ xs.length = n ∧ ((∀ z ∈ xs, PAt w z) → xs ≠ [] → PlV w (.slice q n c) xs) := by
  rcases prow_of h with ⟨rfl, rfl, rfl⟩ | ⟨R, cap, rfl, hb, hp⟩
  · exact ⟨_, _, rfl, rfl, fun _ h0 => absurd rfl h0⟩
  · have hl : xs.length = n := by have := h.1; rw [plrows_len] at this; omega
    exact ⟨_, _, rfl, hl, fun ha h0 => hp.plv (by have := List.length_pos_iff.2 h0; omega) ha⟩
set_option maxRecDepth 100000 in
set_option maxHeartbeats 16000000 in
theorem Sweep_any (M : Nat → Prop) (p : Addr) (l : List En) (now : Int) (w : World) (h : JarIn M (.pointer (some p)) l w) (hn : 0 ≤ now ∧ now ≤ 9223372036854775807) (B : Nat) (hM : ∀ b, M b → B ≤ b) (hG : GlB B w) (hl : l.length ≤ 1048576) :
    Calls Tryz.prog 24 #[.pointer (some p), .int .i64 now] w (SetOut M (.pointer (some p)) (sweepJ now l) ((l.length - (sweepJ now l).length : Nat) : Int) w) := by
  obtain ⟨W, hW⟩ : ∃ W, ((w.alloc (.cells #[.pointer (some p)] 25)).alloc (.cells #[.int .i64 now] 3)).alloc (.cells #[.int .i64 0] 3) = W := ⟨_, rfl⟩
  have b1 : Below (w.alloc (.cells #[.pointer (some p)] 25)).heap.size (w.alloc (.cells #[.pointer (some p)] 25)) W := by
    rw [← hW]
    exact ((Below.refl _ _).alloc (Nat.le_refl _) _).alloc (by simp) _
  have A1 : Below w.heap.size w W := (below_alloc _).trans (b1.mono (by simp))
  have hWs : W.heap.size = w.heap.size + 3 := by rw [← hW]; simp
  have cJ : W.cell? ⟨w.heap.size, 0, none⟩ = some (.pointer (some p)) := cell_on (Boxed.new w _ _).cell b1
  have cN : W.cell? ⟨w.heap.size + 1, 0, none⟩ = some (.int .i64 now) := by
    have := cell_on (Boxed.new (w.alloc (.cells #[.pointer (some p)] 25)) 3 (.int .i64 now)).cell (below_alloc (.cells #[.int .i64 0] 3))
    rw [World.size_alloc] at this
    rw [← hW]
    exact this
  have bG : Boxed W (w.heap.size + 1 + 1) 3 (.int .i64 0) := by
    have := Boxed.new ((w.alloc (.cells #[.pointer (some p)] 25)).alloc (.cells #[.int .i64 now] 3)) 3 (.int .i64 0)
    simp only [World.size_alloc] at this
    rw [← hW]
    exact this
  have hoff := h.off
  have hJ0 : JarIn M (.pointer (some p)) l W := h.keep ((Keep.of_below A1).mono fun b hb _ => hb) (Soft.of_below A1)
  have con := inOrder_any M p l W hJ0 hl (hG.gl.on A1)
  have HW := Lib.hid hW
  have A0 := Lib.hid A1
  have HWS := Lib.hid hWs
  have HJ0 := Lib.hid hJ0
  have HLL := Lib.hid hl
  have HOFF := Lib.hid hoff
  have HG := Lib.hid hG
  have HN := Lib.hid hn
  clear h hG A1 b1 hW hWs hl hJ0 hoff hM
  refine (callsIn_wide (n := 1)).1 ?_
  refine callsIn_of_wp_marks Tryz.func24 rfl trivial ?_ rfl
  simp only [Tryz.ntmps24, List.size_toArray, List.length_cons, List.length_nil, Nat.reduceAdd, Nat.reduceSub, Array.replicate_succ, Array.replicate_zero, List.push_toArray, List.append_toArray, List.nil_append, List.cons_append]
  gi_upto_region 2 with fail
  rw [HW.out]
  gi_wp2_with fail
  refine ⟨trivial, (callsIn_wide.2 con).mono ?_⟩
  rintro e W0 ⟨ys, gf, lb, RB, rfl, eg, hi, hRB, hb0, hnd, hmem, -⟩
  clear con
  have hws := HWS.out
  have hs0 := hb0.size
  have hk0 := Keep.of_below hb0
  have bG0 : Boxed W0 (w.heap.size + 1 + 1) 3 (.int .i64 0) := hk0.boxed bG (by omega)
  have cJ0 := cell_on cJ hb0
  have cN0 := cell_on cN hb0
  have hJ1 : JarIn M (.pointer (some p)) l W0 := HJ0.out.keep (hk0.mono fun b hb _ => hb) (Soft.of_below hb0)
  have HJ1 := Lib.hid hJ1
  have HB0 := Lib.hid hb0
  have HMEM := Lib.hid hmem
  clear bG cJ cN hJ1 hb0 hk0 hmem hnd
  gi_wp2
  refine rf_lawQ (gf := gf) (lb := lb) rfl eg hi (Keep.refl _ _) (fun b hb => (hRB b hb).2) (fun x args h => by rw [show args = _ from h]; rfl)
    (SweepI M p l now w.heap.size W0) (Sweep_abide _ _ _ _ _ _) (Sweep_loop _ _ _ _ _ _ (by omega))
    ⟨M, by rw [gone_nil]; exact HJ1.out, fun b hb => .inl ⟨hb, (HOFF.out b hb).1⟩, by rw [gone_nil, Nat.sub_self]; exact bG0, cJ0, cN0, Keep.refl _ _⟩ ?round ?done
  case round =>
    rintro pre k rest args Wr hys hI hL hD harg
    obtain rfl : args = #[MapO.keyV k] := harg
    have hI1 := Sweep_abide _ _ _ _ _ _ _ _ _ hI (below_alloc (.cells #[.string ⟨k.1.toArray⟩, .string ⟨k.2.1.toArray⟩, .int .i64 k.2.2, .int .i64 0] 62))
    unfold MapO.keyV Org.orgV
    obtain ⟨W1, hW1⟩ : ∃ W1, Wr.alloc (.cells #[.string ⟨k.1.toArray⟩, .string ⟨k.2.1.toArray⟩, .int .i64 k.2.2, .int .i64 0] 62) = W1 := ⟨_, rfl⟩
    rw [hW1] at hI1
    have bT : Box Wr.heap.size #[.string ⟨k.1.toArray⟩, .string ⟨k.2.1.toArray⟩, .int .i64 k.2.2, .int .i64 0] W1 := by rw [← hW1]; exact Box.new Wr _ _
    have k1 : ∀ S, Keep S Wr W1 := fun S => by rw [← hW1]; exact Keep.alloc S _ _
    have hs1 : W1.heap.size = Wr.heap.size + 1 := by rw [← hW1]; simp
    obtain ⟨rl, hrl⟩ := hL
    have hll := (Array.getElem?_eq_some_iff.1 hrl).1
    have hL1 : ∃ r, W1.heap[W0.heap.size + 1]? = some (.loop r) := ⟨rl, (k1 (fun _ => True)).heap trivial hrl⟩
    have HW1 := Lib.hid hW1
    have HI1 := Lib.hid hI1
    have HL1 := Lib.hid hL1
    have HK1 := Lib.hid k1
    have HBT := Lib.hid bT
    clear hW1 hI1 hL1 k1 bT hI hD hrl hi eg
    gi_wp2
    rw [HW1.out]
    refine ⟨HK1.out _, fun W2 hk2 hs2 hr => ?_⟩
    obtain ⟨M', hJ, hM', bG, cJ, cN, hKW⟩ := Sweep_loop _ _ _ _ _ _ (by omega) _ _ _ HI1.out HL1.out hk2 hs2
    have bT2 : Box Wr.heap.size #[.string ⟨k.1.toArray⟩, .string ⟨k.2.1.toArray⟩, .int .i64 k.2.2, .int .i64 0] W2 := fun i x hx => (World.cell?_of_block (hk2.block Wr.heap.size (by omega) (by omega))).trans (HBT.out i x hx)
    have hNl : Wr.heap.size < W2.heap.size := by omega
    have hlw : W0.heap.size + 1 < W2.heap.size := by omega
    have hsn := gone_snoc now pre k l
    have hle := gone_le now pre l
    obtain ⟨l2, hl2⟩ : ∃ x, goneJ now (pre ++ [k]) l = x := ⟨_, rfl⟩
    obtain ⟨l1, hl1⟩ : ∃ x, goneJ now pre l = x := ⟨_, rfl⟩
    rw [hl2, hl1] at hsn
    rw [hl1] at hJ bG hle
    have HL2 := Lib.hid hl2
    have con := of_any M' p _ k W2 hJ
    unfold MapO.keyV Org.orgV at con
    have t0 : W2.cell? ⟨Wr.heap.size, 0, none⟩ = some (.string ⟨k.1.toArray⟩) := bT2 0 _ rfl
    have t1 : W2.cell? ⟨Wr.heap.size, 1, none⟩ = some (.string ⟨k.2.1.toArray⟩) := bT2 1 _ rfl
    have t2 : W2.cell? ⟨Wr.heap.size, 2, none⟩ = some (.int .i64 k.2.2) := bT2 2 _ rfl
    have t3 : W2.cell? ⟨Wr.heap.size, 3, none⟩ = some (.int .i64 0) := bT2 3 _ rfl
    have HJ := Lib.hid hJ
    have HM' := Lib.hid hM'
    have HBG := Lib.hid bG
    have HBT2 := Lib.hid bT2
    have HKW := Lib.hid hKW
    have HCJ := Lib.hid cJ
    have HCN := Lib.hid cN
    have HSN := Lib.hid hsn
    have HLE := Lib.hid hle
    have HYS := Lib.hid hys
    clear hk2 hs2 hr hJ hM' bG bT2 hKW cN hys hsn hle hl1 hl2
    gi_wp2_with fail
    refine ⟨trivial, rfl, (CallsIn.inRound _ (callsIn_wide.2 con)).mono ?_⟩
    rintro e W3 ⟨v, zs, rfl, hv, hz, hb3⟩
    obtain ⟨hzo, hzl⟩ := HJ.out.zs hz
    have pr := pred_sweep W3 (w.heap.size + 1) now zs ⟨by have := HN.out; omega, HN.out.2⟩ (cell_on HCN.out hb3) hzo
    have con2 := without_any 75 #[.pointer (some ⟨w.heap.size + 1, 0, none⟩)] _ v zs W3 (enters_of Tryz.func75 (by kernel_rfl) rfl) pr hv (by omega)
    have HKK := Lib.hid (gone_keepK (now := now) HJ.out.all.1 HJ.out.all.2 hz)
    have HCT := Lib.hid (gone_count (now := now) hz)
    have HAT := Lib.hid hv.at
    have HB3 := Lib.hid hb3
    rw [← HSN.out] at HKK HCT
    obtain ⟨ws, hws'⟩ : ∃ ws, zs.filter (fun z => !overE now (enZ z)) = ws := ⟨_, rfl⟩
    have HWM := Lib.hid (fun z (hm : z ∈ ws) => (show z ∈ zs by rw [← hws'] at hm; exact (List.mem_filter.1 hm).1))
    rw [hws'] at con2 HKK HCT
    obtain ⟨q, c, rfl⟩ := hv.form
    generalize hzn : zs.length = zn at *
    clear con hv hz hzo pr hws' cJ t0 t1 t2 t3
    gi_wp2_with fail
    refine ⟨trivial, rfl, (CallsIn.inRound _ (callsIn_wide.2 con2)).mono ?_⟩
    rintro e W4 ⟨v2, m, rfl, hr2, hb4⟩
    obtain ⟨q2, c2, rfl, hwm, hpv⟩ := pl_form hr2
    have B4 := hb4.mono HB3.out.size
    have B24 := HB3.out.trans B4
    have bG4 : Boxed W4 (w.heap.size + 1 + 1) 3 (.int .i64 ((l.length - l1.length : Nat) : Int)) := (Keep.of_below B24).boxed HBG.out HBG.out.lt
    have cG4 := bG4.cell
    have fG4 := bG4.frozen
    have hG5 := bG4.set (.int .i64 ((l.length - l1.length : Nat) + ((zn : Int) - (m : Int))))
    have hct := HCT.out
    rw [hwm] at hct
    have hle1 := HLE.out
    have hle2 : l2.length ≤ l1.length := by rw [HSN.out]; exact List.length_filter_le _ _
    have hlll := HLL.out
    have w1 : wrap64 ((zn : Int) - (m : Int)) = (zn : Int) - (m : Int) := by unfold wrap64; omega
    have w2 : wrap64 (((l.length - l1.length : Nat) : Int) + ((zn : Int) - (m : Int))) = ((l.length - l1.length : Nat) : Int) + ((zn : Int) - (m : Int)) := by unfold wrap64; omega
    have HNUM := Lib.hid (show ((l.length - l1.length : Nat) : Int) + ((zn : Int) - (m : Int)) = ((l.length - l2.length : Nat) : Int) by omega)
    have HPV := Lib.hid hpv
    have HWL := Lib.hid hwm
    have HB4 := Lib.hid B24
    have HG5 := Lib.hid hG5
    have HBG4 := Lib.hid bG4
    have HBB := Lib.hid hb4
    clear con2 hr2 hpv hwm bG4 hG5 hct hle1 hle2 hlll B4 B24 hb4 hb3
    generalize hg : ((l.length - l1.length : Nat) : Int) = g at *
    gi_upto_region 7 with fail
    obtain ⟨W5, hW5⟩ : ∃ W5, W4.setCell ⟨w.heap.size + 1 + 1, 0, none⟩ (.int .i64 (g + ((zn : Int) - (m : Int)))) = W5 := ⟨_, rfl⟩
    rw [hW5]
    have hws2 := HWS.out
    have kS : Keep (fun b => b ≠ w.heap.size + 1 + 1) W4 W5 := by rw [← hW5]; exact Keep.setCell _ _ _ (by simp)
    have bG5 : Boxed W5 (w.heap.size + 1 + 1) 3 (.int .i64 (g + ((zn : Int) - (m : Int)))) := by rw [← hW5]; exact HG5.out
    have b24 := HB4.out
    have hsz4 := b24.size
    have hsz5 := kS.size
    have hnM : ∀ b, M' b → b ≠ w.heap.size + 1 + 1 := fun b hm => by
      rcases HM'.out b hm with h | h
      · have := h.2; omega
      · omega
    have sf45 : Soft W4 W5 := (int_off HBG4.out).soft (kS.mono fun b _ h => h)
    have hJ5 : JarIn M' (.pointer (some p)) l1 W5 := (HJ.out.keep ((Keep.of_below b24).mono fun b hb _ => hb) (Soft.of_below b24)).keep (kS.mono fun b _ hm => hnM b hm) sf45
    have c5 : ∀ a v, W2.cell? a = some v → a.block ≠ w.heap.size + 1 + 1 → W5.cell? a = some v := fun a v ha hne => by
      have h4 := cell_on ha b24
      exact (World.cell?_of_block (kS.block _ (World.block_lt_of_cell? W4 _ h4) hne)).trans h4
    have con3 := keep_any M' p l1 l2 k q2 m c2 ws W5 hJ5 HWL.out.symm (fun h0 => (HPV.out (fun z hm => ((HAT.out z (HWM.out z hm)).soft (Soft.of_below HBB.out))) h0).soft sf45) HKK.out
    unfold MapO.keyV Org.orgV at con3
    have cJ5 := c5 _ _ HCJ.out (by show w.heap.size ≠ w.heap.size + 1 + 1; omega)
    have cN5 := c5 _ _ HCN.out (by show w.heap.size + 1 ≠ w.heap.size + 1 + 1; omega)
    have t0 := c5 _ _ (HBT2.out 0 _ rfl) (by simp; omega)
    have t1 := c5 _ _ (HBT2.out 1 _ rfl) (by simp; omega)
    have t2 := c5 _ _ (HBT2.out 2 _ rfl) (by simp; omega)
    have t3 := c5 _ _ (HBT2.out 3 _ rfl) (by simp; omega)
    have HKS := Lib.hid (And.intro kS bG5)
    have HC5 := Lib.hid (And.intro cJ5 cN5)
    clear hW5 kS bG5 b24 sf45 hJ5 c5 cN5 hnM cG4 fG4 w1 w2 hg
    gi_wp2_with fail
    refine ⟨trivial, rfl, (CallsIn.inRound _ (callsIn_wide.2 con3)).mono ?_⟩
    rintro e W6 ⟨rfl, M2, hJ6, hM2, hk6⟩
    have HJ6 := Lib.hid (And.intro hJ6 (And.intro hM2 hk6))
    clear con3 cJ5 t0 t1 t2 t3 hJ6 hM2 hk6
    gi_wp2
    obtain ⟨hJ6, hM2, hk6⟩ := HJ6.out
    obtain ⟨kS, bG5⟩ := HKS.out
    have b24 := HB4.out
    have hnb : ∀ b, b < W0.heap.size + 2 → w.heap.size ≤ b → ¬ M' b := fun b h1 h2 hm => by
      rcases HM'.out b hm with h | h
      · have := h.2; omega
      · omega
    have kAll : Keep (fun b => ¬ M' b ∧ b ≠ w.heap.size + 1 + 1) W2 W6 := ((Keep.of_below b24).mono fun b hb _ => hb).trans ((kS.mono fun b _ h => h.2).trans (hk6.mono fun b _ h => h.1))
    refine ⟨kAll.mono fun b _ h => ?_, M2, by rw [HL2.out]; exact hJ6, fun b hb => ?_, ?_, ?_, ?_, HKW.out.trans (kAll.mono fun b _ h => ⟨fun hm => ?_, by have := h.2; omega⟩)⟩
    · rcases h with h | rfl | rfl
      · have := hRB b h
        exact ⟨hnb b (by omega) (by omega), by omega⟩
      · exact ⟨hnb _ (by omega) (by omega), by omega⟩
      · exact ⟨hnb _ (by omega) (by omega), by omega⟩
    · rcases hM2 b hb with h | h
      · exact HM'.out b h
      · exact .inr (by omega)
    · rw [HL2.out, ← HNUM.out]
      exact hk6.boxed bG5 (hnb _ (by omega) (by omega))
    · exact (World.cell?_of_block (hk6.block _ (World.block_lt_of_cell? W5 _ HC5.out.1) (hnb w.heap.size (by omega) (Nat.le_refl _)))).trans HC5.out.1
    · exact (World.cell?_of_block (hk6.block _ (World.block_lt_of_cell? W5 _ HC5.out.2) (hnb (w.heap.size + 1) (by omega) (by omega)))).trans HC5.out.2
    · rcases HM'.out b hm with h' | h'
      · exact h.1 h'.1
      · have := h.2; omega
  case done =>
    rintro Wd ⟨M', hJ, hM', bG, cJ, cN, hKW⟩ hD hsd
    have hga : goneJ now ys l = sweepJ now l := gone_all (fun e he => (HMEM.out _).2 ⟨e, he, rfl⟩)
    rw [hga] at hJ bG
    have cG := bG.cell
    have HJ := Lib.hid (And.intro hJ (And.intro hM' hKW))
    have HD := Lib.hid hD
    generalize ((l.length - (sweepJ now l).length : Nat) : Int) = r at *
    clear hJ hM' bG cJ cN hKW hga hi eg bG0 cJ0 cN0
    gi_wp2
    refine ⟨by simp, .inl ⟨_, _, rfl, run_takeDeferred HD.out, ?_⟩⟩
    obtain ⟨hJ, hM', hKW⟩ := HJ.out
    have hws := HWS.out
    have hnD : ¬ M' W0.heap.size := fun hm => by
      rcases hM' _ hm with h | h
      · have := h.2; omega
      · omega
    have kD : Keep (fun b => b ≠ W0.heap.size) Wd (Wd.putObj W0.heap.size (.deferred none)) := Keep.putObj _ _ _ (by simp)
    refine ⟨_, results_tmp rfl _ _ _, M', rfl, hJ.keep (kD.mono fun b _ hm e => hnD (e ▸ hm)) ((def_off HD.out).soft (kD.mono fun b _ h => h)), fun b hb => ?_, ?_⟩
    · rcases hM' b hb with h | h
      · exact .inl h.1
      · exact .inr (by omega)
    · have k1 : Keep (fun b => ¬ M b ∧ b < w.heap.size) w W0 := (Keep.of_below (A0.out.trans (HB0.out.mono A0.out.size))).mono fun b hb _ => hb
      exact ((k1.trans hKW).trans (kD.mono fun b _ h => by have := h.2; omega)).mono fun b hb h => ⟨h, hb⟩
end Go.Proofs.YtniehbjoogaccaaGreatDoor.Jar
namespace Go.Proofs.YtniehbjoogaccaaGreatDoor.Jar
open Go.RowKit Go.Shelf Url Ck
attribute [local go_sem] Oper.semAt_some
set_option linter.unusedVariables false
set_option maxRecDepth 100000 in
set_option maxHeartbeats 8000000 in
theorem Copy_any (M : Nat → Prop) (p : Addr) (l : List En) (w : World) (h : JarIn M (.pointer (some p)) l w) : Calls Tryz.prog 34 #[.pointer (some p)] w (JarOut l w) := by
  obtain ⟨pb, mv, ks, f, hp, h1, h2, h3, h4, h5, h6⟩ := h
  cases hp
  have x0 := h1.cell
  have H4 := Lib.hid h4
  have H5 := Lib.hid h5
  have H6 := Lib.hid h6
  cases mv with
  | none =>
    have con : Calls Tryz.prog 82 #[.map none] w fun e w' => e = .returned (.map none) ∧ w' = w := AnyW.maps_Clone_nil Tryz.cloneLays w
    have HK := Lib.hid (show ks = [] from h3)
    clear h1 h2 h3 h4 h5 h6
    go_enter Tryz.func34, Tryz.ntmps34
    go_wp2_with fail
    refine con.mono ?_
    rintro e w1 ⟨rfl, rfl⟩
    clear con
    go_wp2
    go_ret
    exact ⟨fun b => b = w1.heap.size, ⟨w1.heap.size, 0, none⟩, rfl, ⟨w1.heap.size, none, ks, f, rfl, Boxed.new w1 _ _, fun b => ⟨.inl, fun h => h.elim id (fun h => by cases h)⟩, HK.out, H4.out, (fun k hk => by
      obtain ⟨zs, g1, g2⟩ := H5.out k hk
      exact ⟨zs, g1.soft (Soft.of_below (below_alloc _)), g2⟩), H6.out⟩, fun b hb => Nat.le_of_eq hb.symm, below_alloc _⟩
  | some mb =>
    obtain ⟨es, clock, hb, hs, hH⟩ := h3.2
    have con : Calls Tryz.prog 82 #[.map (some mb)] w fun e w' => e = .returned (.map (some w.heap.size)) ∧ w' = w.alloc (.map es clock) := AnyW.maps_Clone Tryz.cloneLays mb es clock w hb
    have HS := Lib.hid (And.intro hs hH)
    obtain ⟨W1, hW1⟩ : ∃ W1, w.alloc (.map es clock) = W1 := ⟨_, rfl⟩
    have m1 : W1.heap[w.heap.size]? = some (.map es clock) := by rw [← hW1]; exact (MapKept.heap_alloc w _).1
    have A1 : Below w.heap.size w W1 := by rw [← hW1]; exact below_alloc _
    have s1 : W1.heap.size = w.heap.size + 1 := by rw [← hW1]; simp
    rw [hW1] at con
    have HM1 := Lib.hid (And.intro m1 (And.intro A1 s1))
    clear h1 h2 h3 h4 h5 h6 hb hs hH hW1 m1 A1 s1
    go_enter Tryz.func34, Tryz.ntmps34
    go_wp2_with fail
    refine con.mono ?_
    rintro e w1 ⟨rfl, rfl⟩
    clear con
    go_wp2
    go_ret
    obtain ⟨m1, A1, s1⟩ := HM1.out
    have b2 : Below w1.heap.size w1 (w1.alloc (.cells #[.map (some w.heap.size)] 85)) := below_alloc _
    have A2 := A1.trans (b2.mono (by omega))
    have m2 : (w1.alloc (.cells #[.map (some w.heap.size)] 85)).heap[w.heap.size]? = some (.map es clock) := (b2.block _ (by omega)).trans m1
    refine ⟨fun b => b = w1.heap.size ∨ some w.heap.size = some b, ⟨w1.heap.size, 0, none⟩, rfl, ⟨w1.heap.size, some w.heap.size, ks, f, rfl, Boxed.new w1 _ _, fun b => Iff.rfl, ⟨by omega, es, clock, m2, HS.out.1, HS.out.2⟩, H4.out, (fun k hk => by
      obtain ⟨zs, g1, g2⟩ := H5.out k hk
      exact ⟨zs, g1.soft (Soft.of_below A2), g2⟩), H6.out⟩, fun b hb => ?_, A2⟩
    rcases hb with rfl | hb
    · omega
    · cases hb
      exact Nat.le_refl _
theorem Copy_nil (w : World) : Calls Tryz.prog 34 #[.pointer none] w fun e w' => e = .returned (.pointer none) ∧ Below w.heap.size w w' := by
  go_enter Tryz.func34, Tryz.ntmps34
  go_wp2
  go_ret
  exact ⟨rfl, Below.refl _ _⟩
set_option maxRecDepth 100000 in
set_option maxHeartbeats 8000000 in
theorem Set_nil (a x : Value) (u : U) (c : Ck) (now : Int) (w : World) (ha : UrlIn w a u) (hx : CkIs w x c) (hn : -9223372036854775808 ≤ now ∧ now ≤ 9223372036854775807) : Calls Tryz.prog 14 #[.pointer none, a, x, .int .i64 now] w fun e w' => e = .returned (.int .i64 1) ∧ Below w.heap.size w w' := by
  obtain ⟨uz, rfl, -, -⟩ := uat_of ha
  obtain ⟨cz, rfl, -, -⟩ := cat_of hx
  have hb : Below w.heap.size w (((w.alloc (.cells (urlRow uz).toArray 33)).alloc (.cells (ckRow cz).toArray 42)).alloc (.cells #[.int .i64 now] 3)) :=
    (below_alloc _).trans ((((Below.refl _ _).alloc (Nat.le_refl _) _).alloc (by simp) _).mono (by simp))
  have HB := Lib.hid hb
  clear ha hx hb
  obtain ⟨⟨⟨uq1, un1, uc1⟩, ⟨uq2, un2, uc2⟩, ⟨uq3, un3, uc3⟩, ⟨uq4, un4, uc4⟩, ⟨uq5, un5, uc5⟩⟩, ⟨us1, us2, us3, us4, us5, us6, us7, us8⟩⟩ := uz
  obtain ⟨⟨⟨⟨cq1, cn1, cc1⟩, ⟨cq2, cn2, cc2⟩⟩, ⟨cq3, cn3, cc3⟩⟩, ⟨cl1, cl2, cl3, cl4, cage, csec⟩⟩ := cz
  simp only [urlRow, ckRow, vC] at HB ⊢
  go_enter Tryz.func14, Tryz.ntmps14
  go_wp2
  go_ret
  exact ⟨rfl, HB.out⟩
set_option maxRecDepth 100000 in
set_option maxHeartbeats 8000000 in
theorem Sweep_nil (now : Int) (w : World) : Calls Tryz.prog 24 #[.pointer none, .int .i64 now] w fun e w' => e = .returned (.int .i64 0) ∧ Below w.heap.size w w' := by
  obtain ⟨W, hW⟩ : ∃ W, ((w.alloc (.cells #[.pointer none] 25)).alloc (.cells #[.int .i64 now] 3)).alloc (.cells #[.int .i64 0] 3) = W := ⟨_, rfl⟩
  have b1 : Below (w.alloc (.cells #[.pointer none] 25)).heap.size (w.alloc (.cells #[.pointer none] 25)) W := by
    rw [← hW]
    exact ((Below.refl _ _).alloc (Nat.le_refl _) _).alloc (by simp) _
  have A1 : Below w.heap.size w W := (below_alloc _).trans (b1.mono (by simp))
  have hWs : W.heap.size = w.heap.size + 3 := by rw [← hW]; simp
  have cJ : W.cell? ⟨w.heap.size, 0, none⟩ = some (.pointer none) := cell_on (Boxed.new w _ _).cell b1
  have bG : Boxed W (w.heap.size + 1 + 1) 3 (.int .i64 0) := by
    have := Boxed.new ((w.alloc (.cells #[.pointer none] 25)).alloc (.cells #[.int .i64 now] 3)) 3 (.int .i64 0)
    simp only [World.size_alloc] at this
    rw [← hW]
    exact this
  have con := inOrder_nil W
  have HW := Lib.hid hW
  have A0 := Lib.hid A1
  have HWS := Lib.hid hWs
  clear A1 b1 hW hWs
  refine (callsIn_wide (n := 1)).1 ?_
  refine callsIn_of_wp_marks Tryz.func24 rfl trivial ?_ rfl
  simp only [Tryz.ntmps24, List.size_toArray, List.length_cons, List.length_nil, Nat.reduceAdd, Nat.reduceSub, Array.replicate_succ, Array.replicate_zero, List.push_toArray, List.append_toArray, List.nil_append, List.cons_append]
  gi_upto_region 2 with fail
  rw [HW.out]
  gi_wp2_with fail
  refine ⟨trivial, (callsIn_wide.2 con).mono ?_⟩
  rintro e W0 ⟨rfl, hb0⟩
  have hws := HWS.out
  have hs0 := hb0.size
  have bG0 : Boxed W0 (w.heap.size + 1 + 1) 3 (.int .i64 0) := (Keep.of_below hb0).boxed bG (by omega)
  have B0 := Lib.hid (show Below w.heap.size w W0 from A0.out.trans (hb0.mono A0.out.size))
  clear con bG cJ hb0
  gi_wp2
  refine rf_lawQ (gf := 119) (lb := #[]) rfl (enters_of Tryz.func119 (by kernel_rfl) rfl) (inOrder1_iter (fun _ => False) W0) (Keep.refl _ _) (fun b hb => hb.elim) (fun x args h => by rw [show args = _ from h]; rfl)
    (fun _ X => Boxed X (w.heap.size + 1 + 1) 3 (.int .i64 0) ∧ Keep (fun b => b < W0.heap.size) W0 X)
    (fun s A B h hb => ⟨(Keep.of_below hb).boxed h.1 h.1.lt, h.2.trans ((Keep.of_below hb).mono fun b hb' _ => hb')⟩)
    (fun s A B h hl hk hs => ⟨hk.boxed h.1 (by omega), h.2.trans (hk.mono fun b _ h => by omega)⟩) ⟨bG0, Keep.refl _ _⟩ ?round ?done
  case round =>
    rintro pre k rest args Wr hys
    simp at hys
  case done =>
    rintro Wd ⟨bG, hk⟩ hD hsd
    have cG := bG.cell
    have hB : Below w.heap.size w Wd := B0.out.trans ((hk.mono fun b _ h => by omega).below B0.out.size)
    have HB := Lib.hid hB
    clear hk hB bG0 bG
    gi_wp2
    refine ⟨by simp, .inl ⟨_, _, rfl, run_takeDeferred hD, ?_⟩⟩
    exact ⟨_, results_tmp rfl _ _ _, rfl, ((Keep.of_below HB.out).trans (Keep.putObj _ _ (.deferred none) (by omega))).below (Nat.le_refl _)⟩
end Go.Proofs.YtniehbjoogaccaaGreatDoor.Jar
namespace Go.Proofs.YtniehbjoogaccaaGreatDoor.Jar
open Go.RowKit Go.Shelf Go.Sort Url Yld
attribute [local go_sem] Oper.semAt_some
set_option linter.unusedVariables false
theorem rises_compact {l : List (List UInt8)} (h : Rises l) : Lib.compact l = l := by
  have hp : l.Pairwise fun x y => ¬ y < x := h.imp fun h1 h2 => lin_asym h1 h2
  obtain ⟨h1, h2⟩ := compact_set l hp
  exact rises_ext h1 h h2
def OwnI (N : Nat) (W0 : World) (pre : List Key) (W : World) : Prop :=
  ∃ v, Boxed W N 69 v ∧ W.ownsRow (W0.heap.size + 2) 9 1 v pre.length ((pre.map textK).map encStr) ∧ Keep (fun b => b < N) W0 W
theorem Own_abide (N : Nat) (W0 : World) : AbideQ (OwnI N W0) := by
  rintro pre A B ⟨v, h1, h2, h3⟩ hb
  have hk := Keep.of_below hb
  exact ⟨v, hk.boxed h1 h1.lt, hk.row h2 (fun b hb' => (h2.lt b hb').2), h3.trans (hk.mono fun b hb' _ => hb')⟩
theorem Own_loop (N : Nat) (W0 : World) (hN : N + 1 ≤ W0.heap.size) : ∀ s A B, OwnI N W0 s A → (∃ r, A.heap[W0.heap.size + 1]? = some (.loop r)) → Keep (fun b => b ≠ W0.heap.size + 1) A B → B.heap.size = A.heap.size → OwnI N W0 s B := by
  rintro pre A B ⟨v, h1, h2, h3⟩ hl hk hs
  exact ⟨v, hk.boxed h1 (by omega), hk.row h2 (fun b hb' => by have := (h2.lt b hb').1; omega), h3.trans (hk.mono fun b _ h => by omega)⟩
set_option maxRecDepth 100000 in
set_option maxHeartbeats 8000000 in
theorem Values1_str (B9 : Nat) (q : Option Addr) (n c : Nat) (ys : List (List UInt8)) (RB : Nat → Prop) (w0 : World) (hb : Boxed w0 B9 69 (.slice q n c)) (hR9 : RB B9) (hRs : ∀ b, RB b → b < w0.heap.size)
    (hrow : 0 < n → ∃ R, q = some ⟨R, 0, none⟩ ∧ (∀ i x, ys[i]? = some x → w0.cell? ⟨R, i, none⟩ = some (encStr x)) ∧ RB R) (hl : ys.length = n) (hn : n ≤ 1099511627776) :
    IterC Tryz.prog 126 #[.pointer (some ⟨B9, 0, none⟩)] StrArg ys RB w0 := by
  intro l' J Jx W hW hJ hJx hY h0
  refine (callsIn_wide (n := 1)).1 ?_
  refine callsIn_of_wp Tryz.func126 rfl trivial ?_ rfl
  simp only [Tryz.ntmps126, List.size_toArray, List.length_cons, List.length_nil, Nat.reduceAdd, Nat.reduceSub, Array.replicate_succ, Array.replicate_zero, List.push_toArray, List.append_toArray, List.nil_append, List.cons_append]
  have k1 := (hW.boxed hb hR9).cell
  have HRow := Lib.hid hrow
  have HL := Lib.hid hl
  have HW0 := Lib.hid hW
  have HRs := Lib.hid hRs
  clear hb hrow hl hRs
  gi_wp2
  gi_loopw [7] (fun i wr => ∃ k : Nat, ∃ Q : Nat → Prop, k ≤ n ∧ i = .int .i64 k ∧ Hid (Keep RB W wr) ∧ J (ys.take k) Q wr ∧ Hid (∀ b, Q b → b < wr.heap.size)) (fun i _ => n - (intOf i).toNat)
  case atStart => exact ⟨0, fun _ => False, Nat.zero_le _, rfl, Lib.hid (Keep.refl _ _), h0, Lib.hid (fun _ h => h.elim)⟩
  case round =>
    obtain ⟨i, Q, hk, rfl, HK, hJr, HQ⟩ := hrel
    by_cases hlt : i < n
    · obtain ⟨R, rfl, hp, hRR⟩ := HRow.out (by omega)
      have kw : Keep RB w0 wr := HW0.out.trans HK.out
      obtain ⟨x, hzk, hd⟩ := drop_getElemZ ys i (by rw [HL.out]; exact hlt)
      have hc := hp i x hzk
      have c0 : wr.cell? ⟨R, i, none⟩ = some (.string ⟨x.toArray⟩) := (World.cell?_of_block (kw.block R (World.block_lt_of_cell? _ _ hc) hRR)).trans hc
      have HE := Lib.hid (show ys = ys.take i ++ x :: ys.drop (i + 1) by conv => lhs; rw [← List.take_append_drop i ys, hd])
      have HTK := Lib.hid (show ys.take (i + 1) = ys.take i ++ [x] from take_snocA ys i x hzk)
      obtain ⟨fn, tmps, assign, body, hy, hR⟩ := yield_argG (W2 := wr) (w4 := wr) (G := fun _ => False) (args := #[.string ⟨x.toArray⟩]) hJ hY HE.out hJr HQ.out (Below.refl _ _) (fun b h => h.elim) ⟨rfl, rfl⟩
      clear hp hzk hd kw hc hY
      gi_wp2_with fail
      refine hR.mono ?_
      rintro e W5 ⟨ok, rfl, hkp, Q', hQQ, hQl', hpost⟩
      have hk5 : Keep RB W W5 := HK.out.trans (hkp.mono fun b _ h => .inl h)
      clear hR hy hkp c0
      cases ok with
      | false =>
        have hj5 := (hpost.resolve_left (by simp)).2
        clear hpost
        gi_wp2
        refine bodyPost_ret (results_none rfl _ _ _) rfl ?_
        exact ⟨⟨_, rfl⟩, Q', hQl', .inr ⟨ys.take i ++ [x], _, by rw [List.append_assoc]; exact HE.out, hj5⟩⟩
      | true =>
        have hj5 := (hpost.resolve_right (by simp)).2
        clear hpost
        gi_wp2
        go_roundw
        case rel => exact ⟨i + 1, Q', by omega, by go_num, Lib.hid hk5, by rw [HTK.out]; exact hj5, Lib.hid hQl'⟩
        case measure => simp [intOf]; omega
    · have HX2 := Lib.hid (show ys.take i = ys from List.take_of_length_le (by rw [HL.out]; omega))
      clear hY
      gi_wp2
      refine bodyPost_end (results_none rfl _ _ _) rfl ?_
      exact ⟨⟨_, rfl⟩, Q, HQ.out, .inl (by have h := hJr; rw [HX2.out] at h; exact h)⟩
theorem Values_str (q : Option Addr) (n c : Nat) (w : World) : Calls Tryz.prog 77 #[.slice q n c] w fun e w' => e = .returned (.func (.func 126) #[] #[.pointer (some ⟨w.heap.size, 0, none⟩)]) ∧ w' = w.alloc (.cells #[.slice q n c] 69) := by
  go_enter Tryz.func77, Tryz.ntmps77
  go_wp2
  go_ret
  exact ⟨rfl, rfl⟩
theorem Compact_rise (base : Nat) (v : Value) (n : Nat) (zs : List (List UInt8)) (w : World) (h : w.ownsRow base 9 1 v n (zs.map encStr)) (hr : Rises zs) (hn : n ≤ 1099511627776) :
    Calls Tryz.prog 78 #[v] w fun e w' => e = .returned v ∧ w'.ownsRow base 9 1 v n (zs.map encStr) ∧ ∀ b0 w0, b0 ≤ base → Below b0 w0 w → Below b0 w0 w' := by
  by_cases hv : v = .slice none 0 0
  · subst hv
    refine (Tryz.slices_Compact_string_empty none 0 w).mono ?_
    rintro e w' ⟨rfl, rfl⟩
    exact ⟨rfl, h, fun _ _ _ hb => hb⟩
  · obtain ⟨g, cap, rfl, hb, hlt, hnc, hcm, hl, hH⟩ := Lib.holds_of_ownsRow h hv
    subst hl
    have con := Tryz.slices_Compact_string g 0 cap zs w hH (by omega) hnc
    rw [rises_compact hr] at con
    refine con.mono ?_
    rintro e w' ⟨rfl, q, rfl⟩
    have ho := Lib.ownsRow_putRow (q := q) (ys := zs ++ List.replicate (zs.length - zs.length) []) h (by simp) (Nat.le_refl _)
    rw [List.take_left' rfl] at ho
    exact ⟨rfl, ho, fun b0 w0 h1 h2 => Lib.below_putRow h2 (by omega)⟩
set_option maxRecDepth 100000 in
set_option maxHeartbeats 16000000 in
theorem Owners_gen (p : Option Addr) (l : List En) (w : World) (hO : ∀ W, Below w.heap.size w W → Calls Tryz.prog 74 #[.pointer p] W (OrdOut l W)) (hl : l.length ≤ 1048576) (hok : ∀ e ∈ l, EOk e) (hG : Gl w) :
    Calls Tryz.prog 28 #[.pointer p] w (ItOut (fun _ => StrArg) (ownersJ l) w) := by
  obtain ⟨i0, hi0, hz0, hz1, hz2⟩ := info_parts info_str
  obtain ⟨W, hW⟩ : ∃ W, w.alloc (.cells #[.slice none 0 0] 69) = W := ⟨_, rfl⟩
  have A1 : Below w.heap.size w W := by rw [← hW]; exact below_alloc _
  have bT : Boxed W w.heap.size 69 (.slice none 0 0) := by rw [← hW]; exact Boxed.new w _ _
  have hWs : W.heap.size = w.heap.size + 1 := by rw [← hW]; simp
  have con := hO W A1
  have HW := Lib.hid hW
  have A0 := Lib.hid A1
  have HWS := Lib.hid hWs
  have HLL := Lib.hid hl
  have HOK := Lib.hid hok
  have HG := Lib.hid hG
  clear hO hG A1 hW hWs hl hok
  refine (callsIn_wide (n := 1)).1 ?_
  refine callsIn_of_wp_marks Tryz.func28 rfl trivial ?_ rfl
  simp only [Tryz.ntmps28, List.size_toArray, List.length_cons, List.length_nil, Nat.reduceAdd, Nat.reduceSub, Array.replicate_succ, Array.replicate_zero, List.push_toArray, List.append_toArray, List.nil_append, List.cons_append]
  gi_upto_region 2 with fail
  rw [HW.out]
  gi_wp2_with fail
  refine ⟨trivial, (callsIn_wide.2 con).mono ?_⟩
  rintro e W0 ⟨ys, gf, lb, RB, rfl, eg, hi, hRB, hb0, hnd, hmem, htx⟩
  clear con
  have hws := HWS.out
  have hs0 := hb0.size
  have hk0 := Keep.of_below hb0
  have bT0 : Boxed W0 w.heap.size 69 (.slice none 0 0) := hk0.boxed bT (by omega)
  have HB0 := Lib.hid (show Below w.heap.size w W0 from A0.out.trans (hb0.mono A0.out.size))
  have hyl : ys.length ≤ 1048576 := by
    have := nodup_few ys (l.map fun e => keyU e.at_) hnd (fun k hk => by
      obtain ⟨e, he, rfl⟩ := (hmem k).1 hk
      exact List.mem_map.2 ⟨e, he, rfl⟩)
    rw [List.length_map] at this
    have := HLL.out
    omega
  have HKO := Lib.hid (fun k (hk : k ∈ ys) => (show KOk k by
    obtain ⟨e, he, rfl⟩ := (hmem k).1 hk
    exact ⟨e.at_, (HOK.out e he).url, (HOK.out e he).len, rfl⟩))
  have HTX := Lib.hid htx
  have HYL := Lib.hid hyl
  have HRIS := Lib.hid (show Rises (ownersJ l) from Frm.sort_rises _)
  clear bT hb0 hk0 hmem hnd htx hyl
  gi_wp2
  refine rf_lawQ (gf := gf) (lb := lb) rfl eg hi (Keep.refl _ _) (fun b hb => (hRB b hb).2) (fun x args h => by rw [show args = _ from h]; rfl)
    (OwnI w.heap.size W0) (Own_abide _ _) (Own_loop _ _ (by omega))
    ⟨_, bT0, World.ownsRow_nil _ _ _ _, Keep.refl _ _⟩ ?round ?done
  case round =>
    rintro pre k rest args Wr hys hI hL hD harg
    obtain rfl : args = #[MapO.keyV k] := harg
    have hI1 := Own_abide _ _ _ _ _ hI (below_alloc (.cells #[.string ⟨k.1.toArray⟩, .string ⟨k.2.1.toArray⟩, .int .i64 k.2.2, .int .i64 0] 62))
    unfold MapO.keyV Org.orgV
    obtain ⟨W1, hW1⟩ : ∃ W1, Wr.alloc (.cells #[.string ⟨k.1.toArray⟩, .string ⟨k.2.1.toArray⟩, .int .i64 k.2.2, .int .i64 0] 62) = W1 := ⟨_, rfl⟩
    rw [hW1] at hI1
    have bT : Box Wr.heap.size #[.string ⟨k.1.toArray⟩, .string ⟨k.2.1.toArray⟩, .int .i64 k.2.2, .int .i64 0] W1 := by rw [← hW1]; exact Box.new Wr _ _
    have k1 : ∀ S, Keep S Wr W1 := fun S => by rw [← hW1]; exact Keep.alloc S _ _
    have hs1 : W1.heap.size = Wr.heap.size + 1 := by rw [← hW1]; simp
    obtain ⟨rl, hrl⟩ := hL
    have hll := (Array.getElem?_eq_some_iff.1 hrl).1
    have hL1 : ∃ r, W1.heap[W0.heap.size + 1]? = some (.loop r) := ⟨rl, (k1 (fun _ => True)).heap trivial hrl⟩
    have HW1 := Lib.hid hW1
    have HI1 := Lib.hid hI1
    have HL1 := Lib.hid hL1
    have HK1 := Lib.hid k1
    have HBT := Lib.hid bT
    clear hW1 hI1 hL1 k1 bT hI hD hrl hi eg
    gi_wp2
    rw [HW1.out]
    refine ⟨HK1.out _, fun W2 hk2 hs2 hr => ?_⟩
    obtain ⟨v, hbx, hrow, hKW⟩ := Own_loop _ _ (by omega) _ _ _ HI1.out HL1.out hk2 hs2
    have bT2 : Box Wr.heap.size #[.string ⟨k.1.toArray⟩, .string ⟨k.2.1.toArray⟩, .int .i64 k.2.2, .int .i64 0] W2 := fun i x hx => (World.cell?_of_block (hk2.block Wr.heap.size (by omega) (by omega))).trans (HBT.out i x hx)
    have hlw : W0.heap.size + 1 < W2.heap.size := by omega
    have hkm : k ∈ ys := by rw [hys]; simp
    have hpl : pre.length + 1 ≤ 1048576 := by
      have h1 := HYL.out
      rw [hys, List.length_append, List.length_cons] at h1
      omega
    obtain ⟨u, hu, hul, rfl⟩ := HKO.out k hkm
    have BW : Below w.heap.size w W2 := HB0.out.trans (hKW.below HB0.out.size)
    obtain ⟨Wd, hWd⟩ : ∃ Wd, W2.drew = Wd := ⟨_, rfl⟩
    have hkd : ∀ S, Keep S W2 Wd := fun S => by rw [← hWd]; exact Keep.drew S W2
    have hbx' := (hkd (fun _ => True)).boxed hbx trivial
    have hrow' := (hkd (fun _ => True)).row hrow (fun _ _ => trivial)
    have bT3 : Box Wr.heap.size #[.string ⟨(keyU u).1.toArray⟩, .string ⟨(keyU u).2.1.toArray⟩, .int .i64 (keyU u).2.2, .int .i64 0] Wd := by rw [← hWd]; exact bT2
    have hszd : Wd.heap.size = W2.heap.size := by rw [← hWd]; rfl
    have con := Org.Text_server u hu Wd ((HG.out.on BW).on (by rw [← hWd]; exact (Below.refl _ _).drew))
    have HSN := Lib.hid (show ((pre ++ [keyU u]).map textK).map encStr = (pre.map textK).map encStr ++ [encStr (Org.placeU u)] by rw [List.map_append, List.map_append]; rfl)
    have HSL := Lib.hid (show (pre ++ [keyU u]).length = pre.length + 1 by simp)
    unfold Org.orgV at con
    obtain ⟨us, hus⟩ : ∃ x, u.scheme = x := ⟨_, rfl⟩
    obtain ⟨uh, huh⟩ : ∃ x, u.host = x := ⟨_, rfl⟩
    obtain ⟨up, hup⟩ : ∃ x, u.port = x := ⟨_, rfl⟩
    rw [hus, huh, hup] at con
    have bT4 : Box Wr.heap.size #[.string ⟨us.toArray⟩, .string ⟨uh.toArray⟩, .int .i64 up, .int .i64 0] Wd := by rw [← hus, ← huh, ← hup]; exact bT3
    generalize Org.placeU u = T at *
    generalize hpk : pre ++ [keyU u] = pk at *
    generalize (pre.map textK).map encStr = xs at *
    generalize hpn : pre.length = pn at *
    have HKW := Lib.hid hKW
    have HKD := Lib.hid hkd
    have HWd := Lib.hid hWd
    have c0 := hbx'.cell
    have x0 := bT4 0 _ rfl
    have x1 := bT4 1 _ rfl
    have x2 := bT4 2 _ rfl
    have x3 := bT4 3 _ rfl
    clear hk2 hs2 hr hbx hrow hKW bT2 bT3 bT4 hys hkm hus huh hup hpk hkd BW hu hul hWd
    gi_wp2_with fail
    refine region_anyO (fun j => decide (j ≠ 5)) (fun X => X.cell? ⟨w.heap.size, 0, none⟩ = some v) (by kernel_rfl) ?_
    rw [HWd.out]
    refine anyO_take 0 (v := v) rfl (by kernel_rfl) (by kernel_rfl) (by kernel_rfl) (by kernel_rfl) (by kernel_rfl) (fun _ _ _ h => h) ⟨.inl ⟨by rfl, ?_⟩, fun _ => rfl⟩ c0 ?_
    · rintro w h1; go_simp
    refine anyO_one 1 (by kernel_rfl) rfl fun K hK => ?_
    go_simp
    refine hK _ _ (fun _ => c0) ?_
    clear hK K
    refine anyO_one 2 (by kernel_rfl) rfl fun K hK => ?_
    go_simp
    refine ⟨trivial, rfl, (CallsIn.inRound _ (callsIn_wide.2 con)).mono ?_⟩
    rintro e w4 ⟨rfl, hbel⟩
    have hbx4 := (Keep.of_below hbel).boxed hbx' hbx'.lt
    have hrow4 := (Keep.of_below hbel).row hrow' (fun b hb => (hrow'.lt b hb).2)
    have hsz4 := hbel.size
    have c4' := hbx4.cell
    refine hK _ _ (fun _ => c4') ?_
    clear hK K con x0 x1 x2 x3
    refine anyO_one 3 (by kernel_rfl) rfl fun K hK => ?_
    go_simp
    have c5' := (hbx4.alloc (.cells #[.string ⟨T.toArray⟩] 9)).cell
    refine hK _ _ (fun _ => c5') ?_
    clear hK K
    refine anyO_one 4 (by kernel_rfl) rfl fun K hK => ?_
    rw [if_pos (by rfl)]
    refine Ap.wpIn_append_own _ _ 69 rfl (W0.heap.size + 2) 9 i0 (.string ByteArray.empty) 1 16 Tryz.underlying69 hi0 hz0 hz1 hz2 rfl (by decide) v pn _ rfl (hrow4.alloc _) ⟨w4.heap.size, 0, none⟩ 1 1 [encStr T] rfl rfl (cell_one_new _ _ _) (by simp [encStr, Value.oneCell']) (by unfold maxLen; omega) (by omega) (by simp; omega) ?_
    intro v2 w6 hown' hgrow hat
    obtain ⟨g', cap', rfl⟩ := ownsRow_succ hown'
    obtain ⟨hv1, hv2, hr2, hkk⟩ := appended_keep (S := fun b => RB b ∨ b = W0.heap.size ∨ b = W0.heap.size + 1 ∨ b < w.heap.size) hbx4 (by decide) hrow4 (fun h => by rcases h with h | h | h | h; have := hRB _ h; omega; omega; omega; omega) (fun b hb h => by have h0 := (hrow4.lt b hb).1; rcases h with h | h | h | h; have := hRB _ h; omega; omega; omega; omega) hown' hgrow
    have c6 := hv1.cell
    have f6 := hv1.frozen
    refine hK _ _ (fun _ => c6) ?_
    clear hK K
    refine anyO_one 5 (by kernel_rfl) rfl fun K hK => ?_
    go_simp
    refine hK _ _ (fun h => absurd h (by decide)) ?_
    clear hK K
    refine anyO_done (by kernel_rfl) ?_ _
    clear c6 f6 c5' c4' c0
    gi_wp2
    have hk0 : ∀ S : Nat → Prop, (∀ b, S b → b < Wd.heap.size) → Keep S W2 w4 := fun S hS => (HKD.out S).trans ((Keep.of_below hbel).mono fun b _ h => hS b h)
    have hRd : ∀ b, RB b ∨ b = W0.heap.size ∨ b = W0.heap.size + 1 ∨ b < w.heap.size → b < Wd.heap.size := fun b hb => by
      rcases hb with h | h | h | h
      · have := hRB _ h; omega
      · omega
      · omega
      · omega
    have hkk2 := (hk0 _ hRd).trans hkk
    refine ⟨hkk2.mono fun b _ h => h.elim .inl (fun h => .inr (h.elim .inl fun h => .inr (.inl h))), _, hv2, ?_, HKW.out.trans (hkk2.mono fun b _ h => .inr (.inr (.inr h)))⟩
    rw [HSN.out, HSL.out]
    exact hr2
  case done =>
    rintro Wd ⟨v, hbx, hrow, hKW⟩ hD hsd
    rw [HTX.out] at hrow
    have hyl : ys.length = (ownersJ l).length := by rw [← HTX.out, List.length_map]
    rw [hyl] at hrow
    have hxn : (ownersJ l).length ≤ 1099511627776 := by have := HYL.out; omega
    have con := Compact_rise (W0.heap.size + 2) v _ (ownersJ l) Wd hrow HRIS.out hxn
    have HXN := Lib.hid hxn
    have cB := hbx.cell
    have BW : Below w.heap.size w Wd := HB0.out.trans (hKW.below HB0.out.size)
    have hdl := (Array.getElem?_eq_some_iff.1 hD).1
    obtain ⟨q', n', k', hn', rfl⟩ : ∃ q m c, Hid (m = (ownersJ l).length) ∧ v = .slice q m c := by
      rcases hrow.2 with ⟨rfl, h0⟩ | ⟨g, cap, cur, rfl, -⟩
      · exact ⟨none, 0, 0, Lib.hid h0.symm, rfl⟩
      · exact ⟨_, _, cap, Lib.hid rfl, rfl⟩
    have HWD := Lib.hid (And.intro BW (And.intro hD hdl))
    have HKW := Lib.hid hKW
    obtain ⟨os, hos⟩ : ∃ x, ownersJ l = x := ⟨_, rfl⟩
    rw [hos] at con hn' HXN hyl
    have HOS := Lib.hid hos
    clear hos
    clear hbx hrow hKW BW hD hi eg bT0 hyl hxn
    gi_wp2_with fail
    refine ⟨trivial, (callsIn_wide.2 con).mono ?_⟩
    rintro e w6 ⟨rfl, hrow6, hb6⟩
    have con3 := Values_str q' n' k' w6
    obtain ⟨W7, hW7⟩ : ∃ W7, w6.alloc (.cells #[.slice q' n' k'] 69) = W7 := ⟨_, rfl⟩
    rw [hW7] at con3
    have HW7 := Lib.hid hW7
    have HR6 := Lib.hid hrow6
    have HB6 := Lib.hid hb6
    clear con hW7 hrow6 hb6 cB
    gi_wp2_with fail
    refine ⟨trivial, (callsIn_wide.2 con3).mono ?_⟩
    rintro e w7 ⟨rfl, rfl⟩
    clear con3
    have hn2 := hn'.out
    have b7 : Below w6.heap.size w6 w7 := by rw [← HW7.out]; exact below_alloc _
    have h6 : Below (W0.heap.size + 2) Wd w6 := HB6.out _ _ (Nat.le_refl _) (Below.refl _ _)
    have hs6 := h6.size
    have hs7 : w7.heap.size = w6.heap.size + 1 := by rw [← HW7.out]; simp
    have bx7 : Boxed w7 w6.heap.size 69 (.slice q' n' k') := by rw [← HW7.out]; exact Boxed.new w6 _ _
    have BWd := HWD.out.1
    have BW7 : Below w.heap.size w w7 := BWd.trans ((h6.mono (by omega)).trans (b7.mono (by have := BWd.size; omega)))
    have hD7 : w7.heap[W0.heap.size]? = some (.deferred (some [])) := (b7.block _ (by have := HWD.out.2.2; omega)).trans ((h6.block _ (by omega)).trans HWD.out.2.1)
    have HF := Lib.hid (And.intro bx7 (And.intro BW7 (And.intro b7 (And.intro hs6 hs7))))
    have HDD := Lib.hid hD7
    clear bx7 BW7 b7 h6 hD7 BWd hn2
    gi_wp2
    refine ⟨by simp, .inl ⟨_, _, rfl, run_takeDeferred HDD.out, ?_⟩⟩
    obtain ⟨bx7, BW7, b7, hs6, hs7⟩ := HF.out
    have hdl := HWD.out.2.2
    have kD : Keep (fun b => b ≠ W0.heap.size) w7 (w7.putObj W0.heap.size (.deferred none)) := Keep.putObj _ _ _ (by simp)
    have hrow := HR6.out
    have hsw := HWS.out
    refine ⟨_, results_tmp rfl _ _ _, _, _, fun b => b = w6.heap.size ∨ ∃ o, q' = some ⟨b, o, none⟩, rfl, enters_of Tryz.func126 (by kernel_rfl) rfl, ?_, ?_, ((Keep.of_below BW7).trans (kD.mono fun b _ h => by omega)).below (Nat.le_refl _)⟩
    · have hRs : ∀ b, (b = w6.heap.size ∨ ∃ o, q' = some ⟨b, o, none⟩) → b < w7.heap.size ∧ W0.heap.size + 2 ≤ b := by
        rintro b (rfl | ⟨o, rfl⟩)
        · omega
        · have := hrow.lt b rfl; omega
      rw [HOS.out]
      refine IterC.later (Values1_str w6.heap.size q' n' k' os _ w7 bx7 (.inl rfl) (fun b hb => (hRs b hb).1) (fun h0 => ?_) hn'.out.symm (by have := HXN.out; have := hn'.out; omega)) (kD.mono fun b _ hb => by have := hRs b hb; omega)
      rcases hrow.2 with ⟨hv, h0'⟩ | ⟨g, cap, cur, hv, hb, hg, h1, h2, h3, h4⟩
      · have := hn'.out; omega
      · cases hv
        refine ⟨g, rfl, fun i x hx => ?_, .inr ⟨0, rfl⟩⟩
        have hi : i < os.length := (List.getElem?_eq_some_iff.1 hx).1
        have h5 : (cur.toList.take (os.length * 1))[i]? = some (encStr x) := by rw [h4, List.getElem?_map, hx]; rfl
        rw [List.getElem?_take, if_pos (by omega)] at h5
        have hg7 : w7.heap[g]? = some (.cells cur 9 (0, 0)) := (b7.block g (Array.getElem?_eq_some_iff.1 hg).1).trans hg
        simp only [World.cell?, hg7]
        simpa using h5
    · rintro b (rfl | ⟨o, rfl⟩)
      · simp; omega
      · have := (hrow.lt b rfl).2
        simp
        omega
theorem Owners_any (M : Nat → Prop) (p : Addr) (l : List En) (w : World) (h : JarIn M (.pointer (some p)) l w) (hG : Gl w) (hl : l.length ≤ 1048576) :
    Calls Tryz.prog 28 #[.pointer (some p)] w (ItOut (fun _ => StrArg) (ownersJ l) w) :=
  Owners_gen (some p) l w (fun W A1 => inOrder_any M p l W (h.keep ((Keep.of_below A1).mono fun b hb _ => hb) (Soft.of_below A1)) hl (hG.on A1)) hl h.all.1 hG
theorem Owners_nil (w : World) (hG : Gl w) : Calls Tryz.prog 28 #[.pointer none] w (ItOut (fun _ => StrArg) [] w) := by
  refine Owners_gen none [] w (fun W _ => (inOrder_nil W).mono ?_) (Nat.zero_le _) (fun e h => by cases h) hG
  rintro e w' ⟨rfl, hb⟩
  exact ⟨[], _, _, fun _ => False, rfl, enters_of Tryz.func119 (by kernel_rfl) rfl, inOrder1_iter _ _, fun b h => h.elim, hb, List.nodup_nil, fun k => by simp, rfl⟩
end Go.Proofs.YtniehbjoogaccaaGreatDoor.Jar
namespace Go.Proofs.YtniehbjoogaccaaGreatDoor.Jar
open Go.RowKit Go.Shelf Url Ck
attribute [local go_sem] Oper.semAt_some
set_option linter.unusedVariables false
def zU : U := ⟨[], [], 0, [], [], [], false, false⟩
def urlE (r : Sum Int U) : Int := match r with | .inl e => e | .inr _ => 0
def urlV (r : Sum Int U) : U := match r with | .inl _ => zU | .inr u => u
def UpOut2 (r : Sum Int U) (w : World) (e : Ending) (w' : World) : Prop := ∃ q0 n0 c0 q1 n1 c1 p q3 n3 c3 q4 n4 c4 q5 n5 c5 hq hf,
  e = .returned (.tuple #[.agg #[.slice q0 n0 c0, .slice q1 n1 c1, .int .i64 p, .slice q3 n3 c3, .slice q4 n4 c4, .slice q5 n5 c5, .bool hq, .bool hf], .int .i64 (urlE r)]) ∧
  UrlIn w' (.agg #[.slice q0 n0 c0, .slice q1 n1 c1, .int .i64 p, .slice q3 n3 c3, .slice q4 n4 c4, .slice q5 n5 c5, .bool hq, .bool hf]) (urlV r) ∧ (∀ m, r = .inl m → m ≠ 0) ∧ Below w.heap.size w w'
theorem zero_url (w : World) : UrlIn w (.agg zeroU) zU := ⟨_, _, _, _, _, _, _, _, _, _, _, _, _, _, _, rfl, by_nil w, by_nil w, by_nil w, by_nil w, by_nil w⟩
theorem UParse_any (q : Option Addr) (n c : Nat) (t : List UInt8) (w : World) (hby : By w (.slice q n c) t) (hn : n ≤ 400) (hG : Gl w) :
    Calls Tryz.prog 10 #[.slice q n c] w (UpOut2 (parseU t) w) := by
  have hl := hby.at.1
  have hp := parse_canon t (by omega)
  refine (Parse_of canonOk q n c t w hby (by omega) hG (fun u hu => by have := Url.text_len t u (hp.trans hu); omega)).mono ?_
  intro e w' h
  rw [hp]
  cases hc : canonU t with
  | inl m =>
    rw [hc] at h
    obtain ⟨hm, rfl, hb⟩ := h
    exact ⟨_, _, _, _, _, _, _, _, _, _, _, _, _, _, _, _, _, _, rfl, zero_url w', fun k hk => by cases hk; exact hm, hb⟩
  | inr u =>
    rw [hc] at h
    obtain ⟨v, rfl, hin, hb⟩ := h
    obtain ⟨q0, n0, c0, q1, n1, c1, q3, n3, c3, q4, n4, c4, q5, n5, c5, rfl, i⟩ := id hin
    exact ⟨_, _, _, _, _, _, _, _, _, _, _, _, _, _, _, _, _, _, rfl, hin, (fun k hk => by cases hk), hb⟩
def actN (l : List En) (x : Ax) : List En := match parseU x.at_, parseC x.set with
  | .inr u, .inr c => setN l u c x.now
  | _, _ => l
theorem act_is (l : List En) (x : Ax) : actN l x = l ∨ ∃ u c, parseU x.at_ = .inr u ∧ parseC x.set = .inr c ∧ ∀ m, actN m x = setN m u c x.now := by
  unfold actN
  cases h1 : parseU x.at_ with
  | inl e => exact .inl rfl
  | inr u =>
    cases h2 : parseC x.set with
    | inl e => exact .inl rfl
    | inr c => exact .inr ⟨u, c, rfl, rfl, fun _ => rfl⟩
theorem setN_or (l : List En) (u : U) (c : Ck) (now : Int) : setN l u c now = l ∨ setN l u c now = setJ l u c now := by
  unfold setN
  split
  · exact .inr rfl
  · exact .inl rfl
theorem put_len (l : List En) (u : U) (c : Ck) (now : Int) : (setJ l u c now).length ≤ l.length + 1 := by
  unfold setJ putJ
  split
  · have h1 := List.length_filter_le (keepE u c now) l
    split
    · omega
    · rw [List.length_append, List.length_singleton]
      split
      · omega
      · have h2 : ((l.filter (keepE u c now)).eraseP (mine (keyU u))).length ≤ (l.filter (keepE u c now)).length := List.length_eraseP_le
        omega
  · omega
theorem act_len (l : List En) (x : Ax) : (actN l x).length ≤ l.length + 1 := by
  rcases act_is l x with h1 | ⟨u, c, -, -, h3⟩
  · rw [h1]; omega
  · rw [h3]
    rcases setN_or l u c x.now with h4 | h4
    · rw [h4]; omega
    · rw [h4]; exact put_len l u c x.now
theorem ins_len (x : List UInt8) : ∀ l : List (List UInt8), (Frm.insR x l).length ≤ l.length + 1
  | [] => by simp [Frm.insR]
  | y :: r => by
    have := ins_len x r
    unfold Frm.insR
    split
    · simp
    · split <;> simp <;> omega
theorem owners_len (l : List En) : (ownersJ l).length ≤ l.length := by
  unfold ownersJ Frm.sortR
  induction l with
  | nil => simp
  | cons e r ih =>
    rw [List.map_cons, List.foldr_cons, List.length_cons]
    exact Nat.le_trans (ins_len _ _) (by omega)
def PutOut (M : Nat → Prop) (v : Value) (l : List En) (w : World) (e : Ending) (w' : World) : Prop := ∃ M' : Nat → Prop, e = .returned (.tuple #[]) ∧ JarIn M' v l w' ∧ (∀ b, M' b → M b ∨ w.heap.size ≤ b) ∧ Keep (fun b => ¬ M b) w w'
theorem keep_not {M : Nat → Prop} {w w' : World} (hb : Below w.heap.size w w') : Keep (fun b => ¬ M b) w w' := (Keep.of_below hb).mono fun k hk _ => hk
theorem keep_own {M : Nat → Prop} {v : Value} {l : List En} {w w' : World} (h : JarIn M v l w) (hb : Below w.heap.size w w') : JarIn M v l w' := h.keep ((Keep.of_below hb).mono fun k hk _ => hk) (Soft.of_below hb)
set_option maxRecDepth 100000 in
set_option maxHeartbeats 8000000 in
theorem put_any (M : Nat → Prop) (p : Addr) (l : List En) (x : Ax) (q1 : Option Addr) (n1 c1 : Nat) (q2 : Option Addr) (n2 c2 : Nat) (q3 : Option Addr) (n3 c3 : Nat) (w : World) (h : JarIn M (.pointer (some p)) l w)
    (y1 : By w (.slice q1 n1 c1) x.at_) (y3 : By w (.slice q3 n3 c3) x.set) (hx : -9223372036854775808 ≤ x.now ∧ x.now ≤ 9223372036854775807) (s1 : x.at_.length ≤ 200) (s3 : x.set.length ≤ 300) (B : Nat) (hF : ∀ b, M b → B ≤ b) (hB : B ≤ w.heap.size) (hG : GlB B w) :
    Calls Tryz.prog 32 #[.pointer (some p), .agg #[.int .i64 x.kind, .int .i64 x.now, .slice q1 n1 c1, .slice q2 n2 c2, .slice q3 n3 c3]] w (PutOut M (.pointer (some p)) (actN l x) w) := by
  have e1 := y1.at.1
  have e3 := y3.at.1
  obtain ⟨b0, hb0⟩ : ∃ b, w.heap.size = b := ⟨_, rfl⟩
  obtain ⟨X0, hX0⟩ : ∃ Z, w.alloc (.cells #[.int .i64 x.kind, .int .i64 x.now, .slice q1 n1 c1, .slice q2 n2 c2, .slice q3 n3 c3] 31) = Z := ⟨_, rfl⟩
  have B0 : Below w.heap.size w X0 := hX0 ▸ below_alloc _
  have xb : Box b0 #[.int .i64 x.kind, .int .i64 x.now, .slice q1 n1 c1, .slice q2 n2 c2, .slice q3 n3 c3] X0 := hX0 ▸ hb0 ▸ Box.new w _ _
  have con := UParse_any q1 n1 c1 x.at_ X0 (y1.on B0) (by omega) (hG.on (B0.mono hB)).gl
  have z1 := xb 1 _ rfl
  have z2 := xb 2 _ rfl
  have z4 := xb 4 _ rfl
  have HX0 := Lib.hid hX0
  have HB0 := Lib.hid hb0
  have HG := Lib.hid hG
  have HY3 := Lib.hid y3
  have HJ := Lib.hid h
  have HF := Lib.hid hF
  clear hX0 hb0 hG y3 h hF y1
  go_enter Tryz.func32, Tryz.ntmps32
  go_wp2_with fail
  rw [HX0.out, HB0.out]
  refine con.mono ?_
  rintro e X1 ⟨r0, m0, k0, r1, m1, k1, pp, r3, m3, k3, r4, m4, k4, r5, m5, k5, hq, hf, rfl, hU, hm, hb⟩
  replace B0 := B0.trans (hb.mono B0.size)
  replace xb := Box.on xb hb
  clear con hb HX0 z1 z2 z4
  have HU1 := Lib.hid (fun u hu => (show Url.Ok u ∧ (textU u).length ≤ 4096 from ⟨Url.parse_ok x.at_ u hu, by have := Url.text_len _ u hu; omega⟩))
  have HA := Lib.hid (show actN l x = (match parseU x.at_, parseC x.set with
    | .inr u, .inr c => setN l u c x.now
    | _, _ => l) from rfl)
  generalize parseU x.at_ = R1 at *
  obtain ⟨bu, hbu⟩ : ∃ b, X1.heap.size = b := ⟨_, rfl⟩
  obtain ⟨X2, hX2⟩ : ∃ Z, X1.alloc (.cells #[.slice r0 m0 k0, .slice r1 m1 k1, .int .i64 pp, .slice r3 m3 k3, .slice r4 m4 k4, .slice r5 m5 k5, .bool hq, .bool hf] 33) = Z := ⟨_, rfl⟩
  have hb : Below X1.heap.size X1 X2 := hX2 ▸ below_alloc _
  replace B0 := B0.trans (hb.mono B0.size)
  replace xb := Box.on xb hb
  replace hU := hU.on hb
  have ub : Box bu #[.slice r0 m0 k0, .slice r1 m1 k1, .int .i64 pp, .slice r3 m3 k3, .slice r4 m4 k4, .slice r5 m5 k5, .bool hq, .bool hf] X2 := hX2 ▸ hbu ▸ Box.new X1 _ _
  have HX2 := Lib.hid hX2
  have HBU := Lib.hid hbu
  clear hb hX2 hbu
  have con := Ck.Parse_any q3 n3 c3 x.set X2 (HY3.out.on B0) (by omega) (HG.out.on (B0.mono hB)).gl
  have z4 := xb 4 _ rfl
  rw [← HX2.out] at z4
  go_wp2_with fail
  rw [HX2.out, HBU.out]
  refine con.mono ?_
  rintro e X3 ⟨v, rfl, hC, hb⟩
  replace B0 := B0.trans (hb.mono B0.size)
  replace xb := Box.on xb hb
  replace ub := Box.on ub hb
  replace hU := hU.on hb
  clear con hb HX2 z4 HBU HY3
  have HC1 := Lib.hid (fun c hc => (show Ck.Ok c ∧ Small 4096 c from ⟨Ck.parse_ok x.set c hc, small_le (Ck.parse_small _ c hc) (by omega)⟩))
  have HCE := Lib.hid (fun k hk => (Ck.parse_err x.set k (by omega) hk))
  generalize parseC x.set = R2 at *
  obtain ⟨q4, n4, c4, q5, n5, c5, q6, n6, c6, rfl, -⟩ := id hC
  obtain ⟨bc, hbc⟩ : ∃ b, X3.heap.size = b := ⟨_, rfl⟩
  obtain ⟨X4, hX4⟩ : ∃ Z, X3.alloc (.cells #[.slice q4 n4 c4, .slice q5 n5 c5, .slice q6 n6 c6, .string ⟨(ckV R2).dom.toArray⟩, .int .i64 (ckV R2).age, .bool (ckV R2).secure] 42) = Z := ⟨_, rfl⟩
  have hb : Below X3.heap.size X3 X4 := hX4 ▸ below_alloc _
  replace B0 := B0.trans (hb.mono B0.size)
  replace xb := Box.on xb hb
  replace ub := Box.on ub hb
  replace hU := hU.on hb
  replace hC := hC.on hb
  have cb : Box bc #[.slice q4 n4 c4, .slice q5 n5 c5, .slice q6 n6 c6, .string ⟨(ckV R2).dom.toArray⟩, .int .i64 (ckV R2).age, .bool (ckV R2).secure] X4 := hX4 ▸ hbc ▸ Box.new X3 _ _
  have HX4 := Lib.hid hX4
  have HBC := Lib.hid hbc
  clear hb hX4 hbc
  have hJ := keep_own HJ.out B0
  have HK := Lib.hid B0
  have HXB := Lib.hid xb
  have HUB := Lib.hid ub
  have HCB := Lib.hid cb
  clear xb ub cb B0
  cases R1 with
  | inl m1 =>
    have d1 : (m1 == 0) = false := by simpa using hm m1 rfl
    clear hm hU hC
    simp only [urlE] at *
    go_wp2
    rw [HX4.out]
    refine bodyPost_ret (results_none rfl _ _ _) rfl ?_
    exact ⟨M, rfl, by rw [HA.out]; exact hJ, fun b hb => .inl hb, keep_not HK.out⟩
  | inr u =>
    cases R2 with
    | inl m2 =>
      obtain rfl := HCE.out m2 rfl
      simp only [urlE, ckE] at *
      go_wp2
      rw [HX4.out]
      refine bodyPost_ret (results_none rfl _ _ _) rfl ?_
      exact ⟨M, rfl, by rw [HA.out]; exact hJ, fun b hb => .inl hb, keep_not HK.out⟩
    | inr c =>
      simp only [urlE, ckE, urlV, ckV] at *
      obtain ⟨hu1, hu2⟩ := HU1.out u rfl
      obtain ⟨hc1, hc2⟩ := HC1.out c rfl
      have con := Set_any M p l _ _ u c x.now X4 hJ hU hu1 hu2 hC hc1 hc2 hx B HF.out (HG.out.on (HK.out.mono hB))
      have z1 := HXB.out 1 _ rfl
      have u0 := HUB.out 0 _ rfl
      have u1 := HUB.out 1 _ rfl
      have u2 := HUB.out 2 _ rfl
      have u3 := HUB.out 3 _ rfl
      have u4 := HUB.out 4 _ rfl
      have u5 := HUB.out 5 _ rfl
      have u6 := HUB.out 6 _ rfl
      have u7 := HUB.out 7 _ rfl
      have v0 := HCB.out 0 _ rfl
      have v1 := HCB.out 1 _ rfl
      have v2 := HCB.out 2 _ rfl
      have v3 := HCB.out 3 _ rfl
      have v4 := HCB.out 4 _ rfl
      have v5 := HCB.out 5 _ rfl
      rw [← HX4.out] at z1 u0 u1 u2 u3 u4 u5 u6 u7 v0 v1 v2 v3 v4 v5
      clear hJ hU hC hm hx
      go_wp2_with fail
      rw [HX4.out]
      refine con.mono ?_
      rintro e X5 ⟨M', rfl, hJ, hF', hk⟩
      clear con z1 u0 u1 u2 u3 u4 u5 u6 u7 v0 v1 v2 v3 v4 v5
      go_wp2
      refine bodyPost_ret (results_none rfl _ _ _) rfl ?_
      exact ⟨M', rfl, by rw [HA.out]; exact hJ, fun b hb => (hF' b hb).imp id (Nat.le_trans HK.out.size), (keep_not HK.out).trans hk⟩
end Go.Proofs.YtniehbjoogaccaaGreatDoor.Jar
namespace Go.Proofs.YtniehbjoogaccaaGreatDoor.Jar
open Go.RowKit Go.Shelf Url Ck
attribute [local go_sem] Oper.semAt_some
set_option linter.unusedVariables false
def urlT : List UInt8 := [104, 116, 116, 112, 58, 47, 47, 104, 47]
def uH : U := ⟨[104, 116, 116, 112], [104], 80, [47], [], [], false, false⟩
def cL (i : Nat) : Ck := ⟨[97 + UInt8.ofNat i], [49], [], [], -1, false⟩
def livesL : Nat → List En
  | 0 => []
  | i + 1 => setN (livesL i) uH (cL i) 0
theorem url_h : parseU urlT = .inr uH := by rfl
theorem ck_i : ∀ i, i < 9 → parseC [97 + UInt8.ofNat i, 61, 49] = .inr (cL i)
  | 0, _ => by rfl
  | 1, _ => by rfl
  | 2, _ => by rfl
  | 3, _ => by rfl
  | 4, _ => by rfl
  | 5, _ => by rfl
  | 6, _ => by rfl
  | 7, _ => by rfl
  | 8, _ => by rfl
  | n + 9, h => by omega
theorem may_i (i : Nat) : setE uH (cL i) 0 = 0 := by rfl
def endB : Bool := decide (lenJ (keyU uH) (livesL 9) = 8) && decide ((lineL (forJ (keyU uH) uH 0 (livesL 9))).head? = some 98)
theorem end_b : endB = true := by decide +kernel
theorem end_line : lenJ (keyU uH) (livesL 9) = 8 ∧ ∃ r, lineL (forJ (keyU uH) uH 0 (livesL 9)) = 98 :: r := by
  obtain ⟨h1, h2⟩ := Bool.and_eq_true_iff.1 (show (decide (lenJ (keyU uH) (livesL 9) = 8) && decide ((lineL (forJ (keyU uH) uH 0 (livesL 9))).head? = some 98)) = true from end_b)
  refine ⟨of_decide_eq_true h1, ?_⟩
  have h := of_decide_eq_true h2
  generalize lineL (forJ (keyU uH) uH 0 (livesL 9)) = l at h
  cases l with
  | nil => cases h
  | cons b r => exact ⟨r, by simpa using h⟩
set_option maxRecDepth 100000 in
set_option maxHeartbeats 8000000 in
theorem lives_any (w : World) (hG : Gl w) : Calls Tryz.prog 7 #[] w fun e w' => e = .returned (.bool true) ∧ Below w.heap.size w w' := by
  have kc := fun (w : World) (C : Array Value) (n c : Nat) => Lib.run_convert_bytes_const (P := Tryz.prog) w 29 5 C n c Tryz.underlying29 Tryz.underlying5
  have con := New_any w
  have HG := Lib.hid hG
  clear hG
  go_enter Tryz.func7, Tryz.ntmps7
  go_wp2_with fail
  refine con.mono ?_
  rintro e X1 ⟨M, p, rfl, hJ, hF, hb⟩
  have A := hb
  clear con hb
  obtain ⟨X2, hX2⟩ : ∃ Z, X1.alloc (.cells #[.int .u8 104, .int .u8 116, .int .u8 116, .int .u8 112, .int .u8 58, .int .u8 47, .int .u8 47, .int .u8 104, .int .u8 47] 5 (9, 10)) = Z := ⟨_, rfl⟩
  have hb : Below X1.heap.size X1 X2 := by rw [← hX2]; exact below_alloc _
  have hby : By X2 (.slice (some ⟨X1.heap.size, 0, none⟩) 9 9) urlT := by rw [← hX2]; exact by_lit X1 #[.int .u8 104, .int .u8 116, .int .u8 116, .int .u8 112, .int .u8 58, .int .u8 47, .int .u8 47, .int .u8 104, .int .u8 47] urlT (9, 10) 9 rfl rfl (by unfold maxLen; omega)
  replace A := A.trans (hb.mono A.size)
  replace hJ := keep_own hJ hb
  have con := UParse_any (some ⟨X1.heap.size, 0, none⟩) 9 9 urlT X2 hby (by omega) (HG.out.on A)
  rw [url_h] at con
  have HX2 := Lib.hid hX2
  clear hX2 hby hb
  go_wp2_with fail
  rw [HX2.out]
  refine con.mono ?_
  rintro e X3 ⟨r0, m0, k0, r1, m1, k1, pp, r3, m3, k3, r4, m4, k4, r5, m5, k5, hq, hf, rfl, hU, -, hb⟩
  simp only [urlE, urlV] at hU ⊢
  replace A := A.trans (hb.mono A.size)
  replace hJ := keep_own hJ hb
  clear con hb HX2
  obtain ⟨bu, hbu⟩ : ∃ b, X3.heap.size = b := ⟨_, rfl⟩
  obtain ⟨X4, hX4⟩ : ∃ Z, X3.alloc (.cells #[.slice r0 m0 k0, .slice r1 m1 k1, .int .i64 pp, .slice r3 m3 k3, .slice r4 m4 k4, .slice r5 m5 k5, .bool hq, .bool hf] 33) = Z := ⟨_, rfl⟩
  have hlt : ∀ b, M b → b < bu := fun b h => hbu ▸ (hJ.off b h).1
  have hb : Below X3.heap.size X3 X4 := hX4 ▸ below_alloc _
  replace A := A.trans (hb.mono A.size)
  replace hJ := keep_own hJ hb
  replace hU := hU.on hb
  have ub : Box bu #[.slice r0 m0 k0, .slice r1 m1 k1, .int .i64 pp, .slice r3 m3 k3, .slice r4 m4 k4, .slice r5 m5 k5, .bool hq, .bool hf] X4 := hX4 ▸ hbu ▸ Box.new X3 _ _
  have HX4 := Lib.hid hX4
  have HBU := Lib.hid hbu
  clear hb hX4 hbu
  go_wp2
  rw [HX4.out, HBU.out]
  have HM := Lib.hid (show ∀ b, M b → w.heap.size ≤ b ∧ b ≠ bu from fun b h => ⟨hF b h, by have := hlt b h; omega⟩)
  clear hlt hF
  go_loopw [15] (fun i wr => ∃ (k : Nat) (M : Nat → Prop), k ≤ 9 ∧ i = .int .u8 k ∧ JarIn M (.pointer (some p)) (livesL k) wr ∧ Hid (∀ b, M b → w.heap.size ≤ b ∧ b ≠ bu) ∧ Box bu #[.slice r0 m0 k0, .slice r1 m1 k1, .int .i64 pp, .slice r3 m3 k3, .slice r4 m4 k4, .slice r5 m5 k5, .bool hq, .bool hf] wr ∧ UrlIn wr (.agg #[.slice r0 m0 k0, .slice r1 m1 k1, .int .i64 pp, .slice r3 m3 k3, .slice r4 m4 k4, .slice r5 m5 k5, .bool hq, .bool hf]) uH ∧ Below w.heap.size w wr) (fun i _ => 9 - (intOf i).toNat)
  case atStart => exact ⟨0, M, by omega, rfl, hJ, HM, ub, hU, A⟩
  case round =>
    obtain ⟨k, M, hk, rfl, hJ, HM, ub, hU, A⟩ := hrel
    by_cases hlt : k < 9
    · obtain ⟨X5, hX5⟩ : ∃ Z, wr.alloc (.cells #[.int .u8 (97 + (k : Int)), .int .u8 61, .int .u8 49] 5) = Z := ⟨_, rfl⟩
      have hb : Below wr.heap.size wr X5 := by rw [← hX5]; exact below_alloc _
      have hby : By X5 (.slice (some ⟨wr.heap.size, 0, none⟩) 3 3) [97 + UInt8.ofNat k, 61, 49] := by
        rw [← hX5]
        refine by_lit wr #[.int .u8 (97 + (k : Int)), .int .u8 61, .int .u8 49] [97 + UInt8.ofNat k, 61, 49] (0, 0) 3 ?_ rfl (by unfold maxLen; omega)
        have h : (97 + UInt8.ofNat k).toNat = 97 + k := by
          rw [UInt8.toNat_add, UInt8.toNat_ofNat']
          show (97 + k % 256) % 256 = _
          omega
        show [Value.int .u8 (97 + (k : Int)), .int .u8 61, .int .u8 49] = [Value.int .u8 ((97 + UInt8.ofNat k).toNat : Int), .int .u8 61, .int .u8 49]
        rw [h, Int.natCast_add]; rfl
      replace A := A.trans (hb.mono A.size)
      replace hJ := keep_own hJ hb
      replace ub := Box.on ub hb
      replace hU := hU.on hb
      have con := Ck.Parse_any (some ⟨wr.heap.size, 0, none⟩) 3 3 _ X5 hby (by omega) (HG.out.on A)
      rw [ck_i k hlt] at con
      have HX5 := Lib.hid hX5
      clear hX5 hby hb
      go_wp2_with fail
      rw [HX5.out]
      refine con.mono ?_
      rintro e X6 ⟨v, rfl, hC, hb⟩
      simp only [ckE, ckV] at hC ⊢
      replace A := A.trans (hb.mono A.size)
      replace hJ := keep_own hJ hb
      replace ub := Box.on ub hb
      replace hU := hU.on hb
      clear con hb HX5
      obtain ⟨q4, n4, c4, q5, n5, c5, q6, n6, c6, rfl, -⟩ := id hC
      obtain ⟨bc, hbc⟩ : ∃ b, X6.heap.size = b := ⟨_, rfl⟩
      obtain ⟨X7, hX7⟩ : ∃ Z, X6.alloc (.cells #[.slice q4 n4 c4, .slice q5 n5 c5, .slice q6 n6 c6, .string ⟨(cL k).dom.toArray⟩, .int .i64 (cL k).age, .bool (cL k).secure] 42) = Z := ⟨_, rfl⟩
      have hb : Below X6.heap.size X6 X7 := hX7 ▸ below_alloc _
      replace A := A.trans (hb.mono A.size)
      replace hJ := keep_own hJ hb
      replace ub := Box.on ub hb
      replace hU := hU.on hb
      replace hC := hC.on hb
      have cb : Box bc #[.slice q4 n4 c4, .slice q5 n5 c5, .slice q6 n6 c6, .string ⟨(cL k).dom.toArray⟩, .int .i64 (cL k).age, .bool (cL k).secure] X7 := hX7 ▸ hbc ▸ Box.new X6 _ _
      have con := Set_any M p (livesL k) _ _ uH (cL k) 0 X7 hJ hU (Url.parse_ok _ _ url_h) (by have := Url.text_len _ _ url_h; unfold urlT at this; simp at this; omega) hC (Ck.parse_ok _ _ (ck_i k hlt)) (small_le (Ck.parse_small _ _ (ck_i k hlt)) (by simp)) (by omega) w.heap.size (fun b h => (HM.out b h).1) ((Gl.glb HG.out).on A)
      rw [may_i] at con
      have HX7 := Lib.hid hX7
      have HBC := Lib.hid hbc
      have HUB := Lib.hid ub
      have HU := Lib.hid hU
      have HA := Lib.hid A
      have HO := Lib.hid hJ.off
      have u0' := ub 0 _ rfl
      have u1' := ub 1 _ rfl
      have u2' := ub 2 _ rfl
      have u3' := ub 3 _ rfl
      have u4' := ub 4 _ rfl
      have u5' := ub 5 _ rfl
      have u6' := ub 6 _ rfl
      have u7' := ub 7 _ rfl
      have v0' := cb 0 _ rfl
      have v1' := cb 1 _ rfl
      have v2' := cb 2 _ rfl
      have v3' := cb 3 _ rfl
      have v4' := cb 4 _ rfl
      have v5' := cb 5 _ rfl
      rw [← HX7.out] at u0' u1' u2' u3' u4' u5' u6' u7' v0' v1' v2' v3' v4' v5'
      clear hb hX7 hbc hJ ub hU A cb hC
      go_wp2_with fail
      rw [HX7.out]
      refine con.mono ?_
      rintro e X8 ⟨M', rfl, hJ, hM', hk8⟩
      clear con u0' u1' u2' u3' u4' u5' u6' u7' v0' v1' v2' v3' v4' v5'
      have hu : bu < X7.heap.size := World.block_lt_of_cell? X7 _ (HUB.out 0 _ rfl)
      have HM' := Lib.hid (show ∀ b, M' b → w.heap.size ≤ b ∧ b ≠ bu from fun b h => by
        rcases hM' b h with h | h
        · exact HM.out b h
        · exact ⟨Nat.le_trans HA.out.size h, by omega⟩)
      have ub : Box bu #[.slice r0 m0 k0, .slice r1 m1 k1, .int .i64 pp, .slice r3 m3 k3, .slice r4 m4 k4, .slice r5 m5 k5, .bool hq, .bool hf] X8 := fun i x h => (World.cell?_of_block (hk8.block bu hu (fun h => (HM.out bu h).2 rfl))).trans (HUB.out i x h)
      have hU := (HO.out.soft hk8).url HU.out
      have A := HA.out.trans (Keep.below (hk8.mono fun k _ (h : k < w.heap.size) hm => by have := (HM.out k hm).1; omega) HA.out.size)
      go_wp2
      go_roundw
      case rel => exact ⟨k + 1, M', by omega, by go_num, hJ, HM', ub, hU, A⟩
      case measure => simp [intOf]; omega
    · obtain rfl : k = 9 := by omega
      obtain ⟨X5, hX5⟩ : ∃ Z, wr.drew = Z := ⟨_, rfl⟩
      have hb : Below wr.heap.size wr X5 := by rw [← hX5]; exact (Below.refl _ _).drew
      replace A := A.trans (hb.mono A.size)
      replace hJ := keep_own hJ hb
      replace hU := hU.on hb
      replace ub := Box.on ub hb
      obtain ⟨ov, hov⟩ : ∃ v, Org.orgV uH.scheme uH.host uH.port 0 = v := ⟨_, rfl⟩
      have HOV := Lib.hid hov
      have HE := Lib.hid (end_line)
      have HUO := Lib.hid (show Url.Ok uH ∧ (textU uH).length ≤ 4096 from ⟨Url.parse_ok _ _ url_h, by have := Url.text_len _ _ url_h; unfold urlT at this; simp at this; omega⟩)
      generalize livesL 9 = LL at *
      have HX5 := Lib.hid hX5
      clear hX5 hb hov
      go_wp2_with fail
      refine pregion_any (fun X => Box bu #[.slice r0 m0 k0, .slice r1 m1 k1, .int .i64 pp, .slice r3 m3 k3, .slice r4 m4 k4, .slice r5 m5 k5, .bool hq, .bool hf] X) (by kernel_rfl) ?_
      rw [HX5.out]
      refine wpAnyH_take (i := 0) (v := (.pointer (some p))) rfl (by kernel_rfl) (by kernel_rfl) (by kernel_rfl) (fun _ _ _ h => h) (.inl ⟨by kernel_rfl, ?_⟩) ub ?_
      · rintro w h7; go_simp
      refine plist #[true, false, false, false, false, false, false] (by kernel_rfl) ?_
      refine wpAnyH_take (i := 1) (v := (.agg #[.slice r0 m0 k0, .slice r1 m1 k1, .int .i64 pp, .slice r3 m3 k3, .slice r4 m4 k4, .slice r5 m5 k5, .bool hq, .bool hf])) rfl (by kernel_rfl) (by kernel_rfl) (by kernel_rfl) (fun _ _ _ h => h) (.inl ⟨by kernel_rfl, ?_⟩) ub ?_
      · rintro w h7; have x0 := h7 0 _ rfl; have x1 := h7 1 _ rfl; have x2 := h7 2 _ rfl; have x3 := h7 3 _ rfl; have x4 := h7 4 _ rfl; have x5 := h7 5 _ rfl; have x6 := h7 6 _ rfl; have x7 := h7 7 _ rfl; go_simp <;> omega
      refine plist #[true, true, false, false, false, false, false] (by kernel_rfl) ?_
      refine wpAnyH_take (i := 3) (v := (.agg #[.slice r0 m0 k0, .slice r1 m1 k1, .int .i64 pp, .slice r3 m3 k3, .slice r4 m4 k4, .slice r5 m5 k5, .bool hq, .bool hf])) rfl (by kernel_rfl) (by kernel_rfl) (by kernel_rfl) (fun _ _ _ h => h) (.inl ⟨by kernel_rfl, ?_⟩) ub ?_
      · rintro w h7; have x0 := h7 0 _ rfl; have x1 := h7 1 _ rfl; have x2 := h7 2 _ rfl; have x3 := h7 3 _ rfl; have x4 := h7 4 _ rfl; have x5 := h7 5 _ rfl; have x6 := h7 6 _ rfl; have x7 := h7 7 _ rfl; go_simp <;> omega
      refine plist #[true, true, false, true, false, false, false] (by kernel_rfl) ?_
      have con := Org.Of_any uH _ _ hU
      rw [HOV.out] at con
      refine pone 2 (by kernel_rfl) rfl fun K hK => ?_
      go_simp
      refine con.mono ?_
      rintro e Wa ⟨rfl, hb⟩
      replace A := A.trans (hb.mono A.size)
      replace hJ := keep_own hJ hb
      replace hU := hU.on hb
      replace ub := Box.on ub hb
      clear con hb 
      refine hK _ _ ub ?_
      clear hK K
      refine plist #[true, true, true, true, false, false, false] (by kernel_rfl) ?_
      have con := Line_any M p LL uH uH _ 0 _ hJ (.inr HUO.out) hU (.inr HUO.out) (by omega) (HG.out.on A)
      rw [HOV.out] at con
      refine pone 4 (by kernel_rfl) rfl fun K hK => ?_
      go_simp
      refine con.mono ?_
      rintro e Wb ⟨ra, ma, da, rfl, TA, hb⟩
      replace A := A.trans (hb.mono A.size)
      replace hJ := keep_own hJ hb
      replace hU := hU.on hb
      replace ub := Box.on ub hb
      clear con hb 
      refine hK _ _ ub ?_
      clear hK K
      refine pmore (S' := fun X => (Box bu #[.slice r0 m0 k0, .slice r1 m1 k1, .int .i64 pp, .slice r3 m3 k3, .slice r4 m4 k4, .slice r5 m5 k5, .bool hq, .bool hf] X) ∧ By X (.slice ra ma da) (lineL (forJ (keyU uH) uH 0 LL))) (fun _ h => h.1) ?_
      refine plist #[true, true, true, true, true, false, false] (by kernel_rfl) ?_
      refine wpAnyH_take (i := 5) (v := (.string ⟨(lineL (forJ (keyU uH) uH 0 LL)).toArray⟩)) rfl (by kernel_rfl) (by kernel_rfl) (by kernel_rfl) (fun _ _ _ h => h) (.inl ⟨by kernel_rfl, ?_⟩) ⟨ub, TA⟩ ?_
      · rintro w ⟨h7, tA⟩; have hcv := conv_by tA; go_simp
      refine plist #[true, true, true, true, true, true, false] (by kernel_rfl) ?_
      refine pone 6 (by kernel_rfl) rfl fun K hK => ?_
      go_simp
      refine hK _ _ ⟨ub, TA⟩ ?_
      clear hK K
      refine pdone (by kernel_rfl) ?_ _
      clear TA HX5
      obtain ⟨hlen, rl, hrl⟩ := HE.out
      rw [hrl]
      have con := Org.Of_any uH _ _ hU
      rw [HOV.out] at con
      have x0 := ub 0 _ rfl
      have x1 := ub 1 _ rfl
      have x2 := ub 2 _ rfl
      have x3 := ub 3 _ rfl
      have x4 := ub 4 _ rfl
      have x5 := ub 5 _ rfl
      have x6 := ub 6 _ rfl
      have x7 := ub 7 _ rfl
      go_wp2_with fail
      refine con.mono ?_
      rintro e Wc ⟨rfl, hb⟩
      replace A := A.trans (hb.mono A.size)
      replace hJ := keep_own hJ hb
      replace hU := hU.on hb
      replace ub := Box.on ub hb
      clear con hb x0 x1 x2 x3 x4 x5 x6 x7
      have con := Len_any M p LL uH _ hJ
      rw [HOV.out, hlen] at con
      go_wp2_with fail
      refine con.mono ?_
      rintro e Wd ⟨rfl, hb⟩
      replace A := A.trans (hb.mono A.size)
      clear con hb hJ ub hU
      go_wp2
      go_ret
      exact ⟨rfl, A⟩
end Go.Proofs.YtniehbjoogaccaaGreatDoor.Jar
