/- package sorted: Map, at the lengths of texts. Conditions: at most 2^40 values. -/
import Derived.Test.YthfclmnmnmeldaaTxtF
namespace Go.Proofs.Ythfclmnmnmeldaa.S
open Go.RowKit Go.Shelf
attribute [local go_sem] Oper.semAt_some

/-- Two operations may come up. -/
theorem anyH_two {F : Fence} {n : Nat} {P : Program} {ops : Array Oper} {Q : Exit → Act → World → Prop} {md : Region.Mode} {S : World → Prop} (i j : Nat) {fuel : Nat} {listed : Array Bool} {a : Act} {w : World} {o o' : Oper} (hr : Region.ready md ops listed = [i, j]) (ho : ops[i]? = some o) (ho' : ops[j]? = some o')
    (h : ∀ K : Act → World → Prop, (∀ a' w', S w' → anyH F n P md ops Q S fuel (listed.setIfInBounds i true) a' w' → K a' w') →
      if Region.wanted o (yielded ops a.tmps) = true then Oper.wpIn F n P o a w K Q else (∀ f, o.about P w a.eval = some f → F.fn f) ∧ K (a.put o.dst undef) w)
    (h' : ∀ K : Act → World → Prop, (∀ a' w', S w' → anyH F n P md ops Q S fuel (listed.setIfInBounds j true) a' w' → K a' w') →
      if Region.wanted o' (yielded ops a.tmps) = true then Oper.wpIn F n P o' a w K Q else (∀ f, o'.about P w a.eval = some f → F.fn f) ∧ K (a.put o'.dst undef) w) : anyH F n P md ops Q S (fuel + 1) listed a w := by
  refine ⟨fun h0 => (by rw [hr] at h0; cases h0), fun k hk => ?_⟩
  rw [hr] at hk
  rcases List.mem_cons.1 hk with rfl | hk
  · exact wpOpIn_step ho fun K' hK' => h K' fun a' w' hs ha => hK' a' w' ⟨hs, ha⟩
  · obtain rfl : k = j := by simpa using hk
    exact wpOpIn_step ho' fun K' hK' => h' K' fun a' w' hs ha => hK' a' w' ⟨hs, ha⟩

/-- 'append(dst, src...)' in a round, dst the call's own. -/
theorem wpIn_append_own {F : Fence} {nF : Nat} {P : Program} {o : Oper} {a : Act} {w : World} {K : Act → World → Prop} {Q : Exit → Act → World → Prop} (s x : Operand) (t : TypeId)
    (ho : o.op = .call { callee := .builtin .append, args := #[s, x], argTypes := #[t, t] })
    (base : Nat) (e : TypeId) (i : TypeInfo) (z : Value) (size bytes : Nat) (ht : P.underlying t = some (.slice e)) (hi : P.info? e = some i) (hz : i.zero = some z)
    (hsize : i.size = size) (hby : i.bytes = bytes) (hzs : z.cells.size = size) (hsz : 0 < size)
    (v : Value) (n : Nat) (xs : List Value) (hs : a.eval s = v) (hown : w.ownsRow base e size v n xs)
    (ad : Addr) (m c : Nat) (news : List Value) (hx : a.eval x = .slice (some ad) m c) (hl : news.length = m * size) (hnews : ∀ j u, news[j]? = some u → w.cell? (ad.add j) = some u) (h1 : ∀ u ∈ news, u.oneCell' = true)
    (h63 : n + m ≤ maxLen) (hbytes : (n + m) * bytes ≤ 140737488355328) (hbase : base ≤ w.heap.size)
    (h : ∀ v' w', w'.ownsRow base e size v' (n + m) (xs ++ news) → w.grownBy w' v.ownBlock → (v'.ownBlock = v.ownBlock ∨ v'.ownBlock = some w.heap.size) → K (a.put o.dst v') w') : Oper.wpIn F nF P o a w K Q := by
  obtain ⟨v', w', hr, h2, h3, _, h5⟩ := run_append_own_at (P := P) w base t o.type e i z size bytes ht hi hz hsize hby hzs hsz v n xs hown ad m c news hl hnews h1 h63 hbytes hbase
  unfold Oper.wpIn
  refine ⟨by simp [Oper.about, ho, resolve, Target.leads, Sem.run_pure], ?_⟩
  rw [Oper.semAt_plain F _ _ (by rw [ho]; intro c hc'; cases hc')]
  simp [execOp, ho, resolve, invoke, builtin, hs, hx, hr, Result.andThen]
  exact h v' w' h2 h3 h5

/-- Between two rounds of Map. -/
def MapI (T e : TypeId) (Bo : Nat) (RB : Nat → Prop) (W0 : World) (pre : List (Nat × List UInt8)) (Pv : Nat → Prop) (W : World) : Prop :=
  ∃ v, Boxed W Bo T v ∧ W.ownsRow W0.heap.size e 1 v pre.length ((pre.map fun p => (p.2.length : Int)).map (Value.int .i64)) ∧ (∀ b, Pv b → W0.heap.size ≤ b) ∧ (∀ b, v.ownBlock = some b → ¬ Pv b) ∧ Keep RB W0 W
theorem MapI_abide (T e : TypeId) (Bo : Nat) (RB : Nat → Prop) (W0 : World) (hBo : Bo < W0.heap.size) (hRB : ∀ b, RB b → b < W0.heap.size) : Abide (MapI T e Bo RB W0) := by
  rintro pre Pv Pv' A B ⟨v, h1, h2, h3, h5, h6⟩ hk hp
  have hs := h6.size
  refine ⟨v, hk.boxed h1 (fun h => by have := h3 _ h; omega), hk.row h2 h5, fun b hb => ?_, fun b hb hp' => ?_, h6.trans (hk.mono fun b _ hb hpb => by have := h3 b hpb; have := hRB b hb; omega)⟩
  · rcases (hp b hb).1 with h | h
    · exact h3 b h
    · omega
  · rcases (hp _ hp').1 with h | h
    · exact h5 b hb h
    · have := (h2.lt b hb).2; omega

set_option maxRecDepth 100000 in
set_option maxHeartbeats 4000000 in
theorem Map_any (v1 : Value) (xs : List (List UInt8)) (w : World) (h1 : SetIs encStr w v1 xs) (hm : xs.length ≤ 1099511627776) (hlen : ∀ x ∈ xs, x.length ≤ 140737488355328) :
    Calls Try.prog 24 #[v1, .func (.func 25) #[] #[]] w fun e w' => ∃ v, e = .returned v ∧ SetIs (Value.int .i64) w' v (setI (xs.map fun x => (x.length : Int))) ∧ Below w.heap.size w w' := by
  obtain ⟨i0, hi0, hz0, hz1, hz2⟩ := info_parts info_int
  obtain ⟨q1, n1, c1, rfl, hn1⟩ := h1
  have h1 : SetIs encStr w (.agg #[.slice q1 n1 c1]) xs := ⟨q1, n1, c1, rfl, hn1⟩
  clear hn1
  obtain ⟨Wa, hWa⟩ : ∃ Wa, (((w.alloc (.cells #[.slice q1 n1 c1] 43)).alloc (.cells #[.func (.func 25) #[] #[]] 46)).alloc (.cells #[.slice none 0 0] 25)).alloc (.cells #[.slice none 0 0] 22) = Wa := ⟨_, rfl⟩
  have hBa : Below w.heap.size w Wa := by rw [← hWa]; exact (((below_alloc _).trans ((below_alloc _).mono (by simp))).trans ((below_alloc _).mono (by simp; omega))).trans ((below_alloc _).mono (by simp; omega))
  have hsa : Wa.heap.size = w.heap.size + 4 := by rw [← hWa]; simp
  have a1 : Boxed Wa (w.heap.size + 1) 46 (.func (.func 25) #[] #[]) := by
    rw [← hWa]
    have := (((Boxed.new (w.alloc (.cells #[.slice q1 n1 c1] 43)) 46 (.func (.func 25) #[] #[])).alloc (.cells #[.slice none 0 0] 25))).alloc (.cells #[.slice none 0 0] 22)
    rwa [World.size_alloc] at this
  have a2 : Boxed Wa (w.heap.size + 1 + 1) 25 (.slice none 0 0) := by
    rw [← hWa]
    have := (Boxed.new ((w.alloc (.cells #[.slice q1 n1 c1] 43)).alloc (.cells #[.func (.func 25) #[] #[]] 46)) 25 (.slice none 0 0)).alloc (.cells #[.slice none 0 0] 22)
    rwa [World.size_alloc, World.size_alloc] at this
  have a3 : Boxed Wa (w.heap.size + 1 + 1 + 1) 22 (.slice none 0 0) := by
    rw [← hWa]
    have := Boxed.new (((w.alloc (.cells #[.slice q1 n1 c1] 43)).alloc (.cells #[.func (.func 25) #[] #[]] 46)).alloc (.cells #[.slice none 0 0] 25)) 22 (.slice none 0 0)
    rwa [World.size_alloc, World.size_alloc, World.size_alloc] at this
  have conA := All_any _ xs Wa (h1.below hBa)
  have HWa := Lib.hid hWa
  have HSA := Lib.hid hsa
  clear hWa h1 hsa
  have hmf : ∀ (fn : Fn) (first cap : Array Value) (w : World), (Instr.makeFunc fn first cap).run Try.prog w = .ok (.func fn first cap) w := fun _ _ _ _ => rfl
  refine (callsIn_wide (n := 1)).1 ?_
  refine callsIn_of_wp_marks Try.func24 rfl trivial ?_ rfl
  simp only [Try.ntmps24, List.size_toArray, List.length_cons, List.length_nil, Nat.reduceAdd, Nat.reduceSub, Array.replicate_succ, Array.replicate_zero, List.push_toArray, List.append_toArray, List.nil_append, List.cons_append]
  gi_wp2_with fail
  rw [HWa.out]
  refine ⟨trivial, (callsIn_wide.2 conA).mono ?_⟩
  rintro e W1 ⟨qa, ca, rfl, hca, hna, hsa1, ba1, hsz1, hBb⟩
  have b1 := (Keep.of_below hBb).boxed a1 a1.lt
  have b2 := (Keep.of_below hBb).boxed a2 a2.lt
  have b3 := (Keep.of_below hBb).boxed a3 a3.lt
  have hB1 : Below w.heap.size w W1 := hBa.trans (hBb.mono hBa.size)
  have HS1 := Lib.hid (show W1.heap.size = w.heap.size + 6 by rw [hsz1, HSA.out])
  clear a1 a2 a3 conA hBa hBb hsz1
  gi_wp2
  have hs1 := HS1.out
  have hsa := HSA.out
  obtain ⟨RB, hRB⟩ : ∃ RB : Nat → Prop, RB = fun b => b < W1.heap.size ∧ b ≠ w.heap.size + 1 + 1 + 1 := ⟨_, rfl⟩
  have hRl : ∀ b, RB b → b < W1.heap.size := fun b hb => by rw [hRB] at hb; exact hb.1
  have hRo : ∀ b, b < w.heap.size → RB b := fun b hb => by rw [hRB]; omega
  have hRn : ¬ RB (w.heap.size + 1 + 1 + 1) := fun hb => by rw [hRB] at hb; exact hb.2 rfl
  have r1 : RB (w.heap.size + 1) := by rw [hRB]; omega
  have r2 : RB (w.heap.size + 1 + 1) := by rw [hRB]; omega
  have r5 : RB (Wa.heap.size + 1) := by rw [hRB]; omega
  have hsq : ∀ a, qa = some a → 0 < xs.length → RB a.block := fun a ha h0 => by
    have h2 := hsa1.ne_box b3 (fun x h => by cases h) a ha h0
    have h3 := hsa1.lt a ha h0
    rw [hRB]; exact ⟨h3, h2⟩
  clear hRB
  have HN := Lib.hid (nums_length 0 xs)
  have HS := Lib.hid (nums_snd 0 xs)
  refine rf_law (gf := 64) (lb := #[.pointer (some ⟨Wa.heap.size + 1, 0, none⟩)]) rfl (enters_of Try.func64 (by kernel_rfl) rfl)
    (All1_iter _ qa xs.length ca xs RB W1 hna hsa1 hsq ba1 r5) (Keep.refl _ _) hRl (fun x args G W h => by rw [h.1]; rfl)
    (MapI 22 3 (w.heap.size + 1 + 1 + 1) RB W1) (fun _ _ _ _ => False) (MapI_abide _ _ _ _ _ (by omega) hRl) (fun _ _ _ _ _ _ h _ _ => h)
    ⟨_, b3, World.ownsRow_nil _ _ _ _, (fun _ h => h.elim), (fun _ h => by cases h), Keep.refl _ _⟩ ?round ?done ?stop
  case round =>
    rintro ll pre ⟨i, x⟩ rest Pv G args Wr hll hxs ⟨v, hbx, hrow, hge, hnv, hKW⟩ hPl hGl hPb hGP ⟨rfl, rfl⟩
    have hxm : x ∈ xs := by
      have h := congrArg (List.map Prod.snd) hxs
      rw [HS.out] at h
      rw [h]; simp
    have hxl := hlen x hxm
    have hln : pre.length + rest.length + 1 = (nums 0 xs).length := by rw [hxs]; simp; omega
    have hpl : pre.length + 1 ≤ 1099511627776 := by have := HN.out; omega
    have hg5 : w.heap.size + 5 < W1.heap.size := by omega
    clear hln hs1 hsa
    gi_wp2
    refine ⟨Keep.refl _ _, fun W2 hk2 hs2 r hr => ?_⟩
    have hnP : ∀ b, b < W1.heap.size → ¬ Pv b := fun b hb h => by have := hge b h; omega
    have hk2' : Keep (fun b => ¬ Pv b) Wr W2 := hk2.mono fun b _ hb h => hb (h ▸ hPl)
    replace hbx := hk2'.boxed hbx (hnP _ (by omega))
    replace hrow := hk2'.row hrow hnv
    have hK2 : Keep RB W1 W2 := hKW.trans (hk2'.mono fun b _ hb => hnP b (hRl b hb))
    have hPl2 : ∀ b, Pv b → b < W2.heap.size := fun b hb => by rw [hs2]; exact hPb b hb
    have c0 := hbx.cell
    have bf := hK2.boxed b1 r1
    have cf := bf.cell
    have con := fun W => len1_any x W hxl
    have hszW := hK2.size
    clear hxs hr hk2 hk2' hs2 hKW hxm
    have efn := enters_of Try.func25 (by kernel_rfl) rfl
    obtain ⟨Wd, hWd⟩ : ∃ Wd, W2.drew = Wd := ⟨_, rfl⟩
    have hkd : ∀ S, Keep S W2 Wd := fun S => by rw [← hWd]; exact Keep.drew S W2
    replace hbx := (hkd (fun _ => True)).boxed hbx trivial
    replace hrow := (hkd (fun _ => True)).row hrow (fun _ _ => trivial)
    replace bf := (hkd (fun _ => True)).boxed bf trivial
    have hKd := hK2.trans (hkd RB)
    have hszd : Wd.heap.size = W2.heap.size := by rw [← hWd]; rfl
    replace hPl2 : ∀ b, Pv b → b < Wd.heap.size := fun b hb => by rw [hszd]; exact hPl2 b hb
    have c0 := hbx.cell
    have cf := bf.cell
    have c04 := (hbx.alloc (.cells #[.int .i64 (x.length : Int)] 3)).cell
    have cf4 := (bf.alloc (.cells #[.int .i64 (x.length : Int)] 3)).cell
    have hszW := hKd.size
    have HWd := Lib.hid hWd
    clear hWd hszd
    gi_wp2_with fail
    refine region_any (fun X => X.cell? ⟨w.heap.size + 1, 0, none⟩ = some (.func (.func 25) #[] #[])) (by kernel_rfl) ?_
    rw [HWd.out]
    refine anyH_take 1 (v := .func (.func 25) #[] #[]) rfl (by kernel_rfl) (by kernel_rfl) (by kernel_rfl) (by kernel_rfl) (fun _ _ _ h => h) ⟨.inl ⟨by rfl, ?_⟩, fun _ => rfl⟩ cf ?_
    · rintro w h1; go_simp
    refine anyH_take 2 (v := .string ⟨x.toArray⟩) rfl (by kernel_rfl) (by kernel_rfl) (by kernel_rfl) (by kernel_rfl) (fun _ _ _ h => h) ⟨.inl ⟨by rfl, ?_⟩, fun _ => rfl⟩ cf ?_
    · rintro w h1; go_simp
    refine anyH_two 0 3 (by kernel_rfl) rfl rfl (fun K hK => ?_) (fun K hK => ?_)
    · go_simp
      refine hK _ _ cf ?_
      clear hK K
      refine anyH_one 3 (by kernel_rfl) rfl fun K hK => ?_
      go_simp
      refine ⟨trivial, rfl, (CallsIn.inRound ll (callsIn_wide.2 (con _))).mono ?_⟩
      rintro e w' ⟨rfl, rfl⟩
      refine hK _ _ cf ?_
      clear hK K
      refine anyH_one 4 (by kernel_rfl) rfl fun K hK => ?_
      go_simp
      refine hK _ _ cf4 ?_
      clear hK K
      refine anyH_one 5 (by kernel_rfl) rfl fun K hK => ?_
      rw [if_pos (by rfl)]
      refine wpIn_append_own _ _ 22 rfl W1.heap.size 3 i0 (.int .i64 0) 1 8 Try.underlying22 hi0 hz0 hz1 hz2 rfl (by decide) v pre.length _ rfl (hrow.alloc _) ⟨Wd.heap.size, 0, none⟩ 1 1 [.int .i64 (x.length : Int)] rfl rfl (cell_one_new _ _ _) (by simp [Value.oneCell']) (by unfold maxLen; omega) (by omega) (by simp; omega) ?_
      intro v' w1 hown' hgrow hat
      obtain ⟨g', cap', rfl⟩ := ownsRow_succ hown'
      obtain ⟨hv1, hv2, hr2, hkk⟩ := appended_keep (S := fun b => RB b ∨ Pv b) hbx (by decide) hrow (fun h => h.elim hRn fun h => hnP (w.heap.size + 1 + 1 + 1) (by omega) h) (fun b hb h => h.elim (fun h => by have := (hrow.lt b hb).1; have := hRl b h; omega) fun h => hnv b hb h) hown' hgrow
      have cf1 := (((Keep.alloc (fun b => b = w.heap.size + 1) Wd _).trans (Keep.of_grownBy hgrow (fun r hr h => by have := (hrow.lt r hr).1; omega))).boxed bf rfl).cell
      have cf2 := (hkk.boxed bf (.inl r1)).cell
      have hc1 := hv1.cell
      have hf1 := hv1.frozen
      refine hK _ _ cf1 ?_
      clear hK K
      refine anyH_one 6 (by kernel_rfl) rfl fun K hK => ?_
      go_simp
      refine hK _ _ cf2 ?_
      clear hK K
      refine anyH_done (by kernel_rfl) ?_ _
      clear cf1 hc1 hf1 con efn
      gi_wp2
      refine ⟨(hkd _).trans hkk, _, hv2, ?_, fun b hb => hge b hb, fun b hb hp => ?_, hKd.trans (hkk.mono fun b _ h => .inl h)⟩
      · simpa using hr2
      · rcases hat with h | h
        · exact hnv b (h ▸ hb) hp
        · rw [h] at hb; cases hb; have h5 := hPl2 _ hp; simp at h5; omega
    · go_simp
      refine ⟨trivial, rfl, (CallsIn.inRound ll (callsIn_wide.2 (con _))).mono ?_⟩
      rintro e w' ⟨rfl, rfl⟩
      refine hK _ _ cf ?_
      clear hK K
      refine anyH_two 0 4 (by kernel_rfl) rfl rfl (fun K hK => ?_) (fun K hK => ?_)
      · go_simp
        refine hK _ _ cf ?_
        clear hK K
        refine anyH_one 4 (by kernel_rfl) rfl fun K hK => ?_
        go_simp
        refine hK _ _ cf4 ?_
        clear hK K
        refine anyH_one 5 (by kernel_rfl) rfl fun K hK => ?_
        rw [if_pos (by rfl)]
        refine wpIn_append_own _ _ 22 rfl W1.heap.size 3 i0 (.int .i64 0) 1 8 Try.underlying22 hi0 hz0 hz1 hz2 rfl (by decide) v pre.length _ rfl (hrow.alloc _) ⟨Wd.heap.size, 0, none⟩ 1 1 [.int .i64 (x.length : Int)] rfl rfl (cell_one_new _ _ _) (by simp [Value.oneCell']) (by unfold maxLen; omega) (by omega) (by simp; omega) ?_
        intro v' w1 hown' hgrow hat
        obtain ⟨g', cap', rfl⟩ := ownsRow_succ hown'
        obtain ⟨hv1, hv2, hr2, hkk⟩ := appended_keep (S := fun b => RB b ∨ Pv b) hbx (by decide) hrow (fun h => h.elim hRn fun h => hnP (w.heap.size + 1 + 1 + 1) (by omega) h) (fun b hb h => h.elim (fun h => by have := (hrow.lt b hb).1; have := hRl b h; omega) fun h => hnv b hb h) hown' hgrow
        have cf1 := (((Keep.alloc (fun b => b = w.heap.size + 1) Wd _).trans (Keep.of_grownBy hgrow (fun r hr h => by have := (hrow.lt r hr).1; omega))).boxed bf rfl).cell
        have cf2 := (hkk.boxed bf (.inl r1)).cell
        have hc1 := hv1.cell
        have hf1 := hv1.frozen
        refine hK _ _ cf1 ?_
        clear hK K
        refine anyH_one 6 (by kernel_rfl) rfl fun K hK => ?_
        go_simp
        refine hK _ _ cf2 ?_
        clear hK K
        refine anyH_done (by kernel_rfl) ?_ _
        clear cf1 hc1 hf1 con efn
        gi_wp2
        refine ⟨(hkd _).trans hkk, _, hv2, ?_, fun b hb => hge b hb, fun b hb hp => ?_, hKd.trans (hkk.mono fun b _ h => .inl h)⟩
        · simpa using hr2
        · rcases hat with h | h
          · exact hnv b (h ▸ hb) hp
          · rw [h] at hb; cases hb; have h5 := hPl2 _ hp; simp at h5; omega
      · go_simp
        refine hK _ _ cf4 ?_
        clear hK K
        refine anyH_one 0 (by kernel_rfl) rfl fun K hK => ?_
        go_simp
        refine hK _ _ cf4 ?_
        clear hK K
        refine anyH_one 5 (by kernel_rfl) rfl fun K hK => ?_
        rw [if_pos (by rfl)]
        refine wpIn_append_own _ _ 22 rfl W1.heap.size 3 i0 (.int .i64 0) 1 8 Try.underlying22 hi0 hz0 hz1 hz2 rfl (by decide) v pre.length _ rfl (hrow.alloc _) ⟨Wd.heap.size, 0, none⟩ 1 1 [.int .i64 (x.length : Int)] rfl rfl (cell_one_new _ _ _) (by simp [Value.oneCell']) (by unfold maxLen; omega) (by omega) (by simp; omega) ?_
        intro v' w1 hown' hgrow hat
        obtain ⟨g', cap', rfl⟩ := ownsRow_succ hown'
        obtain ⟨hv1, hv2, hr2, hkk⟩ := appended_keep (S := fun b => RB b ∨ Pv b) hbx (by decide) hrow (fun h => h.elim hRn fun h => hnP (w.heap.size + 1 + 1 + 1) (by omega) h) (fun b hb h => h.elim (fun h => by have := (hrow.lt b hb).1; have := hRl b h; omega) fun h => hnv b hb h) hown' hgrow
        have cf1 := (((Keep.alloc (fun b => b = w.heap.size + 1) Wd _).trans (Keep.of_grownBy hgrow (fun r hr h => by have := (hrow.lt r hr).1; omega))).boxed bf rfl).cell
        have cf2 := (hkk.boxed bf (.inl r1)).cell
        have hc1 := hv1.cell
        have hf1 := hv1.frozen
        refine hK _ _ cf1 ?_
        clear hK K
        refine anyH_one 6 (by kernel_rfl) rfl fun K hK => ?_
        go_simp
        refine hK _ _ cf2 ?_
        clear hK K
        refine anyH_done (by kernel_rfl) ?_ _
        clear cf1 hc1 hf1 con efn
        gi_wp2
        refine ⟨(hkd _).trans hkk, _, hv2, ?_, fun b hb => hge b hb, fun b hb hp => ?_, hKd.trans (hkk.mono fun b _ h => .inl h)⟩
        · simpa using hr2
        · rcases hat with h | h
          · exact hnv b (h ▸ hb) hp
          · rw [h] at hb; cases hb; have h5 := hPl2 _ hp; simp at h5; omega
  case done =>
    rintro D Pv Wd hD hPD hPl ⟨v, hbx, hrow, hge, hnv, hKW⟩ hK
    rw [HN.out] at hrow
    have hrow2 : Wd.ownsRow W1.heap.size 3 1 v xs.length ((xs.map fun x => (x.length : Int)).map (Value.int .i64)) := by
      have h := hrow
      rw [show (nums 0 xs).map (fun p => (p.2.length : Int)) = xs.map fun x => (x.length : Int) by
        have := congrArg (List.map fun x : List UInt8 => (x.length : Int)) HS.out
        rw [← this, List.map_map]; rfl] at h
      exact h
    have con := ordered_own2 W1.heap.size v xs.length (xs.map fun x => (x.length : Int)) Wd hrow2 hKW.size hm
    have cB := hbx.cell
    have hbr := hKW.boxed b2 r2
    clear hrow
    gi_wp2_with fail
    refine ⟨trivial, (callsIn_wide.2 con).mono ?_⟩
    rintro e w2 ⟨q2, c2, rfl, hset, hqb, hk2⟩
    have hD2 := hk2.heap (fun h => hnv D h hPD) hK
    have br2 := hk2.boxed hbr (fun h => by have := (hrow2.lt _ h).1; omega)
    have cR := br2.cell
    have fR := br2.frozen
    have hset2 := hset.set (u' := .slice q2 (setI (xs.map fun x => (x.length : Int))).length c2) br2 (fun x h => by cases h)
    have br3 := br2.set (.slice q2 (setI (xs.map fun x => (x.length : Int))).length c2)
    have hB2 : Keep (fun b => b < w.heap.size) w w2 := ((Keep.of_below hB1).trans (hKW.mono fun b _ h => hRo b h)).trans (hk2.mono fun b _ hb h => by have := (hrow2.lt _ h).1; omega)
    have hB3 := hB2.trans (Keep.setCell (S := fun b => b < w.heap.size) w2 ⟨w.heap.size + 1 + 1, 0, none⟩ (.slice q2 (setI (xs.map fun x => (x.length : Int))).length c2) (by simp; omega))
    have hD3 := (Keep.setCell (S := fun b => b ≠ w.heap.size + 1 + 1) w2 ⟨w.heap.size + 1 + 1, 0, none⟩ (.slice q2 (setI (xs.map fun x => (x.length : Int))).length c2) (by simp)).heap (by omega) hD2
    clear con hset hD2 hB2 hrow2 hbx cB hbr hk2
    gi_wp2
    generalize setI (xs.map fun x => (x.length : Int)) = ss at *
    generalize w2.setCell ⟨w.heap.size + 1 + 1, 0, none⟩ (.slice q2 ss.length c2) = We at *
    refine ⟨by simp, .inl ⟨_, _, rfl, run_takeDeferred hD3, ?_⟩⟩
    have hkP : ∀ S : Nat → Prop, ¬ S D → Keep S We (We.putObj D (.deferred none)) := fun S hS => Keep.putObj We D _ hS
    have br4 := ((hkP (fun b => b ≠ D) (by simp)).boxed br3 (by omega)).cell
    refine ⟨by simp, .inr ⟨(fun h => by cases h), .func 39, #[], 39, #[], rfl, by simp [go_sem], fun _ _ => trivial, ?_⟩⟩
    refine (idle_any _ _).mono ?_
    rintro e u' w'' ⟨rfl, rfl, rfl⟩
    refine ⟨.agg #[.slice q2 ss.length c2], ?_, _, rfl, ?_, ?_⟩
    · clear hset2 br2 cR fR br3
      simp [results, Try.f24, go_sem, br4]
    · obtain ⟨q', n', c', he, h1, h2, h3, h4⟩ := hset2
      cases he
      exact ⟨q2, ss.length, c2, rfl, h1, h2, h3.keep (hkP (fun b => b ≠ D) (by simp)) (fun a h _ e => hnv a.block (hqb a h).2 (e ▸ hPD)), h4⟩
    · exact (hB3.trans (hkP _ (by omega))).below (Nat.le_refl _)
  case stop =>
    rintro D c pre rest Pv Wd _ _ _ _ h _
    exact h.elim

end Go.Proofs.Ythfclmnmnmeldaa.S
