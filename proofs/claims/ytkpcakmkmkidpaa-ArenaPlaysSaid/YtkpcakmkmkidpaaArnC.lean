/- Ranging over an arena: its iterator, which looks at each slot when it is its turn. Conditions: numbers of at most 2^40. -/
import Derived.Test.YtkpcakmkmkidpaaArnB
import Derived.Test.YtkpcakmkmkidpaaOrdC
import Derived.Test.YtkpcakmkmkidpaaOrdT
import Derived.Sort.QuietIn
import Derived.TacticsInMore
import Derived.LoopNIn
import Derived.LoopIn
import Derived.IntWalk
import Derived.Shelf.Abstract
import Derived.Shelf.RegionOpen
namespace Go.Proofs.Ytkpcakmkmkidpaa.Arn
open Go.RowKit Go.Shelf
theorem wide_fn (f : FuncId) : Fence.wide.fn f = True := rfl
attribute [local go_sem] Oper.semAt_some wide_fn
set_option linter.unusedVariables false

/-- The value (gf, lb) is an iterator over slots, as they lie when their turn comes; what it asks of a world is Lies. -/
def IterS (P : Program) (gf : Nat) (lb : Array Value) (Lies : List (Sl Int) → World → Prop) : Prop :=
  ∀ (l : Nat) (J : List (Sl Int) → Nat → World → Prop) (sl0 : List (Sl Int)) (W : World),
    (∀ sl k W, J sl k W → Lies sl W) → (∀ sl k W n, J sl k W → J sl k (W.drewN n)) →
    (∀ sl k W s, J sl k W → sl[k]? = some s → s.x = none → J sl (k + 1) W) →
    (∀ sl k W s x, J sl k W → sl[k]? = some s → s.x = some x → YieldAt Fence.wide 0 P l #[.int .i64 (hOf s.n k), .int .i64 x] W fun e W' => e = .returned (.bool true) ∧ ∃ sl', sl'.length = sl.length ∧ J sl' (k + 1) W') →
    J sl0 0 W → Calls P gf (#[.func (.yield l) #[] #[]] ++ lb) W fun e W' => (∃ v, e = .returned v) ∧ ∃ sl, sl.length = sl0.length ∧ J sl sl0.length W'

theorem uponIn_yield {P : Program} {o : Oper} {a : Act} {K : Act → World → Prop} {Q : Exit → Act → World → Prop} {l : Nat} {args : Array Value} {W : World} {R : Ending → World → Prop} (h : YieldAt Fence.wide 0 P l args W R)
    (hk : ∀ v w, R (.returned v) w → K (a.put o.dst v) w) (hp : ∀ c w, ¬ R (.panicked c) w) (ho : ∀ w, ¬ R .outgrown w) : Oper.uponIn Fence.wide 1 P o a K Q ((Instr.yield l args).run P W) := by
  obtain ⟨fn, tmps, assign, body, hy, hR⟩ := h
  rw [hy]
  simp only [Oper.uponIn]
  refine ⟨fun _ => Nat.le_refl _, RoundIn.mono hR fun e w' hr => ?_⟩
  cases e with
  | returned v => exact hk v w' hr
  | panicked c => exact (hp c w' hr).elim
  | outgrown => exact (ho w' hr).elim

/-- What the iterator of an arena at b asks. -/
def LiesA (base b size pb : Nat) (sl : List (Sl Int)) (W : World) : Prop := (∃ v, At base b size v sl W) ∧ Few 1099511627776 sl ∧ W.cell? ⟨pb, 0, none⟩ = some (.pointer (some ⟨b, 0, none⟩))

set_option maxRecDepth 100000 in
set_option maxHeartbeats 4000000 in
theorem All2_iter (base b size pb : Nat) : IterS Try.prog 27 #[.pointer (some ⟨pb, 0, none⟩)] (LiesA base b size pb) := by
  intro l J sl0 W hL hD hS hY h0
  refine (callsIn_wide (n := 1)).1 ?_
  refine callsIn_of_wp Try.func27 rfl trivial ?_ rfl
  simp only [Try.ntmps27, List.size_toArray, List.length_cons, List.length_nil, Nat.reduceAdd, Nat.reduceSub, Array.replicate_succ, Array.replicate_zero, List.push_toArray, List.append_toArray, List.nil_append, List.cons_append]
  obtain ⟨n, hn⟩ : ∃ n, sl0.length = n := ⟨_, rfl⟩
  have hns : n ≤ 1024 := by
    obtain ⟨⟨v, ha⟩, -⟩ := hL _ _ _ h0
    have := ha.len; have := ha.size2; omega
  rw [hn]
  have HN := Lib.hid hn
  have HL := Lib.hid hL
  have HD := Lib.hid hD
  have HS := Lib.hid hS
  have HY := Lib.hid hY
  clear hL hD hS hY hn
  gi_wp2
  gi_loopw [3] (fun i wr => ∃ (k : Nat) (sl : List (Sl Int)), k ≤ n ∧ i = .int .i64 k ∧ Hid (sl.length = n) ∧ Hid (J sl k wr)) (fun i _ => n - (intOf i).toNat)
  case atStart => exact ⟨0, sl0, Nat.zero_le _, rfl, HN, Lib.hid h0⟩
  case round =>
    obtain ⟨k, sl, hk, rfl, HLN, HJ⟩ := hrel
    clear h0
    obtain ⟨⟨v, ha⟩, hfew, cp⟩ := HL.out _ _ _ HJ.out
    obtain ⟨q, cap, rfl, hq⟩ := ha.sl
    have c1 : wr.cell? ⟨b, 1, none⟩ = some (.slice q sl.length cap) := ha.bl.cell 1 _ rfl
    rw [HLN.out] at c1
    by_cases hlt : k < n
    · obtain ⟨s, hsk⟩ : ∃ s, sl[k]? = some s := ⟨_, List.getElem?_eq_getElem (by have := HLN.out; omega)⟩
      obtain ⟨g, rfl, c3, c4, c5⟩ := hq k s hsk
      have hsn := hfew s (List.mem_of_getElem? hsk)
      have HSK := Lib.hid hsk
      cases hx : s.x with
      | none =>
        rw [hx] at c5
        replace c5 : wr.cell? ⟨g, k * 3 + 2, none⟩ = some (.bool false) := c5
        have HJ2 := Lib.hid (HS.out _ _ _ _ HJ.out HSK.out hx)
        clear ha hfew hq hsk hx
        have HDR := Lib.hid fun m => HD.out sl (k + 1) wr m HJ2.out
        clear HJ2
        gi_wp2_with (gi_quiet (fail))
        go_roundw
        case rel => exact ⟨k + 1, sl, by omega, by go_num, HLN, Lib.hid (HDR.out _)⟩
        case measure => simp [intOf]; omega
      | some x =>
        rw [hx] at c5 c3
        replace c5 : wr.cell? ⟨g, k * 3 + 2, none⟩ = some (.bool true) := c5
        replace c3 : wr.cell? ⟨g, k * 3, none⟩ = some (.int .i64 x) := c3
        obtain ⟨Z, hZ⟩ : ∃ Z, wr.drew = Z := ⟨_, rfl⟩
        have z3 : Z.cell? ⟨g, k * 3, none⟩ = some (.int .i64 x) := by rw [← hZ]; exact c3
        have z4 : Z.cell? ⟨g, k * 3 + 1, none⟩ = some (.int .i64 s.n) := by rw [← hZ]; exact c4
        have z5 : Z.cell? ⟨g, k * 3 + 2, none⟩ = some (.bool true) := by rw [← hZ]; exact c5
        have HJZ := Lib.hid (show J sl k Z by rw [← hZ]; exact HD.out sl k wr 1 HJ.out)
        have HC := Lib.hid ((callsIn_wide (n := 0)).2 ((handle_any g (k * 3) k s.n Z z4 hsn (by omega)).mono fun e w' ⟨he, hw⟩ => And.intro he hw.symm))
        have HYX := Lib.hid (HY.out sl k Z s x HJZ.out HSK.out hx)
        obtain ⟨H, hH⟩ : ∃ H, hOf s.n k = H := ⟨_, rfl⟩
        rw [hH] at HC HYX
        have HZ := Lib.hid hZ
        clear ha hfew hq hsk hx hZ z4 hH c3 c4 c5
        gi_wp2
        refine region_any (fun _ => True) (by kernel_rfl) ?_
        rw [HZ.out]
        refine anyH_one 0 (by kernel_rfl) rfl fun K hK => ?_
        go_simp
        refine hK _ _ trivial ?_
        clear hK K
        refine anyH_one 1 (by kernel_rfl) rfl fun K hK => ?_
        go_simp
        refine hK _ _ trivial ?_
        clear hK K
        refine anyH_one 2 (by kernel_rfl) rfl fun K hK => ?_
        go_simp
        refine hK _ _ trivial ?_
        clear hK K
        refine anyH_one 3 (by kernel_rfl) rfl fun K hK => ?_
        go_simp
        refine hK _ _ trivial ?_
        clear hK K
        refine anyH_one 4 (by kernel_rfl) rfl fun K hK => ?_
        go_simp
        refine hK _ _ trivial ?_
        clear hK K
        refine anyH_take 5 (v := (.func (.yield l) #[] #[])) rfl (by kernel_rfl) (by kernel_rfl) (by kernel_rfl) (by kernel_rfl) (fun _ _ _ h => h) ⟨.inl ⟨by rfl, ?_⟩, fun _ => rfl⟩ trivial ?_
        · rintro w -; go_simp
        simp only [Act.put, List.getElem_toArray, List.getElem_cons_zero, List.getElem_cons_succ, List.setIfInBounds_toArray, List.set_cons_zero, List.set_cons_succ]
        refine anyH_take 6 (v := (.pointer (some ⟨g, k * 3, none⟩))) rfl (by kernel_rfl) (by kernel_rfl) (by kernel_rfl) (by kernel_rfl) (fun _ _ _ h => h) ⟨.inl ⟨by rfl, ?_⟩, fun _ => rfl⟩ trivial ?_
        · rintro w -; go_simp
        simp only [Act.put, List.getElem_toArray, List.getElem_cons_zero, List.getElem_cons_succ, List.setIfInBounds_toArray, List.set_cons_zero, List.set_cons_succ]
        refine anyH_take 7 (v := (.int .i64 k)) rfl (by kernel_rfl) (by kernel_rfl) (by kernel_rfl) (by kernel_rfl) (fun _ _ _ h => h) ⟨.inl ⟨by rfl, ?_⟩, fun _ => rfl⟩ trivial ?_
        · rintro w -; go_simp
        simp only [Act.put, List.getElem_toArray, List.getElem_cons_zero, List.getElem_cons_succ, List.setIfInBounds_toArray, List.set_cons_zero, List.set_cons_succ]
        refine anyH_take 9 (v := (.pointer (some ⟨g, k * 3, none⟩))) rfl (by kernel_rfl) (by kernel_rfl) (by kernel_rfl) (by kernel_rfl) (fun _ _ _ h => h) ⟨.inl ⟨by rfl, ?_⟩, fun _ => rfl⟩ trivial ?_
        · rintro w -; go_simp
        simp only [Act.put, List.getElem_toArray, List.getElem_cons_zero, List.getElem_cons_succ, List.setIfInBounds_toArray, List.set_cons_zero, List.set_cons_succ]
        refine anyH_take 10 (v := (.pointer (some ⟨g, k * 3, none⟩))) rfl (by kernel_rfl) (by kernel_rfl) (by kernel_rfl) (by kernel_rfl) (fun _ _ _ h => h) ⟨.inl ⟨by rfl, ?_⟩, fun _ => rfl⟩ trivial ?_
        · rintro w -; go_simp
        simp only [Act.put, List.getElem_toArray, List.getElem_cons_zero, List.getElem_cons_succ, List.setIfInBounds_toArray, List.set_cons_zero, List.set_cons_succ]
        refine anyH_take 11 (v := (.pointer (some ⟨g, k * 3, none⟩))) rfl (by kernel_rfl) (by kernel_rfl) (by kernel_rfl) (by kernel_rfl) (fun _ _ _ h => h) ⟨.inl ⟨by rfl, ?_⟩, fun _ => rfl⟩ trivial ?_
        · rintro w -; go_simp
        simp only [Act.put, List.getElem_toArray, List.getElem_cons_zero, List.getElem_cons_succ, List.setIfInBounds_toArray, List.set_cons_zero, List.set_cons_succ]
        refine anyH_pair 8 12 (by kernel_rfl) rfl rfl (fun K hK => ?_) (fun K hK => ?_)
        · go_simp
          refine HC.out.mono ?_
          rintro e w' ⟨rfl, rfl⟩
          refine hK _ _ trivial ?_
          clear hK K
          refine anyH_one 12 (by kernel_rfl) rfl fun K hK => ?_
          go_simp
          refine hK _ _ trivial ?_
          clear hK K
          refine anyH_one 13 (by kernel_rfl) rfl fun K hK => ?_
          go_simp
          refine uponIn_yield HYX.out ?_ ?_ ?_
          rotate_left
          · rintro c w ⟨h, _⟩; cases h
          · rintro w ⟨h, _⟩; cases h
          rintro v' W3 ⟨he, sl', hsl, hJ3⟩
          cases he
          refine hK _ _ trivial ?_
          clear hK K
          refine anyH_one 14 (by kernel_rfl) rfl fun K hK => ?_
          go_simp
          refine hK _ _ trivial ?_
          clear hK K
          refine anyH_one 15 (by kernel_rfl) rfl fun K hK => ?_
          go_simp
          refine hK _ _ trivial ?_
          clear hK K
          refine anyH_done (by kernel_rfl) ?_ _
          have HJ3 := Lib.hid hJ3
          have HSL := Lib.hid (show sl'.length = n by rw [hsl, HLN.out])
          clear hJ3 hsl HYX HC HJZ HJ HZ z3 z5 HSK HLN
          gi_wp2
          go_roundw
          case rel => exact ⟨k + 1, sl', by omega, by go_num, HSL, HJ3⟩
          case measure => simp [intOf]; omega
        · go_simp
          refine hK _ _ trivial ?_
          clear hK K
          refine anyH_one 8 (by kernel_rfl) rfl fun K hK => ?_
          go_simp
          refine HC.out.mono ?_
          rintro e w' ⟨rfl, rfl⟩
          refine hK _ _ trivial ?_
          clear hK K
          refine anyH_one 13 (by kernel_rfl) rfl fun K hK => ?_
          go_simp
          refine uponIn_yield HYX.out ?_ ?_ ?_
          rotate_left
          · rintro c w ⟨h, _⟩; cases h
          · rintro w ⟨h, _⟩; cases h
          rintro v' W3 ⟨he, sl', hsl, hJ3⟩
          cases he
          refine hK _ _ trivial ?_
          clear hK K
          refine anyH_one 14 (by kernel_rfl) rfl fun K hK => ?_
          go_simp
          refine hK _ _ trivial ?_
          clear hK K
          refine anyH_one 15 (by kernel_rfl) rfl fun K hK => ?_
          go_simp
          refine hK _ _ trivial ?_
          clear hK K
          refine anyH_done (by kernel_rfl) ?_ _
          have HJ3 := Lib.hid hJ3
          have HSL := Lib.hid (show sl'.length = n by rw [hsl, HLN.out])
          clear hJ3 hsl HYX HC HJZ HJ HZ z3 z5 HSK HLN
          gi_wp2
          go_roundw
          case rel => exact ⟨k + 1, sl', by omega, by go_num, HSL, HJ3⟩
          case measure => simp [intOf]; omega
    · have hkn : k = n := by omega
      clear ha hfew hq
      gi_wp2
      refine bodyPost_end (results_none rfl _ _ _) rfl ?_
      subst hkn
      exact ⟨⟨_, rfl⟩, sl, HLN.out, HJ.out⟩
end Go.Proofs.Ytkpcakmkmkidpaa.Arn
