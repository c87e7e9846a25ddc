/- Package arena: Len; the laws' some and same. Conditions: at most 1024 slots. -/
import Derived.Test.YtkpcakmkmkidpaaArnD
namespace Go.Proofs.Ytkpcakmkmkidpaa.Arn
open Go.RowKit Go.Shelf
attribute [local go_sem] Oper.semAt_some wide_fn
set_option linter.unusedVariables false

/-- A box of one number: how many were told. -/
def LenI (w : World) (B : Nat) (sl0 : List (Sl Int)) (sl : List (Sl Int)) (k : Nat) (W : World) : Prop :=
  sl = sl0 ∧ k ≤ sl0.length ∧ w.heap.size ≤ B ∧ Below w.heap.size w W ∧ Boxed W B 3 (.int .i64 (allS 0 (sl0.take k)).length)

set_option maxRecDepth 100000 in
set_option maxHeartbeats 8000000 in
theorem Len_of (p : Option Addr) (gf : Nat) (lb : Array Value) (Lies : List (Sl Int) → World → Prop) (sl : List (Sl Int)) (w : World) (o : Obj) (eg : ∀ args w, (callFunc gf args).run Try.prog w = .ok (.enter gf args) w)
    (con : Calls Try.prog 11 #[.pointer p] (w.alloc (.cells #[.int .i64 0] 3)) fun e w' => e = .returned (.func (.func gf) #[] lb) ∧ w' = (w.alloc (.cells #[.int .i64 0] 3)).alloc o)
    (hi : IterS Try.prog gf lb Lies) (hL2 : ∀ W, Below w.heap.size w W → W.heap[w.heap.size + 1]? = some o → Lies sl W) (hN : sl.length ≤ 1024) :
    Calls Try.prog 14 #[.pointer p] w fun e w' => e = .returned (.int .i64 (allS 0 sl).length) ∧ Below w.heap.size w w' := by
  refine (callsIn_wide (n := 1)).1 ?_
  refine callsIn_of_wp_marks Try.func14 rfl trivial ?_ rfl
  simp only [Try.ntmps14, List.size_toArray, List.length_cons, List.length_nil, Nat.reduceAdd, Nat.reduceSub, Array.replicate_succ, Array.replicate_zero, List.push_toArray, List.append_toArray, List.nil_append, List.cons_append]
  gi_wp2_with fail
  refine (callsIn_wide.2 con).mono ?_
  rintro e W1 ⟨rfl, rfl⟩
  clear con
  have bO := (Boxed.new w 3 (.int .i64 0)).alloc o
  have hO := World.alloc_heap_new (w.alloc (.cells #[.int .i64 0] 3)) o
  rw [World.size_alloc] at hO
  obtain ⟨W0, hW0⟩ : ∃ W0, (w.alloc (.cells #[.int .i64 0] 3)).alloc o = W0 := ⟨_, rfl⟩
  rw [hW0] at bO hO ⊢
  have hB0 : Below w.heap.size w W0 := hW0 ▸ ((Below.refl _ w).alloc (Nat.le_refl _) _).alloc (by simp) _
  have hs0 : W0.heap.size = w.heap.size + 2 := by rw [← hW0]; simp
  clear hW0
  gi_wp2
  refine rf_lawS (gf := gf) (lb := lb) rfl eg hi rfl (fun sl' k W => LenI w w.heap.size sl sl' k W ∧ W.heap[w.heap.size + 1]? = some o) sl ?_ ?_ ?_ ?_ ⟨⟨rfl, Nat.zero_le _, Nat.le_refl _, hB0, bO⟩, hO⟩ ?round ?done
  · rintro sl' k W ⟨⟨rfl, -, -, hb, -⟩, ho⟩
    exact hL2 W hb ho
  · rintro sl' k A B ⟨⟨rfl, hk, hn, hb, hT⟩, ho⟩ hB
    have hol := (Array.getElem?_eq_some_iff.1 ho).1
    exact ⟨⟨rfl, hk, hn, hb.trans (hB.mono hb.size), (Keep.of_below hB).boxed hT hT.lt⟩, (hB.block _ hol).trans ho⟩
  · rintro sl' k A B ⟨⟨rfl, hk, hn, hb, hT⟩, ho⟩ ⟨r, hr⟩ hB hs
    exact ⟨⟨rfl, hk, hn, hb.trans ((hB.mono fun j _ hj => by omega).below hb.size), hB.boxed hT (by omega)⟩, hB.heap (by omega) ho⟩
  · rintro sl' k W s ⟨⟨rfl, hk, hn, hb, hT⟩, ho⟩ hs hx
    have e := allS_take hs
    rw [show tell s k = [] by unfold tell; rw [hx], List.append_nil] at e
    exact ⟨⟨rfl, (List.getElem?_eq_some_iff.1 hs).1, hn, hb, by rw [e]; exact hT⟩, ho⟩
  case round =>
    rintro sl' k s x W ⟨⟨rfl, hk, hn, hb, hT⟩, ho⟩ hs hx ⟨r, hr⟩ hD
    have e := allS_take hs
    rw [show tell s k = [(hOf s.n k, x)] by unfold tell; rw [hx]] at e
    have HE := Lib.hid e
    have hk1 := (List.getElem?_eq_some_iff.1 hs).1
    have HDr := Lib.hid hD
    have hln : (allS 0 (sl'.take k)).length ≤ 1024 := by have := allS_le (sl'.take k) 0; rw [List.length_take] at this; omega
    obtain ⟨m, hm⟩ : ∃ m, (allS 0 (sl'.take k)).length = m := ⟨_, rfl⟩
    have HM := Lib.hid (show (allS 0 (sl'.take (k + 1))).length = m + 1 by rw [HE.out, List.length_append, hm]; rfl)
    rw [hm] at hln hT
    clear e hs hx hm HE hD
    gi_wp2
    refine ⟨Keep.refl _ _, fun W2 hk2 hs2 ⟨r2, hr2⟩ => ?_⟩
    replace hT := hk2.boxed hT (by omega)
    replace ho := hk2.heap (by omega) ho
    have hb2 : Below w.heap.size w W2 := hb.trans ((hk2.mono fun j _ hj => by omega).below hb.size)
    have c1 := hT.cell
    have f1 := hT.frozen
    have HT := Lib.hid (hT.set (.int .i64 ((m : Int) + 1)))
    have HO := Lib.hid ho
    have HB2 := Lib.hid hb2
    have HS0 := Lib.hid hs0
    clear hk2 hr hb hr2 hs2 hT ho hb2
    gi_wp2
    refine ⟨Keep.setCell _ _ _ (by simp; omega), sl', rfl, ⟨rfl, hk1, hn, ?_, ?_⟩, (Keep.setCell (S := fun j => j ≠ w.heap.size) W2 _ _ (by simp)).heap (by omega) HO.out⟩
    · exact HB2.out.trans ((Keep.setCell (S := fun j => j < w.heap.size) W2 _ _ (by simp)).below HB2.out.size)
    · rw [HM.out]
      exact HT.out
  case done =>
    rintro sl' W hsl ⟨⟨rfl, hk, hn, hb, hT⟩, ho⟩ hD hlt
    rw [List.take_length] at hT
    have c1 := hT.cell
    have HB := Lib.hid hb
    have HD := Lib.hid hD
    have hDl := hD
    rw [hs0] at hDl
    clear hT hb hD ho
    gi_wp2
    refine ⟨by simp, .inl ⟨_, _, rfl, run_takeDeferred (show W.heap[w.heap.size + 2]? = some (.deferred (some [])) by rw [← hs0]; exact HD.out), ?_⟩⟩
    refine ⟨.int .i64 (allS 0 sl').length, by simp [results, Try.f14, go_sem], rfl, ?_⟩
    exact HB.out.trans ((Keep.putObj (S := fun j => j < w.heap.size) W _ _ (by simp)).below HB.out.size)
theorem eg_all2 : ∀ args w, (callFunc 27 args).run Try.prog w = .ok (.enter 27 args) w := enters_of Try.func27 (by kernel_rfl) rfl
theorem eg_all1 : ∀ args w, (callFunc 26 args).run Try.prog w = .ok (.enter 26 args) w := enters_of Try.func26 (by kernel_rfl) rfl
theorem Len_any (base b size : Nat) (v : Value) (sl : List (Sl Int)) (w : World) (ha : At base b size v sl w) (hf : Few 1099511627776 sl) :
    Calls Try.prog 14 #[.pointer (some ⟨b, 0, none⟩)] w fun e w' => e = .returned (.int .i64 (allS 0 sl).length) ∧ Below w.heap.size w w' := by
  have con := All_any (some ⟨b, 0, none⟩) (w.alloc (.cells #[.int .i64 0] 3)) b rfl
  rw [World.size_alloc] at con
  refine Len_of (some ⟨b, 0, none⟩) _ _ _ sl w _ eg_all2 con (All2_iter base b size (w.heap.size + 1)) (fun W hb ho => ?_) (by have := ha.len; have := ha.size2; omega)
  refine ⟨⟨v, ha.on hb⟩, hf, ?_⟩
  have hbx : Boxed W (w.heap.size + 1) 24 (.pointer (some ⟨b, 0, none⟩)) := ho
  exact hbx.cell
theorem Len_nil (w : World) : Calls Try.prog 14 #[.pointer none] w fun e w' => e = .returned (.int .i64 0) ∧ Below w.heap.size w w' :=
  Len_of none _ _ _ [] w _ eg_all1 (All_nil _) All1_iter (fun W hb ho => rfl) (by simp)
end Go.Proofs.Ytkpcakmkmkidpaa.Arn
