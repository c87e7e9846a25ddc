/- As OrdO, where what comes behind an operation is told by ways of several edges too. Conditions: as OrdO. -/
import Derived.Test.YtkpcakmkmkidpaaOrdO
namespace Go.Proofs.Ytkpcakmkmkidpaa
open Go
variable {F : Fence} {n : Nat} {P : Program} {ops : Array Oper} {Q : Exit → Act → World → Prop} {md : Region.Mode} {S0 : World → Prop} {nd : Nat → Bool}

/-- A way of binding edges from j back to i. -/
def upB (md : Region.Mode) (ops : Array Oper) : Nat → Nat → Nat → Bool
  | 0, _, _ => false
  | f + 1, j, i => match ops[j]? with
    | some o => o.after.any fun e => Region.binds md e && (e.on == i || upB md ops f e.on i)
    | none => false
/-- With each operation those ahead of it have come up. -/
def ClosedL (md : Region.Mode) (ops : Array Oper) (listed : Array Bool) : Prop := ∀ k ok, ops[k]? = some ok → listed.getD k false = true → ∀ e ∈ ok.after, Region.binds md e = true → listed.getD e.on false = true
def closedB (md : Region.Mode) (ops : Array Oper) (listed : Array Bool) : Bool := (List.range ops.size).all fun k => !(listed.getD k false) || match ops[k]? with
  | some o => o.after.all fun e => !Region.binds md e || listed.getD e.on false
  | none => true
theorem closedB_spec {listed : Array Bool} (h : closedB md ops listed = true) : ClosedL md ops listed := by
  intro k ok hk hl e he hb
  simp only [closedB, List.all_eq_true, List.mem_range] at h
  have h1 := h k (Array.getElem?_eq_some_iff.1 hk).1
  simp only [hk, hl, Bool.not_true, Bool.false_or] at h1
  obtain ⟨t, ht, hte⟩ := Array.getElem_of_mem he
  have h2 := (Array.all_eq_true.1 h1) t ht
  rw [hte, hb] at h2
  simpa using h2
theorem getD_mono {listed : Array Bool} (j : Nat) {k : Nat} (h : listed.getD k false = true) : (listed.setIfInBounds j true).getD k false = true := by
  by_cases hjk : j = k
  · subst hjk
    rcases Nat.lt_or_ge j listed.size with h' | h'
    · simp [h']
    · simp [h'] at h
  · rw [getD_set_ne false hjk]; exact h
theorem ClosedL.set {listed : Array Bool} (h : ClosedL md ops listed) {j : Nat} (hj : j ∈ Region.ready md ops listed) : ClosedL md ops (listed.setIfInBounds j true) := by
  intro k ok hk hl e he hb
  obtain ⟨_, oj, hoj, hall⟩ := mem_ready.1 hj
  by_cases hjk : j = k
  · subst hjk
    rw [hoj] at hk
    cases hk
    exact getD_mono j (hall e he hb)
  · rw [getD_set_ne false hjk] at hl
    exact getD_mono j (h k ok hk hl e he hb)
theorem up_listed {listed : Array Bool} (h : ClosedL md ops listed) : ∀ (f j i : Nat) (oj : Oper), ops[j]? = some oj → (∀ e ∈ oj.after, Region.binds md e = true → listed.getD e.on false = true) → upB md ops f j i = true → listed.getD i false = true
  | 0, j, i, oj, hj, ha, hu => by cases hu
  | f + 1, j, i, oj, hj, ha, hu => by
    simp only [upB, hj] at hu
    obtain ⟨e, he, hb⟩ := Array.any_eq_true'.1 hu
    simp only [Bool.and_eq_true, Bool.or_eq_true, beq_iff_eq] at hb
    have hl := ha e he hb.1
    rcases hb.2 with rfl | h2
    · exact hl
    · cases hoe : ops[e.on]? with
      | none =>
        cases f with
        | zero => cases h2
        | succ f => simp [upB, hoe] at h2
      | some oe => exact up_listed h f e.on i oe hoe (h e.on oe hoe hl) h2

theorem anyO_first2 {i : Nat} {oi : Oper} {v : Value} (hi : ops[i]? = some oi) (hd : noDefer ops = true) (hsel : ∀ (j : Nat) (o : Oper) cs b, ops[j]? = some o → o.op ≠ .select cs b)
    (hQ : ∀ c a w, Q (.panic c) (a.put oi.dst v) w → Q (.panic c) a w)
    (hc : ∀ j oj, ops[j]? = some oj → j ≠ i → (∀ f, upB md ops f j i = false) → nd j = true) :
    ∀ (fuel : Nat) (listed : Array Bool) (a : Act) (w : World), ClosedL md ops listed →
      (∀ j oj, ops[j]? = some oj → j ≠ i → listed.getD j true = false → (∀ e ∈ oj.after, Region.binds md e = true → e.on ≠ i) → oi.apart ops oj = true) →
      i ∈ Region.ready md ops listed → Yld P ops S0 oi v a → S0 w →
      anyO F n P md ops Q nd S0 fuel (listed.setIfInBounds i true) (a.put oi.dst v) w → anyO F n P md ops Q nd S0 (fuel + 1) listed a w := by
  intro fuel
  induction fuel with
  | zero =>
    intro listed a w _ _ hr hy hS H
    refine ⟨fun h => (by rw [h] at hr; cases hr), fun j hj => ?_⟩
    by_cases hji : j = i
    · subst hji; exact hy.op hi (noDefer_spec hd hi) hS ⟨fun _ => hS, H⟩
    · have := ready_mono hj hji
      rw [H.1] at this
      cases this
  | succ fuel ih =>
    intro listed a w hcl hfree hr hy hS H
    refine ⟨fun h => (by rw [h] at hr; cases hr), fun j hj => ?_⟩
    by_cases hji : j = i
    · subst hji; exact hy.op hi (noDefer_spec hd hi) hS ⟨fun _ => hS, H⟩
    · have h1 := H.2 j (ready_mono hj hji)
      obtain ⟨hjun, oj, hoj, hall⟩ := mem_ready.1 hj
      have hnot : ∀ e ∈ oj.after, Region.binds md e = true → e.on ≠ i := fun e he hb heq => by
        have h1 := hall e he hb
        have h0 := (mem_ready.1 hr).1
        rw [heq] at h1
        rcases Nat.lt_or_ge i listed.size with h' | h'
        · simp [h'] at h0 h1; rw [h0] at h1; cases h1
        · simp [Array.getElem?_eq_none h'] at h1
      have h2 := hy.past hoj (noDefer_spec hd hoj) (hfree j oj hoj hji hjun hnot) (fun cs b => hsel i oi cs b hi) (fun cs b => hsel j oj cs b hoj) hQ h1
      have hfree' : ∀ k ok, ops[k]? = some ok → k ≠ i → (listed.setIfInBounds j true).getD k true = false →
          (∀ e ∈ ok.after, Region.binds md e = true → e.on ≠ i) → oi.apart ops ok = true := fun k ok hk hki hun hno => by
        refine hfree k ok hk hki ?_ hno
        by_cases hjk : j = k
        · subst hjk; exact hjun
        · rw [getD_set_ne true hjk] at hun; exact hun
      have hnd := hc j oj hoj hji fun f => by
        cases hu : upB md ops f j i with
        | false => rfl
        | true =>
          have h9 := up_listed hcl f j i oj hoj hall hu
          have h0 := (mem_ready.1 hr).1
          rcases Nat.lt_or_ge i listed.size with h' | h'
          · simp [h'] at h0 h9; rw [h0] at h9; cases h9
          · simp [Array.getElem?_eq_none h'] at h0
      refine wpOpIn_mono (fun a' w' h3 => ⟨h3.2.1, ih (listed.setIfInBounds j true) a' w' (hcl.set hj) hfree' (ready_mono hr (Ne.symm hji)) h3.1 (h3.2.1 hnd) ?_⟩) h2
      rw [Array.setIfInBounds_comm _ _ hji]
      exact h3.2.2

/-- Behind what may come up ahead of number i the condition is asked. -/
def asks2 (md : Region.Mode) (ops : Array Oper) (nd : Nat → Bool) (i : Nat) : Bool := (List.range ops.size).all fun j => j == i || nd j || upB md ops ops.size j i
/-- Take number i first. -/
theorem anyO_take2 (i : Nat) {oi : Oper} {v : Value} {fuel : Nat} {listed : Array Bool} {a : Act} {w : World} (hi : ops[i]? = some oi)
    (hd : noDefer ops = true) (hs : Region.noSelect ops = true) (hf : Region.free md ops listed i = true) (hr : (Region.ready md ops listed).contains i = true) (hk : asks2 md ops nd i = true) (hcl : closedB md ops listed = true)
    (hQ : ∀ c a w, Q (.panic c) (a.put oi.dst v) w → Q (.panic c) a w) (hy : Yld P ops S0 oi v a) (hS : S0 w)
    (h : anyO F n P md ops Q nd S0 fuel (listed.setIfInBounds i true) (a.put oi.dst v) w) : anyO F n P md ops Q nd S0 (fuel + 1) listed a w :=
  anyO_first2 hi hd (Region.noSelect_spec hs) hQ (fun j oj hj hne hu => by
    simp only [asks2, List.all_eq_true, List.mem_range] at hk
    have h1 := hk j (Array.getElem?_eq_some_iff.1 hj).1
    simp only [Bool.or_eq_true, beq_iff_eq, hne, false_or, hu ops.size, Bool.false_eq_true, or_false] at h1
    exact h1) fuel listed a w (closedB_spec hcl) (Region.free_spec hi hf) (by simpa using hr) hy hS h
/-- Two operations may come up. -/
theorem anyO_pair (i j : Nat) {fuel : Nat} {listed : Array Bool} {a : Act} {w : World} {o o' : Oper} (hr : Region.ready md ops listed = [i, j]) (ho : ops[i]? = some o) (ho' : ops[j]? = some o')
    (h : ∀ K : Act → World → Prop, (∀ a' w', (nd i = true → S0 w') → anyO F n P md ops Q nd S0 fuel (listed.setIfInBounds i true) a' w' → K a' w') →
      if Region.wanted o (yielded ops a.tmps) = true then Oper.wpIn F n P o a w K Q else (∀ f, o.about P w a.eval = some f → F.fn f) ∧ K (a.put o.dst undef) w)
    (h' : ∀ K : Act → World → Prop, (∀ a' w', (nd j = true → S0 w') → anyO F n P md ops Q nd S0 fuel (listed.setIfInBounds j true) a' w' → K a' w') →
      if Region.wanted o' (yielded ops a.tmps) = true then Oper.wpIn F n P o' a w K Q else (∀ f, o'.about P w a.eval = some f → F.fn f) ∧ K (a.put o'.dst undef) w) : anyO F n P md ops Q nd S0 (fuel + 1) listed a w := by
  refine ⟨fun h0 => (by rw [hr] at h0; cases h0), fun k hk => ?_⟩
  rw [hr] at hk
  rcases List.mem_cons.1 hk with rfl | hk
  · exact wpOpIn_step ho fun K' hK' => h K' fun a' w' hs ha => hK' a' w' ⟨hs, ha⟩
  · obtain rfl : k = j := by simpa using hk
    exact wpOpIn_step ho' fun K' hK' => h' K' fun a' w' hs ha => hK' a' w' ⟨hs, ha⟩
end Go.Proofs.Ytkpcakmkmkidpaa
