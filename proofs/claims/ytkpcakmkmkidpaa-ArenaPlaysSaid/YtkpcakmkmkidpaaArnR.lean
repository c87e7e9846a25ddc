/- A law for ranging over what lies in slots, as it lies when its turn comes: the body may change it. Conditions: plain programs, one goroutine; the body always goes on. -/
import Derived.Test.YtkpcakmkmkidpaaArnC
namespace Go.Proofs.Ytkpcakmkmkidpaa.Arn
open Go.RowKit
set_option linter.unusedVariables false

/-- How a round's body ends: it goes on. -/
def bodyPostS (D : Nat) (I : List (Sl Int) → Nat → World → Prop) (n k : Nat) (W : World) : Exit → Act → World → Prop
  | .normal, _, W' => Keep (fun b => b = D ∨ b = D + 1) W W' ∧ ∃ sl : List (Sl Int), sl.length = n ∧ I sl k W'
  | _, _, _ => False

theorem rf_lawS {P : Program} {g : Operand} {ps : Array Tmp} {assign body : Code} {Q : Exit → Act → World → Prop} {a : Act} {w : World} {n : Nat}
    {gf : Nat} {lb : Array Value} (hg : a.eval g = .func (.func gf) #[] lb) (eg : ∀ args w, (callFunc gf args).run P w = .ok (.enter gf args) w)
    {Lies : List (Sl Int) → World → Prop} (hiter : IterS P gf lb Lies) (hps : ps.size = 2)
    (I : List (Sl Int) → Nat → World → Prop) (sl0 : List (Sl Int)) (hIL : ∀ sl k W, I sl k W → Lies sl W) (hIA : ∀ sl k A B, I sl k A → Below A.heap.size A B → I sl k B)
    (hIl : ∀ sl k A B, I sl k A → (∃ r, A.heap[w.heap.size + 1]? = some (.loop r)) → Keep (fun b => b ≠ w.heap.size + 1) A B → B.heap.size = A.heap.size → I sl k B)
    (hIs : ∀ sl k W s, I sl k W → sl[k]? = some s → s.x = none → I sl (k + 1) W) (h0 : I sl0 0 w)
    (hround : ∀ (sl : List (Sl Int)) (k : Nat) (s : Sl Int) (x : Int) (W : World), I sl k W → sl[k]? = some s → s.x = some x → (∃ r, W.heap[w.heap.size + 1]? = some (.loop r)) → W.heap[w.heap.size]? = some (.deferred (some [])) →
      assign.wpIn (Fence.wide.inRound (w.heap.size + 1)) 0 P (Exit.then (fun a₁ W₁ => Keep (fun b => b = w.heap.size ∨ b = w.heap.size + 1) W W₁ ∧ ∀ W₂, Keep (fun b => b ≠ w.heap.size + 1) W₁ W₂ → W₂.heap.size = W₁.heap.size → (∃ r, W₂.heap[w.heap.size + 1]? = some (.loop r)) →
          body.wpIn (Fence.wide.inRound (w.heap.size + 1)) 0 P (bodyPostS w.heap.size I sl.length (k + 1) W₂) a₁ W₂) (fun _ _ _ => False))
        { tmps := (ps.zip #[.int .i64 (hOf s.n k), .int .i64 x]).foldl (fun t (p, v) => t.setIfInBounds p v) a.tmps, defers := [] } W)
    (hdone : ∀ (sl : List (Sl Int)) (W : World), sl.length = sl0.length → I sl sl0.length W → W.heap[w.heap.size]? = some (.deferred (some [])) → w.heap.size + 1 < W.heap.size → Q .normal { a with defers := { target := .collected w.heap.size, args := #[] } :: a.defers } W) :
    (Code.rangeFunc g ps assign body).wpIn Fence.wide n P Q a w := by
  refine wpIn_rangeFunc ?_
  intro fn hfn
  obtain ⟨rec, hrec⟩ : ∃ rec : LoopState → Option Code → Loop, rec = fun st pe => { state := st, pending := pe, fn, tmps := a.tmps, params := ps, assign, body, defers := w.heap.size } := ⟨_, rfl⟩
  obtain ⟨W1, hW1⟩ : ∃ W1, (w.alloc (.deferred (some []))).alloc (.loop (rec .ready none)) = W1 := ⟨_, rfl⟩
  have hL1 : W1.heap[w.heap.size + 1]? = some (.loop (rec .ready none)) := by
    rw [← hW1]; have := World.alloc_heap_new (w.alloc (.deferred (some []))) (.loop (rec .ready none)); rwa [World.size_alloc] at this
  have hK1 : W1.heap[w.heap.size]? = some (.deferred (some [])) := by
    rw [← hW1]; exact (Below.heap_alloc _ _ _ (by simp)).trans (World.alloc_heap_new w _)
  have hsz1 : W1.heap.size = w.heap.size + 2 := by rw [← hW1]; simp
  have hbw : Below w.heap.size w W1 := by rw [← hW1]; exact ((Below.refl _ w).alloc (Nat.le_refl _) _).alloc (by simp) _
  refine ⟨w.heap.size + 1, [{ target := .collected w.heap.size, args := #[] }], W1, { target := .fn (.func gf) lb, args := #[.func (.yield (w.heap.size + 1)) #[] #[]] }, W1, gf,
    #[.func (.yield (w.heap.size + 1)) #[] #[]] ++ lb, W1, ?_, ?_, ?_, ?_, ?_, ?_⟩
  · rw [← hW1, hrec]; exact run_enterLoop_outer _ _ _ _ _
  · simp only [resolve, hg]
    simp [go_sem]
  · intro f' _; trivial
  · simp [invoke, go_sem, eg]
  · intro h; simp [Fence.wide] at h
  · refine (callsIn_wide.2 (hiter (w.heap.size + 1) (fun sl k W => I sl k W ∧ W.heap[w.heap.size + 1]? = some (.loop (rec .ready none)) ∧ W.heap[w.heap.size]? = some (.deferred (some [])))
      sl0 W1 (fun sl k W h => hIL sl k W h.1) ?_ (fun sl k W s h hs hx => ⟨hIs sl k W s h.1 hs hx, h.2⟩) ?_ ⟨hIA _ _ _ _ h0 hbw, hL1, hK1⟩)).mono ?_
    · rintro sl k W m ⟨h1, h2, h3⟩
      exact ⟨hIA _ _ _ _ h1 ⟨rfl, rfl, rfl, Nat.le_refl _, fun _ _ => rfl⟩, h2, h3⟩
    · -- a round
      rintro sl k W s x ⟨hi, hl, hD⟩ hs hx
      have hlt : w.heap.size + 1 < W.heap.size := (Array.getElem?_eq_some_iff.1 hl).1
      have hy := run_yield (P := P) (args := #[.int .i64 (hOf s.n k), .int .i64 x]) hl (by rw [hrec]; exact hps.symm)
      rw [hrec] at hy
      refine ⟨fn, _, assign, body, hy, roundIn_of_wpIn hfn ?_⟩
      refine wpIn_mono (hround sl k s x W hi hs hx ⟨_, hl⟩ hD) ?_
      rintro e a₁ W₁ hp
      cases e with
      | normal =>
        obtain ⟨hk1, hbody⟩ := hp
        have hl1 : W₁.heap[w.heap.size + 1]? = some (.loop (rec .ready none)) := hk1.heap (.inr rfl) hl
        have hD1 : W₁.heap[w.heap.size]? = some (.deferred (some [])) := hk1.heap (.inl rfl) hD
        have hlt1 : w.heap.size + 1 < W₁.heap.size := (Array.getElem?_eq_some_iff.1 hl1).1
        refine ⟨_, run_beginRound hl1 (by rw [hrec]), ?_⟩
        obtain ⟨W₂, hW2⟩ : ∃ W₂, W₁.putObj (w.heap.size + 1) (.loop { rec .ready none with state := .busy }) = W₂ := ⟨_, rfl⟩
        have hk12 : Keep (fun b => b ≠ w.heap.size + 1) W₁ W₂ := by rw [← hW2]; exact Keep.putObj _ _ _ (by simp)
        have hs12 : W₂.heap.size = W₁.heap.size := by rw [← hW2]; simp
        have hl2 : W₂.heap[w.heap.size + 1]? = some (.loop { rec .ready none with state := .busy }) := by rw [← hW2]; exact World.putObj_heap_same hlt1
        have hD2 : W₂.heap[w.heap.size]? = some (.deferred (some [])) := hk12.heap (by omega) hD1
        rw [hW2]
        refine wpIn_mono (hbody W₂ hk12 hs12 ⟨_, hl2⟩) ?_
        rintro e a3 W3 hp
        cases e with
        | normal =>
          obtain ⟨hk3, sl', hln, hi3⟩ := hp
          have hl3 : W3.heap[w.heap.size + 1]? = some (.loop { rec .ready none with state := .busy }) := hk3.heap (.inr rfl) hl2
          have hD3 : W3.heap[w.heap.size]? = some (.deferred (some [])) := hk3.heap (.inl rfl) hD2
          have he := run_endRound (P := P) none hl3
          have k34 : ∀ o, Keep (fun b => b ≠ w.heap.size + 1) W3 (W3.putObj (w.heap.size + 1) o) := fun o => Keep.putObj _ _ _ (by simp)
          have hl4 : ∀ o, (W3.putObj (w.heap.size + 1) o).heap[w.heap.size + 1]? = some o := fun o => World.putObj_heap_same (Array.getElem?_eq_some_iff.1 hl3).1
          refine ⟨_, _, he, rfl, sl', hln, hIl _ _ _ _ hi3 ⟨_, hl3⟩ (k34 _) (by simp), ?_, (k34 _).heap (by omega) hD3⟩
          have := hl4 (.loop (rec .ready none))
          rw [hrec] at this ⊢
          exact this
        | exit id => exact hp.elim
        | goto id => exact hp.elim
        | ret => exact hp.elim
        | panic ch => exact hp.elim
        | outgrown => exact hp.elim
      | exit id => exact hp.elim
      | goto id => exact hp.elim
      | ret => exact hp.elim
      | panic ch => exact hp.elim
      | outgrown => exact hp.elim
    · -- behind the iterator
      rintro e W2 ⟨⟨v, rfl⟩, sl, hln, hi, hl, hD⟩
      have kk : ∀ o, Keep (fun b => b ≠ w.heap.size + 1) W2 (W2.putObj (w.heap.size + 1) o) := fun o => Keep.putObj _ _ _ (by simp)
      refine ⟨none, _, by have := run_endLoop (P := P) hl (by rw [hrec]; simp); rw [hrec] at this; exact this, ?_⟩
      exact hdone sl _ hln (hIl _ _ _ _ hi ⟨_, hl⟩ (kk _) (by simp)) ((kk _).heap (by omega) hD) (by rw [World.putObj_size]; exact (Array.getElem?_eq_some_iff.1 hl).1)
end Go.Proofs.Ytkpcakmkmkidpaa.Arn
