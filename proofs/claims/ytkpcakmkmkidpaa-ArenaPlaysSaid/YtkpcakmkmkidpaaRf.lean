/- A law for ranging over a function whose iterator keeps state of its own in cells, or yields out of a loop over another iterator. Conditions: plain programs, one goroutine. -/
import Derived.RangeFuncNested
import Derived.RangeFuncBound
import Derived.RangeFuncCalls
import Derived.RangeFuncLeaves
import Derived.WalkKit
namespace Go.Proofs.Ytkpcakmkmkidpaa
open Go.RowKit

/-- What lies in the blocks of S stays as it lay. -/
structure Keep (S : Nat → Prop) (w w' : World) : Prop where
  os : w'.os = w.os
  tape : w'.tape = w.tape
  output : w'.output = w.output
  size : w.heap.size ≤ w'.heap.size
  block : ∀ k, k < w.heap.size → S k → w'.heap[k]? = w.heap[k]?

theorem Keep.refl (S : Nat → Prop) (w : World) : Keep S w w := ⟨rfl, rfl, rfl, Nat.le_refl _, fun _ _ _ => rfl⟩
theorem Keep.trans {S : Nat → Prop} {a b c : World} (h : Keep S a b) (k : Keep S b c) : Keep S a c :=
  ⟨k.os.trans h.os, k.tape.trans h.tape, k.output.trans h.output, Nat.le_trans h.size k.size, fun i hi hs => (k.block i (Nat.lt_of_lt_of_le hi h.size) hs).trans (h.block i hi hs)⟩
theorem Keep.mono {S T : Nat → Prop} {a b : World} (h : Keep S a b) (ht : ∀ k, k < a.heap.size → T k → S k) : Keep T a b :=
  ⟨h.os, h.tape, h.output, h.size, fun i hi hs => h.block i hi (ht i hi hs)⟩
theorem Keep.of_grownBy {S : Nat → Prop} {a b : World} {row : Option Nat} (hg : a.grownBy b row) (hr : ∀ r, row = some r → ¬ S r) : Keep S a b :=
  ⟨hg.os, hg.tape, hg.output, hg.size, fun i hi hs => hg.block i hi (fun e => hr i e.symm hs)⟩
theorem Keep.alloc (S : Nat → Prop) (w : World) (o : Obj) : Keep S w (w.alloc o) := .of_grownBy (World.grownBy_alloc w o none) (by simp)
theorem Keep.putObj {S : Nat → Prop} (w : World) (l : Nat) (o : Obj) (hl : ¬ S l) : Keep S w (w.putObj l o) := .of_grownBy (grownBy_putObj' w l o) (fun r e => by cases e; exact hl)
theorem Keep.setCell {S : Nat → Prop} (w : World) (p : Addr) (v : Value) (hl : ¬ S p.block) : Keep S w (w.setCell p v) :=
  ⟨rfl, rfl, rfl, (KeepsWalks.setCell w _ v).size, fun k _ hk => Below.heap_setCell _ _ _ k (fun e => hl (e ▸ hk))⟩
theorem Keep.drew (S : Nat → Prop) (w : World) : Keep S w w.drew := ⟨rfl, rfl, rfl, Nat.le_refl _, fun _ _ _ => rfl⟩
theorem Keep.of_below {B : Nat} {a b : World} (h : Below B a b) : Keep (· < B) a b := ⟨h.os, h.tape, h.output, h.size, fun k _ hk => h.block k hk⟩
theorem Keep.below {B : Nat} {a b : World} (h : Keep (· < B) a b) (hB : B ≤ a.heap.size) : Below B a b := ⟨h.os, h.tape, h.output, h.size, fun k hk => h.block k (by omega) hk⟩
theorem Keep.heap {S : Nat → Prop} {a b : World} (h : Keep S a b) {k : Nat} {o : Obj} (hs : S k) (ho : a.heap[k]? = some o) : b.heap[k]? = some o :=
  (h.block k (Array.getElem?_eq_some_iff.1 ho).1 hs).trans ho
theorem Keep.boxed {S : Nat → Prop} {a b : World} (h : Keep S a b) {k : Nat} {t : TypeId} {v : Value} (ho : Boxed a k t v) (hs : S k) : Boxed b k t v := h.heap hs ho
theorem Keep.row {S : Nat → Prop} {a b : World} (h : Keep S a b) {base : Nat} {e : TypeId} {size : Nat} {v : Value} {n : Nat} {xs : List Value} (ho : a.ownsRow base e size v n xs) (hs : ∀ k, v.ownBlock = some k → S k) :
    b.ownsRow base e size v n xs := by
  refine ⟨ho.1, ?_⟩
  rcases ho.2 with hn | ⟨g, cap, cur, rfl, hb, hgg, rest⟩
  · exact .inl hn
  · exact .inr ⟨g, cap, cur, rfl, hb, h.heap (hs g rfl) hgg, rest⟩

/-- The invariant does not mind what the other party does to the blocks Pv that are its own; what is new may become its own. -/
def Abide {β : Type} (J : β → (Nat → Prop) → World → Prop) : Prop :=
  ∀ s Pv Pv' A B, J s Pv A → Keep (fun b => ¬ Pv b) A B → (∀ b, Pv' b → (Pv b ∨ A.heap.size ≤ b) ∧ b < B.heap.size) → J s Pv' B

/-- One round of the loop with record l, as the iterator may ask for it. -/
def Rounds (P : Program) (l : Nat) {α : Type} (Arg : α → Array Value → (Nat → Prop) → World → Prop) (xs : List α) (RB : Nat → Prop) (J Jx : List α → (Nat → Prop) → World → Prop) : Prop :=
  ∀ pre x rest Pv G args W, xs = pre ++ x :: rest → J pre Pv W → (∀ b, Pv b → b < W.heap.size) → Arg x args G W → (∀ b, G b → Pv b) →
    YieldAt Fence.wide 0 P l args W fun e W' => Keep (fun b => RB b ∨ (Pv b ∧ ¬ G b)) W W' ∧
      ((e = .returned (.bool true) ∧ J (pre ++ [x]) (fun b => Pv b ∧ ¬ G b) W') ∨ (e = .returned (.bool false) ∧ Jx (pre ++ [x]) (fun b => Pv b ∧ ¬ G b) W'))

/-- The value (gf, lb) is an iterator that tells xs, while the blocks of RB lie as in w0. -/
def IterC (P : Program) (gf : Nat) (lb : Array Value) {α : Type} (Arg : α → Array Value → (Nat → Prop) → World → Prop) (xs : List α) (RB : Nat → Prop) (w0 : World) : Prop :=
  ∀ (l : Nat) (J Jx : List α → (Nat → Prop) → World → Prop) (W : World), Keep RB w0 W → Abide J → Abide Jx → Rounds P l Arg xs RB J Jx → J [] (fun _ => False) W →
    Calls P gf (#[.func (.yield l) #[] #[]] ++ lb) W fun e W' => (∃ v, e = .returned v) ∧ ∃ Pv, (∀ b, Pv b → b < W'.heap.size) ∧ (J xs Pv W' ∨ ∃ pre rest, xs = pre ++ rest ∧ Jx pre Pv W')

theorem IterC.later {P : Program} {gf : Nat} {lb : Array Value} {α : Type} {Arg : α → Array Value → (Nat → Prop) → World → Prop} {xs : List α} {RB : Nat → Prop} {w0 w1 : World} (h : IterC P gf lb Arg xs RB w0) (hk : Keep RB w0 w1) : IterC P gf lb Arg xs RB w1 :=
  fun l J Jx W hW => h l J Jx W (hk.trans hW)

/-- How a round's body may be left. -/
def bodyPostR {α : Type} (S : Nat → Prop) (I : List α → (Nat → Prop) → World → Prop) (Ix : Code → List α → (Nat → Prop) → World → Prop) (pre : List α) (Pv : Nat → Prop) (W : World) : Exit → Act → World → Prop
  | .normal, _, W' => Keep S W W' ∧ I pre Pv W'
  | .ret, _, W' => Keep S W W' ∧ Ix .ret pre Pv W'
  | .exit id, _, W' => Keep S W W' ∧ Ix (.exit id) pre Pv W'
  | .goto t, _, W' => Keep S W W' ∧ Ix (.goto t) pre Pv W'
  | .panic _, _, _ => False
  | .outgrown, _, _ => False

/-- The party whose record lies at l: between two rounds. -/
def recI {α : Type} (l D : Nat) (r : Loop) (I : List α → (Nat → Prop) → World → Prop) (pre : List α) (Pv : Nat → Prop) (W : World) : Prop :=
  I pre (fun b => Pv b ∨ b = l ∨ b = D) W ∧ ¬ Pv l ∧ ¬ Pv D ∧ W.heap[l]? = some (.loop r) ∧ W.heap[D]? = some (.deferred (some []))

theorem recI_abide {α : Type} {l D : Nat} {r : Loop} {I : List α → (Nat → Prop) → World → Prop} (hI : Abide I) : Abide (recI l D r I) := by
  rintro s Pv Pv' A B ⟨h1, h2, h3, h4, h5⟩ hk hp
  have hl := (Array.getElem?_eq_some_iff.1 h4).1
  have hD := (Array.getElem?_eq_some_iff.1 h5).1
  have hs := hk.size
  refine ⟨hI s _ _ A B h1 (hk.mono fun k _ hn hp => hn (.inl hp)) ?_, fun h => ?_, fun h => ?_, hk.heap h2 h4, hk.heap h3 h5⟩
  · rintro b (hb | rfl | rfl)
    · obtain ⟨h | h, h'⟩ := hp b hb
      · exact ⟨.inl (.inl h), h'⟩
      · exact ⟨.inr h, h'⟩
    · exact ⟨.inl (.inr (.inl rfl)), by omega⟩
    · exact ⟨.inl (.inr (.inr rfl)), by omega⟩
  · obtain ⟨h | h, _⟩ := hp _ h
    · exact h2 h
    · omega
  · obtain ⟨h | h, _⟩ := hp _ h
    · exact h3 h
    · omega

/-- 'for .. := range g { body }', outermost. -/
theorem rf_law {P : Program} {α : Type} {g : Operand} {ps : Array Tmp} {assign body : Code} {Q : Exit → Act → World → Prop} {a : Act} {w : World} {n : Nat}
    {gf : Nat} {lb : Array Value} (hg : a.eval g = .func (.func gf) #[] lb) (eg : ∀ args w, (callFunc gf args).run P w = .ok (.enter gf args) w)
    {Arg : α → Array Value → (Nat → Prop) → World → Prop} {xs : List α} {RB : Nat → Prop} {w0 : World} (hiter : IterC P gf lb Arg xs RB w0) (hb0 : Keep RB w0 w) (hRB : ∀ b, RB b → b < w.heap.size)
    (hps : ∀ x args G W, Arg x args G W → args.size = ps.size)
    (I : List α → (Nat → Prop) → World → Prop) (Ix : Code → List α → (Nat → Prop) → World → Prop) (hI : Abide I) (hIx : ∀ c, Abide (Ix c)) (h0 : I [] (fun _ => False) w)
    (hround : ∀ (l : Nat) (pre : List α) (x : α) (rest : List α) (Pv G : Nat → Prop) (args : Array Value) (W : World), w.heap.size ≤ l → xs = pre ++ x :: rest → I pre Pv W → Pv l → ¬ G l → (∀ b, Pv b → b < W.heap.size) → (∀ b, G b → Pv b) → Arg x args G W →
      assign.wpIn (Fence.wide.inRound l) 0 P (Exit.then (fun a₁ W₁ => Keep (fun b => RB b ∨ Pv b) W W₁ ∧ ∀ W₂, Keep (fun b => b ≠ l) W₁ W₂ → W₂.heap.size = W₁.heap.size → (∃ r, W₂.heap[l]? = some (.loop r)) →
          body.wpIn (Fence.wide.inRound l) 0 P (bodyPostR (fun b => RB b ∨ (Pv b ∧ ¬ G b)) I Ix (pre ++ [x]) (fun b => Pv b ∧ ¬ G b) W₂) a₁ W₂) (fun _ _ _ => False))
        { tmps := (ps.zip args).foldl (fun t (p, v) => t.setIfInBounds p v) a.tmps, defers := [] } W)
    (hdone : ∀ (D : Nat) (Pv : Nat → Prop) (W : World), w.heap.size ≤ D → Pv D → (∀ b, Pv b → b < W.heap.size) → I xs Pv W → W.heap[D]? = some (.deferred (some [])) → Q .normal { a with defers := { target := .collected D, args := #[] } :: a.defers } W)
    (hstop : ∀ (D : Nat) (c : Code) (pre rest : List α) (Pv : Nat → Prop) (W : World), w.heap.size ≤ D → Pv D → (∀ b, Pv b → b < W.heap.size) → xs = pre ++ rest → Ix c pre Pv W → W.heap[D]? = some (.deferred (some [])) → c.wpIn Fence.wide n P Q { a with defers := { target := .collected D, args := #[] } :: a.defers } W) :
    (Code.rangeFunc g ps assign body).wpIn Fence.wide n P Q a w := by
  refine wpIn_rangeFunc ?_
  intro fn hfn
  obtain ⟨rec, hrec⟩ : ∃ rec : LoopState → Option Code → Loop, rec = fun st pe => { state := st, pending := pe, fn, tmps := a.tmps, params := ps, assign, body, defers := w.heap.size } := ⟨_, rfl⟩
  obtain ⟨W1, hW1⟩ : ∃ W1, (w.alloc (.deferred (some []))).alloc (.loop (rec .ready none)) = W1 := ⟨_, rfl⟩
  have hL1 : W1.heap[w.heap.size + 1]? = some (.loop (rec .ready none)) := by
    rw [← hW1]; have := World.alloc_heap_new (w.alloc (.deferred (some []))) (.loop (rec .ready none)); rwa [World.size_alloc] at this
  have hK1 : W1.heap[w.heap.size]? = some (.deferred (some [])) := by
    rw [← hW1]; exact (Below.heap_alloc _ _ _ (by simp)).trans (World.alloc_heap_new w _)
  have hsz1 : W1.heap.size = w.heap.size + 2 := by rw [← hW1]; simp
  have hkw : ∀ S, Keep S w W1 := fun S => by rw [← hW1]; exact (Keep.alloc S w _).trans (Keep.alloc S _ _)
  have hI1 : I [] (fun b => False ∨ b = w.heap.size + 1 ∨ b = w.heap.size) W1 := hI _ _ _ _ _ h0 (hkw _) (fun b hb => by rcases hb with h | rfl | rfl; exact h.elim; exact ⟨.inr (by omega), by omega⟩; exact ⟨.inr (by omega), by omega⟩)
  refine ⟨w.heap.size + 1, [{ target := .collected w.heap.size, args := #[] }], W1, { target := .fn (.func gf) lb, args := #[.func (.yield (w.heap.size + 1)) #[] #[]] }, W1, gf,
    #[.func (.yield (w.heap.size + 1)) #[] #[]] ++ lb, W1, ?_, ?_, ?_, ?_, ?_, ?_⟩
  · rw [← hW1, hrec]; exact run_enterLoop_outer _ _ _ _ _
  · simp only [resolve, hg]
    simp [go_sem]
  · intro f' _; trivial
  · simp [invoke, go_sem, eg]
  · intro h; simp [Fence.wide] at h
  · refine (callsIn_wide.2 (hiter (w.heap.size + 1) (recI (w.heap.size + 1) w.heap.size (rec .ready none) I)
      (fun pre Pv W => ∃ c, recI (w.heap.size + 1) w.heap.size (rec .done (some c)) (Ix c) pre Pv W)
      W1 (hb0.trans (hkw _)) (recI_abide hI) ?_ ?_ ⟨hI1, by simp, by simp, hL1, hK1⟩)).mono ?_
    · rintro s Pv Pv' A B ⟨c, hc⟩ hk hp
      exact ⟨c, recI_abide (hIx c) s Pv Pv' A B hc hk hp⟩
    · -- a round
      rintro pre x rest Pv G args W hxs ⟨hi, hnl, hnD, hl, hD⟩ hPv hArg hG
      have hlt : w.heap.size + 1 < W.heap.size := (Array.getElem?_eq_some_iff.1 hl).1
      have hDlt : w.heap.size < W.heap.size := (Array.getElem?_eq_some_iff.1 hD).1
      have hy := run_yield (P := P) (args := args) hl (by rw [hrec]; exact hps x args G W hArg)
      rw [hrec] at hy
      have hGl : ¬ G (w.heap.size + 1) := fun h => hnl (hG _ h)
      have hGD : ¬ G w.heap.size := fun h => hnD (hG _ h)
      have hrb : ∀ b, RB b → b ≠ w.heap.size + 1 ∧ b ≠ w.heap.size := fun b hb => by have := hRB b hb; omega
      refine ⟨fn, _, assign, body, hy, roundIn_of_wpIn hfn ?_⟩
      refine wpIn_mono ((hround (w.heap.size + 1) pre x rest (fun b => Pv b ∨ b = w.heap.size + 1 ∨ b = w.heap.size) G args W (by omega) hxs hi (.inr (.inl rfl)) hGl
        (fun b hb => by rcases hb with hb | rfl | rfl; exact hPv b hb; omega; omega) (fun b hb => .inl (hG b hb)) hArg)) ?_
      rintro e a₁ W₁ hp
      cases e with
      | normal =>
        obtain ⟨hk1, hbody⟩ := hp
        have hl1 : W₁.heap[w.heap.size + 1]? = some (.loop (rec .ready none)) := hk1.heap (.inr (.inr (.inl rfl))) hl
        have hD1 : W₁.heap[w.heap.size]? = some (.deferred (some [])) := hk1.heap (.inr (.inr (.inr rfl))) hD
        have hlt1 : w.heap.size + 1 < W₁.heap.size := (Array.getElem?_eq_some_iff.1 hl1).1
        refine ⟨_, run_beginRound hl1 (by rw [hrec]), ?_⟩
        obtain ⟨W₂, hW2⟩ : ∃ W₂, W₁.putObj (w.heap.size + 1) (.loop { rec .ready none with state := .busy }) = W₂ := ⟨_, rfl⟩
        have hk12 : Keep (fun b => b ≠ w.heap.size + 1) W₁ W₂ := by rw [← hW2]; exact Keep.putObj _ _ _ (by simp)
        have hs12 : W₂.heap.size = W₁.heap.size := by rw [← hW2]; simp
        have hl2 : W₂.heap[w.heap.size + 1]? = some (.loop { rec .ready none with state := .busy }) := by rw [← hW2]; exact World.putObj_heap_same hlt1
        have hD2 : W₂.heap[w.heap.size]? = some (.deferred (some [])) := hk12.heap (by omega) hD1
        rw [hW2]
        refine wpIn_mono (hbody W₂ hk12 hs12 ⟨_, hl2⟩) ?_
        have fin : ∀ (jump : Option Code) (W3 : World), Keep (fun b => RB b ∨ ((Pv b ∨ b = w.heap.size + 1 ∨ b = w.heap.size) ∧ ¬ G b)) W₂ W3 →
            ∃ W4, (Instr.endRound (w.heap.size + 1) jump).run P W3 = .ok (.bool jump.isNone) W4 ∧ W4.heap.size = W3.heap.size ∧
              Keep (fun b => RB b ∨ (Pv b ∧ ¬ G b)) W W4 ∧ Keep (fun b => b ≠ w.heap.size + 1) W3 W4 ∧
              W4.heap[w.heap.size + 1]? = some (.loop (rec (if jump.isNone then .ready else .done) jump)) ∧ W4.heap[w.heap.size]? = some (.deferred (some [])) := fun jump W3 hk3 => by
          have hl3 : W3.heap[w.heap.size + 1]? = some (.loop { rec .ready none with state := .busy }) := hk3.heap (.inr ⟨.inr (.inl rfl), hGl⟩) hl2
          have hD3 : W3.heap[w.heap.size]? = some (.deferred (some [])) := hk3.heap (.inr ⟨.inr (.inr rfl), hGD⟩) hD2
          have he := run_endRound (P := P) jump hl3
          have k34 : ∀ o, Keep (fun b => b ≠ w.heap.size + 1) W3 (W3.putObj (w.heap.size + 1) o) := fun o => Keep.putObj _ _ _ (by simp)
          refine ⟨_, he, by simp, ?_, k34 _, ?_, (k34 _).heap (by omega) hD3⟩
          · refine (hk1.mono ?_).trans ((hk12.mono ?_).trans ((hk3.mono ?_).trans ((k34 _).mono ?_)))
            · rintro k _ (h | h)
              · exact .inl h
              · exact .inr (.inl h.1)
            · rintro k _ (h | h)
              · exact (hrb k h).1
              · rintro rfl; exact hnl h.1
            · rintro k _ (h | h)
              · exact .inl h
              · exact .inr ⟨.inl h.1, h.2⟩
            · rintro k _ (h | h)
              · exact (hrb k h).1
              · rintro rfl; exact hnl h.1
          · have := World.putObj_heap_same (o := .loop (rec (if jump.isNone then .ready else .done) jump)) (Array.getElem?_eq_some_iff.1 hl3).1
            rw [hrec] at this ⊢
            exact this
        -- the invariant across endRound
        have tr : ∀ (I' : List α → (Nat → Prop) → World → Prop) (W3 W4 : World), Abide I' → Keep (fun b => b ≠ w.heap.size + 1) W3 W4 → W4.heap.size = W3.heap.size → W.heap.size ≤ W3.heap.size →
            I' (pre ++ [x]) (fun b => (Pv b ∨ b = w.heap.size + 1 ∨ b = w.heap.size) ∧ ¬ G b) W3 → I' (pre ++ [x]) (fun b => (Pv b ∧ ¬ G b) ∨ b = w.heap.size + 1 ∨ b = w.heap.size) W4 := fun I' W3 W4 hI' hk hs hs' h => by
          refine hI' _ _ _ _ _ h (hk.mono ?_) ?_
          · rintro k _ hn rfl; exact hn ⟨.inr (.inl rfl), hGl⟩
          · rintro b (⟨h1, h2⟩ | rfl | rfl)
            · exact ⟨.inl ⟨.inl h1, h2⟩, by have := hPv b h1; omega⟩
            · exact ⟨.inl ⟨.inr (.inl rfl), hGl⟩, by omega⟩
            · exact ⟨.inl ⟨.inr (.inr rfl), hGD⟩, by omega⟩
        have hsz : W.heap.size ≤ W₂.heap.size := by have := hk1.size; omega
        rintro e a3 W3 hp
        cases e with
        | normal =>
          obtain ⟨hk3, hi3⟩ := hp
          obtain ⟨W4, he, hs4, hk4, hk34, hl4, hD4⟩ := fin none W3 hk3
          exact ⟨_, _, he, hk4, .inl ⟨rfl, tr I W3 W4 hI hk34 hs4 (by have := hk3.size; omega) hi3, fun h => hnl h.1, fun h => hnD h.1, hl4, hD4⟩⟩
        | ret =>
          obtain ⟨hk3, hi3⟩ := hp
          obtain ⟨W4, he, hs4, hk4, hk34, hl4, hD4⟩ := fin (some .ret) W3 hk3
          exact ⟨_, _, he, hk4, .inr ⟨rfl, .ret, tr (Ix .ret) W3 W4 (hIx _) hk34 hs4 (by have := hk3.size; omega) hi3, fun h => hnl h.1, fun h => hnD h.1, hl4, hD4⟩⟩
        | exit id =>
          obtain ⟨hk3, hi3⟩ := hp
          obtain ⟨W4, he, hs4, hk4, hk34, hl4, hD4⟩ := fin (some (.exit id)) W3 hk3
          exact ⟨_, _, he, hk4, .inr ⟨rfl, .exit id, tr (Ix (.exit id)) W3 W4 (hIx _) hk34 hs4 (by have := hk3.size; omega) hi3, fun h => hnl h.1, fun h => hnD h.1, hl4, hD4⟩⟩
        | goto t =>
          obtain ⟨hk3, hi3⟩ := hp
          obtain ⟨W4, he, hs4, hk4, hk34, hl4, hD4⟩ := fin (some (.goto t)) W3 hk3
          exact ⟨_, _, he, hk4, .inr ⟨rfl, .goto t, tr (Ix (.goto t)) W3 W4 (hIx _) hk34 hs4 (by have := hk3.size; omega) hi3, fun h => hnl h.1, fun h => hnD h.1, hl4, hD4⟩⟩
        | panic ch => exact hp.elim
        | outgrown => exact hp.elim
      | exit id => exact hp.elim
      | goto id => exact hp.elim
      | ret => exact hp.elim
      | panic ch => exact hp.elim
      | outgrown => exact hp.elim
    · -- behind the iterator
      rintro e W2 ⟨⟨v, rfl⟩, Pv, hPv, (⟨hi, hnl, hnD, hl, hD⟩ | ⟨pre, rest, hxs, c, hi, hnl, hnD, hl, hD⟩)⟩
      all_goals
        have hlt : w.heap.size + 1 < W2.heap.size := (Array.getElem?_eq_some_iff.1 hl).1
        have kk : ∀ o, Keep (fun b => b ≠ w.heap.size + 1) W2 (W2.putObj (w.heap.size + 1) o) := fun o => Keep.putObj _ _ _ (by simp)
        have hP' : ∀ o b, (Pv b ∨ b = w.heap.size + 1 ∨ b = w.heap.size) → b < (W2.putObj (w.heap.size + 1) o).heap.size := fun o b hb => by
          rw [World.putObj_size]; rcases hb with hb | rfl | rfl; exact hPv b hb; omega; omega
      · refine ⟨none, _, by have := run_endLoop (P := P) hl (by rw [hrec]; simp); rw [hrec] at this; exact this, ?_⟩
        exact hdone w.heap.size (fun b => Pv b ∨ b = w.heap.size + 1 ∨ b = w.heap.size) _ (Nat.le_refl _) (.inr (.inr rfl)) (hP' _)
          (hI _ _ _ _ _ hi ((kk _).mono (by rintro k _ hn rfl; exact hn (.inr (.inl rfl)))) (fun b hb => ⟨.inl hb, hP' _ b hb⟩)) ((kk _).heap (by omega) hD)
      · refine ⟨some c, _, by have := run_endLoop (P := P) hl (by rw [hrec]; simp); rw [hrec] at this; exact this, ?_⟩
        exact hstop w.heap.size c pre rest (fun b => Pv b ∨ b = w.heap.size + 1 ∨ b = w.heap.size) _ (Nat.le_refl _) (.inr (.inr rfl)) (hP' _) hxs
          (hIx c _ _ _ _ _ hi ((kk _).mono (by rintro k _ hn rfl; exact hn (.inr (.inl rfl)))) (fun b hb => ⟨.inl hb, hP' _ b hb⟩)) ((kk _).heap (by omega) hD)

/-- An iterator that yields out of a loop over another one: between two rounds of the inner loop. Ow: its own blocks; E: what it says of them. -/
def AdI {α β : Type} (RBin Ow : Nat → Prop) (W1 : World) (J : List β → (Nat → Prop) → World → Prop) (tr : List α → List β) (E : List α → World → Prop) (pre : List α) (Pv : Nat → Prop) (W : World) : Prop :=
  Keep RBin W1 W ∧ (∀ b, Pv b → W1.heap.size ≤ b) ∧ E pre W ∧ ∃ Pv' : Nat → Prop, J (tr pre) Pv' W ∧ (∀ b, Pv b → Pv' b) ∧ (∀ b, Ow b → Pv' b) ∧ (∀ b, Pv' b → b < W.heap.size)
/-- Where it has left that loop. -/
def AdX {α β : Type} (J Jx : List β → (Nat → Prop) → World → Prop) (ys : List β) (c : Code) (_pre : List α) (Pv : Nat → Prop) (W : World) : Prop :=
  c = .ret ∧ ∃ Pv' : Nat → Prop, (∀ b, Pv b → Pv' b) ∧ (∀ b, Pv' b → b < W.heap.size) ∧ (J ys Pv' W ∨ ∃ pre rest, ys = pre ++ rest ∧ Jx pre Pv' W)

theorem AdI_abide {α β : Type} {RBin Ow : Nat → Prop} {W1 : World} {J : List β → (Nat → Prop) → World → Prop} {tr : List α → List β} {E : List α → World → Prop} (hJ : Abide J) (hRB : ∀ b, RBin b → b < W1.heap.size)
    (hE : ∀ pre A B, Keep (fun b => b < W1.heap.size) A B → E pre A → E pre B) : Abide (AdI RBin Ow W1 J tr E) := by
  rintro pre Pv Pv' A B ⟨h1, h2, h3, Q, h4, h5, h6, h7⟩ hk hp
  have hs := hk.size
  refine ⟨h1.trans (hk.mono fun b _ hb hn => ?_), fun b hb => ?_, hE _ _ _ (hk.mono fun b _ hb hn => ?_) h3, fun b => Q b ∨ (A.heap.size ≤ b ∧ b < B.heap.size), ?_, fun b hb => ?_, fun b hb => .inl (h6 b hb), fun b hb => ?_⟩
  · have := h2 b hn; have := hRB b hb; omega
  · rcases (hp b hb).1 with h | h
    · exact h2 b h
    · exact Nat.le_trans h1.size h
  · have := h2 b hn; omega
  · refine hJ _ _ _ _ _ h4 (hk.mono fun b _ hb hn => hb (h5 b hn)) fun b hb => ?_
    rcases hb with hb | hb
    · exact ⟨.inl hb, by have := h7 b hb; omega⟩
    · exact ⟨.inr hb.1, hb.2⟩
  · rcases (hp b hb).1 with h | h
    · exact .inl (h5 b h)
    · exact .inr ⟨h, (hp b hb).2⟩
  · rcases hb with hb | hb
    · have := h7 b hb; omega
    · exact hb.2
theorem AdX_abide {α β : Type} {J Jx : List β → (Nat → Prop) → World → Prop} {ys : List β} (hJ : Abide J) (hJx : Abide Jx) (c : Code) : Abide (AdX (α := α) J Jx ys c) := by
  rintro pre Pv Pv' A B ⟨h0, Q, h5, h7, hj⟩ hk hp
  have hs := hk.size
  have hk' : Keep (fun b => ¬ Q b) A B := hk.mono fun b _ hb hn => hb (h5 b hn)
  have hq : ∀ b, (Q b ∨ (A.heap.size ≤ b ∧ b < B.heap.size)) → (Q b ∨ A.heap.size ≤ b) ∧ b < B.heap.size := fun b hb => by
    rcases hb with hb | hb
    · exact ⟨.inl hb, by have := h7 b hb; omega⟩
    · exact ⟨.inr hb.1, hb.2⟩
  refine ⟨h0, fun b => Q b ∨ (A.heap.size ≤ b ∧ b < B.heap.size), fun b hb => ?_, fun b hb => (hq b hb).2, ?_⟩
  · rcases (hp b hb).1 with h | h
    · exact .inl (h5 b h)
    · exact .inr ⟨h, (hp b hb).2⟩
  · rcases hj with hj | ⟨pre', rest, he, hj⟩
    · exact .inl (hJ _ _ _ _ _ hj hk' hq)
    · exact .inr ⟨pre', rest, he, hJx _ _ _ _ _ hj hk' hq⟩

/-- Four boxes laid, and a draw. -/
theorem four_boxes (W : World) (t0 t1 t2 t3 : TypeId) (v0 v1 v2 v3 : Value) :
    ∃ W1, ((((W.alloc (.cells #[v0] t0)).alloc (.cells #[v1] t1)).alloc (.cells #[v2] t2)).alloc (.cells #[v3] t3)).drew = W1 ∧
      Boxed W1 W.heap.size t0 v0 ∧ Boxed W1 (W.heap.size + 1) t1 v1 ∧ Boxed W1 (W.heap.size + 1 + 1) t2 v2 ∧ Boxed W1 (W.heap.size + 1 + 1 + 1) t3 v3 ∧ W1.heap.size = W.heap.size + 4 ∧ ∀ S, Keep S W W1 := by
  refine ⟨_, rfl, ?_, ?_, ?_, ?_, ?_, fun S => ?_⟩
  · exact (((Boxed.new W t0 v0).alloc _).alloc _).alloc _
  · have := ((Boxed.new (W.alloc (.cells #[v0] t0)) t1 v1).alloc (.cells #[v2] t2)).alloc (.cells #[v3] t3)
    rwa [World.size_alloc] at this
  · have := (Boxed.new ((W.alloc (.cells #[v0] t0)).alloc (.cells #[v1] t1)) t2 v2).alloc (.cells #[v3] t3)
    rwa [World.size_alloc, World.size_alloc] at this
  · have := Boxed.new (((W.alloc (.cells #[v0] t0)).alloc (.cells #[v1] t1)).alloc (.cells #[v2] t2)) t3 v3
    rwa [World.size_alloc, World.size_alloc, World.size_alloc] at this
  · show (World.heap _).size = _
    simp
  · exact ((((Keep.alloc S _ _).trans (Keep.alloc S _ _)).trans (Keep.alloc S _ _)).trans (Keep.alloc S _ _)).trans (Keep.drew S _)

/-- Five boxes laid, and a draw. -/
theorem five_boxes (W : World) (t0 t1 t2 t3 t4 : TypeId) (v0 v1 v2 v3 v4 : Value) :
    ∃ W1, (((((W.alloc (.cells #[v0] t0)).alloc (.cells #[v1] t1)).alloc (.cells #[v2] t2)).alloc (.cells #[v3] t3)).alloc (.cells #[v4] t4)).drew = W1 ∧
      Boxed W1 W.heap.size t0 v0 ∧ Boxed W1 (W.heap.size + 1) t1 v1 ∧ Boxed W1 (W.heap.size + 1 + 1) t2 v2 ∧ Boxed W1 (W.heap.size + 1 + 1 + 1) t3 v3 ∧ Boxed W1 (W.heap.size + 1 + 1 + 1 + 1) t4 v4 ∧ W1.heap.size = W.heap.size + 5 ∧ ∀ S, Keep S W W1 := by
  refine ⟨_, rfl, ?_, ?_, ?_, ?_, ?_, ?_, fun S => ?_⟩
  · exact ((((Boxed.new W t0 v0).alloc _).alloc _).alloc _).alloc _
  · have := (((Boxed.new (W.alloc (.cells #[v0] t0)) t1 v1).alloc (.cells #[v2] t2)).alloc (.cells #[v3] t3)).alloc (.cells #[v4] t4)
    rwa [World.size_alloc] at this
  · have := ((Boxed.new ((W.alloc (.cells #[v0] t0)).alloc (.cells #[v1] t1)) t2 v2).alloc (.cells #[v3] t3)).alloc (.cells #[v4] t4)
    rwa [World.size_alloc, World.size_alloc] at this
  · have := (Boxed.new (((W.alloc (.cells #[v0] t0)).alloc (.cells #[v1] t1)).alloc (.cells #[v2] t2)) t3 v3).alloc (.cells #[v4] t4)
    rwa [World.size_alloc, World.size_alloc, World.size_alloc] at this
  · have := Boxed.new ((((W.alloc (.cells #[v0] t0)).alloc (.cells #[v1] t1)).alloc (.cells #[v2] t2)).alloc (.cells #[v3] t3)) t4 v4
    rwa [World.size_alloc, World.size_alloc, World.size_alloc, World.size_alloc] at this
  · show (World.heap _).size = _
    simp
  · exact (((((Keep.alloc S _ _).trans (Keep.alloc S _ _)).trans (Keep.alloc S _ _)).trans (Keep.alloc S _ _)).trans (Keep.alloc S _ _)).trans (Keep.drew S _)

end Go.Proofs.Ytkpcakmkmkidpaa
