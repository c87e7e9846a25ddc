/- The texts that these laws rest on, put together, part 1. Conditions: as each says. -/
import Derived.Test.YtkjkfgmoogbdiaaGreatDoorProg
import Derived.Below
import Derived.WalkKit
import Derived.Lib.AppendIntMem
import Derived.Shelf.Vars
import Std
import Derived.RangeFuncNested
import Derived.RangeFuncBound
import Derived.RangeFuncCalls
import Derived.RangeFuncLeaves
import Derived.OrdersIn
import Derived.OrdersHeld
import Derived.RegionIn
import Derived.TacticsIn
import Derived.Deep.RegionHeld3
import Derived.Test.YtkjkfgmoogbdiaaGreatDoorShelf
import Derived.BigQuiet
import Derived.Deep.QuietTactic
import Derived.WalkSpells
import Derived.WalkLawsBesides
import Derived.Outline
import Derived.Lib.SlFresh
import Derived.Shelf.Bytes.SlSmallAll
import Derived.Shelf.Bytes.SlEqualAll
import Derived.Lib.Hide
import Derived.Test.YtkjkfgmoogbdiaaGreatDoorSortShelf
import Derived.Test.YtkjkfgmoogbdiaaGreatDoorCards
import Derived.Test.YtkjkfgmoogbdiaaGreatDoorTie
import Derived.ProofKit
import Derived.OpenShut
import Derived.ShutString
import Derived.ChangeOld
import Derived.Deep.DeepHandedRow
import Derived.Lib.LaidTab
import Derived.Stop.LaidErr
import Derived.LaidMore
import Derived.Lay
import Derived.Maps.AppendAt
import Derived.Maps.OwnIn
import Derived.Lib.SlicesCompact
import Derived.Lib.RowBridge
import Derived.Laws.OwnMore
import Derived.Deep.Cut
import Derived.Shelf.Abstract
import Derived.Shelf.RegionOpen
import Derived.OwnWalkIn
import Derived.TacticsInMore
import Derived.LoopNIn
import Derived.LoopIn
import Derived.Sort.QuietIn
import Derived.RangeFuncBox
import Derived.Laws.AppendOwnNone
import Derived.StillTailTactics
import Derived.IntWalk

namespace Go.Proofs.YtkjkfgmoogbdiaaGreatDoor.Url
open Go Go.RowKit

/-- What the library's own variables hold: some greatest length; the powers of ten. -/
def Gl (w : World) : Prop := (∃ m, w.cell? ⟨0, 0, none⟩ = some (.int .i64 m)) ∧ Lib.TabIs Tryz.prog w "internal/strconv.uint64pow10" .u64 Lib.pow10Tab
theorem Gl.on {w w' : World} (h : Gl w) (hk : Below w.heap.size w w') : Gl w' := by
  obtain ⟨⟨m, hm⟩, ht⟩ := h
  exact ⟨⟨m, (World.cell?_of_block (hk.block _ (World.block_lt_of_cell? w _ hm))).trans hm⟩, (Lib.tabBelow_of_tabIs ht) w' hk⟩
theorem Gl.tab {w w0 : World} (h : Gl w0) (hk : Below w0.heap.size w0 w) {B : Nat} (hB : w0.heap.size ≤ B) : Lib.TabBelow Tryz.prog B w "internal/strconv.uint64pow10" .u64 Lib.pow10Tab := fun w' hb =>
  (Lib.tabBelow_of_tabIs h.2) w' (hk.trans (hb.mono hB))

end Go.Proofs.YtkjkfgmoogbdiaaGreatDoor.Url

namespace Go.Proofs.YtkjkfgmoogbdiaaGreatDoor.Arn
set_option linter.unusedVariables false

/-- A slot: how many lay there, and what lies there now. -/
structure Sl (α : Type) where
  n : Nat
  x : Option α
/-- The first free slot. -/
def freeF {α : Type} : List (Sl α) → Option Nat
  | [] => none
  | s :: r => if s.x.isNone then some 0 else (freeF r).map (· + 1)
theorem free_lt {α : Type} : ∀ (l : List (Sl α)) (i : Nat), freeF l = some i → ∃ s, l[i]? = some s ∧ s.x = none
  | [], i, h => by cases h
  | s :: r, i, h => by
    unfold freeF at h
    split at h
    · rename_i hs
      cases h
      exact ⟨s, rfl, Option.isNone_iff_eq_none.1 hs⟩
    · cases hf : freeF r with
      | none => rw [hf] at h; cases h
      | some j =>
        rw [hf] at h
        obtain rfl : i = j + 1 := by simpa using h.symm
        obtain ⟨t, ht, hx⟩ := free_lt r j hf
        exact ⟨t, by simpa using ht, hx⟩
/-- The handle of slot i, the n-th thing there. -/
def hOf (n i : Nat) : Int := (n : Int) * 1024 + (i : Int)
/-- What lies under a handle: its slot. -/
def findS {α : Type} (l : List (Sl α)) (h : Int) : Option Nat :=
  if h < 0 then none else match l[(h % 1024).toNat]? with
    | some s => if s.x.isSome ∧ (s.n : Int) = h / 1024 then some (h % 1024).toNat else none
    | none => none
theorem h_of {n i : Nat} (hi : i < 1024) : hOf n i % 1024 = i ∧ hOf n i / 1024 = n := by unfold hOf; omega
theorem find_is {α : Type} (l : List (Sl α)) (h : Int) (i : Nat) (hl : l.length ≤ 1024) : findS l h = some i ↔ ∃ s x, l[i]? = some s ∧ s.x = some x ∧ h = hOf s.n i := by
  unfold findS
  constructor
  · intro hh
    split at hh
    · cases hh
    · rename_i h0
      split at hh
      · rename_i s hs
        split at hh
        · rename_i hx
          cases hh
          obtain ⟨x, hx1⟩ := Option.isSome_iff_exists.1 hx.1
          exact ⟨s, x, hs, hx1, by unfold hOf; omega⟩
        · cases hh
      · cases hh
  · rintro ⟨s, x, hs, hx, rfl⟩
    have hi : i < 1024 := by have := (List.getElem?_eq_some_iff.1 hs).1; omega
    have h1 := h_of (n := s.n) hi
    have hi2 : (hOf s.n i % 1024).toNat = i := by rw [h1.1]; rfl
    rw [if_neg (by unfold hOf; omega), hi2, hs]
    simp [hx, h1.2]
/-- One more. -/
def putS {α : Type} (l : List (Sl α)) (x : α) : List (Sl α) := match freeF l with
  | some i => match l[i]? with
    | some s => l.set i ⟨s.n + 1, some x⟩
    | none => l
  | none => l
def setS {α : Type} (l : List (Sl α)) (h : Int) (x : α) : List (Sl α) := match findS l h with
  | some i => match l[i]? with
    | some s => l.set i ⟨s.n, some x⟩
    | none => l
  | none => l
def dropS {α : Type} (l : List (Sl α)) (h : Int) : List (Sl α) := match findS l h with
  | some i => match l[i]? with
    | some s => l.set i ⟨s.n, none⟩
    | none => l
  | none => l
def lenS {α : Type} (l : List (Sl α)) : Nat := (l.filter fun s => s.x.isSome).length
/-! ### the document's list of all that was ever put -/
end Go.Proofs.YtkjkfgmoogbdiaaGreatDoor.Arn

namespace Go.Proofs.YtkjkfgmoogbdiaaGreatDoor
open Go.RowKit

/-- What lies in the blocks of S stays as it lay. -/
structure Keep (S : Nat → Prop) (w w' : World) : Prop where
  os : w'.os = w.os
  tape : w'.tape = w.tape
  output : w'.output = w.output
  size : w.heap.size ≤ w'.heap.size
  block : ∀ k, k < w.heap.size → S k → w'.heap[k]? = w.heap[k]?

theorem Keep.refl (S : Nat → Prop) (w : World) : Keep S w w := ⟨rfl, rfl, rfl, Nat.le_refl _, fun _ _ _ => rfl⟩
theorem Keep.trans {S : Nat → Prop} {a b c : World} (h : Keep S a b) (k : Keep S b c) : Keep S a c :=
  ⟨k.os.trans h.os, k.tape.trans h.tape, k.output.trans h.output, Nat.le_trans h.size k.size, fun i hi hs => (k.block i (Nat.lt_of_lt_of_le hi h.size) hs).trans (h.block i hi hs)⟩
theorem Keep.mono {S T : Nat → Prop} {a b : World} (h : Keep S a b) (ht : ∀ k, k < a.heap.size → T k → S k) : Keep T a b :=
  ⟨h.os, h.tape, h.output, h.size, fun i hi hs => h.block i hi (ht i hi hs)⟩
theorem Keep.of_grownBy {S : Nat → Prop} {a b : World} {row : Option Nat} (hg : a.grownBy b row) (hr : ∀ r, row = some r → ¬ S r) : Keep S a b :=
  ⟨hg.os, hg.tape, hg.output, hg.size, fun i hi hs => hg.block i hi (fun e => hr i e.symm hs)⟩
theorem Keep.alloc (S : Nat → Prop) (w : World) (o : Obj) : Keep S w (w.alloc o) := .of_grownBy (World.grownBy_alloc w o none) (by simp)
theorem Keep.putObj {S : Nat → Prop} (w : World) (l : Nat) (o : Obj) (hl : ¬ S l) : Keep S w (w.putObj l o) := .of_grownBy (grownBy_putObj' w l o) (fun r e => by cases e; exact hl)
theorem Keep.setCell {S : Nat → Prop} (w : World) (p : Addr) (v : Value) (hl : ¬ S p.block) : Keep S w (w.setCell p v) :=
  ⟨rfl, rfl, rfl, (KeepsWalks.setCell w _ v).size, fun k _ hk => Below.heap_setCell _ _ _ k (fun e => hl (e ▸ hk))⟩
theorem Keep.drew (S : Nat → Prop) (w : World) : Keep S w w.drew := ⟨rfl, rfl, rfl, Nat.le_refl _, fun _ _ _ => rfl⟩
theorem Keep.of_below {B : Nat} {a b : World} (h : Below B a b) : Keep (· < B) a b := ⟨h.os, h.tape, h.output, h.size, fun k _ hk => h.block k hk⟩
theorem Keep.below {B : Nat} {a b : World} (h : Keep (· < B) a b) (hB : B ≤ a.heap.size) : Below B a b := ⟨h.os, h.tape, h.output, h.size, fun k hk => h.block k (by omega) hk⟩
theorem Keep.heap {S : Nat → Prop} {a b : World} (h : Keep S a b) {k : Nat} {o : Obj} (hs : S k) (ho : a.heap[k]? = some o) : b.heap[k]? = some o :=
  (h.block k (Array.getElem?_eq_some_iff.1 ho).1 hs).trans ho
theorem Keep.boxed {S : Nat → Prop} {a b : World} (h : Keep S a b) {k : Nat} {t : TypeId} {v : Value} (ho : Boxed a k t v) (hs : S k) : Boxed b k t v := h.heap hs ho
theorem Keep.row {S : Nat → Prop} {a b : World} (h : Keep S a b) {base : Nat} {e : TypeId} {size : Nat} {v : Value} {n : Nat} {xs : List Value} (ho : a.ownsRow base e size v n xs) (hs : ∀ k, v.ownBlock = some k → S k) :
    b.ownsRow base e size v n xs := by
  refine ⟨ho.1, ?_⟩
  rcases ho.2 with hn | ⟨g, cap, cur, rfl, hb, hgg, rest⟩
  · exact .inl hn
  · exact .inr ⟨g, cap, cur, rfl, hb, h.heap (hs g rfl) hgg, rest⟩

/-- The invariant does not mind what the other party does to the blocks Pv that are its own; what is new may become its own. -/
def Abide {β : Type} (J : β → (Nat → Prop) → World → Prop) : Prop :=
  ∀ s Pv Pv' A B, J s Pv A → Keep (fun b => ¬ Pv b) A B → (∀ b, Pv' b → (Pv b ∨ A.heap.size ≤ b) ∧ b < B.heap.size) → J s Pv' B

/-- One round of the loop with record l, as the iterator may ask for it. -/
def Rounds (P : Program) (l : Nat) {α : Type} (Arg : α → Array Value → (Nat → Prop) → World → Prop) (xs : List α) (RB : Nat → Prop) (J Jx : List α → (Nat → Prop) → World → Prop) : Prop :=
  ∀ pre x rest Pv G args W, xs = pre ++ x :: rest → J pre Pv W → (∀ b, Pv b → b < W.heap.size) → Arg x args G W → (∀ b, G b → Pv b) →
    YieldAt Fence.wide 0 P l args W fun e W' => Keep (fun b => RB b ∨ (Pv b ∧ ¬ G b)) W W' ∧
      ((e = .returned (.bool true) ∧ J (pre ++ [x]) (fun b => Pv b ∧ ¬ G b) W') ∨ (e = .returned (.bool false) ∧ Jx (pre ++ [x]) (fun b => Pv b ∧ ¬ G b) W'))

/-- The value (gf, lb) is an iterator that tells xs, while the blocks of RB lie as in w0. -/
def IterC (P : Program) (gf : Nat) (lb : Array Value) {α : Type} (Arg : α → Array Value → (Nat → Prop) → World → Prop) (xs : List α) (RB : Nat → Prop) (w0 : World) : Prop :=
  ∀ (l : Nat) (J Jx : List α → (Nat → Prop) → World → Prop) (W : World), Keep RB w0 W → Abide J → Abide Jx → Rounds P l Arg xs RB J Jx → J [] (fun _ => False) W →
    Calls P gf (#[.func (.yield l) #[] #[]] ++ lb) W fun e W' => (∃ v, e = .returned v) ∧ ∃ Pv, (∀ b, Pv b → b < W'.heap.size) ∧ (J xs Pv W' ∨ ∃ pre rest, xs = pre ++ rest ∧ Jx pre Pv W')

/-- How a round's body may be left. -/
def bodyPostR {α : Type} (S : Nat → Prop) (I : List α → (Nat → Prop) → World → Prop) (Ix : Code → List α → (Nat → Prop) → World → Prop) (pre : List α) (Pv : Nat → Prop) (W : World) : Exit → Act → World → Prop
  | .normal, _, W' => Keep S W W' ∧ I pre Pv W'
  | .ret, _, W' => Keep S W W' ∧ Ix .ret pre Pv W'
  | .exit id, _, W' => Keep S W W' ∧ Ix (.exit id) pre Pv W'
  | .goto t, _, W' => Keep S W W' ∧ Ix (.goto t) pre Pv W'
  | .panic _, _, _ => False
  | .outgrown, _, _ => False

/-- The party whose record lies at l: between two rounds. -/
def recI {α : Type} (l D : Nat) (r : Loop) (I : List α → (Nat → Prop) → World → Prop) (pre : List α) (Pv : Nat → Prop) (W : World) : Prop :=
  I pre (fun b => Pv b ∨ b = l ∨ b = D) W ∧ ¬ Pv l ∧ ¬ Pv D ∧ W.heap[l]? = some (.loop r) ∧ W.heap[D]? = some (.deferred (some []))

theorem recI_abide {α : Type} {l D : Nat} {r : Loop} {I : List α → (Nat → Prop) → World → Prop} (hI : Abide I) : Abide (recI l D r I) := by
  rintro s Pv Pv' A B ⟨h1, h2, h3, h4, h5⟩ hk hp
  have hl := (Array.getElem?_eq_some_iff.1 h4).1
  have hD := (Array.getElem?_eq_some_iff.1 h5).1
  have hs := hk.size
  refine ⟨hI s _ _ A B h1 (hk.mono fun k _ hn hp => hn (.inl hp)) ?_, fun h => ?_, fun h => ?_, hk.heap h2 h4, hk.heap h3 h5⟩
  · rintro b (hb | rfl | rfl)
    · obtain ⟨h | h, h'⟩ := hp b hb
      · exact ⟨.inl (.inl h), h'⟩
      · exact ⟨.inr h, h'⟩
    · exact ⟨.inl (.inr (.inl rfl)), by omega⟩
    · exact ⟨.inl (.inr (.inr rfl)), by omega⟩
  · obtain ⟨h | h, _⟩ := hp _ h
    · exact h2 h
    · omega
  · obtain ⟨h | h, _⟩ := hp _ h
    · exact h3 h
    · omega

/-- 'for .. := range g { body }', outermost. -/
theorem rf_law {P : Program} {α : Type} {g : Operand} {ps : Array Tmp} {assign body : Code} {Q : Exit → Act → World → Prop} {a : Act} {w : World} {n : Nat}
    {gf : Nat} {lb : Array Value} (hg : a.eval g = .func (.func gf) #[] lb) (eg : ∀ args w, (callFunc gf args).run P w = .ok (.enter gf args) w)
    {Arg : α → Array Value → (Nat → Prop) → World → Prop} {xs : List α} {RB : Nat → Prop} {w0 : World} (hiter : IterC P gf lb Arg xs RB w0) (hb0 : Keep RB w0 w) (hRB : ∀ b, RB b → b < w.heap.size)
    (hps : ∀ x args G W, Arg x args G W → args.size = ps.size)
    (I : List α → (Nat → Prop) → World → Prop) (Ix : Code → List α → (Nat → Prop) → World → Prop) (hI : Abide I) (hIx : ∀ c, Abide (Ix c)) (h0 : I [] (fun _ => False) w)
    (hround : ∀ (l : Nat) (pre : List α) (x : α) (rest : List α) (Pv G : Nat → Prop) (args : Array Value) (W : World), w.heap.size ≤ l → xs = pre ++ x :: rest → I pre Pv W → Pv l → ¬ G l → (∀ b, Pv b → b < W.heap.size) → (∀ b, G b → Pv b) → Arg x args G W →
      assign.wpIn (Fence.wide.inRound l) 0 P (Exit.then (fun a₁ W₁ => Keep (fun b => RB b ∨ Pv b) W W₁ ∧ ∀ W₂, Keep (fun b => b ≠ l) W₁ W₂ → W₂.heap.size = W₁.heap.size → (∃ r, W₂.heap[l]? = some (.loop r)) →
          body.wpIn (Fence.wide.inRound l) 0 P (bodyPostR (fun b => RB b ∨ (Pv b ∧ ¬ G b)) I Ix (pre ++ [x]) (fun b => Pv b ∧ ¬ G b) W₂) a₁ W₂) (fun _ _ _ => False))
        { tmps := (ps.zip args).foldl (fun t (p, v) => t.setIfInBounds p v) a.tmps, defers := [] } W)
    (hdone : ∀ (D : Nat) (Pv : Nat → Prop) (W : World), w.heap.size ≤ D → Pv D → (∀ b, Pv b → b < W.heap.size) → I xs Pv W → W.heap[D]? = some (.deferred (some [])) → Q .normal { a with defers := { target := .collected D, args := #[] } :: a.defers } W)
    (hstop : ∀ (D : Nat) (c : Code) (pre rest : List α) (Pv : Nat → Prop) (W : World), w.heap.size ≤ D → Pv D → (∀ b, Pv b → b < W.heap.size) → xs = pre ++ rest → Ix c pre Pv W → W.heap[D]? = some (.deferred (some [])) → c.wpIn Fence.wide n P Q { a with defers := { target := .collected D, args := #[] } :: a.defers } W) :
    (Code.rangeFunc g ps assign body).wpIn Fence.wide n P Q a w := by
  refine wpIn_rangeFunc ?_
  intro fn hfn
  obtain ⟨rec, hrec⟩ : ∃ rec : LoopState → Option Code → Loop, rec = fun st pe => { state := st, pending := pe, fn, tmps := a.tmps, params := ps, assign, body, defers := w.heap.size } := ⟨_, rfl⟩
  obtain ⟨W1, hW1⟩ : ∃ W1, (w.alloc (.deferred (some []))).alloc (.loop (rec .ready none)) = W1 := ⟨_, rfl⟩
  have hL1 : W1.heap[w.heap.size + 1]? = some (.loop (rec .ready none)) := by
    rw [← hW1]; have := World.alloc_heap_new (w.alloc (.deferred (some []))) (.loop (rec .ready none)); rwa [World.size_alloc] at this
  have hK1 : W1.heap[w.heap.size]? = some (.deferred (some [])) := by
    rw [← hW1]; exact (Below.heap_alloc _ _ _ (by simp)).trans (World.alloc_heap_new w _)
  have hsz1 : W1.heap.size = w.heap.size + 2 := by rw [← hW1]; simp
  have hkw : ∀ S, Keep S w W1 := fun S => by rw [← hW1]; exact (Keep.alloc S w _).trans (Keep.alloc S _ _)
  have hI1 : I [] (fun b => False ∨ b = w.heap.size + 1 ∨ b = w.heap.size) W1 := hI _ _ _ _ _ h0 (hkw _) (fun b hb => by rcases hb with h | rfl | rfl; exact h.elim; exact ⟨.inr (by omega), by omega⟩; exact ⟨.inr (by omega), by omega⟩)
  refine ⟨w.heap.size + 1, [{ target := .collected w.heap.size, args := #[] }], W1, { target := .fn (.func gf) lb, args := #[.func (.yield (w.heap.size + 1)) #[] #[]] }, W1, gf,
    #[.func (.yield (w.heap.size + 1)) #[] #[]] ++ lb, W1, ?_, ?_, ?_, ?_, ?_, ?_⟩
  · rw [← hW1, hrec]; exact run_enterLoop_outer _ _ _ _ _
  · simp only [resolve, hg]
    simp [go_sem]
  · intro f' _; trivial
  · simp [invoke, go_sem, eg]
  · intro h; simp [Fence.wide] at h
  · refine (callsIn_wide.2 (hiter (w.heap.size + 1) (recI (w.heap.size + 1) w.heap.size (rec .ready none) I)
      (fun pre Pv W => ∃ c, recI (w.heap.size + 1) w.heap.size (rec .done (some c)) (Ix c) pre Pv W)
      W1 (hb0.trans (hkw _)) (recI_abide hI) ?_ ?_ ⟨hI1, by simp, by simp, hL1, hK1⟩)).mono ?_
    · rintro s Pv Pv' A B ⟨c, hc⟩ hk hp
      exact ⟨c, recI_abide (hIx c) s Pv Pv' A B hc hk hp⟩
    · -- a round
      rintro pre x rest Pv G args W hxs ⟨hi, hnl, hnD, hl, hD⟩ hPv hArg hG
      have hlt : w.heap.size + 1 < W.heap.size := (Array.getElem?_eq_some_iff.1 hl).1
      have hDlt : w.heap.size < W.heap.size := (Array.getElem?_eq_some_iff.1 hD).1
      have hy := run_yield (P := P) (args := args) hl (by rw [hrec]; exact hps x args G W hArg)
      rw [hrec] at hy
      have hGl : ¬ G (w.heap.size + 1) := fun h => hnl (hG _ h)
      have hGD : ¬ G w.heap.size := fun h => hnD (hG _ h)
      have hrb : ∀ b, RB b → b ≠ w.heap.size + 1 ∧ b ≠ w.heap.size := fun b hb => by have := hRB b hb; omega
      refine ⟨fn, _, assign, body, hy, roundIn_of_wpIn hfn ?_⟩
      refine wpIn_mono ((hround (w.heap.size + 1) pre x rest (fun b => Pv b ∨ b = w.heap.size + 1 ∨ b = w.heap.size) G args W (by omega) hxs hi (.inr (.inl rfl)) hGl
        (fun b hb => by rcases hb with hb | rfl | rfl; exact hPv b hb; omega; omega) (fun b hb => .inl (hG b hb)) hArg)) ?_
      rintro e a₁ W₁ hp
      cases e with
      | normal =>
        obtain ⟨hk1, hbody⟩ := hp
        have hl1 : W₁.heap[w.heap.size + 1]? = some (.loop (rec .ready none)) := hk1.heap (.inr (.inr (.inl rfl))) hl
        have hD1 : W₁.heap[w.heap.size]? = some (.deferred (some [])) := hk1.heap (.inr (.inr (.inr rfl))) hD
        have hlt1 : w.heap.size + 1 < W₁.heap.size := (Array.getElem?_eq_some_iff.1 hl1).1
        refine ⟨_, run_beginRound hl1 (by rw [hrec]), ?_⟩
        obtain ⟨W₂, hW2⟩ : ∃ W₂, W₁.putObj (w.heap.size + 1) (.loop { rec .ready none with state := .busy }) = W₂ := ⟨_, rfl⟩
        have hk12 : Keep (fun b => b ≠ w.heap.size + 1) W₁ W₂ := by rw [← hW2]; exact Keep.putObj _ _ _ (by simp)
        have hs12 : W₂.heap.size = W₁.heap.size := by rw [← hW2]; simp
        have hl2 : W₂.heap[w.heap.size + 1]? = some (.loop { rec .ready none with state := .busy }) := by rw [← hW2]; exact World.putObj_heap_same hlt1
        have hD2 : W₂.heap[w.heap.size]? = some (.deferred (some [])) := hk12.heap (by omega) hD1
        rw [hW2]
        refine wpIn_mono (hbody W₂ hk12 hs12 ⟨_, hl2⟩) ?_
        have fin : ∀ (jump : Option Code) (W3 : World), Keep (fun b => RB b ∨ ((Pv b ∨ b = w.heap.size + 1 ∨ b = w.heap.size) ∧ ¬ G b)) W₂ W3 →
            ∃ W4, (Instr.endRound (w.heap.size + 1) jump).run P W3 = .ok (.bool jump.isNone) W4 ∧ W4.heap.size = W3.heap.size ∧
              Keep (fun b => RB b ∨ (Pv b ∧ ¬ G b)) W W4 ∧ Keep (fun b => b ≠ w.heap.size + 1) W3 W4 ∧
              W4.heap[w.heap.size + 1]? = some (.loop (rec (if jump.isNone then .ready else .done) jump)) ∧ W4.heap[w.heap.size]? = some (.deferred (some [])) := fun jump W3 hk3 => by
          have hl3 : W3.heap[w.heap.size + 1]? = some (.loop { rec .ready none with state := .busy }) := hk3.heap (.inr ⟨.inr (.inl rfl), hGl⟩) hl2
          have hD3 : W3.heap[w.heap.size]? = some (.deferred (some [])) := hk3.heap (.inr ⟨.inr (.inr rfl), hGD⟩) hD2
          have he := run_endRound (P := P) jump hl3
          have k34 : ∀ o, Keep (fun b => b ≠ w.heap.size + 1) W3 (W3.putObj (w.heap.size + 1) o) := fun o => Keep.putObj _ _ _ (by simp)
          refine ⟨_, he, by simp, ?_, k34 _, ?_, (k34 _).heap (by omega) hD3⟩
          · refine (hk1.mono ?_).trans ((hk12.mono ?_).trans ((hk3.mono ?_).trans ((k34 _).mono ?_)))
            · rintro k _ (h | h)
              · exact .inl h
              · exact .inr (.inl h.1)
            · rintro k _ (h | h)
              · exact (hrb k h).1
              · rintro rfl; exact hnl h.1
            · rintro k _ (h | h)
              · exact .inl h
              · exact .inr ⟨.inl h.1, h.2⟩
            · rintro k _ (h | h)
              · exact (hrb k h).1
              · rintro rfl; exact hnl h.1
          · have := World.putObj_heap_same (o := .loop (rec (if jump.isNone then .ready else .done) jump)) (Array.getElem?_eq_some_iff.1 hl3).1
            rw [hrec] at this ⊢
            exact this
        -- the invariant across endRound
        have tr : ∀ (I' : List α → (Nat → Prop) → World → Prop) (W3 W4 : World), Abide I' → Keep (fun b => b ≠ w.heap.size + 1) W3 W4 → W4.heap.size = W3.heap.size → W.heap.size ≤ W3.heap.size →
            I' (pre ++ [x]) (fun b => (Pv b ∨ b = w.heap.size + 1 ∨ b = w.heap.size) ∧ ¬ G b) W3 → I' (pre ++ [x]) (fun b => (Pv b ∧ ¬ G b) ∨ b = w.heap.size + 1 ∨ b = w.heap.size) W4 := fun I' W3 W4 hI' hk hs hs' h => by
          refine hI' _ _ _ _ _ h (hk.mono ?_) ?_
          · rintro k _ hn rfl; exact hn ⟨.inr (.inl rfl), hGl⟩
          · rintro b (⟨h1, h2⟩ | rfl | rfl)
            · exact ⟨.inl ⟨.inl h1, h2⟩, by have := hPv b h1; omega⟩
            · exact ⟨.inl ⟨.inr (.inl rfl), hGl⟩, by omega⟩
            · exact ⟨.inl ⟨.inr (.inr rfl), hGD⟩, by omega⟩
        have hsz : W.heap.size ≤ W₂.heap.size := by have := hk1.size; omega
        rintro e a3 W3 hp
        cases e with
        | normal =>
          obtain ⟨hk3, hi3⟩ := hp
          obtain ⟨W4, he, hs4, hk4, hk34, hl4, hD4⟩ := fin none W3 hk3
          exact ⟨_, _, he, hk4, .inl ⟨rfl, tr I W3 W4 hI hk34 hs4 (by have := hk3.size; omega) hi3, fun h => hnl h.1, fun h => hnD h.1, hl4, hD4⟩⟩
        | ret =>
          obtain ⟨hk3, hi3⟩ := hp
          obtain ⟨W4, he, hs4, hk4, hk34, hl4, hD4⟩ := fin (some .ret) W3 hk3
          exact ⟨_, _, he, hk4, .inr ⟨rfl, .ret, tr (Ix .ret) W3 W4 (hIx _) hk34 hs4 (by have := hk3.size; omega) hi3, fun h => hnl h.1, fun h => hnD h.1, hl4, hD4⟩⟩
        | exit id =>
          obtain ⟨hk3, hi3⟩ := hp
          obtain ⟨W4, he, hs4, hk4, hk34, hl4, hD4⟩ := fin (some (.exit id)) W3 hk3
          exact ⟨_, _, he, hk4, .inr ⟨rfl, .exit id, tr (Ix (.exit id)) W3 W4 (hIx _) hk34 hs4 (by have := hk3.size; omega) hi3, fun h => hnl h.1, fun h => hnD h.1, hl4, hD4⟩⟩
        | goto t =>
          obtain ⟨hk3, hi3⟩ := hp
          obtain ⟨W4, he, hs4, hk4, hk34, hl4, hD4⟩ := fin (some (.goto t)) W3 hk3
          exact ⟨_, _, he, hk4, .inr ⟨rfl, .goto t, tr (Ix (.goto t)) W3 W4 (hIx _) hk34 hs4 (by have := hk3.size; omega) hi3, fun h => hnl h.1, fun h => hnD h.1, hl4, hD4⟩⟩
        | panic ch => exact hp.elim
        | outgrown => exact hp.elim
      | exit id => exact hp.elim
      | goto id => exact hp.elim
      | ret => exact hp.elim
      | panic ch => exact hp.elim
      | outgrown => exact hp.elim
    · -- behind the iterator
      rintro e W2 ⟨⟨v, rfl⟩, Pv, hPv, (⟨hi, hnl, hnD, hl, hD⟩ | ⟨pre, rest, hxs, c, hi, hnl, hnD, hl, hD⟩)⟩
      all_goals
        have hlt : w.heap.size + 1 < W2.heap.size := (Array.getElem?_eq_some_iff.1 hl).1
        have kk : ∀ o, Keep (fun b => b ≠ w.heap.size + 1) W2 (W2.putObj (w.heap.size + 1) o) := fun o => Keep.putObj _ _ _ (by simp)
        have hP' : ∀ o b, (Pv b ∨ b = w.heap.size + 1 ∨ b = w.heap.size) → b < (W2.putObj (w.heap.size + 1) o).heap.size := fun o b hb => by
          rw [World.putObj_size]; rcases hb with hb | rfl | rfl; exact hPv b hb; omega; omega
      · refine ⟨none, _, by have := run_endLoop (P := P) hl (by rw [hrec]; simp); rw [hrec] at this; exact this, ?_⟩
        exact hdone w.heap.size (fun b => Pv b ∨ b = w.heap.size + 1 ∨ b = w.heap.size) _ (Nat.le_refl _) (.inr (.inr rfl)) (hP' _)
          (hI _ _ _ _ _ hi ((kk _).mono (by rintro k _ hn rfl; exact hn (.inr (.inl rfl)))) (fun b hb => ⟨.inl hb, hP' _ b hb⟩)) ((kk _).heap (by omega) hD)
      · refine ⟨some c, _, by have := run_endLoop (P := P) hl (by rw [hrec]; simp); rw [hrec] at this; exact this, ?_⟩
        exact hstop w.heap.size c pre rest (fun b => Pv b ∨ b = w.heap.size + 1 ∨ b = w.heap.size) _ (Nat.le_refl _) (.inr (.inr rfl)) (hP' _) hxs
          (hIx c _ _ _ _ _ hi ((kk _).mono (by rintro k _ hn rfl; exact hn (.inr (.inl rfl)))) (fun b hb => ⟨.inl hb, hP' _ b hb⟩)) ((kk _).heap (by omega) hD)

/-- An iterator that yields out of a loop over another one: between two rounds of the inner loop. Ow: its own blocks; E: what it says of them. -/
def AdI {α β : Type} (RBin Ow : Nat → Prop) (W1 : World) (J : List β → (Nat → Prop) → World → Prop) (tr : List α → List β) (E : List α → World → Prop) (pre : List α) (Pv : Nat → Prop) (W : World) : Prop :=
  Keep RBin W1 W ∧ (∀ b, Pv b → W1.heap.size ≤ b) ∧ E pre W ∧ ∃ Pv' : Nat → Prop, J (tr pre) Pv' W ∧ (∀ b, Pv b → Pv' b) ∧ (∀ b, Ow b → Pv' b) ∧ (∀ b, Pv' b → b < W.heap.size)
/-- Where it has left that loop. -/
def AdX {α β : Type} (J Jx : List β → (Nat → Prop) → World → Prop) (ys : List β) (c : Code) (_pre : List α) (Pv : Nat → Prop) (W : World) : Prop :=
  c = .ret ∧ ∃ Pv' : Nat → Prop, (∀ b, Pv b → Pv' b) ∧ (∀ b, Pv' b → b < W.heap.size) ∧ (J ys Pv' W ∨ ∃ pre rest, ys = pre ++ rest ∧ Jx pre Pv' W)

theorem AdI_abide {α β : Type} {RBin Ow : Nat → Prop} {W1 : World} {J : List β → (Nat → Prop) → World → Prop} {tr : List α → List β} {E : List α → World → Prop} (hJ : Abide J) (hRB : ∀ b, RBin b → b < W1.heap.size)
    (hE : ∀ pre A B, Keep (fun b => b < W1.heap.size) A B → E pre A → E pre B) : Abide (AdI RBin Ow W1 J tr E) := by
  rintro pre Pv Pv' A B ⟨h1, h2, h3, Q, h4, h5, h6, h7⟩ hk hp
  have hs := hk.size
  refine ⟨h1.trans (hk.mono fun b _ hb hn => ?_), fun b hb => ?_, hE _ _ _ (hk.mono fun b _ hb hn => ?_) h3, fun b => Q b ∨ (A.heap.size ≤ b ∧ b < B.heap.size), ?_, fun b hb => ?_, fun b hb => .inl (h6 b hb), fun b hb => ?_⟩
  · have := h2 b hn; have := hRB b hb; omega
  · rcases (hp b hb).1 with h | h
    · exact h2 b h
    · exact Nat.le_trans h1.size h
  · have := h2 b hn; omega
  · refine hJ _ _ _ _ _ h4 (hk.mono fun b _ hb hn => hb (h5 b hn)) fun b hb => ?_
    rcases hb with hb | hb
    · exact ⟨.inl hb, by have := h7 b hb; omega⟩
    · exact ⟨.inr hb.1, hb.2⟩
  · rcases (hp b hb).1 with h | h
    · exact .inl (h5 b h)
    · exact .inr ⟨h, (hp b hb).2⟩
  · rcases hb with hb | hb
    · have := h7 b hb; omega
    · exact hb.2
theorem AdX_abide {α β : Type} {J Jx : List β → (Nat → Prop) → World → Prop} {ys : List β} (hJ : Abide J) (hJx : Abide Jx) (c : Code) : Abide (AdX (α := α) J Jx ys c) := by
  rintro pre Pv Pv' A B ⟨h0, Q, h5, h7, hj⟩ hk hp
  have hs := hk.size
  have hk' : Keep (fun b => ¬ Q b) A B := hk.mono fun b _ hb hn => hb (h5 b hn)
  have hq : ∀ b, (Q b ∨ (A.heap.size ≤ b ∧ b < B.heap.size)) → (Q b ∨ A.heap.size ≤ b) ∧ b < B.heap.size := fun b hb => by
    rcases hb with hb | hb
    · exact ⟨.inl hb, by have := h7 b hb; omega⟩
    · exact ⟨.inr hb.1, hb.2⟩
  refine ⟨h0, fun b => Q b ∨ (A.heap.size ≤ b ∧ b < B.heap.size), fun b hb => ?_, fun b hb => (hq b hb).2, ?_⟩
  · rcases (hp b hb).1 with h | h
    · exact .inl (h5 b h)
    · exact .inr ⟨h, (hp b hb).2⟩
  · rcases hj with hj | ⟨pre', rest, he, hj⟩
    · exact .inl (hJ _ _ _ _ _ hj hk' hq)
    · exact .inr ⟨pre', rest, he, hJx _ _ _ _ _ hj hk' hq⟩

/-- Four boxes laid, and a draw. -/
theorem four_boxes (W : World) (t0 t1 t2 t3 : TypeId) (v0 v1 v2 v3 : Value) :
    ∃ W1, ((((W.alloc (.cells #[v0] t0)).alloc (.cells #[v1] t1)).alloc (.cells #[v2] t2)).alloc (.cells #[v3] t3)).drew = W1 ∧
      Boxed W1 W.heap.size t0 v0 ∧ Boxed W1 (W.heap.size + 1) t1 v1 ∧ Boxed W1 (W.heap.size + 1 + 1) t2 v2 ∧ Boxed W1 (W.heap.size + 1 + 1 + 1) t3 v3 ∧ W1.heap.size = W.heap.size + 4 ∧ ∀ S, Keep S W W1 := by
  refine ⟨_, rfl, ?_, ?_, ?_, ?_, ?_, fun S => ?_⟩
  · exact (((Boxed.new W t0 v0).alloc _).alloc _).alloc _
  · have := ((Boxed.new (W.alloc (.cells #[v0] t0)) t1 v1).alloc (.cells #[v2] t2)).alloc (.cells #[v3] t3)
    rwa [World.size_alloc] at this
  · have := (Boxed.new ((W.alloc (.cells #[v0] t0)).alloc (.cells #[v1] t1)) t2 v2).alloc (.cells #[v3] t3)
    rwa [World.size_alloc, World.size_alloc] at this
  · have := Boxed.new (((W.alloc (.cells #[v0] t0)).alloc (.cells #[v1] t1)).alloc (.cells #[v2] t2)) t3 v3
    rwa [World.size_alloc, World.size_alloc, World.size_alloc] at this
  · show (World.heap _).size = _
    simp
  · exact ((((Keep.alloc S _ _).trans (Keep.alloc S _ _)).trans (Keep.alloc S _ _)).trans (Keep.alloc S _ _)).trans (Keep.drew S _)

/-- Five boxes laid, and a draw. -/
theorem five_boxes (W : World) (t0 t1 t2 t3 t4 : TypeId) (v0 v1 v2 v3 v4 : Value) :
    ∃ W1, (((((W.alloc (.cells #[v0] t0)).alloc (.cells #[v1] t1)).alloc (.cells #[v2] t2)).alloc (.cells #[v3] t3)).alloc (.cells #[v4] t4)).drew = W1 ∧
      Boxed W1 W.heap.size t0 v0 ∧ Boxed W1 (W.heap.size + 1) t1 v1 ∧ Boxed W1 (W.heap.size + 1 + 1) t2 v2 ∧ Boxed W1 (W.heap.size + 1 + 1 + 1) t3 v3 ∧ Boxed W1 (W.heap.size + 1 + 1 + 1 + 1) t4 v4 ∧ W1.heap.size = W.heap.size + 5 ∧ ∀ S, Keep S W W1 := by
  refine ⟨_, rfl, ?_, ?_, ?_, ?_, ?_, ?_, fun S => ?_⟩
  · exact ((((Boxed.new W t0 v0).alloc _).alloc _).alloc _).alloc _
  · have := (((Boxed.new (W.alloc (.cells #[v0] t0)) t1 v1).alloc (.cells #[v2] t2)).alloc (.cells #[v3] t3)).alloc (.cells #[v4] t4)
    rwa [World.size_alloc] at this
  · have := ((Boxed.new ((W.alloc (.cells #[v0] t0)).alloc (.cells #[v1] t1)) t2 v2).alloc (.cells #[v3] t3)).alloc (.cells #[v4] t4)
    rwa [World.size_alloc, World.size_alloc] at this
  · have := (Boxed.new (((W.alloc (.cells #[v0] t0)).alloc (.cells #[v1] t1)).alloc (.cells #[v2] t2)) t3 v3).alloc (.cells #[v4] t4)
    rwa [World.size_alloc, World.size_alloc, World.size_alloc] at this
  · have := Boxed.new ((((W.alloc (.cells #[v0] t0)).alloc (.cells #[v1] t1)).alloc (.cells #[v2] t2)).alloc (.cells #[v3] t3)) t4 v4
    rwa [World.size_alloc, World.size_alloc, World.size_alloc, World.size_alloc] at this
  · show (World.heap _).size = _
    simp
  · exact (((((Keep.alloc S _ _).trans (Keep.alloc S _ _)).trans (Keep.alloc S _ _)).trans (Keep.alloc S _ _)).trans (Keep.alloc S _ _)).trans (Keep.drew S _)

end Go.Proofs.YtkjkfgmoogbdiaaGreatDoor

namespace Go.Proofs.YtkjkfgmoogbdiaaGreatDoor
open Go
variable {F : Fence} {n : Nat} {P : Program} {ops : Array Oper} {Q : Exit → Act → World → Prop} {md : Region.Mode} {S : World → Prop}

/-- No operation of the region is a defer statement. -/
def noDefer (ops : Array Oper) : Bool := ops.all fun o => match o.op with | .defer _ => false | _ => true
theorem noDefer_spec (h : noDefer ops = true) {j : Nat} {o : Oper} (hj : ops[j]? = some o) : ∀ c, o.op ≠ .defer c := by
  intro c hc
  obtain ⟨hlt, he⟩ := Array.getElem?_eq_some_iff.1 hj
  have := (Array.all_eq_true.1 h) j hlt
  rw [he, hc] at this
  cases this
theorem semAt_exec (o : Oper) (h : ∀ c, o.op ≠ .defer c) (r : Option Nat) (ρ : Operand → Value) : o.semAt r ρ = execOp ρ o := by
  cases r with
  | none => exact Oper.semAt_none _ _
  | some l => exact Oper.semAt_some l ρ o h

/-- It yields v where S holds, and makes no call. -/
def Yld (P : Program) (ops : Array Oper) (S : World → Prop) (o : Oper) (v : Value) (a : Act) : Prop := YieldsIf P ops S o v a ∧ ∀ w, o.about P w a.eval = none

theorem Yld.same {o : Oper} {v : Value} {a a' : Act} (hy : Yld P ops S o v a) (he : execOp a'.eval o = execOp a.eval o)
    (hw : Region.wanted o (yielded ops a'.tmps) = Region.wanted o (yielded ops a.tmps)) (hb : ∀ w, o.about P w a'.eval = o.about P w a.eval) : Yld P ops S o v a' :=
  ⟨hy.1.of_same he hw, fun w => by rw [hb w]; exact hy.2 w⟩

theorem Yld.op {i : Nat} {o : Oper} {v : Value} {a : Act} (hi : ops[i]? = some o) (hd : ∀ c, o.op ≠ .defer c) (hy : Yld P ops S o v a)
    {K : Act → World → Prop} {w : World} (hS : S w) (h : K (a.put o.dst v) w) : wpOpIn F n P ops Q i K a w := by
  unfold wpOpIn
  simp only [hi]
  have hab : ∀ f, o.about P w a.eval = some f → F.fn f := fun f hf => by rw [hy.2 w] at hf; cases hf
  rcases hy.1 with ⟨hw, hv⟩ | ⟨hw, rfl⟩
  · simp only [hw, if_true, Oper.wpIn, semAt_exec o hd, hv w hS, Oper.uponIn]; exact ⟨hab, h⟩
  · simp only [hw, Bool.false_eq_true, if_false]; exact ⟨hab, h⟩

theorem Yld.past {j : Nat} {oi oj : Oper} {v : Value} (hj : ops[j]? = some oj) (hd : ∀ c, oj.op ≠ .defer c) (hap : oi.apart ops oj = true)
    (hsi : ∀ cs b, oi.op ≠ .select cs b) (hsj : ∀ cs b, oj.op ≠ .select cs b)
    (hQ : ∀ c a w, Q (.panic c) (a.put oi.dst v) w → Q (.panic c) a w) {K : Act → World → Prop} {a : Act} {w : World}
    (hy : Yld P ops S oi v a) (h : wpOpIn F n P ops Q j K (a.put oi.dst v) w) :
    wpOpIn F n P ops Q j (fun a' w' => Yld P ops S oi v a' ∧ K (a'.put oi.dst v) w') a w := by
  obtain ⟨h1, h2, h3⟩ := Oper.apart_spec hap
  have keep : ∀ u, Yld P ops S oi v (a.put oj.dst u) := fun u =>
    hy.same (execOp_put oi hsi a oj.dst u h3) (wanted_put oi a oj.dst u h3) (fun w => about_put oi w a oj.dst u h3)
  have turn : ∀ u w', K ((a.put oi.dst v).put oj.dst u) w' → Yld P ops S oi v (a.put oj.dst u) ∧ K ((a.put oj.dst u).put oi.dst v) w' :=
    fun u w' hk => ⟨keep u, by rw [← Act.put_comm a v u h2]; exact hk⟩
  unfold wpOpIn at *
  simp only [hj] at *
  rw [wanted_put oj a oi.dst v h1, about_put oj w a oi.dst v h1] at h
  by_cases hw : Region.wanted oj (yielded ops a.tmps) = true
  · rw [if_pos hw] at h ⊢
    unfold Oper.wpIn at *
    rw [about_put oj w a oi.dst v h1, semAt_exec oj hd, execOp_put oj hsj a oi.dst v h1] at h
    rw [semAt_exec oj hd]
    refine ⟨h.1, ?_⟩
    have h := h.2
    cases hr : (execOp a.eval oj).run P w with
    | halt x w' =>
      rw [hr] at h
      cases x with
      | panic u => exact hQ _ _ _ h
      | _ => exact h
    | ok x w' =>
      rw [hr] at h
      cases x with
      | value u => exact turn u w' h
      | skip => exact turn undef w' h
      | defer d =>
        have e : ∀ u, ({ a.put oi.dst v with defers := d :: (a.put oi.dst v).defers } : Act).put oj.dst u = (({ a with defers := d :: a.defers } : Act).put oj.dst u).put oi.dst v := fun u => by
          rw [← Act.put_comm _ v u h2]
          unfold Act.put
          cases oi.dst <;> cases oj.dst <;> rfl
        refine ⟨Yld.same (a := { a with defers := d :: a.defers }) (hy.same rfl rfl (fun _ => rfl)) (execOp_put oi hsi _ oj.dst _ h3) (wanted_put oi _ oj.dst _ h3) (fun w => about_put oi w _ oj.dst _ h3), ?_⟩
        rw [← e]
        exact h
      | enter f args =>
        refine ⟨h.1, CallsIn.mono h.2 fun e w'' he => ?_⟩
        cases e with
        | returned u => exact turn u w'' he
        | panicked c => exact hQ _ _ _ he
        | outgrown => exact he
      | row row args => exact ⟨h.1, RowsIn.mono h.2 fun u w'' he => turn u w'' he⟩
      | round l f tmps assign body =>
        refine ⟨h.1, RoundIn.mono h.2 fun e w'' he => ?_⟩
        cases e with
        | returned u => exact turn u w'' he
        | panicked c => exact hQ _ _ _ he
        | outgrown => exact he
      | _ => exact h
  · rw [if_neg hw] at h ⊢
    exact ⟨h.1, turn undef w h.2⟩

/-- Whatever order is picked, and S holds behind each operation. -/
def anyH (F : Fence) (n : Nat) (P : Program) (md : Region.Mode) (ops : Array Oper) (Q : Exit → Act → World → Prop) (S : World → Prop) : Nat → Array Bool → Act → World → Prop
  | 0, listed, a, w => Region.ready md ops listed = [] ∧ Q .normal a w
  | fuel + 1, listed, a, w =>
    (Region.ready md ops listed = [] → Q .normal a w) ∧
    ∀ i ∈ Region.ready md ops listed, wpOpIn F n P ops Q i (fun a' w' => S w' ∧ anyH F n P md ops Q S fuel (listed.setIfInBounds i true) a' w') a w

theorem any_of_anyH : ∀ (fuel : Nat) (listed : Array Bool) (a : Act) (w : World), anyH F n P md ops Q S fuel listed a w → wpAnyIn F n P md ops Q fuel listed a w
  | 0, _, _, _, h => h
  | fuel + 1, _, _, _, h => ⟨h.1, fun i hi => wpOpIn_mono (fun a' w' h' => any_of_anyH fuel _ a' w' h'.2) (h.2 i hi)⟩

theorem anyH_first {i : Nat} {oi : Oper} {v : Value} (hi : ops[i]? = some oi) (hd : noDefer ops = true) (hsel : ∀ (j : Nat) (o : Oper) cs b, ops[j]? = some o → o.op ≠ .select cs b)
    (hQ : ∀ c a w, Q (.panic c) (a.put oi.dst v) w → Q (.panic c) a w) :
    ∀ (fuel : Nat) (listed : Array Bool) (a : Act) (w : World),
      (∀ j oj, ops[j]? = some oj → j ≠ i → listed.getD j true = false → (∀ e ∈ oj.after, Region.binds md e = true → e.on ≠ i) → oi.apart ops oj = true) →
      i ∈ Region.ready md ops listed → Yld P ops S oi v a → S w →
      anyH F n P md ops Q S fuel (listed.setIfInBounds i true) (a.put oi.dst v) w → anyH F n P md ops Q S (fuel + 1) listed a w := by
  intro fuel
  induction fuel with
  | zero =>
    intro listed a w _ hr hy hS H
    refine ⟨fun h => (by rw [h] at hr; cases hr), fun j hj => ?_⟩
    by_cases hji : j = i
    · subst hji; exact hy.op hi (noDefer_spec hd hi) hS ⟨hS, H⟩
    · have := ready_mono hj hji
      rw [H.1] at this
      cases this
  | succ fuel ih =>
    intro listed a w hfree hr hy hS H
    refine ⟨fun h => (by rw [h] at hr; cases hr), fun j hj => ?_⟩
    by_cases hji : j = i
    · subst hji; exact hy.op hi (noDefer_spec hd hi) hS ⟨hS, H⟩
    · have h1 := H.2 j (ready_mono hj hji)
      obtain ⟨hjun, oj, hoj, hall⟩ := mem_ready.1 hj
      have hnot : ∀ e ∈ oj.after, Region.binds md e = true → e.on ≠ i := fun e he hb heq => by
        have h1 := hall e he hb
        have h0 := (mem_ready.1 hr).1
        rw [heq] at h1
        rcases Nat.lt_or_ge i listed.size with h' | h'
        · simp [h'] at h0 h1; rw [h0] at h1; cases h1
        · simp [Array.getElem?_eq_none h'] at h1
      have h2 := hy.past hoj (noDefer_spec hd hoj) (hfree j oj hoj hji hjun hnot) (fun cs b => hsel i oi cs b hi) (fun cs b => hsel j oj cs b hoj) hQ h1
      have hfree' : ∀ k ok, ops[k]? = some ok → k ≠ i → (listed.setIfInBounds j true).getD k true = false →
          (∀ e ∈ ok.after, Region.binds md e = true → e.on ≠ i) → oi.apart ops ok = true := fun k ok hk hki hun hno => by
        refine hfree k ok hk hki ?_ hno
        by_cases hjk : j = k
        · subst hjk; exact hjun
        · rw [getD_set_ne true hjk] at hun; exact hun
      refine wpOpIn_mono (fun a' w' h3 => ⟨h3.2.1, ih (listed.setIfInBounds j true) a' w' hfree' (ready_mono hr (Ne.symm hji)) h3.1 h3.2.1 ?_⟩) h2
      rw [Array.setIfInBounds_comm _ _ hji]
      exact h3.2.2

/-- Q, but nothing at a panic. -/
def NP (Q : Exit → Act → World → Prop) : Exit → Act → World → Prop
  | .panic _, _, _ => False
  | e, a, w => Q e a w
theorem NP.imp {Q : Exit → Act → World → Prop} : ∀ (e : Exit) (a : Act) (w : World), NP Q e a w → Q e a w := fun e a w h => by
  cases e <;> first | exact h | exact (h : False).elim

/-- The beginning; the region does not panic. -/
theorem region_any {id : Nat} {a : Act} {w : World} (S : World → Prop) (hm : P.follows .mixedOrders = true)
    (h : anyH F n P .any ops (NP Q) S ops.size (Array.replicate ops.size false) a w.drew) : (Code.region id ops true).wpIn F n P Q a w :=
  wpIn_mono (wpIn_region_any hm (any_of_anyH _ _ _ _ h)) NP.imp

theorem drew_alloc (w : World) (o : Obj) : w.drew.alloc o = (w.alloc o).drew := rfl
theorem drew_size (w : World) : w.drew.heap.size = w.heap.size := rfl

/-- Take number i first. -/
theorem anyH_take (i : Nat) {oi : Oper} {v : Value} {fuel : Nat} {listed : Array Bool} {a : Act} {w : World} (hi : ops[i]? = some oi)
    (hd : noDefer ops = true) (hs : Region.noSelect ops = true) (hf : Region.free md ops listed i = true) (hr : (Region.ready md ops listed).contains i = true)
    (hQ : ∀ c a w, Q (.panic c) (a.put oi.dst v) w → Q (.panic c) a w) (hy : Yld P ops S oi v a) (hS : S w)
    (h : anyH F n P md ops Q S fuel (listed.setIfInBounds i true) (a.put oi.dst v) w) : anyH F n P md ops Q S (fuel + 1) listed a w :=
  anyH_first hi hd (Region.noSelect_spec hs) hQ fuel listed a w (Region.free_spec hi hf) (by simpa using hr) hy hS h

/-- Number i alone may come up. -/
theorem anyH_one (i : Nat) {fuel : Nat} {listed : Array Bool} {a : Act} {w : World} {o : Oper} (hr : Region.ready md ops listed = [i]) (ho : ops[i]? = some o)
    (h : ∀ K : Act → World → Prop, (∀ a' w', S w' → anyH F n P md ops Q S fuel (listed.setIfInBounds i true) a' w' → K a' w') →
      if Region.wanted o (yielded ops a.tmps) = true then Oper.wpIn F n P o a w K Q else (∀ f, o.about P w a.eval = some f → F.fn f) ∧ K (a.put o.dst undef) w) : anyH F n P md ops Q S (fuel + 1) listed a w := by
  refine ⟨fun h0 => (by rw [hr] at h0; cases h0), fun j hj => ?_⟩
  rw [hr] at hj
  obtain rfl : j = i := by simpa using hj
  exact wpOpIn_step ho fun K' hK' => h K' fun a' w' hs ha => hK' a' w' ⟨hs, ha⟩

/-- All have come up. -/
theorem anyH_done {listed : Array Bool} {a : Act} {w : World} (hr : Region.ready md ops listed = []) (h : Q .normal a w) : ∀ fuel, anyH F n P md ops (NP Q) S fuel listed a w
  | 0 => ⟨hr, h⟩
  | _ + 1 => ⟨fun _ => h, by rw [hr]; simp⟩

end Go.Proofs.YtkjkfgmoogbdiaaGreatDoor

namespace Go.Proofs.YtkjkfgmoogbdiaaGreatDoor
open Go
variable {P : Program} {ops : Array Oper} {Q : Exit → Act → World → Prop} {md : Region.Mode} {S : World → Prop}

/-- The beginning; the region does not panic. -/
theorem pregion_any {id : Nat} {a : Act} {w : World} (S : World → Prop) (hm : P.follows .mixedOrders = true)
    (h : wpAnyH P .any ops (NoPanic Q) S ops.size (Array.replicate ops.size false) a w.drew) : (Code.region id ops true).wp P Q a w :=
  Code.wp_mono NoPanic.imp (wp_region_held hm h)

/-- Number i alone may come up. -/
theorem pone (i : Nat) {fuel : Nat} {listed : Array Bool} {a : Act} {w : World} {o : Oper} (hr : Region.ready md ops listed = [i]) (ho : ops[i]? = some o)
    (h : ∀ K : Act → World → Prop, (∀ a' w', S w' → wpAnyH P md ops Q S fuel (listed.setIfInBounds i true) a' w' → K a' w') →
      if Region.wanted o (yielded ops a.tmps) = true then Oper.wp P o a w K Q else K (a.put o.dst undef) w) : wpAnyH P md ops Q S (fuel + 1) listed a w :=
  wpAnyH_all hr (by simp) (AllReadyH.cons ho (fun K hK => h K fun a' w' hs ha => hK.out a' w' hs fun _ => ha) AllReadyH.nil)

/-- All have come up. -/
theorem pdone {listed : Array Bool} {a : Act} {w : World} (hr : Region.ready md ops listed = []) (h : Q .normal a w) : ∀ fuel, wpAnyH P md ops (NoPanic Q) S fuel listed a w :=
  wpAnyH_done hr h

/-- What has come up, as a literal. -/
theorem plist (L : Array Bool) {fuel : Nat} {listed : Array Bool} {a : Act} {w : World} (he : listed = L) (h : wpAnyH P md ops Q S fuel L a w) : wpAnyH P md ops Q S fuel listed a w := he ▸ h

end Go.Proofs.YtkjkfgmoogbdiaaGreatDoor

namespace Go.Proofs.YtkjkfgmoogbdiaaGreatDoor
open Go.RowKit

/-- A great letter made small. -/
def low (b : UInt8) : UInt8 := if 65 ≤ b.toNat ∧ b.toNat ≤ 90 then b + 32 else b
def digitB (b : UInt8) : Bool := decide (48 ≤ b.toNat ∧ b.toNat ≤ 57)
def blankB (b : UInt8) : Bool := decide (b.toNat = 32 ∨ b.toNat = 9)

theorem u8_lt (b : UInt8) : b.toNat < 256 := b.toNat_lt
theorem low_hi (b : UInt8) (h1 : 65 ≤ b.toNat) (h2 : b.toNat ≤ 90) : (((low b).toNat : Nat) : Int) = (b.toNat : Int) + 32 := by
  unfold low
  rw [if_pos ⟨h1, h2⟩, UInt8.toNat_add]
  have : (32 : UInt8).toNat = 32 := rfl
  rw [this]
  omega
theorem low_lo (b : UInt8) (h : ¬ (65 ≤ b.toNat ∧ b.toNat ≤ 90)) : low b = b := by
  unfold low
  rw [if_neg h]

theorem lowerByte_any (b : UInt8) (w : World) :
    Calls Tryz.prog 178 #[.int .u8 (b.toNat : Int)] w fun e w' => e = .returned (.int .u8 ((low b).toNat : Int)) ∧ w = w' := by
  have hb := u8_lt b
  by_cases h1 : 65 ≤ b.toNat
  · by_cases h2 : b.toNat ≤ 90
    · have H := Lib.hid (low_hi b h1 h2)
      have d1 : decide ((65 : Int) ≤ (b.toNat : Int)) = true := by simp; omega
      have d2 : decide ((b.toNat : Int) ≤ (90 : Int)) = true := by simp; omega
      go_enter Tryz.func178, Tryz.ntmps178
      go_wp2
      go_ret
      exact ⟨(by rw [H.out]; try rfl), rfl⟩
    · have H := Lib.hid (low_lo b (by omega))
      have d2 : decide ((b.toNat : Int) ≤ (90 : Int)) = false := by simp; omega
      go_enter Tryz.func178, Tryz.ntmps178
      go_wp2
      go_ret
      exact ⟨(by rw [H.out]; try rfl), rfl⟩
  · have H := Lib.hid (low_lo b (by omega))
    have d1 : decide ((65 : Int) ≤ (b.toNat : Int)) = false := by simp; omega
    go_enter Tryz.func178, Tryz.ntmps178
    go_wp2
    go_ret
    exact ⟨(by rw [H.out]; try rfl), rfl⟩

theorem isDigit_any (b : UInt8) (w : World) :
    Calls Tryz.prog 158 #[.int .u8 (b.toNat : Int)] w fun e w' => e = .returned (.bool (digitB b)) ∧ w = w' := by
  have hb := u8_lt b
  by_cases h1 : 48 ≤ b.toNat
  · by_cases h2 : b.toNat ≤ 57
    · have H := Lib.hid (show digitB b = true by simp [digitB]; omega)
      have d1 : decide ((48 : Int) ≤ (b.toNat : Int)) = true := by simp; omega
      have d2 : decide ((b.toNat : Int) ≤ (57 : Int)) = true := by simp; omega
      go_enter Tryz.func158, Tryz.ntmps158
      go_wp2
      go_ret
      exact ⟨(by rw [H.out]; try rfl), rfl⟩
    · have H := Lib.hid (show digitB b = false by simp [digitB]; omega)
      have d2 : decide ((b.toNat : Int) ≤ (57 : Int)) = false := by simp; omega
      go_enter Tryz.func158, Tryz.ntmps158
      go_wp2
      go_ret
      exact ⟨(by rw [H.out]; try rfl), rfl⟩
  · have H := Lib.hid (show digitB b = false by simp [digitB]; omega)
    have d1 : decide ((48 : Int) ≤ (b.toNat : Int)) = false := by simp; omega
    go_enter Tryz.func158, Tryz.ntmps158
    go_wp2
    go_ret
    exact ⟨(by rw [H.out]; try rfl), rfl⟩

end Go.Proofs.YtkjkfgmoogbdiaaGreatDoor

namespace Go.Proofs.YtkjkfgmoogbdiaaGreatDoor.Ref

theorem u8_lt (b : UInt8) : b.toNat < 256 := b.toNat_lt
/-- Each byte is one of 256. -/
theorem all_u8 {p : UInt8 → Prop} (h : ∀ i : Fin 256, p (UInt8.ofNat i.1)) (b : UInt8) : p b := by
  have h1 := h ⟨b.toNat, u8_lt b⟩
  rwa [UInt8.ofNat_toNat] at h1

def decB (b : UInt8) : Bool := decide (48 ≤ b.toNat ∧ b.toNat ≤ 57)
def letB (b : UInt8) : Bool := decide ((65 ≤ b.toNat ∧ b.toNat ≤ 90) ∨ (97 ≤ b.toNat ∧ b.toNat ≤ 122))
theorem decB_of (b : UInt8) : decB b = true ↔ 48 ≤ b.toNat ∧ b.toNat ≤ 57 := by simp [decB]
/-- A great letter made small. -/
def low (b : UInt8) : UInt8 := if 65 ≤ b.toNat ∧ b.toNat ≤ 90 then b + 32 else b
def lowL (l : List UInt8) : List UInt8 := l.map low
theorem low_lo (b : UInt8) (h : ¬ (65 ≤ b.toNat ∧ b.toNat ≤ 90)) : low b = b := by unfold low; rw [if_neg h]
theorem lowL_length (l : List UInt8) : (lowL l).length = l.length := by simp [lowL]
theorem low_low (b : UInt8) : low (low b) = low b := all_u8 (p := fun b => low (low b) = low b) (by decide +kernel) b
theorem lowL_lowL (l : List UInt8) : lowL (lowL l) = lowL l := by
  unfold lowL; rw [List.map_map]; apply List.map_congr_left; intro b _; exact low_low b
theorem drop_cons (l : List UInt8) (k : Nat) (h : k < l.length) : l.drop k = l.getD k 0 :: l.drop (k + 1) := by
  rw [List.drop_eq_getElem_cons h]; simp [List.getD, List.getElem?_eq_getElem h]
/-- The number that digits write, from n on. -/
def numGo (most : Int) : List UInt8 → Int → Option Int
  | [], n => some n
  | b :: r, n => if decB b = true ∧ (b.toNat : Int) - 48 ≤ most ∧ n ≤ (most - ((b.toNat : Int) - 48)) / 10 then numGo most r (n * 10 + ((b.toNat : Int) - 48)) else none
def numOf (most : Int) (l : List UInt8) : Option Int :=
  if l = [] ∨ (1 < l.length ∧ (l.getD 0 0).toNat = 48) then none else numGo most l 0

/-- A text put ahead of the first piece. -/
def onto (x : List UInt8) : List (List UInt8) → List (List UInt8)
  | [] => [x]
  | p :: r => (x ++ p) :: r
/-- The pieces between the bytes c. -/
def splitL (c : UInt8) : List UInt8 → List (List UInt8)
  | [] => [[]]
  | b :: r => if b = c then [] :: splitL c r else onto [b] (splitL c r)
theorem onto_nil (l : List (List UInt8)) (h : l ≠ []) : onto [] l = l := by
  cases l with
  | nil => exact absurd rfl h
  | cons p r => rfl
theorem onto_onto (x y : List UInt8) (l : List (List UInt8)) (h : l ≠ []) : onto x (onto y l) = onto (x ++ y) l := by
  cases l with
  | nil => exact absurd rfl h
  | cons p r => simp [onto]
theorem onto_ne (x : List UInt8) (l : List (List UInt8)) : onto x l ≠ [] := by cases l <;> simp [onto]
theorem split_ne (c : UInt8) (l : List UInt8) : splitL c l ≠ [] := by
  cases l with
  | nil => simp [splitL]
  | cons b r => unfold splitL; split; simp; exact onto_ne _ _
theorem onto_len (x : List UInt8) (l : List (List UInt8)) (h : l ≠ []) : (onto x l).length = l.length := by
  cases l with
  | nil => exact absurd rfl h
  | cons p r => rfl
theorem split_len (c : UInt8) : ∀ l : List UInt8, (splitL c l).length ≤ l.length + 1
  | [] => Nat.le_refl _
  | b :: r => by
    have := split_len c r
    unfold splitL
    split
    · simp only [List.length_cons]; omega
    · rw [onto_len _ _ (split_ne c r), List.length_cons]; omega
theorem split_is (c : UInt8) (r : List UInt8) : splitL c (c :: r) = [] :: splitL c r := by rw [splitL.eq_2, if_pos rfl]
theorem split_not (c b : UInt8) (r : List UInt8) (h : b ≠ c) : splitL c (b :: r) = onto [b] (splitL c r) := by rw [splitL.eq_2, if_neg h]
/-- Pieces with the byte c between them. -/
def joinL (c : UInt8) : List (List UInt8) → List UInt8
  | [] => []
  | [p] => p
  | p :: q :: r => p ++ c :: joinL c (q :: r)
theorem join_onto (c : UInt8) (x : List UInt8) (l : List (List UInt8)) : joinL c (onto x l) = x ++ joinL c l := by
  match l with
  | [] => simp [onto, joinL]
  | [p] => simp [onto, joinL]
  | p :: q :: r => simp [onto, joinL]
theorem join_nil (c : UInt8) (l : List (List UInt8)) (h : l ≠ []) : joinL c ([] :: l) = c :: joinL c l := by
  cases l with
  | nil => exact absurd rfl h
  | cons p r => rfl
theorem join_split (c : UInt8) : ∀ l : List UInt8, joinL c (splitL c l) = l
  | [] => rfl
  | b :: r => by
    by_cases h : b = c
    · subst h; rw [split_is, join_nil _ _ (split_ne b r), join_split b r]
    · rw [split_not c b r h, join_onto, join_split c r]; rfl
/-- What stands from each piece on. -/
def fromL (c : UInt8) : List (List UInt8) → List (List UInt8)
  | [] => []
  | p :: r => joinL c (p :: r) :: fromL c r

end Go.Proofs.YtkjkfgmoogbdiaaGreatDoor.Ref

namespace Go.Proofs.YtkjkfgmoogbdiaaGreatDoor.Pct

theorem u8_lt (b : UInt8) : b.toNat < 256 := b.toNat_lt
/-- Each byte is one of 256. -/
theorem all_u8 {p : UInt8 → Prop} (h : ∀ i : Fin 256, p (UInt8.ofNat i.1)) (b : UInt8) : p b := by
  have h1 := h ⟨b.toNat, u8_lt b⟩
  rwa [UInt8.ofNat_toNat] at h1

def inB (b : UInt8) (l : List UInt8) : Bool := l.contains b
def decB (b : UInt8) : Bool := decide (48 ≤ b.toNat ∧ b.toNat ≤ 57)
def letB (b : UInt8) : Bool := decide ((65 ≤ b.toNat ∧ b.toNat ≤ 90) ∨ (97 ≤ b.toNat ∧ b.toNat ≤ 122))
def hexB (b : UInt8) : Bool := decide ((48 ≤ b.toNat ∧ b.toNat ≤ 57) ∨ (65 ≤ b.toNat ∧ b.toNat ≤ 70) ∨ (97 ≤ b.toNat ∧ b.toNat ≤ 102))
def freeM : List UInt8 := [45, 46, 95, 126]
def pathM : List UInt8 := [47, 58, 64, 33, 36, 38, 39, 40, 41, 42, 43, 44, 59, 61]
def queryM : List UInt8 := [47, 58, 64, 33, 36, 38, 39, 40, 41, 42, 43, 44, 59, 61, 63]
def freeB (b : UInt8) : Bool := letB b || decB b || inB b freeM
def marksM (p : Int) : List UInt8 := if p = 1 then pathM else if p = 2 then queryM else []
def standsB (p : Int) (b : UInt8) : Bool := freeB b || inB b (marksM p)
def digs : List UInt8 := [48, 49, 50, 51, 52, 53, 54, 55, 56, 57, 65, 66, 67, 68, 69, 70]
def dg (n : Nat) : UInt8 := digs.getD n 0
/-- A byte as it is, or as a percent sign and two digits. -/
def putL (s : Bool) (b : UInt8) : List UInt8 := if s then [b] else [37, dg (b.toNat / 16), dg (b.toNat % 16)]
def worth (b : UInt8) : UInt8 := if decB b then b - 48 else if 97 ≤ b.toNat then b - 97 + 10 else b - 65 + 10
def pairV (x y : UInt8) : UInt8 := (worth x <<< 4) ||| worth y
/-- What a text stands for; each byte with whether it stood there encoded. -/
def itemsL : List UInt8 → Option (List (UInt8 × Bool))
  | [] => some []
  | b :: r => if b = 37 then (match r with
      | x :: y :: t => if hexB x && hexB y then (itemsL t).map ((pairV x y, true) :: ·) else none
      | _ => none) else (itemsL r).map ((b, false) :: ·)
def dig2 : List UInt8 → Bool
  | x :: y :: _ => hexB x && hexB y
  | _ => false
def wholeL : List UInt8 → Bool
  | [] => true
  | b :: r => (b != 37 || dig2 r) && wholeL r
def canB (p : Int) (x : UInt8 × Bool) : Bool := freeB x.1 || (!x.2 && standsB p x.1)
def canL (p : Int) (m : List (UInt8 × Bool)) : List UInt8 := m.flatMap fun x => putL (canB p x) x.1
theorem items_nil : itemsL [] = some [] := rfl
theorem items_as (b : UInt8) (r : List UInt8) (h : b ≠ 37) : itemsL (b :: r) = (itemsL r).map ((b, false) :: ·) := by
  rw [itemsL.eq_def]; simp only [if_neg h]
theorem items_coded (x y : UInt8) (t : List UInt8) (h : hexB x = true) (h' : hexB y = true) : itemsL (37 :: x :: y :: t) = (itemsL t).map ((pairV x y, true) :: ·) := by
  rw [itemsL.eq_def]; simp [h, h']
theorem items_bad (r : List UInt8) (h : dig2 r = false) : itemsL (37 :: r) = none := by
  rw [itemsL.eq_def]
  match r with
  | [] => rfl
  | [_] => rfl
  | x :: y :: t => unfold dig2 at h; simp [h]

theorem dig2_cons (r : List UInt8) (h : dig2 r = true) : ∃ x y t, r = x :: y :: t ∧ hexB x = true ∧ hexB y = true := by
  match r, h with
  | x :: y :: t, h => unfold dig2 at h; rw [Bool.and_eq_true] at h; exact ⟨x, y, t, rfl, h.1, h.2⟩
theorem hex_sign : hexB 37 = false := by decide
theorem hex_ne (x : UInt8) (h : hexB x = true) : x ≠ 37 := by rintro rfl; rw [hex_sign] at h; cases h
theorem whole_cons (b : UInt8) (r : List UInt8) : wholeL (b :: r) = ((b != 37 || dig2 r) && wholeL r) := rfl
theorem whole_skip (x : UInt8) (t : List UInt8) (h : hexB x = true) : wholeL (x :: t) = wholeL t := by
  have := hex_ne x h
  rw [whole_cons]
  simp [this]

theorem whole_items : ∀ l : List UInt8, wholeL l = (itemsL l).isSome
  | [] => rfl
  | b :: r => by
    by_cases hb : b = 37
    · subst hb
      cases hd : dig2 r with
      | false => rw [items_bad r hd, whole_cons, hd]; rfl
      | true =>
        obtain ⟨x, y, t, rfl, hx, hy⟩ := dig2_cons r hd
        rw [items_coded x y t hx hy, Option.isSome_map, ← whole_items t]
        rw [whole_cons, hd, whole_skip x _ hx, whole_skip y _ hy]; simp
    · rw [items_as b r hb, Option.isSome_map, ← whole_items r, whole_cons]
      simp [hb]
  termination_by l => l.length

theorem whole_some (l : List UInt8) (h : wholeL l = true) : ∃ m, itemsL l = some m := by
  rw [whole_items] at h
  exact Option.isSome_iff_exists.1 h
theorem whole_none (l : List UInt8) (h : wholeL l = false) : itemsL l = none := by
  rw [whole_items] at h
  simpa using h

theorem free_sign : freeB 37 = false := by decide
theorem stands_sign (p : Int) : standsB p 37 = false := by
  unfold standsB marksM
  rw [free_sign]
  split
  · decide
  · split <;> decide
theorem hex_dg : ∀ i : Fin 16, hexB (dg i.1) = true := by decide +kernel
theorem pair_dg (b : UInt8) : pairV (dg (b.toNat / 16)) (dg (b.toNat % 16)) = b :=
  all_u8 (p := fun b => pairV (dg (b.toNat / 16)) (dg (b.toNat % 16)) = b) (by decide +kernel) b

theorem items_put (s : Bool) (b : UInt8) (r : List UInt8) (h : s = true → b ≠ 37) : itemsL (putL s b ++ r) = (itemsL r).map ((b, !s) :: ·) := by
  have hb := u8_lt b
  cases s with
  | true => exact items_as b r (h rfl)
  | false =>
    have h1 := hex_dg ⟨b.toNat / 16, by omega⟩
    have h2 := hex_dg ⟨b.toNat % 16, by omega⟩
    have h3 := items_coded _ _ r h1 h2
    simp only [pair_dg] at h3
    exact h3

theorem can_ne (p : Int) (x : UInt8 × Bool) (h : canB p x = true) : x.1 ≠ 37 := by
  intro hx
  unfold canB at h
  rw [hx, free_sign, stands_sign] at h
  simp at h
theorem can_items (p : Int) : ∀ m : List (UInt8 × Bool), itemsL (canL p m) = some (m.map fun x => (x.1, !canB p x))
  | [] => rfl
  | x :: r => by
    have h : canL p (x :: r) = putL (canB p x) x.1 ++ canL p r := rfl
    rw [h, items_put _ _ _ (can_ne p x), can_items p r]; rfl
theorem can_can (p : Int) (x : UInt8 × Bool) : canB p (x.1, !canB p x) = canB p x := by
  unfold canB
  cases hf : freeB x.1 <;> cases hs : standsB p x.1 <;> cases x.2 <;> simp
theorem can_twice (p : Int) (m : List (UInt8 × Bool)) : canL p (m.map fun x => (x.1, !canB p x)) = canL p m := by
  unfold canL
  rw [List.flatMap_map]
  congr 1
  funext x
  rw [can_can]
theorem put_len (s : Bool) (b : UInt8) : (putL s b).length ≤ 3 := by cases s <;> simp [putL]
theorem can_len (p : Int) : ∀ m : List (UInt8 × Bool), (canL p m).length ≤ 3 * m.length
  | [] => Nat.le_refl _
  | x :: r => by
    have h : canL p (x :: r) = putL (canB p x) x.1 ++ canL p r := rfl
    have := put_len (canB p x) x.1
    have := can_len p r
    rw [h, List.length_append, List.length_cons]; omega
theorem items_len : ∀ (l : List UInt8) (m : List (UInt8 × Bool)), itemsL l = some m → m.length ≤ l.length
  | [], m, h => by rw [items_nil] at h; cases h; exact Nat.le_refl _
  | b :: r, m, h => by
    by_cases hb : b = 37
    · subst hb
      cases hd : dig2 r with
      | false => rw [items_bad r hd] at h; cases h
      | true =>
        obtain ⟨x, y, t, rfl, hx, hy⟩ := dig2_cons r hd
        rw [items_coded x y t hx hy] at h
        cases ht : itemsL t with
        | none => rw [ht] at h; cases h
        | some m' =>
          rw [ht] at h; cases h
          have := items_len t m' ht
          simp only [List.length_cons]; omega
    · rw [items_as b r hb] at h
      cases ht : itemsL r with
      | none => rw [ht] at h; cases h
      | some m' =>
        rw [ht] at h; cases h
        have := items_len r m' ht
        simp only [List.length_cons]; omega
  termination_by l => l.length

/-- A round of an iterator over what a text stands for. -/
theorem items_step (l : List UInt8) (k : Nat) (m : List (UInt8 × Bool)) (hk : k < l.length) (h : itemsL (l.drop k) = some m) :
    (l.getD k 0 ≠ 37 ∧ ∃ m', m = (l.getD k 0, false) :: m' ∧ itemsL (l.drop (k + 1)) = some m') ∨
    (l.getD k 0 = 37 ∧ k + 2 < l.length ∧ hexB (l.getD (k + 1) 0) = true ∧ hexB (l.getD (k + 2) 0) = true ∧ ∃ m', m = (pairV (l.getD (k + 1) 0) (l.getD (k + 2) 0), true) :: m' ∧ itemsL (l.drop (k + 3)) = some m') := by
  have hd : l.drop k = l.getD k 0 :: l.drop (k + 1) := by
    rw [List.drop_eq_getElem_cons hk]; simp [List.getD, List.getElem?_eq_getElem hk]
  rw [hd] at h
  by_cases hb : l.getD k 0 = 37
  · refine .inr ⟨hb, ?_⟩
    rw [hb] at h
    cases h2 : dig2 (l.drop (k + 1)) with
    | false => rw [items_bad _ h2] at h; cases h
    | true =>
      obtain ⟨x, y, t, ht, hx, hy⟩ := dig2_cons _ h2
      have hlen : (l.drop (k + 1)).length = (x :: y :: t).length := by rw [ht]
      simp only [List.length_drop, List.length_cons] at hlen
      have e1 : l.getD (k + 1) 0 = x := by
        have : (l.drop (k + 1)).getD 0 0 = x := by rw [ht]; rfl
        rw [← this]; simp [List.getD, List.getElem?_drop]
      have e2 : l.getD (k + 2) 0 = y := by
        have : (l.drop (k + 1)).getD 1 0 = y := by rw [ht]; rfl
        rw [← this]; simp [List.getD, List.getElem?_drop, Nat.add_assoc]
      have e3 : l.drop (k + 3) = t := by
        have : (l.drop (k + 1)).drop 2 = t := by rw [ht]; rfl
        rw [← this, List.drop_drop]
      rw [ht, items_coded x y t hx hy] at h
      rw [e1, e2, e3]
      cases hi : itemsL t with
      | none => rw [hi] at h; cases h
      | some m' => rw [hi] at h; cases h; exact ⟨by omega, hx, hy, m', rfl, rfl⟩
  · refine .inl ⟨hb, ?_⟩
    rw [items_as _ _ hb] at h
    cases hi : itemsL (l.drop (k + 1)) with
    | none => rw [hi] at h; cases h
    | some m' => rw [hi] at h; cases h; exact ⟨m', rfl, rfl⟩

end Go.Proofs.YtkjkfgmoogbdiaaGreatDoor.Pct

namespace Go.Proofs.YtkjkfgmoogbdiaaGreatDoor

theorem Lin.irr {α : Type} [LT α] [LE α] [Std.IsLinearOrder α] [Std.LawfulOrderLT α] (a : α) : ¬ a < a := Std.lt_irrefl
theorem Lin.tr {α : Type} [LT α] [LE α] [Std.IsLinearOrder α] [Std.LawfulOrderLT α] {a b c : α} (h : a < b) (k : b < c) : a < c := Std.lt_trans h k
theorem Lin.tri {α : Type} [LT α] [LE α] [Std.IsLinearOrder α] [Std.LawfulOrderLT α] (a b : α) : a < b ∨ a = b ∨ b < a := Std.lt_trichotomy a b

theorem lin_asym {α : Type} [LT α] [LE α] [Std.IsLinearOrder α] [Std.LawfulOrderLT α] {a b : α} (h : a < b) : ¬ b < a := fun k => Lin.irr a (Lin.tr h k)
theorem lin_ne {α : Type} [LT α] [LE α] [Std.IsLinearOrder α] [Std.LawfulOrderLT α] {a b : α} (h : a < b) : a ≠ b := fun e => Lin.irr a (by rw [e] at h ⊢; exact h)
theorem lin_eq {α : Type} [LT α] [LE α] [Std.IsLinearOrder α] [Std.LawfulOrderLT α] {a b : α} (h : ¬ a < b) (k : ¬ b < a) : a = b := by
  rcases Lin.tri a b with x | x | x
  · exact absurd x h
  · exact x
  · exact absurd x k

/-- Rising, each once. -/
def Rises {α : Type} [LT α] (xs : List α) : Prop := xs.Pairwise (· < ·)
theorem Rises.tail {α : Type} [LT α] [DecidableEq α] [DecidableLT α] [LE α] [Std.IsLinearOrder α] [Std.LawfulOrderLT α] {x : α} {xs : List α} (h : Rises (x :: xs)) : Rises xs := (List.pairwise_cons.1 h).2
theorem Rises.head {α : Type} [LT α] [DecidableEq α] [DecidableLT α] [LE α] [Std.IsLinearOrder α] [Std.LawfulOrderLT α] {x : α} {xs : List α} (h : Rises (x :: xs)) : ∀ y ∈ xs, x < y := (List.pairwise_cons.1 h).1
theorem Rises.nil {α : Type} [LT α] [DecidableEq α] [DecidableLT α] [LE α] [Std.IsLinearOrder α] [Std.LawfulOrderLT α] : Rises ([] : List α) := List.Pairwise.nil
theorem Rises.cons {α : Type} [LT α] [DecidableEq α] [DecidableLT α] [LE α] [Std.IsLinearOrder α] [Std.LawfulOrderLT α] {x : α} {xs : List α} (h : ∀ y ∈ xs, x < y) (k : Rises xs) : Rises (x :: xs) := List.pairwise_cons.2 ⟨h, k⟩
theorem Rises.notmem {α : Type} [LT α] [DecidableEq α] [DecidableLT α] [LE α] [Std.IsLinearOrder α] [Std.LawfulOrderLT α] {x : α} {xs : List α} (h : Rises (x :: xs)) : x ∉ xs := fun hm => Lin.irr x (h.head x hm)

/-- Two rising lists of the same are the same. -/
theorem rises_ext {α : Type} [LT α] [DecidableEq α] [DecidableLT α] [LE α] [Std.IsLinearOrder α] [Std.LawfulOrderLT α] : ∀ {xs ys : List α}, Rises xs → Rises ys → (∀ a, a ∈ xs ↔ a ∈ ys) → xs = ys
  | [], [], _, _, _ => rfl
  | [], y :: ys, _, _, h => absurd ((h y).2 (by simp)) (by simp)
  | x :: xs, [], _, _, h => absurd ((h x).1 (by simp)) (by simp)
  | x :: xs, y :: ys, hx, hy, h => by
    have e : x = y := by
      have h1 := (h x).1 (by simp)
      have h2 := (h y).2 (by simp)
      rcases List.mem_cons.1 h1 with h1 | h1
      · exact h1
      · rcases List.mem_cons.1 h2 with h2 | h2
        · exact h2.symm
        · exact absurd (hy.head x h1) (lin_asym (hx.head y h2))
    subst e
    rw [rises_ext hx.tail hy.tail fun a => ?_]
    constructor
    · intro ha
      rcases List.mem_cons.1 ((h a).1 (List.mem_cons_of_mem _ ha)) with rfl | h'
      · exact absurd ha hx.notmem
      · exact h'
    · intro ha
      rcases List.mem_cons.1 ((h a).2 (List.mem_cons_of_mem _ ha)) with rfl | h'
      · exact absurd ha hy.notmem
      · exact h'

/-- The values of two lists, each with where it is. -/
def mrg {α : Type} [LT α] [DecidableLT α] : List α → List α → List (Nat × α)
  | [], [] => []
  | x :: xs, [] => (1, x) :: mrg xs []
  | [], y :: ys => (2, y) :: mrg [] ys
  | x :: xs, y :: ys => if x < y then (1, x) :: mrg xs (y :: ys) else if y < x then (2, y) :: mrg (x :: xs) ys else (3, x) :: mrg xs ys
  termination_by xs ys => xs.length + ys.length

/-- What stands at c of these two. -/
def At {α : Type}  (xs ys : List α) (c : Nat) (a : α) : Prop := (c = 1 ∧ a ∈ xs ∧ a ∉ ys) ∨ (c = 2 ∧ a ∈ ys ∧ a ∉ xs) ∨ (c = 3 ∧ a ∈ xs ∧ a ∈ ys)

theorem mem_mrg {α : Type} [LT α] [DecidableEq α] [DecidableLT α] [LE α] [Std.IsLinearOrder α] [Std.LawfulOrderLT α] : ∀ (xs ys : List α), Rises xs → Rises ys → ∀ c a, (c, a) ∈ mrg xs ys ↔ At xs ys c a
  | [], [], _, _, c, a => by unfold mrg At; simp
  | x :: xs, [], hx, hy, c, a => by
    unfold mrg
    rw [List.mem_cons, mem_mrg xs [] hx.tail hy]
    unfold At
    simp
    by_cases e : a = x <;> simp [e]
    · subst e; intro h _; exact h
  | [], y :: ys, hx, hy, c, a => by
    unfold mrg
    rw [List.mem_cons, mem_mrg [] ys hx hy.tail]
    unfold At
    simp
    by_cases e : a = y <;> simp [e]
    · subst e; intro h _; exact h
  | x :: xs, y :: ys, hx, hy, c, a => by
    unfold mrg
    split
    · rename_i h
      have nx : x ∉ y :: ys := fun hm => by
        rcases List.mem_cons.1 hm with rfl | hm
        · exact Lin.irr _ h
        · exact lin_asym h (hy.head x hm)
      rw [List.mem_cons, mem_mrg xs (y :: ys) hx.tail hy]
      unfold At
      by_cases e : a = x
      · subst e
        have := hx.notmem
        simp only [Prod.mk.injEq, and_true, this, nx, List.mem_cons_self, not_false_eq_true, not_true_eq_false, and_false, or_false]
      · simp only [Prod.mk.injEq, e, and_false, false_or, List.mem_cons]
    · rename_i h
      split
      · rename_i k
        have ny : y ∉ x :: xs := fun hm => by
          rcases List.mem_cons.1 hm with rfl | hm
          · exact Lin.irr _ k
          · exact lin_asym k (hx.head y hm)
        rw [List.mem_cons, mem_mrg (x :: xs) ys hx hy.tail]
        unfold At
        by_cases e : a = y
        · subst e
          have := hy.notmem
          simp only [Prod.mk.injEq, and_true, this, ny, List.mem_cons_self, not_false_eq_true, not_true_eq_false, and_false, or_false, false_or]
        · simp only [Prod.mk.injEq, e, and_false, false_or, List.mem_cons]
      · rename_i k
        obtain rfl := lin_eq h k
        rw [List.mem_cons, mem_mrg xs ys hx.tail hy.tail]
        unfold At
        by_cases e : a = x
        · subst e
          have h1 := hx.notmem
          have h2 := hy.notmem
          simp only [Prod.mk.injEq, and_true, h1, h2, List.mem_cons_self, not_false_eq_true, not_true_eq_false, and_false, or_false, false_or]
        · simp only [Prod.mk.injEq, e, and_false, false_or, List.mem_cons]
  termination_by xs ys => xs.length + ys.length

/-- Are all of the one in the other? -/
def subB {α : Type} [DecidableEq α] (xs ys : List α) : Bool := xs.all fun a => ys.contains a
theorem subB_iff {α : Type} [DecidableEq α] (xs ys : List α) : subB xs ys = true ↔ ∀ a ∈ xs, a ∈ ys := by
  unfold subB; simp [List.all_eq_true]
theorem subB_of {α : Type} [LT α] [DecidableEq α] [DecidableLT α] [LE α] [Std.IsLinearOrder α] [Std.LawfulOrderLT α] (xs ys : List α) (hx : Rises xs) (hy : Rises ys) : subB xs ys = !(mrg xs ys).any fun p => p.1 == 1 := by
  rw [Bool.eq_iff_iff, subB_iff, Bool.not_eq_true', List.any_eq_false]
  constructor
  · rintro h ⟨c, a⟩ hm hc
    obtain rfl : c = 1 := by simpa using hc
    rcases (mem_mrg xs ys hx hy 1 a).1 hm with k | k | k
    · exact k.2.2 (h a k.2.1)
    · exact absurd k.1 (by decide)
    · exact absurd k.1 (by decide)
  · intro h a ha
    by_cases k : a ∈ ys
    · exact k
    · exact absurd (by simp) (h (1, a) ((mem_mrg xs ys hx hy 1 a).2 (.inl ⟨rfl, ha, k⟩)))

/-- Which is less? -/
def cmpL {α : Type} [LT α] [DecidableLT α] : List α → List α → Int
  | [], [] => 0
  | [], _ :: _ => -1
  | _ :: _, [] => 1
  | x :: xs, y :: ys => if x < y then -1 else if y < x then 1 else cmpL xs ys
end Go.Proofs.YtkjkfgmoogbdiaaGreatDoor

namespace Go.Proofs.YtkjkfgmoogbdiaaGreatDoor.Frm
open Go.RowKit Go.Shelf Go.Sort
theorem cmpInt (x y : Int) (w : World) : Calls Tryz.prog 101 #[.int .i64 x, .int .i64 y] w fun e w' => e = .returned (.int .i64 (Lib.compareInt x y)) ∧ w' = w :=
  AnyG.cmp_Compare_int Tryz.cmpLays x y w
theorem sortNone (fv : Value) (w : World) : Calls Tryz.prog 82 #[.slice none 0 0, fv] w fun e w' => e = .returned (.tuple #[]) ∧ w' = w :=
  AnyF.slices_SortFunc_none Tryz.sortLays none 0 fv w
theorem sortCls {α : Type} [Inhabited α] (enc : α → List Value) (hk : ∀ x, (enc x).length = 1) (h1 : ∀ x, ∀ v ∈ enc x, v.oneCell' = true) (cf : α → α → Int) (hO : SWO (ltOf cf)) (g : Nat) (cb : Array Value) (blk off cap : Nat) (d : Array α) (w : World)
    (eg : ∀ args w, (callFunc g args).run Tryz.prog w = .ok (.enter g args) w) (hcmp : CmpLays Tryz.prog g cb enc 1 cf blk off d.size w) (hH : HoldsK enc 1 w blk off d) (hblk : blk < w.heap.size) (hsz : d.size < 4611686018427387904) :
    Calls Tryz.prog 82 #[.slice (some ⟨blk, off, none⟩) d.size cap, .func (.func g) #[] cb] w fun e w' => e = .returned (.tuple #[]) ∧ ∃ d' n os, PermIn 0 d.size d d' ∧ SortedIn (ltOf cf) 0 d.size d' ∧ w' = sortWorldK enc 1 w blk off n d' os :=
  AnyQ.slices_SortFunc Tryz.sortLays 1 Tryz.isAgg112 Tryz.sizeOf112 enc hk h1 cf hO g cb blk off cap d w eg hcmp hH hblk hsz
end Go.Proofs.YtkjkfgmoogbdiaaGreatDoor.Frm

namespace Go.Proofs.YtkjkfgmoogbdiaaGreatDoor.blobSees
open Go.ChangeShapes Go.WideShapes Go.ChangeAt Go.RowKit
set_option linter.unusedVariables false

theorem own : ownKnob Tryz.prog.godebug = none := by kernel_rfl
theorem laidOut : laidOutB Tryz.prog = true := by kernel_rfl
theorem gTab : Tryz.prog.globalNamed "internal/strconv.uint64pow10" = some 3 := by kernel_rfl

def IsRow (k : IntKind) (w : World) (a : Option Addr) (len cap : Nat) (zs : List Int) : Prop :=
  (a = none ∧ len = 0 ∧ cap = 0 ∧ zs = []) ∨
  ∃ x, a = some x ∧ len ≤ cap ∧ cap ≤ maxLen ∧ zs.length = cap ∧ (∀ i, i < zs.length → w.cell? (x.add i) = some (.int k (zs.getD i 0))) ∧ ∀ n ∈ zs, (Lit.int k n).wf = true

/-- The law's walk. -/
def Walks : Prop := ∀ (a0 : Option Addr) (len0 cap0 : Nat) (z0 : List Int) (a1 : Option Addr) (len1 cap1 : Nat) (z1 : List Int) (a2 : Option Addr) (len2 cap2 : Nat) (z2 : List Int) (a3 : Option Addr) (len3 cap3 : Nat) (z3 : List Int) (a4 : Option Addr) (len4 cap4 : Nat) (z4 : List Int) (a5 : Option Addr) (len5 cap5 : Nat) (z5 : List Int) (w : World), IsRow .u8 w a0 len0 cap0 z0 → IsRow .u8 w a1 len1 cap1 z1 → IsRow .u8 w a2 len2 cap2 z2 → IsRow .u8 w a3 len3 cap3 z3 → IsRow .u8 w a4 len4 cap4 z4 → IsRow .u8 w a5 len5 cap5 z5 → Url.Gl w →
  Calls Tryz.prog 4 #[.slice a0 len0 cap0, .slice a1 len1 cap1, .slice a2 len2 cap2, .slice a3 len3 cap3, .slice a4 len4 cap4, .slice a5 len5 cap5] w fun e w' => e = .returned (.bool true) ∧ Below w.heap.size w w'

theorem gl {W : World} (hL : laidMetH Tryz.prog Rows.blobSeesRow.laid W) (hsh : W.ShapedOpen Tryz.prog) : Url.Gl W := by
  refine ⟨?_, ?_⟩
  · exact cell_of_shapedOpen_int (t := 3) (zero := #[.int .i64 0]) hsh (by decide +kernel) (by kernel_rfl) rfl (by kernel_rfl) (by kernel_rfl) (by kernel_rfl)
  · have hL' : laidMet Tryz.prog Rows.blobSeesRow.laid W := by
      rw [MakeChecks.laidMetH_plain _ _ _ (by kernel_rfl)] at hL; exact hL
    exact Lib.tabIs_of_head (rest := [("unicode/utf8.acceptRanges", Rows.laid_unicode_utf8_acceptRanges), ("unicode/utf8.first", Rows.laid_unicode_utf8_first)]) (t := 289) (e := 199) (n := 20) (k := .u64) (zs := Lib.pow10Tab) (g := 3) gTab (by kernel_rfl) (by kernel_rfl) (by kernel_rfl) (by kernel_rfl) (by kernel_rfl) (show laidMet Tryz.prog [("internal/strconv.uint64pow10", Lib.tabData .u64 Lib.pow10Tab), ("unicode/utf8.acceptRanges", Rows.laid_unicode_utf8_acceptRanges), ("unicode/utf8.first", Rows.laid_unicode_utf8_first)] W from hL'.tail.tail)

set_option maxRecDepth 100000 in
/-- What the walk gives, for every argument and every world that holds the listed tables. -/
theorem contract (hw : Walks) (H : Type) (enc : TypeId × Value → H) (W : World) (base : Nat) (args : Array Value) (ds gs : List (DataW H)) (before : List MemPlace)
    (hval0 : ∀ (j : Nat) t v, Tryz.f4.params[j]? = some t → args[j]? = some v → Value.okWide Tryz.prog W .any base t v)
    (hW : DataW.Whole enc Tryz.prog Tryz.f4.params.toList Rows.blobSeesSpec.vars false W args.toList ds gs before) (hL : laidMetH Tryz.prog Rows.blobSeesRow.laid W) (hsh : W.ShapedOpen Tryz.prog) :
    Calls Tryz.prog 4 args W fun e W' => ∃ v, e = .returned v ∧ Rows.blobSeesSpec.post enc Tryz.prog Tryz.f4 false true false false W args v W' := by
  have hval : ∀ (j : Nat) t v, Tryz.f4.params[j]? = some t → args[j]? = some v → Value.okWide Tryz.prog W .any base t v := hval0
  have hW' := hW
  obtain ⟨p, q, hA0, hV, rfl, hfz, hnd⟩ := hW
  have hA : DataW.TrodAll enc Tryz.prog W 0 (fun _ => true) true Tryz.f4.params.toList args.toList ds p := hA0
  rw [Tryz.params4] at hA hval
  obtain ⟨v0, vs0, d0, ds0, p0, q0, hargs, rfl, rfl, h0, r0⟩ := trodAll_cons hA
  obtain ⟨v1, vs1, d1, ds1, p1, q1, rfl, rfl, rfl, h1, r1⟩ := trodAll_cons r0
  obtain ⟨v2, vs2, d2, ds2, p2, q2, rfl, rfl, rfl, h2, r2⟩ := trodAll_cons r1
  obtain ⟨v3, vs3, d3, ds3, p3, q3, rfl, rfl, rfl, h3, r3⟩ := trodAll_cons r2
  obtain ⟨v4, vs4, d4, ds4, p4, q4, rfl, rfl, rfl, h4, r4⟩ := trodAll_cons r3
  obtain ⟨v5, vs5, d5, ds5, p5, q5, rfl, rfl, rfl, h5, r5⟩ := trodAll_cons r4
  obtain ⟨rfl, rfl, rfl⟩ := trodAll_nil r5
  obtain rfl : args = #[v0, v1, v2, v3, v4, v5] := by cases args; simp_all
  obtain ⟨rfl, rfl⟩ := trodVars_none hV
  obtain ⟨a0, len0, cap0, rfl⟩ := okWide_slice Tryz.underlying30 (hval 0 30 v0 rfl rfl)
  have k0 := h0
  have lt0 : ∀ x ∈ p0, x.block < W.heap.size := by obtain ⟨m, hm⟩ := k0; exact DataW.trod_lt m _ _ _ hm
  obtain ⟨z0, w0⟩ : ∃ zs, IsRow .u8 W a0 len0 cap0 zs := by
    obtain ⟨fuel, hf⟩ := h0
    rcases open_ints Tryz.underlying30 Tryz.underlying5 (by kernel_rfl) hf with ⟨hcs, _⟩ | ⟨x, l, c, zs, hcs, _, hl, hm, hz, _, hcell, hwz⟩
    · simp [Value.cells] at hcs
      obtain ⟨rfl, rfl, rfl⟩ := hcs
      exact ⟨[], .inl ⟨rfl, rfl, rfl, rfl⟩⟩
    · simp [Value.cells] at hcs
      obtain ⟨rfl, rfl, rfl⟩ := hcs
      exact ⟨zs, .inr ⟨_, rfl, hl, hm, by simpa using hz, hcell, hwz⟩⟩
  obtain ⟨a1, len1, cap1, rfl⟩ := okWide_slice Tryz.underlying30 (hval 1 30 v1 rfl rfl)
  have k1 := h1
  have lt1 : ∀ x ∈ p1, x.block < W.heap.size := by obtain ⟨m, hm⟩ := k1; exact DataW.trod_lt m _ _ _ hm
  obtain ⟨z1, w1⟩ : ∃ zs, IsRow .u8 W a1 len1 cap1 zs := by
    obtain ⟨fuel, hf⟩ := h1
    rcases open_ints Tryz.underlying30 Tryz.underlying5 (by kernel_rfl) hf with ⟨hcs, _⟩ | ⟨x, l, c, zs, hcs, _, hl, hm, hz, _, hcell, hwz⟩
    · simp [Value.cells] at hcs
      obtain ⟨rfl, rfl, rfl⟩ := hcs
      exact ⟨[], .inl ⟨rfl, rfl, rfl, rfl⟩⟩
    · simp [Value.cells] at hcs
      obtain ⟨rfl, rfl, rfl⟩ := hcs
      exact ⟨zs, .inr ⟨_, rfl, hl, hm, by simpa using hz, hcell, hwz⟩⟩
  obtain ⟨a2, len2, cap2, rfl⟩ := okWide_slice Tryz.underlying30 (hval 2 30 v2 rfl rfl)
  have k2 := h2
  have lt2 : ∀ x ∈ p2, x.block < W.heap.size := by obtain ⟨m, hm⟩ := k2; exact DataW.trod_lt m _ _ _ hm
  obtain ⟨z2, w2⟩ : ∃ zs, IsRow .u8 W a2 len2 cap2 zs := by
    obtain ⟨fuel, hf⟩ := h2
    rcases open_ints Tryz.underlying30 Tryz.underlying5 (by kernel_rfl) hf with ⟨hcs, _⟩ | ⟨x, l, c, zs, hcs, _, hl, hm, hz, _, hcell, hwz⟩
    · simp [Value.cells] at hcs
      obtain ⟨rfl, rfl, rfl⟩ := hcs
      exact ⟨[], .inl ⟨rfl, rfl, rfl, rfl⟩⟩
    · simp [Value.cells] at hcs
      obtain ⟨rfl, rfl, rfl⟩ := hcs
      exact ⟨zs, .inr ⟨_, rfl, hl, hm, by simpa using hz, hcell, hwz⟩⟩
  obtain ⟨a3, len3, cap3, rfl⟩ := okWide_slice Tryz.underlying30 (hval 3 30 v3 rfl rfl)
  have k3 := h3
  have lt3 : ∀ x ∈ p3, x.block < W.heap.size := by obtain ⟨m, hm⟩ := k3; exact DataW.trod_lt m _ _ _ hm
  obtain ⟨z3, w3⟩ : ∃ zs, IsRow .u8 W a3 len3 cap3 zs := by
    obtain ⟨fuel, hf⟩ := h3
    rcases open_ints Tryz.underlying30 Tryz.underlying5 (by kernel_rfl) hf with ⟨hcs, _⟩ | ⟨x, l, c, zs, hcs, _, hl, hm, hz, _, hcell, hwz⟩
    · simp [Value.cells] at hcs
      obtain ⟨rfl, rfl, rfl⟩ := hcs
      exact ⟨[], .inl ⟨rfl, rfl, rfl, rfl⟩⟩
    · simp [Value.cells] at hcs
      obtain ⟨rfl, rfl, rfl⟩ := hcs
      exact ⟨zs, .inr ⟨_, rfl, hl, hm, by simpa using hz, hcell, hwz⟩⟩
  obtain ⟨a4, len4, cap4, rfl⟩ := okWide_slice Tryz.underlying30 (hval 4 30 v4 rfl rfl)
  have k4 := h4
  have lt4 : ∀ x ∈ p4, x.block < W.heap.size := by obtain ⟨m, hm⟩ := k4; exact DataW.trod_lt m _ _ _ hm
  obtain ⟨z4, w4⟩ : ∃ zs, IsRow .u8 W a4 len4 cap4 zs := by
    obtain ⟨fuel, hf⟩ := h4
    rcases open_ints Tryz.underlying30 Tryz.underlying5 (by kernel_rfl) hf with ⟨hcs, _⟩ | ⟨x, l, c, zs, hcs, _, hl, hm, hz, _, hcell, hwz⟩
    · simp [Value.cells] at hcs
      obtain ⟨rfl, rfl, rfl⟩ := hcs
      exact ⟨[], .inl ⟨rfl, rfl, rfl, rfl⟩⟩
    · simp [Value.cells] at hcs
      obtain ⟨rfl, rfl, rfl⟩ := hcs
      exact ⟨zs, .inr ⟨_, rfl, hl, hm, by simpa using hz, hcell, hwz⟩⟩
  obtain ⟨a5, len5, cap5, rfl⟩ := okWide_slice Tryz.underlying30 (hval 5 30 v5 rfl rfl)
  have k5 := h5
  have lt5 : ∀ x ∈ p5, x.block < W.heap.size := by obtain ⟨m, hm⟩ := k5; exact DataW.trod_lt m _ _ _ hm
  obtain ⟨z5, w5⟩ : ∃ zs, IsRow .u8 W a5 len5 cap5 zs := by
    obtain ⟨fuel, hf⟩ := h5
    rcases open_ints Tryz.underlying30 Tryz.underlying5 (by kernel_rfl) hf with ⟨hcs, _⟩ | ⟨x, l, c, zs, hcs, _, hl, hm, hz, _, hcell, hwz⟩
    · simp [Value.cells] at hcs
      obtain ⟨rfl, rfl, rfl⟩ := hcs
      exact ⟨[], .inl ⟨rfl, rfl, rfl, rfl⟩⟩
    · simp [Value.cells] at hcs
      obtain ⟨rfl, rfl, rfl⟩ := hcs
      exact ⟨zs, .inr ⟨_, rfl, hl, hm, by simpa using hz, hcell, hwz⟩⟩
  clear hA0 hval0
  refine (hw a0 len0 cap0 z0 a1 len1 cap1 z1 a2 len2 cap2 z2 a3 len3 cap3 z3 a4 len4 cap4 z4 a5 len5 cap5 z5 W w0 w1 w2 w3 w4 w5 (gl hL hsh)).mono fun e W' ⟨he, bel⟩ => ?_
  subst he
  exact ⟨_, rfl, _, _, _, [], _, [], hW', trodAll_mk1 (shut_bool Tryz.underlying4 _), (trodAll_cons_mk (Below.trod laidOut (by kernel_rfl) (of_decide_eq_true (by kernel_rfl)) k0 bel lt0) (trodAll_cons_mk (Below.trod laidOut (by kernel_rfl) (of_decide_eq_true (by kernel_rfl)) k1 bel lt1) (trodAll_cons_mk (Below.trod laidOut (by kernel_rfl) (of_decide_eq_true (by kernel_rfl)) k2 bel lt2) (trodAll_cons_mk (Below.trod laidOut (by kernel_rfl) (of_decide_eq_true (by kernel_rfl)) k3 bel lt3) (trodAll_cons_mk (Below.trod laidOut (by kernel_rfl) (of_decide_eq_true (by kernel_rfl)) k4 bel lt4) (trodAll_cons_mk (Below.trod laidOut (by kernel_rfl) (of_decide_eq_true (by kernel_rfl)) k5 bel lt5) trodAll_mk0)))))), rfl, bel.frame _, fun h => by cases h⟩

/-- The door's own heap meets the condition. -/
theorem door_met (os : Os) : laidMet Tryz.prog Rows.blobSeesRow.laid ((World.laidAll Tryz.prog os Rows.blobSeesRow.laid).forCall (fun _ _ => 0) ⟨#[], #[.slice none 0 0, .slice none 0 0, .slice none 0 0, .slice none 0 0, .slice none 0 0, .slice none 0 0], []⟩).memory :=
  laidMet_laidAll _ (by kernel_rfl) (by kernel_rfl)
theorem reads (os : Os) {H : Type} (enc : TypeId × Value → H) : ∃ places, DataW.whole enc Tryz.prog ((World.laidAll Tryz.prog os Rows.blobSeesRow.laid).forCall (fun _ _ => 0) ⟨#[], #[.slice none 0 0, .slice none 0 0, .slice none 0 0, .slice none 0 0, .slice none 0 0, .slice none 0 0], []⟩).memory Tryz.f4.params.toList Rows.blobSeesSpec.vars false #[Value.slice none 0 0, Value.slice none 0 0, Value.slice none 0 0, Value.slice none 0 0, Value.slice none 0 0, Value.slice none 0 0].toList 8 = some ([.nil, .nil, .nil, .nil, .nil, .nil], [], places) :=
  ⟨[], by kernel_rfl⟩

set_option maxRecDepth 100000 in
theorem lifted (hw : Walks) (os : Os) (started : os.Started) (H : Type) (enc : TypeId × Value → H) (F : Stop.Interp) :
    ReturnsInHanded {} Tryz.checked os 4 .any ((OpenSpec.ofChange Rows.blobSeesSpec).preRow enc Tryz.prog Tryz.f4 Rows.blobSeesRow.domain false Rows.blobSeesRow.laid) (((OpenSpec.ofChange Rows.blobSeesSpec).at F).post enc Tryz.prog Tryz.f4 false true false false) := by
  obtain ⟨places, hx⟩ := reads os enc
  refine returnsInHanded_of_row (C := Tryz.checked) (s := OpenSpec.ofChange Rows.blobSeesSpec) own started (by kernel_rfl) Tryz.func4
    (witness_row_at (enc := enc) (C := Tryz.checked) false (World.laidAll Tryz.prog os Rows.blobSeesRow.laid) #[.slice none 0 0, .slice none 0 0, .slice none 0 0, .slice none 0 0, .slice none 0 0, .slice none 0 0] (World.laidAll_os _ _ _) (by kernel_rfl) (by kernel_rfl) (by kernel_rfl)
      (OpenSpec.preRow_of_cond 8 hx (by kernel_rfl) (fun k hk => by cases hk) (by kernel_rfl) (door_met os))) ?_
  intro W base args ds gs before hval hW _ _ _ hL hsh _
  exact contract hw H enc W base args ds gs before hval hW hL hsh

theorem said (hw : Walks) : Rows.BlobSeesSaid :=
  OpenClaim.holds_of_cond 4 Tryz.f4 rfl rfl rfl rfl rfl rfl rfl ⟨rfl, rfl, rfl, rfl, rfl⟩ rfl rfl rfl rfl rfl (by kernel_rfl) Tryz.func4 (by kernel_rfl)
    (of_decide_eq_true (by kernel_rfl)) (by unfold Func.isWrapper; first | (rw [if_pos (by decide +kernel)]; kernel_rfl) | (rw [if_neg (by decide +kernel)]; exact ⟨rfl, rfl⟩))
    (fun os started H enc _ F => by rw [OpenClaim.pre_eq_preRow]; exact lifted hw os started H enc F)

/-- No parameter wants a stand-in; the program's own looks are off. -/
theorem plain (f : FuncId) (fn : Func) (hf : Tryz.pinned.checked.prog.funcNamed "cordon/cordonlaw16.BlobSees" = some f) (hfn : Tryz.pinned.checked.prog.funcs[f]? = some fn) :
    false = Tryz.pinned.checked.prog.looks [] ∧ ∀ (j : Nat) t, fn.params[j]? = some t → Tryz.pinned.checked.prog.wantsStandIn t = false := by
  obtain rfl : f = 4 := Option.some.inj ((show Tryz.prog.funcNamed "cordon/cordonlaw16.BlobSees" = some 4 by kernel_rfl).symm.trans hf) |>.symm
  obtain rfl : fn = Tryz.f4 := (Option.some.inj (Tryz.func4.symm.trans hfn)).symm
  refine ⟨by kernel_rfl, fun j t ht => ?_⟩
  rw [Tryz.params4] at ht
  obtain rfl : t = 30 := by simpa using Array.mem_of_getElem? ht
  exact (show Tryz.prog.wantsStandIn 30 = false by kernel_rfl)

/-- The card, given the walk. -/
theorem card (hw : Walks) : Rows.BlobSeesCardSaid :=
  Claim7.holds_tied_plain_at .later [] _ _ _ _ (said hw) (fun _ h => by cases h) (by kernel_rfl) (fun _ h => by cases h) blobSees_row_tie rfl ⟨rfl, rfl⟩ (by kernel_rfl) rfl plain (by kernel_rfl)

end Go.Proofs.YtkjkfgmoogbdiaaGreatDoor.blobSees

namespace Go.Proofs.YtkjkfgmoogbdiaaGreatDoor
open Go
variable {F : Fence} {n : Nat} {P : Program} {ops : Array Oper} {Q : Exit → Act → World → Prop} {md : Region.Mode} {S : World → Prop}

/-- It yields v in this world, and leaves it as it is; a call too. -/
def PureAt (F : Fence) (n : Nat) (P : Program) (o : Oper) (v : Value) (a : Act) (w : World) : Prop :=
  (∀ f, o.about P w a.eval = some f → F.fn f) ∧
  ((execOp a.eval o).run P w = .ok (.value v) w ∨
    ∃ f args, (execOp a.eval o).run P w = .ok (.enter f args) w ∧ (F.depth.isSome = true → 1 ≤ n) ∧ CallsIn F (n - 1) P f args w fun e w' => e = .returned v ∧ w' = w)

/-- It yields v where S holds. -/
def YldC (F : Fence) (n : Nat) (P : Program) (ops : Array Oper) (S : World → Prop) (o : Oper) (v : Value) (a : Act) : Prop :=
  (Region.wanted o (yielded ops a.tmps) = true ∧ ∀ w, S w → PureAt F n P o v a w) ∨
  (Region.wanted o (yielded ops a.tmps) = false ∧ v = undef ∧ ∀ w f, o.about P w a.eval = some f → F.fn f)

theorem YldC.same {o : Oper} {v : Value} {a a' : Act} (hy : YldC F n P ops S o v a) (he : execOp a'.eval o = execOp a.eval o)
    (hw : Region.wanted o (yielded ops a'.tmps) = Region.wanted o (yielded ops a.tmps)) (hb : ∀ w, o.about P w a'.eval = o.about P w a.eval) : YldC F n P ops S o v a' := by
  rcases hy with ⟨h1, h2⟩ | ⟨h1, h2, h3⟩
  · refine .inl ⟨hw.trans h1, fun w hS => ?_⟩
    have h := h2 w hS
    unfold PureAt at *
    rw [hb w, he]
    exact h
  · exact .inr ⟨hw.trans h1, h2, fun w f hf => h3 w f (by rw [← hb w]; exact hf)⟩

theorem YldC.op {i : Nat} {o : Oper} {v : Value} {a : Act} (hi : ops[i]? = some o) (hd : ∀ c, o.op ≠ .defer c) (hy : YldC F n P ops S o v a)
    {K : Act → World → Prop} {w : World} (hS : S w) (h : K (a.put o.dst v) w) : wpOpIn F n P ops Q i K a w := by
  unfold wpOpIn
  simp only [hi]
  rcases hy with ⟨hw, hv⟩ | ⟨hw, rfl, hab⟩
  · obtain ⟨ha, hr | ⟨f, args, hr, hdep, hc⟩⟩ := hv w hS
    · simp only [hw, if_true, Oper.wpIn, semAt_exec o hd, hr, Oper.uponIn]; exact ⟨ha, h⟩
    · simp only [hw, if_true, Oper.wpIn, semAt_exec o hd, hr, Oper.uponIn]
      refine ⟨ha, hdep, CallsIn.mono hc ?_⟩
      rintro e w' ⟨rfl, rfl⟩
      exact h
  · simp only [hw, Bool.false_eq_true, if_false]; exact ⟨hab w, h⟩

theorem YldC.past {j : Nat} {oi oj : Oper} {v : Value} (hj : ops[j]? = some oj) (hd : ∀ c, oj.op ≠ .defer c) (hap : oi.apart ops oj = true)
    (hsi : ∀ cs b, oi.op ≠ .select cs b) (hsj : ∀ cs b, oj.op ≠ .select cs b)
    (hQ : ∀ c a w, Q (.panic c) (a.put oi.dst v) w → Q (.panic c) a w) {K : Act → World → Prop} {a : Act} {w : World}
    (hy : YldC F n P ops S oi v a) (h : wpOpIn F n P ops Q j K (a.put oi.dst v) w) :
    wpOpIn F n P ops Q j (fun a' w' => YldC F n P ops S oi v a' ∧ K (a'.put oi.dst v) w') a w := by
  obtain ⟨h1, h2, h3⟩ := Oper.apart_spec hap
  have keep : ∀ u, YldC F n P ops S oi v (a.put oj.dst u) := fun u =>
    hy.same (execOp_put oi hsi a oj.dst u h3) (wanted_put oi a oj.dst u h3) (fun w => about_put oi w a oj.dst u h3)
  have turn : ∀ u w', K ((a.put oi.dst v).put oj.dst u) w' → YldC F n P ops S oi v (a.put oj.dst u) ∧ K ((a.put oj.dst u).put oi.dst v) w' :=
    fun u w' hk => ⟨keep u, by rw [← Act.put_comm a v u h2]; exact hk⟩
  unfold wpOpIn at *
  simp only [hj] at *
  rw [wanted_put oj a oi.dst v h1, about_put oj w a oi.dst v h1] at h
  by_cases hw : Region.wanted oj (yielded ops a.tmps) = true
  · rw [if_pos hw] at h ⊢
    unfold Oper.wpIn at *
    rw [about_put oj w a oi.dst v h1, semAt_exec oj hd, execOp_put oj hsj a oi.dst v h1] at h
    rw [semAt_exec oj hd]
    refine ⟨h.1, ?_⟩
    have h := h.2
    cases hr : (execOp a.eval oj).run P w with
    | halt x w' =>
      rw [hr] at h
      cases x with
      | panic u => exact hQ _ _ _ h
      | _ => exact h
    | ok x w' =>
      rw [hr] at h
      cases x with
      | value u => exact turn u w' h
      | skip => exact turn undef w' h
      | defer d =>
        have e : ∀ u, ({ a.put oi.dst v with defers := d :: (a.put oi.dst v).defers } : Act).put oj.dst u = (({ a with defers := d :: a.defers } : Act).put oj.dst u).put oi.dst v := fun u => by
          rw [← Act.put_comm _ v u h2]
          unfold Act.put
          cases oi.dst <;> cases oj.dst <;> rfl
        refine ⟨YldC.same (a := { a with defers := d :: a.defers }) (hy.same rfl rfl (fun _ => rfl)) (execOp_put oi hsi _ oj.dst _ h3) (wanted_put oi _ oj.dst _ h3) (fun w => about_put oi w _ oj.dst _ h3), ?_⟩
        rw [← e]
        exact h
      | enter f args =>
        refine ⟨h.1, CallsIn.mono h.2 fun e w'' he => ?_⟩
        cases e with
        | returned u => exact turn u w'' he
        | panicked c => exact hQ _ _ _ he
        | outgrown => exact he
      | row row args => exact ⟨h.1, RowsIn.mono h.2 fun u w'' he => turn u w'' he⟩
      | round l f tmps assign body =>
        refine ⟨h.1, RoundIn.mono h.2 fun e w'' he => ?_⟩
        cases e with
        | returned u => exact turn u w'' he
        | panicked c => exact hQ _ _ _ he
        | outgrown => exact he
      | _ => exact h
  · rw [if_neg hw] at h ⊢
    exact ⟨h.1, turn undef w h.2⟩

theorem anyC_first {i : Nat} {oi : Oper} {v : Value} (hi : ops[i]? = some oi) (hd : noDefer ops = true) (hsel : ∀ (j : Nat) (o : Oper) cs b, ops[j]? = some o → o.op ≠ .select cs b)
    (hQ : ∀ c a w, Q (.panic c) (a.put oi.dst v) w → Q (.panic c) a w) :
    ∀ (fuel : Nat) (listed : Array Bool) (a : Act) (w : World),
      (∀ j oj, ops[j]? = some oj → j ≠ i → listed.getD j true = false → (∀ e ∈ oj.after, Region.binds md e = true → e.on ≠ i) → oi.apart ops oj = true) →
      i ∈ Region.ready md ops listed → YldC F n P ops S oi v a → S w →
      anyH F n P md ops Q S fuel (listed.setIfInBounds i true) (a.put oi.dst v) w → anyH F n P md ops Q S (fuel + 1) listed a w := by
  intro fuel
  induction fuel with
  | zero =>
    intro listed a w _ hr hy hS H
    refine ⟨fun h => (by rw [h] at hr; cases hr), fun j hj => ?_⟩
    by_cases hji : j = i
    · subst hji; exact hy.op hi (noDefer_spec hd hi) hS ⟨hS, H⟩
    · have := ready_mono hj hji
      rw [H.1] at this
      cases this
  | succ fuel ih =>
    intro listed a w hfree hr hy hS H
    refine ⟨fun h => (by rw [h] at hr; cases hr), fun j hj => ?_⟩
    by_cases hji : j = i
    · subst hji; exact hy.op hi (noDefer_spec hd hi) hS ⟨hS, H⟩
    · have h1 := H.2 j (ready_mono hj hji)
      obtain ⟨hjun, oj, hoj, hall⟩ := mem_ready.1 hj
      have hnot : ∀ e ∈ oj.after, Region.binds md e = true → e.on ≠ i := fun e he hb heq => by
        have h1 := hall e he hb
        have h0 := (mem_ready.1 hr).1
        rw [heq] at h1
        rcases Nat.lt_or_ge i listed.size with h' | h'
        · simp [h'] at h0 h1; rw [h0] at h1; cases h1
        · simp [Array.getElem?_eq_none h'] at h1
      have h2 := hy.past hoj (noDefer_spec hd hoj) (hfree j oj hoj hji hjun hnot) (fun cs b => hsel i oi cs b hi) (fun cs b => hsel j oj cs b hoj) hQ h1
      have hfree' : ∀ k ok, ops[k]? = some ok → k ≠ i → (listed.setIfInBounds j true).getD k true = false →
          (∀ e ∈ ok.after, Region.binds md e = true → e.on ≠ i) → oi.apart ops ok = true := fun k ok hk hki hun hno => by
        refine hfree k ok hk hki ?_ hno
        by_cases hjk : j = k
        · subst hjk; exact hjun
        · rw [getD_set_ne true hjk] at hun; exact hun
      refine wpOpIn_mono (fun a' w' h3 => ⟨h3.2.1, ih (listed.setIfInBounds j true) a' w' hfree' (ready_mono hr (Ne.symm hji)) h3.1 h3.2.1 ?_⟩) h2
      rw [Array.setIfInBounds_comm _ _ hji]
      exact h3.2.2

/-- Take number i first: a call, too, that leaves the world as it is. -/
theorem anyC_take (i : Nat) {oi : Oper} {v : Value} {fuel : Nat} {listed : Array Bool} {a : Act} {w : World} (hi : ops[i]? = some oi)
    (hd : noDefer ops = true) (hs : Region.noSelect ops = true) (hf : Region.free md ops listed i = true) (hr : (Region.ready md ops listed).contains i = true)
    (hQ : ∀ c a w, Q (.panic c) (a.put oi.dst v) w → Q (.panic c) a w) (hy : YldC F n P ops S oi v a) (hS : S w)
    (h : anyH F n P md ops Q S fuel (listed.setIfInBounds i true) (a.put oi.dst v) w) : anyH F n P md ops Q S (fuel + 1) listed a w :=
  anyC_first hi hd (Region.noSelect_spec hs) hQ fuel listed a w (Region.free_spec hi hf) (by simpa using hr) hy hS h

/-- What has come up, as a literal. -/
theorem anyH_list (L : Array Bool) {fuel : Nat} {listed : Array Bool} {a : Act} {w : World} (he : listed = L) (h : anyH F n P md ops Q S fuel L a w) : anyH F n P md ops Q S fuel listed a w := he ▸ h

end Go.Proofs.YtkjkfgmoogbdiaaGreatDoor

namespace Go.Proofs.YtkjkfgmoogbdiaaGreatDoor
open Go
/-- Two operations may come up. -/
theorem anyH_pair {F : Fence} {n : Nat} {P : Program} {ops : Array Oper} {Q : Exit → Act → World → Prop} {md : Region.Mode} {S : World → Prop} (i j : Nat) {fuel : Nat} {listed : Array Bool} {a : Act} {w : World} {o o' : Oper} (hr : Region.ready md ops listed = [i, j]) (ho : ops[i]? = some o) (ho' : ops[j]? = some o')
    (h : ∀ K : Act → World → Prop, (∀ a' w', S w' → anyH F n P md ops Q S fuel (listed.setIfInBounds i true) a' w' → K a' w') →
      if Region.wanted o (yielded ops a.tmps) = true then Oper.wpIn F n P o a w K Q else (∀ f, o.about P w a.eval = some f → F.fn f) ∧ K (a.put o.dst undef) w)
    (h' : ∀ K : Act → World → Prop, (∀ a' w', S w' → anyH F n P md ops Q S fuel (listed.setIfInBounds j true) a' w' → K a' w') →
      if Region.wanted o' (yielded ops a.tmps) = true then Oper.wpIn F n P o' a w K Q else (∀ f, o'.about P w a.eval = some f → F.fn f) ∧ K (a.put o'.dst undef) w) : anyH F n P md ops Q S (fuel + 1) listed a w := by
  refine ⟨fun h0 => (by rw [hr] at h0; cases h0), fun k hk => ?_⟩
  rw [hr] at hk
  rcases List.mem_cons.1 hk with rfl | hk
  · exact wpOpIn_step ho fun K' hK' => h K' fun a' w' hs ha => hK' a' w' ⟨hs, ha⟩
  · obtain rfl : k = j := by simpa using hk
    exact wpOpIn_step ho' fun K' hK' => h' K' fun a' w' hs ha => hK' a' w' ⟨hs, ha⟩
end Go.Proofs.YtkjkfgmoogbdiaaGreatDoor

namespace Go.Proofs.YtkjkfgmoogbdiaaGreatDoor.Arn
set_option linter.unusedVariables false

/-- All cells of the block in which the value's row lies are such. -/
def All (G : Value → Prop) (v : Value) (w : World) : Prop := ∀ g, v.ownBlock = some g → ∀ j u, w.cell? ⟨g, j, none⟩ = some u → G u
theorem All.keep {G : Value → Prop} {v : Value} {w w' : World} {S : Nat → Prop} (h : All G v w) (hk : Keep S w w') (h2 : ∀ k, v.ownBlock = some k → S k ∧ k < w.heap.size) : All G v w' := fun g hg j u hu => by
  refine h g hg j u ?_
  rw [← World.cell?_of_block (a := ⟨g, j, none⟩) (hk.block g (h2 g hg).2 (h2 g hg).1)]
  exact hu
theorem All.setC {G : Value → Prop} {v : Value} {w : World} {base : Nat} {e : TypeId} {size n g cap : Nat} {xs : List Value} (h : All G v w) (hr : w.ownsRow base e size v n xs) (hv : v = .slice (some ⟨g, 0, none⟩) n cap) (i : Nat) {x : Value} (hx : G x) : All G v (w.setCell ⟨g, i, none⟩ x) := by
  subst hv
  rcases hr.2 with ⟨hq, _⟩ | ⟨g', cap', cur, hq, _, hg, _⟩
  · cases hq
  · cases hq
    intro g' hg' j u hu
    cases hg'
    unfold World.cell? at hu
    simp only [heap_setCell_same w g i cur e x hg] at hu
    have hm := List.mem_of_getElem? (l := cur.toList.set i x) (i := j) (by rw [← Array.toList_setIfInBounds, Array.getElem?_toList]; exact hu)
    rcases List.mem_or_eq_of_mem_set hm with hm | rfl
    · obtain ⟨k, hk⟩ := List.getElem?_of_mem hm
      refine h g rfl k u ?_
      unfold World.cell?
      simp only [hg]
      simpa using hk
    · exact hx
theorem mem_zeros {z : Array Value} {n : Nat} {u : Value} (h : u ∈ (Builtin.zeroCells z n).toList) : u ∈ z.toList := by
  unfold Builtin.zeroCells at h
  simp at h
  obtain ⟨a, ha, h⟩ := h
  have hz : 0 < z.size := Nat.pos_of_ne_zero fun e => by rw [e] at ha; omega
  have hm := Nat.mod_lt a hz
  rw [getElem!_pos z _ hm] at h
  exact Array.mem_toList_iff.2 (h ▸ Array.getElem_mem hm)
theorem cell_new {w : World} {arr : Array Value} {e : TypeId} {j : Nat} {u : Value} (h : (w.drew.alloc (.cells arr e)).cell? ⟨w.heap.size, j, none⟩ = some u) : u ∈ arr.toList := by
  have k := World.alloc_heap_new w.drew (.cells arr e)
  unfold World.cell? at h
  rw [show (w.drew.alloc (.cells arr e)).heap[w.heap.size]? = some (.cells arr e) from k] at h
  exact Array.mem_toList_iff.2 (Array.mem_of_getElem? h)
theorem append_all {P : Program} {w : World} (G : Value → Prop) {base : Nat} {t ty e : TypeId} {i : TypeInfo} {z : Value} {size bytes : Nat} (ht : P.underlying t = some (.slice e)) (hi : P.info? e = some i) (hz : i.zero = some z)
    (hsize : i.size = size) (hby : i.bytes = bytes) {v : Value} {n : Nat} {xs : List Value} (hown : w.ownsRow base e size v n xs)
    {a : Addr} {m c : Nat} {news : List Value} (hl : news.length = m * size) (hnews : ∀ j u, news[j]? = some u → w.cell? (a.add j) = some u) (h1 : ∀ u ∈ news, u.oneCell' = true)
    (h63 : n + m ≤ maxLen) (hbytes : (n + m) * bytes ≤ 140737488355328) {v' : Value} {w' : World} (hr : (Builtin.append_ #[t, t] ty #[v, .slice (some a) m c]).run P w = .ok v' w')
    (hG : All G v w) (hn : ∀ u ∈ news, G u) (hzG : ∀ u ∈ z.cells.toList, G u) : All G v' w' := by
  subst hsize
  subst hby
  have hsmall : n + m ≤ 9223372036854775807 := by simp only [maxLen] at h63; omega
  rcases hown.2 with ⟨rfl, rfl⟩ | ⟨g, cap, cur, rfl, hbg, hg, hnc, hcm, hcs, htake⟩
  · by_cases hm : m = 0
    · subst hm
      have hx : (Builtin.append_ #[t, t] ty #[.slice none 0 0, .slice (some a) 0 c]).run P w = .ok (.slice none 0 0) w := by simp [Builtin.append_, run_underlying ht, sizeOf, typeInfo, hi, Builtin.lenOf, Builtin.firstCells, loadCells, loadCellsFrom]
      rw [hx] at hr
      cases hr
      intro g' hg'
      cases hg'
    have hx := run_append_nil (P := P) w t ty e i z ht hi hz a m c news hl hnews (by omega) (by omega) (by have hb := hbytes; simp only [Nat.zero_add] at hb; omega)
    rw [hx] at hr
    cases hr
    intro g' hg' j u hu
    cases hg'
    have := cell_new hu
    rw [Array.toList_append, List.mem_append] at this
    rcases this with h | h
    · exact hn u (by simpa using h)
    · exact hzG u (mem_zeros h)
  · have hcur : ∀ u ∈ cur.toList, G u := fun u hu => by
      obtain ⟨j, hj⟩ := List.getElem?_of_mem hu
      refine hG g rfl j u ?_
      unfold World.cell?
      simp only [hg]
      simpa using hj
    by_cases hroom : n + m ≤ cap
    · have hfit : n * i.size + news.length ≤ cur.size := by rw [hl, hcs, ← Nat.add_mul]; exact Nat.mul_le_mul_right _ hroom
      have hx := run_append_room (P := P) w t ty e i ht hi g n cap cur hg a m c news hl hnews h1 hroom hfit
      rw [hx] at hr
      cases hr
      intro g' hg' j u hu
      cases hg'
      unfold World.cell? at hu
      simp only [setRow_heap w g cur _ e _ hg] at hu
      have hmem := List.mem_of_getElem? (l := cur.toList.take (n * i.size) ++ news ++ cur.toList.drop (n * i.size + news.length)) (i := j) (by simpa using hu)
      rcases List.mem_append.1 hmem with h | h
      · rcases List.mem_append.1 h with h | h
        · exact hcur u (List.mem_of_mem_take h)
        · exact hn u h
      · exact hcur u (List.mem_of_mem_drop h)
    · have holds : ∀ j u, xs[j]? = some u → w.cell? ((⟨g, 0, none⟩ : Addr).add j) = some u := hown.cells (g := g) rfl
      have hx := run_append_grow (P := P) w t ty e i z ht hi hz ⟨g, 0, none⟩ n cap xs hown.1 holds a m c news hl hnews (by omega) (by omega) (growslice_fits (by omega) hbytes)
      rw [hx] at hr
      cases hr
      intro g' hg' j u hu
      cases hg'
      have := cell_new hu
      rw [Array.toList_append, Array.toList_append, List.mem_append, List.mem_append] at this
      rcases this with (h | h) | h
      · refine hcur u ?_
        rw [← htake] at h
        exact List.mem_of_mem_take (by simpa using h)
      · exact hn u (by simpa using h)
      · exact hzG u (mem_zeros h)
theorem wpList_append_all {P : Program} {w : World} {ops : Array Oper} {rest : List Oper} {o : Oper} {a : Act} {Q : Exit → Act → World → Prop} (G : Value → Prop) (hgd : o.guard = none) (s x : Operand) (t : TypeId)
    (ho : o.op = .call { callee := .builtin .append, args := #[s, x], argTypes := #[t, t] })
    (base : Nat) (e : TypeId) (i : TypeInfo) (z : Value) (size bytes : Nat) (ht : P.underlying t = some (.slice e)) (hi : P.info? e = some i) (hz : i.zero = some z)
    (hsize : i.size = size) (hby : i.bytes = bytes) (hzs : z.cells.size = size) (hsz : 0 < size)
    (v : Value) (n : Nat) (xs : List Value) (hs : a.eval s = v) (hown : w.ownsRow base e size v n xs)
    (ad : Addr) (m c : Nat) (news : List Value) (hx : a.eval x = .slice (some ad) m c) (hl : news.length = m * size) (hnews : ∀ j u, news[j]? = some u → w.cell? (ad.add j) = some u) (h1 : ∀ u ∈ news, u.oneCell' = true)
    (h63 : n + m ≤ maxLen) (hbytes : (n + m) * bytes ≤ 140737488355328) (hbase : base ≤ w.heap.size)
    (hG : All G v w) (hn : ∀ u ∈ news, G u) (hzG : ∀ u ∈ z.cells.toList, G u)
    (h : ∀ v' w', w'.ownsRow base e size v' (n + m) (xs ++ news) → w.grownBy w' v.ownBlock → All G v' w' → (v'.ownBlock = v.ownBlock ∨ v'.ownBlock = some w.heap.size) → wpList P ops Q rest (a.put o.dst v') w') :
    wpList P ops Q (o :: rest) a w := by
  refine wpList_plain hgd fun K hK => ?_
  obtain ⟨v', w', hr, h2, h3, h4, h5⟩ := run_append_own_at (P := P) w base t o.type e i z size bytes ht hi hz hsize hby hzs hsz v n xs hown ad m c news hl hnews h1 h63 hbytes hbase
  have h6 := append_all G ht hi hz hsize hby hown hl hnews h1 h63 hbytes hr hG hn hzG
  unfold Oper.wp execOp
  simp only [ho, resolve, invoke, builtin, Sem.run_bind, Sem.run_pure, Result.andThen_ok, List.map_toArray, List.map_cons, List.map_nil, hs, hx, hr]
  exact hK _ _ (h v' w' h2 h3 h6 h5)
end Go.Proofs.YtkjkfgmoogbdiaaGreatDoor.Arn

namespace Go.Proofs.YtkjkfgmoogbdiaaGreatDoor
open Go.RowKit

/-- The number that digits write, from n on. -/
def numGo (most : Int) : List UInt8 → Int → Option Int
  | [], n => some n
  | b :: r, n => if digitB b = true ∧ (b.toNat : Int) - 48 ≤ most ∧ n ≤ (most - ((b.toNat : Int) - 48)) / 10 then numGo most r (n * 10 + ((b.toNat : Int) - 48)) else none
def numOf (most : Int) (l : List UInt8) : Option Int :=
  if l = [] ∨ (1 < l.length ∧ (l.getD 0 0).toNat = 48) then none else numGo most l 0
def numV (o : Option Int) : Value := .tuple #[.int .i64 (o.getD 0), .bool o.isSome]

theorem drop_cons (l : List UInt8) (k : Nat) (h : k < l.length) : l.drop k = l.getD k 0 :: l.drop (k + 1) := by
  rw [List.drop_eq_getElem_cons h]
  simp [List.getD, List.getElem?_eq_getElem h]
theorem digitB_of (b : UInt8) : digitB b = true ↔ 48 ≤ b.toNat ∧ b.toNat ≤ 57 := by simp [digitB]
theorem numsL_getD (l : List UInt8) (i : Nat) (h : i < l.length) : (Lib.numsL l).getD i 0 = ((l.getD i 0).toNat : Int) := by
  simp [Lib.numsL, List.getD, List.getElem?_eq_getElem h]

set_option maxHeartbeats 1000000 in
theorem Number_any (p : Option Addr) (n c : Nat) (bs : List UInt8) (most : Int) (w : World) (hx : bs.length = n) (hn : n ≤ 140737488355328) (hb : Lib.BytesIn w p n (Lib.numsL bs)) (h0 : 0 ≤ most) (h1 : most ≤ 9223372036854775807) :
    Calls Tryz.prog 146 #[.slice p n c, .int .i64 most] w fun e w' => e = .returned (numV (numOf most bs)) ∧ w = w' := by
  rcases Nat.eq_zero_or_pos n with hz | hz
  · subst hz
    obtain rfl : bs = [] := List.eq_nil_of_length_eq_zero hx
    go_enter Tryz.func146, Tryz.ntmps146
    go_wp2
    go_ret2
    exact ⟨rfl, rfl⟩
  · obtain ⟨b, o, rfl, hc⟩ := hb.at hz
    have hc' : ∀ k, k < n → w.cell? ⟨b, o + k, none⟩ = some (.int .u8 ((bs.getD k 0).toNat : Int)) := fun k hk => by
      rw [hc k hk, numsL_getD bs k (by omega)]
    have hz' : ((n : Int) == 0) = false := by simp; omega
    have hc0 : w.cell? ⟨b, o, none⟩ = some (.int .u8 ((bs.getD 0 0).toNat : Int)) := hc' 0 hz
    have HC := Lib.hid hc'
    clear hc hc' hb
    by_cases hl : 1 < n ∧ (bs.getD 0 0).toNat = 48
    · have hl1 : decide ((1 : Int) < (n : Int)) = true := by simp; omega
      have hl2 : (((bs.getD 0 0).toNat : Int) == 48) = true := by rw [beq_iff_eq]; omega
      have H := Lib.hid (show numOf most bs = none by unfold numOf; rw [if_pos (.inr (by omega))])
      generalize bs.getD 0 0 = b0 at *
      clear hl
      go_enter Tryz.func146, Tryz.ntmps146
      go_wp2
      go_ret2
      exact ⟨(by rw [H.out]; rfl), rfl⟩
    · have H := Lib.hid (show numOf most bs = numGo most bs 0 by unfold numOf; rw [if_neg (fun h => h.elim (fun h => by rw [h] at hx; simp at hx; omega) (fun h => hl (by rw [← hx]; exact h)))])
      have NG := Lib.hid (fun k (hk : k < n) (m : Int) => show numGo most (bs.drop k) m = _ by rw [drop_cons bs k (by omega)])
      by_cases hl1 : 1 < n
      · have hl2 : decide ((1 : Int) < (n : Int)) = true := by simp; omega
        have hl3 : (((bs.getD 0 0).toNat : Int) == 48) = false := by rw [beq_eq_false_iff_ne]; omega
        generalize bs.getD 0 0 = b0 at hc0 hl3
        clear hl
        go_enter Tryz.func146, Tryz.ntmps146
        go_wp2
        clear hc0 hl3 hl2
        go_loop [6, 26] (fun x i => ∃ k : Nat, ∃ m : Int, k ≤ n ∧ i = .int .i64 k ∧ x = .int .i64 m ∧ 0 ≤ m ∧ m ≤ most ∧ Hid (numGo most bs 0 = numGo most (bs.drop k) m)) (fun _ i => n - (intOf i).toNat)
        case atStart => exact ⟨0, 0, Nat.zero_le _, rfl, rfl, by omega, by omega, rfl⟩
        case round =>
          obtain ⟨k, m, hk, rfl, rfl, hm0, hm1, HR⟩ := hrel
          by_cases hlt : k < n
          · have hck := HC.out k hlt
            have NGk := Lib.hid (HR.out.trans (NG.out k hlt m))
            clear HR
            generalize bs.getD k 0 = bk at hck NGk
            have hbk := u8_lt bk
            by_cases hd : digitB bk = true
            · have hd' := (digitB_of bk).1 hd
              by_cases hd2 : most < (bk.toNat : Int) - 48
              · have NH := Lib.hid (show numGo most bs 0 = none by rw [NGk.out]; unfold numGo; rw [if_neg (by omega)])
                go_wp2_with (go_at_call 158; refine (isDigit_any bk _).mono ?_; rintro e w' ⟨rfl, rfl⟩)
                go_ret2
                exact ⟨(by rw [H.out, NH.out]; rfl), rfl⟩
              · by_cases hd3 : (most - ((bk.toNat : Int) - 48)) / 10 < m
                · have NH := Lib.hid (show numGo most bs 0 = none by rw [NGk.out]; unfold numGo; rw [if_neg (by omega)])
                  go_wp2_with (go_at_call 158; refine (isDigit_any bk _).mono ?_; rintro e w' ⟨rfl, rfl⟩)
                  go_ret2
                  exact ⟨(by rw [H.out, NH.out]; rfl), rfl⟩
                · have NH := Lib.hid (show numGo most bs 0 = numGo most (bs.drop (k + 1)) (m * 10 + ((bk.toNat : Int) - 48)) by rw [NGk.out]; conv => lhs; unfold numGo; rw [if_pos ⟨hd, by omega, by omega⟩])
                  have hb1 : m * 10 + ((bk.toNat : Int) - 48) ≤ most := by omega
                  go_wp2_with (go_at_call 158; refine (isDigit_any bk _).mono ?_; rintro e w' ⟨rfl, rfl⟩)
                  go_round
                  case rel => exact ⟨k + 1, _, by omega, by go_num, rfl, by omega, by omega, NH⟩
                  case measure => simp [intOf]; omega
            · have hdf : digitB bk = false := by simpa using hd
              have NH := Lib.hid (show numGo most bs 0 = none by rw [NGk.out]; unfold numGo; rw [if_neg (by intro h; exact hd h.1)])
              go_wp2_with (go_at_call 158; refine (isDigit_any bk _).mono ?_; rintro e w' ⟨rfl, rfl⟩)
              go_ret2
              exact ⟨(by rw [H.out, NH.out]; rfl), rfl⟩
          · have NH := Lib.hid (show numGo most bs 0 = some m by rw [HR.out, List.drop_of_length_le (by omega)]; rfl)
            clear HR
            go_wp2
            go_ret2
            exact ⟨(by rw [H.out, NH.out]; rfl), rfl⟩
      · have hl2 : decide ((1 : Int) < (n : Int)) = false := by simp; omega
        generalize bs.getD 0 0 = b0 at hc0
        clear hl
        go_enter Tryz.func146, Tryz.ntmps146
        go_wp2
        clear hc0 hl2
        go_loop [6, 26] (fun x i => ∃ k : Nat, ∃ m : Int, k ≤ n ∧ i = .int .i64 k ∧ x = .int .i64 m ∧ 0 ≤ m ∧ m ≤ most ∧ Hid (numGo most bs 0 = numGo most (bs.drop k) m)) (fun _ i => n - (intOf i).toNat)
        case atStart => exact ⟨0, 0, Nat.zero_le _, rfl, rfl, by omega, by omega, rfl⟩
        case round =>
          obtain ⟨k, m, hk, rfl, rfl, hm0, hm1, HR⟩ := hrel
          by_cases hlt : k < n
          · have hck := HC.out k hlt
            have NGk := Lib.hid (HR.out.trans (NG.out k hlt m))
            clear HR
            generalize bs.getD k 0 = bk at hck NGk
            have hbk := u8_lt bk
            by_cases hd : digitB bk = true
            · have hd' := (digitB_of bk).1 hd
              by_cases hd2 : most < (bk.toNat : Int) - 48
              · have NH := Lib.hid (show numGo most bs 0 = none by rw [NGk.out]; unfold numGo; rw [if_neg (by omega)])
                go_wp2_with (go_at_call 158; refine (isDigit_any bk _).mono ?_; rintro e w' ⟨rfl, rfl⟩)
                go_ret2
                exact ⟨(by rw [H.out, NH.out]; rfl), rfl⟩
              · by_cases hd3 : (most - ((bk.toNat : Int) - 48)) / 10 < m
                · have NH := Lib.hid (show numGo most bs 0 = none by rw [NGk.out]; unfold numGo; rw [if_neg (by omega)])
                  go_wp2_with (go_at_call 158; refine (isDigit_any bk _).mono ?_; rintro e w' ⟨rfl, rfl⟩)
                  go_ret2
                  exact ⟨(by rw [H.out, NH.out]; rfl), rfl⟩
                · have NH := Lib.hid (show numGo most bs 0 = numGo most (bs.drop (k + 1)) (m * 10 + ((bk.toNat : Int) - 48)) by rw [NGk.out]; conv => lhs; unfold numGo; rw [if_pos ⟨hd, by omega, by omega⟩])
                  have hb1 : m * 10 + ((bk.toNat : Int) - 48) ≤ most := by omega
                  go_wp2_with (go_at_call 158; refine (isDigit_any bk _).mono ?_; rintro e w' ⟨rfl, rfl⟩)
                  go_round
                  case rel => exact ⟨k + 1, _, by omega, by go_num, rfl, by omega, by omega, NH⟩
                  case measure => simp [intOf]; omega
            · have hdf : digitB bk = false := by simpa using hd
              have NH := Lib.hid (show numGo most bs 0 = none by rw [NGk.out]; unfold numGo; rw [if_neg (by intro h; exact hd h.1)])
              go_wp2_with (go_at_call 158; refine (isDigit_any bk _).mono ?_; rintro e w' ⟨rfl, rfl⟩)
              go_ret2
              exact ⟨(by rw [H.out, NH.out]; rfl), rfl⟩
          · have NH := Lib.hid (show numGo most bs 0 = some m by rw [HR.out, List.drop_of_length_le (by omega)]; rfl)
            clear HR
            go_wp2
            go_ret2
            exact ⟨(by rw [H.out, NH.out]; rfl), rfl⟩

end Go.Proofs.YtkjkfgmoogbdiaaGreatDoor

namespace Go.Proofs.YtkjkfgmoogbdiaaGreatDoor.Host

def hostByte (b : UInt8) : Bool := Ref.letB b || Ref.decB b || b == 45
def partB (p : List UInt8) : Bool := !p.isEmpty && decide (p.length ≤ 63) && p.getD 0 0 != 45 && p.getD (p.length - 1) 0 != 45 && p.all hostByte
def addrB (l : List (List UInt8)) : Bool := decide (l.length = 4) && l.all fun p => (Ref.numOf 255 p).isSome
def hostB (l : List (List UInt8)) : Bool := decide (l.length ≤ 8) && l.all partB && (!Ref.decB ((l.getLastD []).getD 0 0) || addrB l)
/-- The error's number at a text: 0: it is a host. -/
def parseE (t : List UInt8) : Int := if 253 < t.length then 3 else if hostB (Ref.splitL 46 t) then 0 else 2
def addressB (t : List UInt8) : Bool := decide (parseE t = 0) && addrB (Ref.splitL 46 t)
/-- What stands behind the first byte c. -/
def tailL (c : UInt8) : List UInt8 → Option (List UInt8)
  | [] => none
  | b :: r => if b = c then some r else tailL c r
theorem from_split (c : UInt8) : ∀ t : List UInt8, Ref.fromL c (Ref.splitL c t) = t :: (match tailL c t with | none => [] | some r => Ref.fromL c (Ref.splitL c r))
  | [] => rfl
  | b :: r => by
    by_cases h : b = c
    · subst h
      rw [Ref.split_is]
      show Ref.joinL b ([] :: Ref.splitL b r) :: Ref.fromL b (Ref.splitL b r) = _
      rw [Ref.join_nil _ _ (Ref.split_ne b r), Ref.join_split]
      simp [tailL]
    · have ih := from_split c r
      rw [Ref.split_not c b r h]
      cases hs : Ref.splitL c r with
      | nil => exact absurd hs (Ref.split_ne c r)
      | cons p q =>
        rw [hs] at ih
        have e1 : Ref.fromL c (Ref.onto [b] (p :: q)) = Ref.joinL c (Ref.onto [b] (p :: q)) :: Ref.fromL c q := rfl
        have e2 : Ref.fromL c (p :: q) = Ref.joinL c (p :: q) :: Ref.fromL c q := rfl
        rw [e2, List.cons.injEq] at ih
        rw [e1, Ref.join_onto, ih.1, ih.2]
        have e3 : tailL c (b :: r) = tailL c r := by conv => lhs; unfold tailL; rw [if_neg h]
        rw [e3]
        rfl
/-- Small letters change no kind. -/
theorem low_dot (b : UInt8) : (Ref.low b = 46) = (b = 46) := Ref.all_u8 (p := fun b => (Ref.low b = 46) = (b = 46)) (fun i => propext (by revert i; decide +kernel)) b
theorem low_minus (b : UInt8) : (Ref.low b == 45) = (b == 45) := Ref.all_u8 (p := fun b => (Ref.low b == 45) = (b == 45)) (by decide +kernel) b
theorem low_dec (b : UInt8) : Ref.decB (Ref.low b) = Ref.decB b := Ref.all_u8 (p := fun b => Ref.decB (Ref.low b) = Ref.decB b) (by decide +kernel) b
theorem low_let (b : UInt8) : Ref.letB (Ref.low b) = Ref.letB b := Ref.all_u8 (p := fun b => Ref.letB (Ref.low b) = Ref.letB b) (by decide +kernel) b
theorem dec_low (b : UInt8) (h : Ref.decB b = true) : Ref.low b = b := by
  have := (Ref.decB_of b).1 h
  exact Ref.low_lo b (by omega)
theorem low_host (b : UInt8) : hostByte (Ref.low b) = hostByte b := by unfold hostByte; rw [low_let, low_dec, low_minus]
theorem onto_low (x : List UInt8) (l : List (List UInt8)) : Ref.onto (Ref.lowL x) (l.map Ref.lowL) = (Ref.onto x l).map Ref.lowL := by
  cases l with
  | nil => rfl
  | cons p r => simp [Ref.onto, Ref.lowL]
theorem split_low : ∀ t : List UInt8, Ref.splitL 46 (Ref.lowL t) = (Ref.splitL 46 t).map Ref.lowL
  | [] => rfl
  | b :: r => by
    have ih := split_low r
    have e : Ref.lowL (b :: r) = Ref.low b :: Ref.lowL r := rfl
    rw [e]
    by_cases h : b = 46
    · subst h
      have h2 : Ref.low 46 = 46 := by decide
      rw [h2, Ref.split_is, Ref.split_is, ih]; rfl
    · have h2 : Ref.low b ≠ 46 := by rw [ne_eq, low_dot]; exact h
      rw [Ref.split_not 46 _ _ h2, Ref.split_not 46 _ _ h, ih, ← onto_low]; rfl
theorem low_getD (p : List UInt8) (k : Nat) : (Ref.lowL p).getD k 0 = Ref.low (p.getD k 0) := by
  unfold Ref.lowL
  simp only [List.getD, List.getElem?_map]
  cases p[k]? <;> rfl
theorem part_low (p : List UInt8) : partB (Ref.lowL p) = partB p := by
  unfold partB
  rw [low_getD, low_getD, Ref.lowL_length]
  have e1 : (Ref.lowL p).isEmpty = p.isEmpty := by cases p <;> rfl
  have e2 : ∀ b : UInt8, (Ref.low b != 45) = (b != 45) := fun b => by unfold bne; rw [low_minus]
  have e3 : (Ref.lowL p).all hostByte = p.all hostByte := by
    unfold Ref.lowL; rw [List.all_map]; congr 1; funext b; exact low_host b
  rw [e1, e2, e2, e3]
theorem numGo_low (most : Int) : ∀ (p : List UInt8) (n : Int), Ref.numGo most (Ref.lowL p) n = Ref.numGo most p n
  | [], _ => rfl
  | b :: r, n => by
    have e : Ref.lowL (b :: r) = Ref.low b :: Ref.lowL r := rfl
    rw [e]
    unfold Ref.numGo
    rw [low_dec]
    by_cases hd : Ref.decB b = true
    · rw [dec_low b hd, numGo_low most r]
    · rw [if_neg (fun h => hd h.1), if_neg (fun h => hd h.1)]
theorem numOf_low (most : Int) (p : List UInt8) : Ref.numOf most (Ref.lowL p) = Ref.numOf most p := by
  unfold Ref.numOf
  rw [Ref.lowL_length, numGo_low, low_getD]
  have e1 : (Ref.lowL p = []) ↔ (p = []) := by cases p <;> simp [Ref.lowL]
  have e2 : ∀ b : UInt8, (Ref.low b).toNat = 48 ↔ b.toNat = 48 := fun b => by
    have h3 : (Ref.low b).toNat = 48 → b.toNat = 48 := Ref.all_u8 (p := fun b => (Ref.low b).toNat = 48 → b.toNat = 48) (by decide +kernel) b
    exact ⟨h3, fun h => by rw [Ref.low_lo b (by omega)]; exact h⟩
  have hc : (Ref.lowL p = [] ∨ (1 < p.length ∧ (Ref.low (p.getD 0 0)).toNat = 48)) ↔ (p = [] ∨ (1 < p.length ∧ (p.getD 0 0).toNat = 48)) := by rw [e1, e2]
  simp only [hc]
theorem addr_low (l : List (List UInt8)) : addrB (l.map Ref.lowL) = addrB l := by
  unfold addrB
  rw [List.length_map, List.all_map]
  congr 2
  funext p
  simp only [Function.comp, numOf_low]
theorem host_low (l : List (List UInt8)) : hostB (l.map Ref.lowL) = hostB l := by
  unfold hostB
  rw [List.length_map, List.all_map, addr_low]
  have e1 : (l.map Ref.lowL).getLastD [] = Ref.lowL (l.getLastD []) := by
    rw [List.getLastD_eq_getLast?, List.getLastD_eq_getLast?, List.getLast?_map]
    cases l.getLast? <;> rfl
  have e2 : (fun p => partB p) ∘ Ref.lowL = partB := by funext p; exact part_low p
  have e3 : partB ∘ Ref.lowL = partB := e2
  rw [e1, low_getD, low_dec, e3]
theorem parse_low (t : List UInt8) : parseE (Ref.lowL t) = parseE t := by
  unfold parseE
  rw [Ref.lowL_length, split_low, host_low]
end Go.Proofs.YtkjkfgmoogbdiaaGreatDoor.Host

namespace Go.Proofs.YtkjkfgmoogbdiaaGreatDoor
open Go.Lib

theorem compactUpTo_set {α : Type} [LT α] [DecidableEq α] [LE α] [Std.IsLinearOrder α] [Std.LawfulOrderLT α] [Inhabited α] (d : Array α) (hs : ∀ i j, i < j → j < d.size → ¬ d[j]! < d[i]!) :
    ∀ m, m ≤ d.size → Rises (compactUpTo d m) ∧ ∀ a, a ∈ compactUpTo d m ↔ ∃ j, j < m ∧ d[j]! = a := by
  intro m
  induction m with
  | zero => intro _; exact ⟨by unfold compactUpTo; exact List.Pairwise.nil, fun a => by unfold compactUpTo; simp⟩
  | succ m ih =>
    intro hm
    obtain ⟨h1, h2⟩ := ih (by omega)
    rw [compactUpTo_succ]
    by_cases hk : keeps d m = true
    · rw [if_pos hk]
      have hgt : ∀ a ∈ compactUpTo d m, a < d[m]! := by
        intro a ha
        obtain ⟨j, hj, rfl⟩ := (h2 a).1 ha
        have hn := hs j m hj (by omega)
        rcases Lin.tri d[j]! d[m]! with h | h | h
        · exact h
        · exfalso
          have hne : d[m]! ≠ d[m - 1]! := by
            unfold keeps at hk
            rcases of_decide_eq_true hk with h | h
            · omega
            · exact h
          by_cases hj1 : j = m - 1
          · subst hj1; exact hne h.symm
          · have h3 := hs j (m - 1) (by omega) (by omega)
            have h4 := hs (m - 1) m (by omega) (by omega)
            rw [h] at h3
            exact hne (lin_eq h4 h3)
        · exact absurd h hn
      refine ⟨List.pairwise_append.2 ⟨h1, by simp, fun a ha b hb => ?_⟩, fun a => ?_⟩
      · obtain rfl : b = d[m]! := by simpa using hb
        exact hgt a ha
      · rw [List.mem_append, h2]
        constructor
        · rintro (⟨j, hj, rfl⟩ | h)
          · exact ⟨j, by omega, rfl⟩
          · exact ⟨m, by omega, (List.mem_singleton.1 h).symm⟩
        · rintro ⟨j, hj, rfl⟩
          by_cases e : j = m
          · subst e; exact .inr (by simp)
          · exact .inl ⟨j, by omega, rfl⟩
    · rw [if_neg hk, List.append_nil]
      refine ⟨h1, fun a => ?_⟩
      rw [h2]
      constructor
      · rintro ⟨j, hj, rfl⟩; exact ⟨j, by omega, rfl⟩
      · rintro ⟨j, hj, rfl⟩
        by_cases e : j = m
        · subst e
          have : ¬ (j = 0 ∨ d[j]! ≠ d[j - 1]!) := fun h => hk (by unfold keeps; exact decide_eq_true h)
          have h0 : j ≠ 0 := fun h => this (.inl h)
          have he : d[j]! = d[j - 1]! := Classical.byContradiction fun h => this (.inr h)
          exact ⟨j - 1, by omega, he.symm⟩
        · exact ⟨j, by omega, rfl⟩

theorem compact_set {α : Type} [LT α] [DecidableEq α] [LE α] [Std.IsLinearOrder α] [Std.LawfulOrderLT α] [Inhabited α] (zs : List α) (hs : zs.Pairwise fun x y => ¬ y < x) : Rises (compact zs) ∧ ∀ a, a ∈ compact zs ↔ a ∈ zs := by
  have h := compactUpTo_set zs.toArray (fun i j hij hj => by
    have hj' : j < zs.length := by simpa using hj
    have := List.pairwise_iff_getElem.1 hs i j (by omega) hj' hij
    simpa [getElem!_pos, hj', show i < zs.length by omega] using this) zs.length (by simp)
  refine ⟨h.1, fun a => (h.2 a).trans ?_⟩
  constructor
  · rintro ⟨j, hj, rfl⟩
    simp [getElem!_pos, hj]
  · intro ha
    obtain ⟨j, hj, rfl⟩ := List.getElem_of_mem ha
    exact ⟨j, hj, by simp [getElem!_pos, hj]⟩

theorem sortedStr (zs : List (List UInt8)) : (zs.mergeSort fun x y => decide (x ≤ y)).Pairwise fun x y => ¬ y < x := by
  have := List.pairwise_mergeSort (le := fun x y : List UInt8 => decide (x ≤ y)) (fun a b c h k => by simp at *; exact List.le_trans h k) (fun a b => by simp; exact List.le_total a b) zs
  exact this.imp fun h => by simp at h; exact List.not_lt.2 h

def setS (zs : List (List UInt8)) : List (List UInt8) := compact (zs.mergeSort fun x y => decide (x ≤ y))
theorem setS_rises (zs : List (List UInt8)) : Rises (setS zs) := (compact_set _ (sortedStr zs)).1
theorem mem_setS (zs : List (List UInt8)) (a : List UInt8) : a ∈ setS zs ↔ a ∈ zs := ((compact_set _ (sortedStr zs)).2 a).trans List.mem_mergeSort
theorem setS_length (zs : List (List UInt8)) : (setS zs).length ≤ zs.length := by
  have := compact_length_le (zs.mergeSort fun x y => decide (x ≤ y)); rwa [List.length_mergeSort] at this

end Go.Proofs.YtkjkfgmoogbdiaaGreatDoor

namespace Go.Proofs.YtkjkfgmoogbdiaaGreatDoor.Frm
set_option linter.unusedVariables false

/-- A formula implies another one, clause by clause. -/
def impB {α : Type} [DecidableEq α] (f g : List (List α)) : Bool := g.all fun c => f.any fun x => subB x c
/-- It holds for a set. -/
def holdsB {α : Type} (f : List (List α)) (S : α → Bool) : Bool := f.all fun c => c.any S
theorem imp_iff {α : Type} [DecidableEq α] (f g : List (List α)) : impB f g = true ↔ ∀ c ∈ g, ∃ x ∈ f, ∀ p ∈ x, p ∈ c := by
  unfold impB
  rw [List.all_eq_true]
  constructor
  · intro h c hc
    obtain ⟨x, hx, hs⟩ := List.any_eq_true.1 (h c hc)
    exact ⟨x, hx, (subB_iff x c).1 hs⟩
  · intro h c hc
    obtain ⟨x, hx, hs⟩ := h c hc
    exact List.any_eq_true.2 ⟨x, hx, (subB_iff x c).2 hs⟩
theorem holds_iff {α : Type} (f : List (List α)) (S : α → Bool) : holdsB f S = true ↔ ∀ c ∈ f, ∃ p ∈ c, S p = true := by
  unfold holdsB
  rw [List.all_eq_true]
  exact ⟨fun h c hc => List.any_eq_true.1 (h c hc), fun h c hc => List.any_eq_true.2 (h c hc)⟩
/-- Implying is meaning it. -/
theorem imp_means {α : Type} [DecidableEq α] (f g : List (List α)) : impB f g = true ↔ ∀ S : α → Bool, holdsB f S = true → holdsB g S = true := by
  rw [imp_iff]
  constructor
  · intro h S hf
    rw [holds_iff] at hf ⊢
    intro c hc
    obtain ⟨x, hx, hs⟩ := h c hc
    obtain ⟨p, hp, h1⟩ := hf x hx
    exact ⟨p, hs p hp, h1⟩
  · intro h c hc
    refine Decidable.byContradiction fun hno => ?_
    have h1 := h (fun p => !c.contains p) ((holds_iff f _).2 fun x hx => ?_)
    · obtain ⟨p, hp, h2⟩ := (holds_iff g _).1 h1 c hc
      rw [Bool.not_eq_true', ← Bool.not_eq_true] at h2
      exact h2 (List.contains_iff_mem.2 hp)
    · refine Decidable.byContradiction fun hn => hno ⟨x, hx, fun p hp => ?_⟩
      refine Decidable.byContradiction fun hpc => hn ⟨p, hp, ?_⟩
      rw [Bool.not_eq_true', ← Bool.not_eq_true]
      exact fun h => hpc (List.contains_iff_mem.1 h)

/-- None of the clauses is within another one. -/
def Reduced {α : Type} (f : List (List α)) : Prop := ∀ x ∈ f, ∀ y ∈ f, (∀ p ∈ x, p ∈ y) → x = y
theorem holds_app {α : Type} (f g : List (List α)) (S : α → Bool) : holdsB (f ++ g) S = (holdsB f S && holdsB g S) := by
  unfold holdsB; rw [List.all_append]
end Go.Proofs.YtkjkfgmoogbdiaaGreatDoor.Frm

namespace Go.Proofs.YtkjkfgmoogbdiaaGreatDoor.Pct
open Go.RowKit

set_option maxHeartbeats 4000000 in
theorem isLetter_any (b : UInt8) (w : World) :
    Calls Tryz.prog 215 #[.int .u8 (b.toNat : Int)] w fun e w' => e = .returned (.bool (letB b)) ∧ w = w' := by
  have hb := u8_lt b
  by_cases h0 : 65 ≤ b.toNat <;> by_cases h1 : b.toNat ≤ 90 <;> by_cases h2 : 97 ≤ b.toNat <;> by_cases h3 : b.toNat ≤ 122
  all_goals first | (exfalso; omega) | skip
  all_goals
    (first | have H := Lib.hid (show letB b = true by simp [letB]; omega) | have H := Lib.hid (show letB b = false by simp [letB]; omega))
    (first | have d0 : decide ((65 : Int) ≤ (b.toNat : Int)) = true := (by simp; omega) | have d0 : decide ((65 : Int) ≤ (b.toNat : Int)) = false := (by simp; omega))
    (first | have d1 : decide ((b.toNat : Int) ≤ (90 : Int)) = true := (by simp; omega) | have d1 : decide ((b.toNat : Int) ≤ (90 : Int)) = false := (by simp; omega))
    (first | have d2 : decide ((97 : Int) ≤ (b.toNat : Int)) = true := (by simp; omega) | have d2 : decide ((97 : Int) ≤ (b.toNat : Int)) = false := (by simp; omega))
    (first | have d3 : decide ((b.toNat : Int) ≤ (122 : Int)) = true := (by simp; omega) | have d3 : decide ((b.toNat : Int) ≤ (122 : Int)) = false := (by simp; omega))
    go_enter Tryz.func215, Tryz.ntmps215
    go_wp2
    go_ret
    exact ⟨(by rw [H.out]; try rfl), rfl⟩

set_option maxHeartbeats 4000000 in
theorem isDecimal_any (b : UInt8) (w : World) :
    Calls Tryz.prog 216 #[.int .u8 (b.toNat : Int)] w fun e w' => e = .returned (.bool (decB b)) ∧ w = w' := by
  have hb := u8_lt b
  by_cases h0 : 48 ≤ b.toNat <;> by_cases h1 : b.toNat ≤ 57
  all_goals first | (exfalso; omega) | skip
  all_goals
    (first | have H := Lib.hid (show decB b = true by simp [decB]; omega) | have H := Lib.hid (show decB b = false by simp [decB]; omega))
    (first | have d0 : decide ((48 : Int) ≤ (b.toNat : Int)) = true := (by simp; omega) | have d0 : decide ((48 : Int) ≤ (b.toNat : Int)) = false := (by simp; omega))
    (first | have d1 : decide ((b.toNat : Int) ≤ (57 : Int)) = true := (by simp; omega) | have d1 : decide ((b.toNat : Int) ≤ (57 : Int)) = false := (by simp; omega))
    go_enter Tryz.func216, Tryz.ntmps216
    go_wp2
    go_ret
    exact ⟨(by rw [H.out]; try rfl), rfl⟩

set_option maxHeartbeats 4000000 in
theorem isHexadecimal_any (b : UInt8) (w : World) :
    Calls Tryz.prog 228 #[.int .u8 (b.toNat : Int)] w fun e w' => e = .returned (.bool (hexB b)) ∧ w = w' := by
  have hb := u8_lt b
  have con := isDecimal_any b
  by_cases h0 : 48 ≤ b.toNat <;> by_cases h1 : b.toNat ≤ 57 <;> by_cases h2 : 65 ≤ b.toNat <;> by_cases h3 : b.toNat ≤ 70 <;> by_cases h4 : 97 ≤ b.toNat <;> by_cases h5 : b.toNat ≤ 102
  all_goals first | (exfalso; omega) | skip
  all_goals
    (first | have H := Lib.hid (show hexB b = true by simp [hexB]; omega) | have H := Lib.hid (show hexB b = false by simp [hexB]; omega))
    (first | rw [show decB b = true from by simp [decB]; omega] at con | rw [show decB b = false from by simp [decB]; omega] at con)
    (first | have d0 : decide ((48 : Int) ≤ (b.toNat : Int)) = true := (by simp; omega) | have d0 : decide ((48 : Int) ≤ (b.toNat : Int)) = false := (by simp; omega))
    (first | have d1 : decide ((b.toNat : Int) ≤ (57 : Int)) = true := (by simp; omega) | have d1 : decide ((b.toNat : Int) ≤ (57 : Int)) = false := (by simp; omega))
    (first | have d2 : decide ((65 : Int) ≤ (b.toNat : Int)) = true := (by simp; omega) | have d2 : decide ((65 : Int) ≤ (b.toNat : Int)) = false := (by simp; omega))
    (first | have d3 : decide ((b.toNat : Int) ≤ (70 : Int)) = true := (by simp; omega) | have d3 : decide ((b.toNat : Int) ≤ (70 : Int)) = false := (by simp; omega))
    (first | have d4 : decide ((97 : Int) ≤ (b.toNat : Int)) = true := (by simp; omega) | have d4 : decide ((97 : Int) ≤ (b.toNat : Int)) = false := (by simp; omega))
    (first | have d5 : decide ((b.toNat : Int) ≤ (102 : Int)) = true := (by simp; omega) | have d5 : decide ((b.toNat : Int) ≤ (102 : Int)) = false := (by simp; omega))
    go_enter Tryz.func228, Tryz.ntmps228
    go_wp2_with (go_at_call 216; refine (con _).mono ?_; rintro e w' ⟨rfl, rfl⟩)
    go_ret
    exact ⟨(by rw [H.out]; try rfl), rfl⟩

theorem worth_dec (b : UInt8) (h : decB b = true) : ((worth b).toNat : Int) = (b.toNat : Int) - 48 := by
  have h1 : 48 ≤ b.toNat ∧ b.toNat ≤ 57 := by simpa [decB] using h
  unfold worth
  rw [h, if_pos rfl, UInt8.toNat_sub]
  have : (48 : UInt8).toNat = 48 := rfl
  rw [this]; omega
theorem worth_small (b : UInt8) (h : decB b = false) (h' : 97 ≤ b.toNat) : ((worth b).toNat : Int) = (b.toNat : Int) - 97 + 10 := by
  have := u8_lt b
  unfold worth
  rw [h, if_neg (by simp), if_pos h', UInt8.toNat_add, UInt8.toNat_sub]
  have : (97 : UInt8).toNat = 97 := rfl
  have h10 : (10 : UInt8).toNat = 10 := rfl
  rw [this, h10]; omega
theorem worth_great (b : UInt8) (h : decB b = false) (h' : ¬ 97 ≤ b.toNat) (h2 : 65 ≤ b.toNat) : ((worth b).toNat : Int) = (b.toNat : Int) - 65 + 10 := by
  have := u8_lt b
  unfold worth
  rw [h, if_neg (by simp), if_neg h', UInt8.toNat_add, UInt8.toNat_sub]
  have : (65 : UInt8).toNat = 65 := rfl
  have h10 : (10 : UInt8).toNat = 10 := rfl
  rw [this, h10]; omega

set_option maxHeartbeats 2000000 in
theorem worth_any (b : UInt8) (w : World) (hx : hexB b = true) :
    Calls Tryz.prog 214 #[.int .u8 (b.toNat : Int)] w fun e w' => e = .returned (.int .u8 ((worth b).toNat : Int)) ∧ w = w' := by
  have hb := u8_lt b
  have con := isDecimal_any b
  have hx' : (48 ≤ b.toNat ∧ b.toNat ≤ 57) ∨ (65 ≤ b.toNat ∧ b.toNat ≤ 70) ∨ (97 ≤ b.toNat ∧ b.toNat ≤ 102) := by simpa [hexB] using hx
  clear hx
  by_cases hd : decB b = true
  · have H := Lib.hid (worth_dec b hd)
    have hd' : 48 ≤ b.toNat ∧ b.toNat ≤ 57 := by simpa [decB] using hd
    rw [hd] at con
    obtain ⟨hd1, hd2⟩ := hd'
    clear hd hx'
    go_enter Tryz.func214, Tryz.ntmps214
    go_wp2_with (go_at_call 216; refine (con _).mono ?_; rintro e w' ⟨rfl, rfl⟩)
    go_ret
    exact ⟨(by rw [H.out]; try rfl), rfl⟩
  · have hd0 : decB b = false := by simpa using hd
    have hd' : ¬ (48 ≤ b.toNat ∧ b.toNat ≤ 57) := by simpa [decB] using hd
    by_cases h9 : 97 ≤ b.toNat
    · have H := Lib.hid (worth_small b hd0 h9)
      rw [hd0] at con
      have d1 : decide ((97 : Int) ≤ (b.toNat : Int)) = true := by simp; omega
      clear hd hx' hd' hd0
      go_enter Tryz.func214, Tryz.ntmps214
      go_wp2_with (go_at_call 216; refine (con _).mono ?_; rintro e w' ⟨rfl, rfl⟩)
      go_ret
      exact ⟨(by rw [H.out]; try rfl), rfl⟩
    · have h6 : 65 ≤ b.toNat := by omega
      have H := Lib.hid (worth_great b hd0 h9 h6)
      rw [hd0] at con
      have d1 : decide ((97 : Int) ≤ (b.toNat : Int)) = false := by simp; omega
      clear hd hx' hd' hd0 h9
      go_enter Tryz.func214, Tryz.ntmps214
      go_wp2_with (go_at_call 216; refine (con _).mono ?_; rintro e w' ⟨rfl, rfl⟩)
      go_ret
      exact ⟨(by rw [H.out]; try rfl), rfl⟩

end Go.Proofs.YtkjkfgmoogbdiaaGreatDoor.Pct

namespace Go.Proofs.YtkjkfgmoogbdiaaGreatDoor
open Go
variable {F : Fence} {n : Nat} {P : Program} {ops : Array Oper} {Q : Exit → Act → World → Prop} {md : Region.Mode} {S0 : World → Prop} {nd : Nat → Bool}

/-- As anyH, but the condition holds behind those operations alone that nd names. -/
def anyO (F : Fence) (n : Nat) (P : Program) (md : Region.Mode) (ops : Array Oper) (Q : Exit → Act → World → Prop) (nd : Nat → Bool) (S0 : World → Prop) : Nat → Array Bool → Act → World → Prop
  | 0, listed, a, w => Region.ready md ops listed = [] ∧ Q .normal a w
  | fuel + 1, listed, a, w => (Region.ready md ops listed = [] → Q .normal a w) ∧
    ∀ i ∈ Region.ready md ops listed, wpOpIn F n P ops Q i (fun a' w' => (nd i = true → S0 w') ∧ anyO F n P md ops Q nd S0 fuel (listed.setIfInBounds i true) a' w') a w

theorem anyH_of_anyO : ∀ (fuel : Nat) (listed : Array Bool) (a : Act) (w : World), anyO F n P md ops Q nd S0 fuel listed a w → anyH F n P md ops Q (fun _ => True) fuel listed a w
  | 0, _, _, _, h => h
  | fuel + 1, _, _, _, h => ⟨h.1, fun i hi => wpOpIn_mono (fun a' w' h' => ⟨trivial, anyH_of_anyO fuel _ a' w' h'.2⟩) (h.2 i hi)⟩

theorem anyO_first {i : Nat} {oi : Oper} {v : Value} (hi : ops[i]? = some oi) (hd : noDefer ops = true) (hsel : ∀ (j : Nat) (o : Oper) cs b, ops[j]? = some o → o.op ≠ .select cs b)
    (hQ : ∀ c a w, Q (.panic c) (a.put oi.dst v) w → Q (.panic c) a w)
    (hc : ∀ j oj, ops[j]? = some oj → j ≠ i → (∀ e ∈ oj.after, Region.binds md e = true → e.on ≠ i) → nd j = true) :
    ∀ (fuel : Nat) (listed : Array Bool) (a : Act) (w : World),
      (∀ j oj, ops[j]? = some oj → j ≠ i → listed.getD j true = false → (∀ e ∈ oj.after, Region.binds md e = true → e.on ≠ i) → oi.apart ops oj = true) →
      i ∈ Region.ready md ops listed → Yld P ops S0 oi v a → S0 w →
      anyO F n P md ops Q nd S0 fuel (listed.setIfInBounds i true) (a.put oi.dst v) w → anyO F n P md ops Q nd S0 (fuel + 1) listed a w := by
  intro fuel
  induction fuel with
  | zero =>
    intro listed a w _ hr hy hS H
    refine ⟨fun h => (by rw [h] at hr; cases hr), fun j hj => ?_⟩
    by_cases hji : j = i
    · subst hji; exact hy.op hi (noDefer_spec hd hi) hS ⟨fun _ => hS, H⟩
    · have := ready_mono hj hji
      rw [H.1] at this
      cases this
  | succ fuel ih =>
    intro listed a w hfree hr hy hS H
    refine ⟨fun h => (by rw [h] at hr; cases hr), fun j hj => ?_⟩
    by_cases hji : j = i
    · subst hji; exact hy.op hi (noDefer_spec hd hi) hS ⟨fun _ => hS, H⟩
    · have h1 := H.2 j (ready_mono hj hji)
      obtain ⟨hjun, oj, hoj, hall⟩ := mem_ready.1 hj
      have hnot : ∀ e ∈ oj.after, Region.binds md e = true → e.on ≠ i := fun e he hb heq => by
        have h1 := hall e he hb
        have h0 := (mem_ready.1 hr).1
        rw [heq] at h1
        rcases Nat.lt_or_ge i listed.size with h' | h'
        · simp [h'] at h0 h1; rw [h0] at h1; cases h1
        · simp [Array.getElem?_eq_none h'] at h1
      have h2 := hy.past hoj (noDefer_spec hd hoj) (hfree j oj hoj hji hjun hnot) (fun cs b => hsel i oi cs b hi) (fun cs b => hsel j oj cs b hoj) hQ h1
      have hfree' : ∀ k ok, ops[k]? = some ok → k ≠ i → (listed.setIfInBounds j true).getD k true = false →
          (∀ e ∈ ok.after, Region.binds md e = true → e.on ≠ i) → oi.apart ops ok = true := fun k ok hk hki hun hno => by
        refine hfree k ok hk hki ?_ hno
        by_cases hjk : j = k
        · subst hjk; exact hjun
        · rw [getD_set_ne true hjk] at hun; exact hun
      have hnd := hc j oj hoj hji hnot
      refine wpOpIn_mono (fun a' w' h3 => ⟨h3.2.1, ih (listed.setIfInBounds j true) a' w' hfree' (ready_mono hr (Ne.symm hji)) h3.1 (h3.2.1 hnd) ?_⟩) h2
      rw [Array.setIfInBounds_comm _ _ hji]
      exact h3.2.2

/-- Behind what may come up ahead of number i the condition is asked. -/
def asks (md : Region.Mode) (ops : Array Oper) (nd : Nat → Bool) (i : Nat) : Bool := (List.range ops.size).all fun j => j == i || nd j || match ops[j]? with
  | some oj => oj.after.any (fun e => Region.binds md e && e.on == i)
  | none => true
theorem asks_spec {i : Nat} (h : asks md ops nd i = true) (j : Nat) (oj : Oper) (hj : ops[j]? = some oj) (hne : j ≠ i) (hno : ∀ e ∈ oj.after, Region.binds md e = true → e.on ≠ i) : nd j = true := by
  simp only [asks, List.all_eq_true, List.mem_range] at h
  have h1 := h j (Array.getElem?_eq_some_iff.1 hj).1
  simp only [hj, Bool.or_eq_true, beq_iff_eq, hne, false_or] at h1
  rcases h1 with h1 | h1
  · exact h1
  · obtain ⟨e, he, hb⟩ := Array.any_eq_true'.1 h1
    simp only [Bool.and_eq_true, beq_iff_eq] at hb
    exact absurd hb.2 (hno e he hb.1)

/-- The beginning. -/
theorem region_anyO {id : Nat} {a : Act} {w : World} (nd : Nat → Bool) (S0 : World → Prop) (hm : P.follows .mixedOrders = true)
    (h : anyO F n P .any ops (NP Q) nd S0 ops.size (Array.replicate ops.size false) a w.drew) : (Code.region id ops true).wpIn F n P Q a w :=
  region_any _ hm (anyH_of_anyO _ _ _ _ h)
/-- Take number i first. -/
theorem anyO_take (i : Nat) {oi : Oper} {v : Value} {fuel : Nat} {listed : Array Bool} {a : Act} {w : World} (hi : ops[i]? = some oi)
    (hd : noDefer ops = true) (hs : Region.noSelect ops = true) (hf : Region.free md ops listed i = true) (hr : (Region.ready md ops listed).contains i = true) (hk : asks md ops nd i = true)
    (hQ : ∀ c a w, Q (.panic c) (a.put oi.dst v) w → Q (.panic c) a w) (hy : Yld P ops S0 oi v a) (hS : S0 w)
    (h : anyO F n P md ops Q nd S0 fuel (listed.setIfInBounds i true) (a.put oi.dst v) w) : anyO F n P md ops Q nd S0 (fuel + 1) listed a w :=
  anyO_first hi hd (Region.noSelect_spec hs) hQ (asks_spec hk) fuel listed a w (Region.free_spec hi hf) (by simpa using hr) hy hS h
/-- Number i alone may come up. -/
theorem anyO_one (i : Nat) {fuel : Nat} {listed : Array Bool} {a : Act} {w : World} {o : Oper} (hr : Region.ready md ops listed = [i]) (ho : ops[i]? = some o)
    (h : ∀ K : Act → World → Prop, (∀ a' w', (nd i = true → S0 w') → anyO F n P md ops Q nd S0 fuel (listed.setIfInBounds i true) a' w' → K a' w') →
      if Region.wanted o (yielded ops a.tmps) = true then Oper.wpIn F n P o a w K Q else (∀ f, o.about P w a.eval = some f → F.fn f) ∧ K (a.put o.dst undef) w) : anyO F n P md ops Q nd S0 (fuel + 1) listed a w := by
  refine ⟨fun h0 => (by rw [hr] at h0; cases h0), fun j hj => ?_⟩
  rw [hr] at hj
  obtain rfl : j = i := by simpa using hj
  exact wpOpIn_step ho fun K' hK' => h K' fun a' w' hs ha => hK' a' w' ⟨hs, ha⟩
/-- All have come up. -/
theorem anyO_done {listed : Array Bool} {a : Act} {w : World} (hr : Region.ready md ops listed = []) (h : Q .normal a w) : ∀ fuel, anyO F n P md ops (NP Q) nd S0 fuel listed a w
  | 0 => ⟨hr, h⟩
  | _ + 1 => ⟨fun _ => h, by rw [hr]; simp⟩
end Go.Proofs.YtkjkfgmoogbdiaaGreatDoor

namespace Go.Proofs.YtkjkfgmoogbdiaaGreatDoor.Arn
open Go.RowKit
set_option linter.unusedVariables false

/-- A block of cells, of a type, no cell of it frozen. -/
def BL (t : TypeId) (B : Nat) (cs : Array Value) (X : World) : Prop := X.heap[B]? = some (.cells cs t (0, 0))
theorem BL.cell {t : TypeId} {B : Nat} {cs : Array Value} {X : World} (h : BL t B cs X) (i : Nat) (x : Value) (hx : cs[i]? = some x) : X.cell? ⟨B, i, none⟩ = some x := by
  unfold BL at h
  unfold World.cell?
  simp [h, hx]
theorem BL.frozen {t : TypeId} {B : Nat} {cs : Array Value} {X : World} (h : BL t B cs X) (i : Nat) : X.frozen? ⟨B, i, none⟩ = false := by
  unfold BL at h
  unfold World.frozen?
  simp [h]
theorem BL.lt {t : TypeId} {B : Nat} {cs : Array Value} {X : World} (h : BL t B cs X) : B < X.heap.size := (Array.getElem?_eq_some_iff.1 h).1
theorem BL.keep {t : TypeId} {B : Nat} {cs : Array Value} {S : Nat → Prop} {X Y : World} (h : BL t B cs X) (hk : Keep S X Y) (hS : S B) : BL t B cs Y := hk.heap hS h
theorem BL.on {t : TypeId} {B : Nat} {cs : Array Value} {X Y : World} (h : BL t B cs X) (hk : Below X.heap.size X Y) : BL t B cs Y := (hk.block B h.lt).trans h
theorem BL.new (t : TypeId) (w : World) (cs : Array Value) : BL t w.heap.size cs (w.alloc (.cells cs t)) := World.alloc_heap_new w _
theorem BL.set {t : TypeId} {B : Nat} {cs : Array Value} {X : World} (h : BL t B cs X) (i : Nat) (v : Value) : BL t B (cs.setIfInBounds i v) (X.setCell ⟨B, i, none⟩ v) := heap_setCell_same X B i cs t v h
/-- Blocks of two types are two. -/
theorem BL.ne {t u : TypeId} {B C : Nat} {cs ds : Array Value} {X : World} (h : BL t B cs X) (k : BL u C ds X) (htu : t ≠ u) : B ≠ C := fun e => by
  subst e
  unfold BL at h k
  rw [h] at k
  cases k
  exact htu rfl
theorem BL.ne_row {t e : TypeId} {B : Nat} {cs : Array Value} {X : World} (h : BL t B cs X) (hte : t ≠ e) {base size k : Nat} {v : Value} {xs : List Value} (hr : X.ownsRow base e size v k xs) : v.ownBlock ≠ some B := by
  rcases hr.2 with ⟨rfl, _⟩ | ⟨g, cap, cur, rfl, _, hg, _⟩
  · exact fun e => by cases e
  · intro hb
    have hb2 : g = B := by simpa [Value.ownBlock] using hb
    subst hb2
    unfold BL at h
    rw [h] at hg
    cases hg
    exact hte rfl
theorem rows_ne {t e : TypeId} {X : World} {base size k : Nat} {v : Value} {xs : List Value} (h : X.ownsRow base e size v k xs) {base' size' k' : Nat} {v' : Value} {xs' : List Value} (h' : X.ownsRow base' t size' v' k' xs') (hte : t ≠ e) : ∀ b, v.ownBlock = some b → v'.ownBlock ≠ some b := by
  intro b hb
  rcases h.2 with ⟨rfl, _⟩ | ⟨g, cap, cur, rfl, _, hg, _⟩
  · cases hb
  · have hb2 : g = b := by simpa [Value.ownBlock] using hb
    subst hb2
    exact BL.ne_row (t := e) (B := g) (cs := cur) hg (fun e => hte e.symm) h'

end Go.Proofs.YtkjkfgmoogbdiaaGreatDoor.Arn

namespace Go.Proofs.YtkjkfgmoogbdiaaGreatDoor.Host

theorem num_go (most : Int) : ∀ (p : List UInt8) (n m : Int), Ref.numGo most p n = some m → p.all Ref.decB = true ∧ (n ≤ most → m ≤ most) ∧ (1 ≤ n → n + 9 * (p.length : Int) ≤ m)
  | [], n, m, h => by
    have h' : some n = some m := h
    cases h'
    exact ⟨rfl, id, fun _ => by simp⟩
  | b :: r, n, m, h => by
    unfold Ref.numGo at h
    split at h
    · rename_i hc
      obtain ⟨h1, h2, h3⟩ := num_go most r _ m h
      have hb := (Ref.decB_of b).1 hc.1
      refine ⟨by rw [List.all_cons, hc.1, h1]; rfl, fun _ => h2 (by omega), fun hn => ?_⟩
      have := h3 (by omega)
      rw [List.length_cons]; omega
    · cases h
theorem num_len (p : List UInt8) (h : (Ref.numOf 255 p).isSome = true) : p ≠ [] ∧ p.length ≤ 63 ∧ p.all Ref.decB = true := by
  obtain ⟨m, hm⟩ := Option.isSome_iff_exists.1 h
  unfold Ref.numOf at hm
  split at hm
  · cases hm
  · rename_i hno
    cases p with
    | nil => exact absurd (.inl rfl) hno
    | cons b r =>
      have ha := (num_go 255 _ _ _ hm).1
      refine ⟨by simp, ?_, ha⟩
      by_cases hr : r = []
      · subst hr; simp
      · have h48 : b.toNat ≠ 48 := fun h48 => hno (.inr ⟨by
          have : r.length ≠ 0 := fun h0 => hr (List.eq_nil_of_length_eq_zero h0)
          rw [List.length_cons]; omega, h48⟩)
        unfold Ref.numGo at hm
        split at hm
        · rename_i hc
          have hb := (Ref.decB_of b).1 hc.1
          obtain ⟨_, h2, h3⟩ := num_go 255 r _ m hm
          have h2' := h2 (by omega)
          have h3' := h3 (by omega)
          rw [List.length_cons]; omega
        · cases hm
theorem num_part (p : List UInt8) (h : (Ref.numOf 255 p).isSome = true) : partB p = true := by
  obtain ⟨h1, h2, h3⟩ := num_len p h
  have hl : 0 < p.length := List.length_pos_iff.2 h1
  have hd : ∀ k, k < p.length → Ref.decB (p.getD k 0) = true := fun k hk => by
    rw [List.getD, List.getElem?_eq_getElem hk]
    exact List.all_eq_true.1 h3 _ (List.getElem_mem _)
  have hne : ∀ b : UInt8, Ref.decB b = true → (b != 45) = true := fun b hb => by
    rw [bne_iff_ne]; rintro rfl; revert hb; decide
  unfold partB
  rw [hne _ (hd 0 hl), hne _ (hd _ (by omega)), decide_eq_true h2]
  have he : p.isEmpty = false := by cases p with | nil => exact absurd rfl h1 | cons => rfl
  rw [he]
  have ha : p.all hostByte = true := by
    rw [List.all_eq_true]; intro b hb
    unfold hostByte
    rw [List.all_eq_true.1 h3 b hb]; simp
  rw [ha]; rfl
theorem addr_host (l : List (List UInt8)) (h : addrB l = true) : hostB l = true := by
  have h' := h
  unfold addrB at h'
  rw [Bool.and_eq_true, decide_eq_true_iff, List.all_eq_true] at h'
  unfold hostB
  rw [h, decide_eq_true (by omega), List.all_eq_true.2 (fun p hp => num_part p (h'.2 p hp))]
  simp
/-- Four numbers, and no longer than a host may be. -/
theorem address_of (l : List UInt8) (h : ¬ 253 < l.length) : addressB l = addrB (Ref.splitL 46 l) := by
  unfold addressB
  cases ha : addrB (Ref.splitL 46 l) with
  | false => simp
  | true =>
    have hp : parseE l = 0 := by unfold parseE; rw [if_neg h, if_pos (addr_host _ ha)]
    rw [hp]; rfl
theorem address_big (l : List UInt8) (h : 253 < l.length) : addressB l = false := by
  have hp : parseE l = 3 := by unfold parseE; rw [if_pos h]
  unfold addressB; rw [hp]; rfl

end Go.Proofs.YtkjkfgmoogbdiaaGreatDoor.Host

namespace Go.Proofs.YtkjkfgmoogbdiaaGreatDoor.Frm
set_option linter.unusedVariables false

theorem cmp_lt {α : Type} [LT α] [DecidableEq α] [DecidableLT α] [LE α] [Std.IsLinearOrder α] [Std.LawfulOrderLT α] : ∀ xs ys : List α, cmpL xs ys = -1 ↔ xs < ys
  | [], [] => by simp [cmpL]
  | [], _ :: _ => by simp [cmpL]
  | _ :: _, [] => by simp [cmpL]
  | x :: xs, y :: ys => by
    unfold cmpL
    rw [List.cons_lt_cons_iff]
    by_cases h : x < y
    · rw [if_pos h]; simp [h]
    · by_cases k : y < x
      · rw [if_neg h, if_pos k]
        simp only [h, false_or]
        exact ⟨fun e => absurd e (by decide), fun e => absurd e.1 (fun e => lin_ne k e.symm)⟩
      · rw [if_neg h, if_neg k, cmp_lt xs ys]
        have e := lin_eq h k
        subst e
        exact ⟨fun hh => .inr ⟨rfl, hh⟩, fun hh => hh.elim (fun a => absurd a h) fun a => a.2⟩

/-- A value put where it belongs, once. -/
def insR {α : Type} [LT α] [DecidableLT α] (x : α) : List α → List α
  | [] => [x]
  | y :: r => if x < y then x :: y :: r else if y < x then y :: insR x r else y :: r
/-- Values, each once, rising. -/
def sortR {α : Type} [LT α] [DecidableLT α] (l : List α) : List α := l.foldr insR []
theorem mem_ins {α : Type} [LT α] [DecidableEq α] [DecidableLT α] [LE α] [Std.IsLinearOrder α] [Std.LawfulOrderLT α] (x a : α) : ∀ l : List α, a ∈ insR x l ↔ a = x ∨ a ∈ l
  | [] => by simp [insR]
  | y :: r => by
    have ih := mem_ins x a r
    unfold insR
    split
    · simp
    · split
      · rw [List.mem_cons, ih, List.mem_cons]
        constructor
        · rintro (h | h | h)
          · exact .inr (.inl h)
          · exact .inl h
          · exact .inr (.inr h)
        · rintro (h | h | h)
          · exact .inr (.inl h)
          · exact .inl h
          · exact .inr (.inr h)
      · rename_i h1 h2
        rw [lin_eq h1 h2, List.mem_cons]
        exact ⟨fun h => .inr h, fun h => h.elim (fun e => .inl e) id⟩
theorem ins_rises {α : Type} [LT α] [DecidableEq α] [DecidableLT α] [LE α] [Std.IsLinearOrder α] [Std.LawfulOrderLT α] (x : α) : ∀ l : List α, Rises l → Rises (insR x l)
  | [], _ => Rises.cons (fun y hy => by cases hy) Rises.nil
  | y :: r, h => by
    unfold insR
    split
    · rename_i hx
      refine Rises.cons (fun z hz => ?_) h
      rcases List.mem_cons.1 hz with rfl | hz
      · exact hx
      · exact Lin.tr hx (h.head z hz)
    · split
      · rename_i hx
        refine Rises.cons (fun z hz => ?_) (ins_rises x r h.tail)
        rcases (mem_ins x z r).1 hz with rfl | hz
        · exact hx
        · exact h.head z hz
      · exact h
theorem mem_sort {α : Type} [LT α] [DecidableEq α] [DecidableLT α] [LE α] [Std.IsLinearOrder α] [Std.LawfulOrderLT α] (a : α) : ∀ l : List α, a ∈ sortR l ↔ a ∈ l
  | [] => Iff.rfl
  | x :: r => by
    show a ∈ insR x (sortR r) ↔ _
    rw [mem_ins, mem_sort a r, List.mem_cons]
theorem sort_rises {α : Type} [LT α] [DecidableEq α] [DecidableLT α] [LE α] [Std.IsLinearOrder α] [Std.LawfulOrderLT α] : ∀ l : List α, Rises (sortR l)
  | [] => Rises.nil
  | x :: r => ins_rises x _ (sort_rises r)
theorem rises_nodup {α : Type} [LT α] [DecidableEq α] [DecidableLT α] [LE α] [Std.IsLinearOrder α] [Std.LawfulOrderLT α] (l : List α) (h : Rises l) : l.Nodup := List.Pairwise.imp (fun h => lin_ne h) h

/-- A formula in one form: clauses that rise, none within another one, in order. -/
structure Canon (f : List (List (List UInt8))) : Prop where
  rise : Rises f
  each : ∀ c ∈ f, Rises c
  red : Reduced f
/-- Is no other clause within it? -/
def leastB (l : List (List (List UInt8))) (x : List (List UInt8)) : Bool := l.all fun y => !subB y x || decide (y = x)
/-- What is left of clauses, in order. -/
def redL (l : List (List (List UInt8))) : List (List (List UInt8)) := sortR (l.filter (leastB l))
theorem least_iff (l : List (List (List UInt8))) (x : List (List UInt8)) : leastB l x = true ↔ ∀ y ∈ l, (∀ p ∈ y, p ∈ x) → y = x := by
  unfold leastB
  rw [List.all_eq_true]
  constructor
  · intro h y hy hs
    have := h y hy
    rw [(subB_iff y x).2 hs, Bool.not_true, Bool.false_or] at this
    exact of_decide_eq_true this
  · intro h y hy
    cases hs : subB y x with
    | false => rfl
    | true => rw [Bool.not_true, Bool.false_or]; exact decide_eq_true (h y hy ((subB_iff y x).1 hs))
theorem mem_red (l : List (List (List UInt8))) (x : List (List UInt8)) : x ∈ redL l ↔ x ∈ l ∧ ∀ y ∈ l, (∀ p ∈ y, p ∈ x) → y = x := by
  unfold redL
  rw [mem_sort, List.mem_filter, least_iff]
theorem red_canon (l : List (List (List UInt8))) (h : ∀ c ∈ l, Rises c) : Canon (redL l) :=
  ⟨sort_rises _, fun c hc => h c ((mem_red l c).1 hc).1, fun x hx y hy hs => ((mem_red l y).1 hy).2 x ((mem_red l x).1 hx).1 hs⟩
/-- Both lists together imply. -/
theorem app_imp (f p h : List (List (List UInt8))) : impB (f ++ p) h = true ↔ ∀ S, holdsB f S = true → holdsB p S = true → holdsB h S = true := by
  rw [imp_means]
  constructor
  · intro k S h1 h2; exact k S (by rw [holds_app, h1, h2]; rfl)
  · intro k S hS
    rw [holds_app, Bool.and_eq_true] at hS
    exact k S hS.1 hS.2
/-- Without the clauses that another one implies. -/
def lessF (f p : List (List (List UInt8))) : List (List (List UInt8)) := f.filter fun c => !impB p [c]
theorem less_imp (f p h : List (List (List UInt8))) : impB h (lessF f p) = impB (h ++ p) f := by
  rw [Bool.eq_iff_iff, imp_iff, imp_iff]
  constructor
  · intro k c hc
    cases hp : impB p [c] with
    | true =>
      obtain ⟨x, hx, hs⟩ := (imp_iff p [c]).1 hp c (by simp)
      exact ⟨x, List.mem_append.2 (.inr hx), hs⟩
    | false =>
      obtain ⟨x, hx, hs⟩ := k c (List.mem_filter.2 ⟨hc, by rw [hp]; rfl⟩)
      exact ⟨x, List.mem_append.2 (.inl hx), hs⟩
  · intro k c hc
    obtain ⟨h1, h2⟩ := List.mem_filter.1 hc
    obtain ⟨x, hx, hs⟩ := k c h1
    rcases List.mem_append.1 hx with hx | hx
    · exact ⟨x, hx, hs⟩
    · have : impB p [c] = true := (imp_iff p [c]).2 fun d hd => by rw [List.mem_singleton.1 hd]; exact ⟨x, hx, hs⟩
      rw [this] at h2; cases h2
/-- Always; never. -/
theorem always_canon : Canon [] := ⟨Rises.nil, fun c hc => (by cases hc), fun x hx => (by cases hx)⟩
theorem imp_always (f : List (List (List UInt8))) : impB f [] = true := rfl
/-- A label: who must agree, who vouch. -/
structure Lab where
  s : List (List (List UInt8))
  i : List (List (List UInt8))
def flowsB (l o : Lab) : Bool := impB o.s l.s && impB l.i o.i
structure LabOk (l : Lab) : Prop where
  s : Canon l.s
  i : Canon l.i
/-- By a privilege. -/
def flowsBy (p : List (List (List UInt8))) (l o : Lab) : Bool := impB (o.s ++ p) l.s && impB (l.i ++ p) o.i
theorem by_trans (p : List (List (List UInt8))) (l o m : Lab) (h1 : flowsBy p l o = true) (h2 : flowsBy p o m = true) : flowsBy p l m = true := by
  unfold flowsBy at *
  rw [Bool.and_eq_true, app_imp, app_imp] at *
  exact ⟨fun S a b => h1.1 S (h2.1 S a b) b, fun S a b => h2.2 S (h1.2 S a b) b⟩
theorem by_more (p q : List (List (List UInt8))) (l o : Lab) (hc : impB p q = true) (h : flowsBy q l o = true) : flowsBy p l o = true := by
  unfold flowsBy at *
  rw [Bool.and_eq_true, app_imp, app_imp] at *
  exact ⟨fun S a b => h.1 S a ((imp_means p q).1 hc S b), fun S a b => h.2 S a ((imp_means p q).1 hc S b)⟩
theorem by_none (l o : Lab) : flowsBy [] l o = flowsB l o := by unfold flowsBy flowsB; rw [List.append_nil, List.append_nil]
theorem by_never (l o : Lab) : flowsBy [[]] l o = true := by
  unfold flowsBy
  rw [Bool.and_eq_true, app_imp, app_imp]
  have hn : ∀ S : List UInt8 → Bool, holdsB [[]] S = true → False := fun S h => by cases h
  exact ⟨fun S _ b => (hn S b).elim, fun S _ b => (hn S b).elim⟩
theorem by_flows (p : List (List (List UInt8))) (l o : Lab) (h : flowsB l o = true) : flowsBy p l o = true := by_more p [] l o (imp_always p) (by rw [by_none]; exact h)
end Go.Proofs.YtkjkfgmoogbdiaaGreatDoor.Frm

namespace Go.Proofs.YtkjkfgmoogbdiaaGreatDoor
open Go.RowKit

/-- The row at q, of n cells, holds xs. -/
def SlIn {α : Type} (enc : α → Value) (w : World) (q : Option Addr) (n : Nat) (xs : List α) : Prop :=
  xs.length = n ∧ (0 < n → ∃ b o, q = some ⟨b, o, none⟩ ∧ b < w.heap.size ∧ ∀ i x, xs[i]? = some x → w.cell? ⟨b, o + i, none⟩ = some (enc x))

theorem SlIn.nil {α : Type} (enc : α → Value) (w : World) (q : Option Addr) : SlIn enc w q 0 [] := ⟨rfl, fun h => absurd h (by omega)⟩
theorem SlIn.at {α : Type} {enc : α → Value} {w : World} {q : Option Addr} {n : Nat} {xs : List α} (h : SlIn enc w q n xs) (hn : 0 < n) :
    ∃ b o, q = some ⟨b, o, none⟩ ∧ b < w.heap.size ∧ ∀ i x, xs[i]? = some x → w.cell? ⟨b, o + i, none⟩ = some (enc x) := h.2 hn
theorem SlIn.keep {α : Type} {enc : α → Value} {S : Nat → Prop} {w w' : World} {q : Option Addr} {n : Nat} {xs : List α} (h : SlIn enc w q n xs) (hk : Keep S w w') (hq : ∀ a, q = some a → 0 < n → S a.block) : SlIn enc w' q n xs := by
  refine ⟨h.1, fun hn => ?_⟩
  obtain ⟨b, o, rfl, hb, hc⟩ := h.2 hn
  have hs := hk.size
  exact ⟨b, o, rfl, by omega, fun i x hx => (World.cell?_of_block (hk.block b hb (hq _ rfl hn))).trans (hc i x hx)⟩
theorem SlIn.below {α : Type} {enc : α → Value} {B : Nat} {w w' : World} {q : Option Addr} {n : Nat} {xs : List α} (h : SlIn enc w q n xs) (hk : Below B w w') (hq : ∀ a, q = some a → 0 < n → a.block < B) : SlIn enc w' q n xs :=
  h.keep (Keep.of_below hk) hq
theorem SlIn.lt {α : Type} {enc : α → Value} {w : World} {q : Option Addr} {n : Nat} {xs : List α} (h : SlIn enc w q n xs) : ∀ a, q = some a → 0 < n → a.block < w.heap.size := by
  rintro a rfl hn
  obtain ⟨b, o, hb, hl, _⟩ := h.2 hn
  cases hb
  exact hl
theorem SlIn.drewN {α : Type} {enc : α → Value} {w : World} {q : Option Addr} {n : Nat} {xs : List α} (h : SlIn enc w q n xs) (k : Nat) : SlIn enc (w.drewN k) q n xs := h
theorem SlIn.alloc {α : Type} {enc : α → Value} {w : World} {q : Option Addr} {n : Nat} {xs : List α} (h : SlIn enc w q n xs) (o : Obj) : SlIn enc (w.alloc o) q n xs :=
  h.keep (Keep.of_below ((Below.refl _ w).alloc (Nat.le_refl _) o)) h.lt
theorem Keep.drewN (S : Nat → Prop) (w : World) (k : Nat) : Keep S w (w.drewN k) := ⟨rfl, rfl, rfl, Nat.le_refl _, fun _ _ _ => rfl⟩

/-- In which of two rising lists the least value is. -/
def whereL {α : Type} [LT α] [DecidableLT α] : List α → List α → Nat
  | _, [] => 1
  | [], _ :: _ => 2
  | x :: _, y :: _ => if x < y then 1 else if y < x then 2 else 3

theorem whereL_cons {α : Type} [LT α] [DecidableLT α] (x y : α) (xs ys : List α) : whereL (x :: xs) (y :: ys) = if x < y then 1 else if y < x then 2 else 3 := rfl
end Go.Proofs.YtkjkfgmoogbdiaaGreatDoor

namespace Go.Proofs.YtkjkfgmoogbdiaaGreatDoor.Pct
open Go.RowKit Go.Shelf

theorem indexByte_nonneg (l : List UInt8) (b : UInt8) : (0 ≤ Lib.indexByte l b) ↔ b ∈ l := by
  induction l with
  | nil => simp [Lib.indexByte]
  | cons x r ih =>
    unfold Lib.indexByte
    by_cases h : x = b
    · subst h; simp
    · rw [if_neg (by simpa using h), List.mem_cons, ← ih]
      have hge := Lib.indexByte_ge r b
      have hb : b ≠ x := Ne.symm h
      simp only [hb, false_or, beq_iff_eq]
      split <;> omega
theorem index_in (l : List UInt8) (b : UInt8) : decide (0 ≤ Lib.indexByte l b) = inB b l := by
  unfold inB
  rw [Bool.eq_iff_iff, decide_eq_true_iff, indexByte_nonneg]
  simp
/-- strings.IndexByte, at a byte. -/
theorem Index_any (b : UInt8) (l : List UInt8) (w : World) :
    Calls Tryz.prog 217 #[.string ⟨l.toArray⟩, .int .u8 (b.toNat : Int)] w fun e w' => ∃ ix : Int, e = .returned (.int .i64 ix) ∧ Hid (decide (0 ≤ ix) = inB b l) ∧ w = w' := by
  refine (Tryz.strings_IndexByte ⟨l.toArray⟩ (b.toNat : Int) w).mono ?_
  rintro e w' ⟨rfl, rfl⟩
  exact ⟨_, rfl, Lib.hid (by rw [← index_in l b]; simp), rfl⟩

set_option maxHeartbeats 2000000 in
theorem isFree_any (b : UInt8) (w : World) :
    Calls Tryz.prog 193 #[.int .u8 (b.toNat : Int)] w fun e w' => e = .returned (.bool (freeB b)) ∧ w = w' := by
  have c1 := isLetter_any b
  have c2 := isDecimal_any b
  have c3 := Index_any b freeM
  obtain ⟨x1, H1⟩ : ∃ x, Hid (letB b = x) := ⟨_, rfl⟩
  obtain ⟨x2, H2⟩ : ∃ x, Hid (decB b = x) := ⟨_, rfl⟩
  obtain ⟨x3, H3⟩ : ∃ x, Hid (inB b freeM = x) := ⟨_, rfl⟩
  have H := Lib.hid (show freeB b = (x1 || x2 || x3) by unfold freeB; rw [H1.out, H2.out, H3.out])
  rw [H1.out] at c1
  rw [H2.out] at c2
  rw [H3.out] at c3
  clear H1 H2 H3
  cases x1 <;> cases x2
  · go_enter Tryz.func193, Tryz.ntmps193
    go_wp2_with (first | (go_at_call 215; refine (c1 _).mono ?_; rintro e w' ⟨rfl, rfl⟩) | (go_at_call 216; refine (c2 _).mono ?_; rintro e w' ⟨rfl, rfl⟩) | (go_at_call 217; refine (c3 _).mono ?_; rintro e w' ⟨ix, rfl, HI, rfl⟩))
    go_ret
    exact ⟨(by rw [H.out, ← HI.out]; try rfl), rfl⟩
  all_goals
    go_enter Tryz.func193, Tryz.ntmps193
    go_wp2_with (first | (go_at_call 215; refine (c1 _).mono ?_; rintro e w' ⟨rfl, rfl⟩) | (go_at_call 216; refine (c2 _).mono ?_; rintro e w' ⟨rfl, rfl⟩))
    go_ret
    exact ⟨(by rw [H.out]; try rfl), rfl⟩

theorem marksOf_any (p : Int) (w : World) :
    Calls Tryz.prog 218 #[.int .i64 p] w fun e w' => e = .returned (.string ⟨(marksM p).toArray⟩) ∧ w = w' := by
  by_cases h1 : p = 1
  · subst h1
    go_enter Tryz.func218, Tryz.ntmps218
    go_wp2
    go_ret
    exact ⟨rfl, rfl⟩
  · have d1 : (p == 1) = false := by simpa using h1
    by_cases h2 : p = 2
    · subst h2
      clear h1 d1
      go_enter Tryz.func218, Tryz.ntmps218
      go_wp2
      go_ret
      exact ⟨rfl, rfl⟩
    · have d2 : (p == 2) = false := by simpa using h2
      have H := Lib.hid (show marksM p = [] by unfold marksM; rw [if_neg h1, if_neg h2])
      clear h1 h2
      go_enter Tryz.func218, Tryz.ntmps218
      go_wp2
      go_ret
      exact ⟨(by rw [H.out]; try rfl), rfl⟩

set_option maxHeartbeats 2000000 in
theorem stands_any (b : UInt8) (p : Int) (w : World) :
    Calls Tryz.prog 194 #[.int .u8 (b.toNat : Int), .int .i64 p] w fun e w' => e = .returned (.bool (standsB p b)) ∧ w = w' := by
  have c1 := isFree_any b
  have c2 := marksOf_any p
  have c3 := Index_any b (marksM p)
  obtain ⟨x1, H1⟩ : ∃ x, Hid (freeB b = x) := ⟨_, rfl⟩
  obtain ⟨x3, H3⟩ : ∃ x, Hid (inB b (marksM p) = x) := ⟨_, rfl⟩
  have H := Lib.hid (show standsB p b = (x1 || x3) by unfold standsB; rw [H1.out, H3.out])
  rw [H1.out] at c1
  rw [H3.out] at c3
  clear H1 H3
  generalize marksM p = mk at *
  cases x1
  · go_enter Tryz.func194, Tryz.ntmps194
    go_wp2_with (first | (go_at_call 193; refine (c1 _).mono ?_; rintro e w' ⟨rfl, rfl⟩) | (go_at_call 218; refine (c2 _).mono ?_; rintro e w' ⟨rfl, rfl⟩) | (go_at_call 217; refine (c3 _).mono ?_; rintro e w' ⟨ix, rfl, HI, rfl⟩))
    go_ret
    exact ⟨(by rw [H.out, ← HI.out]; try rfl), rfl⟩
  · go_enter Tryz.func194, Tryz.ntmps194
    go_wp2_with (first | (go_at_call 193; refine (c1 _).mono ?_; rintro e w' ⟨rfl, rfl⟩))
    go_ret
    exact ⟨(by rw [H.out]; try rfl), rfl⟩

theorem numsL_getD (l : List UInt8) (i : Nat) (h : i < l.length) : (Lib.numsL l).getD i 0 = ((l.getD i 0).toNat : Int) := by
  simp [Lib.numsL, List.getD, List.getElem?_eq_getElem h]
theorem drop_cons (l : List UInt8) (k : Nat) (h : k < l.length) : l.drop k = l.getD k 0 :: l.drop (k + 1) := by
  rw [List.drop_eq_getElem_cons h]; simp [List.getD, List.getElem?_eq_getElem h]

set_option maxHeartbeats 2000000 in
theorem digitsAt_any (q : Option Addr) (n c i : Nat) (bs : List UInt8) (w : World) (hx : bs.length = n) (hn : n ≤ 140737488355328) (hb : Lib.BytesIn w q n (Lib.numsL bs)) (hi : i ≤ n) :
    Calls Tryz.prog 212 #[.slice q n c, .int .i64 (i : Int)] w fun e w' => e = .returned (.bool (dig2 (bs.drop i))) ∧ w = w' := by
  by_cases h2 : i + 2 ≤ n
  · have hd1 := drop_cons bs i (by omega)
    have hd2 := drop_cons bs (i + 1) (by omega)
    obtain ⟨b, o, rfl, hc⟩ := hb.at (by omega)
    have c1 : w.cell? ⟨b, o + i, none⟩ = some (.int .u8 ((bs.getD i 0).toNat : Int)) := by
      rw [← numsL_getD bs i (by omega)]; exact hc i (by omega)
    have c2 : w.cell? ⟨b, o + (i + 1), none⟩ = some (.int .u8 ((bs.getD (i + 1) 0).toNat : Int)) := by
      rw [← numsL_getD bs (i + 1) (by omega)]; exact hc (i + 1) (by omega)
    generalize bs.getD i 0 = x at *
    generalize bs.getD (i + 1) 0 = y at *
    have k1 := isHexadecimal_any x
    have k2 := isHexadecimal_any y
    obtain ⟨x1, H1⟩ : ∃ z, Hid (hexB x = z) := ⟨_, rfl⟩
    obtain ⟨x2, H2⟩ : ∃ z, Hid (hexB y = z) := ⟨_, rfl⟩
    have H := Lib.hid (show dig2 (bs.drop i) = (x1 && x2) by rw [hd1, hd2]; show (hexB x && hexB y) = _; rw [H1.out, H2.out])
    rw [H1.out] at k1
    rw [H2.out] at k2
    have d2 : decide ((2 : Int) ≤ (n : Int) - (i : Int)) = true := by simp; omega
    clear H1 H2 hd1 hd2 hc hb hx
    cases x1
    · go_enter Tryz.func212, Tryz.ntmps212
      go_wp2_with (go_at_call 228; refine (k1 _).mono ?_; rintro e w' ⟨rfl, rfl⟩)
      go_ret
      exact ⟨(by rw [H.out]; try rfl), rfl⟩
    · go_enter Tryz.func212, Tryz.ntmps212
      go_wp2_with fail
      refine (k1 _).mono ?_
      rintro e w' ⟨rfl, rfl⟩
      go_wp2_with fail
      refine (k2 _).mono ?_
      rintro e w' ⟨rfl, rfl⟩
      go_wp2
      go_ret
      exact ⟨(by rw [H.out]; try rfl), rfl⟩
  · have d2 : decide ((2 : Int) ≤ (n : Int) - (i : Int)) = false := by simp; omega
    have H := Lib.hid (show dig2 (bs.drop i) = false by
      have hl : (bs.drop i).length < 2 := by rw [List.length_drop]; omega
      generalize bs.drop i = r at hl
      match r, hl with
      | [], _ => rfl
      | [_], _ => rfl)
    clear hb hx
    go_enter Tryz.func212, Tryz.ntmps212
    go_wp2
    go_ret
    exact ⟨(by rw [H.out]; try rfl), rfl⟩

set_option maxHeartbeats 2000000 in
theorem whole_any (q : Option Addr) (n c : Nat) (bs : List UInt8) (w : World) (hx : bs.length = n) (hn : n ≤ 140737488355328) (hb : Lib.BytesIn w q n (Lib.numsL bs)) :
    Calls Tryz.prog 190 #[.slice q n c] w fun e w' => e = .returned (.bool (wholeL bs)) ∧ w = w' := by
  have HX := Lib.hid hx
  clear hx
  go_enter Tryz.func190, Tryz.ntmps190
  go_wp2
  go_loop [7] (fun i => ∃ k : Nat, k ≤ n ∧ i = .int .i64 k ∧ Hid (wholeL bs = wholeL (bs.drop k))) (fun i => n - (intOf i).toNat)
  case atStart => exact ⟨0, Nat.zero_le _, rfl, rfl⟩
  case round =>
    obtain ⟨k, hk, rfl, HR⟩ := hrel
    by_cases hlt : k < n
    · have con := digitsAt_any q n c (k + 1) bs w HX.out hn hb (by omega)
      obtain ⟨b, o, rfl, hc⟩ := hb.at (by omega)
      have hck : w.cell? ⟨b, o + k, none⟩ = some (.int .u8 ((bs.getD k 0).toNat : Int)) := by
        rw [← numsL_getD bs k (by rw [HX.out]; exact hlt)]; exact hc k hlt
      have hd : wholeL bs = ((bs.getD k 0 != 37 || dig2 (bs.drop (k + 1))) && wholeL (bs.drop (k + 1))) := by
        rw [HR.out, drop_cons bs k (by rw [HX.out]; exact hlt), whole_cons]
      generalize bs.getD k 0 = bk at *
      obtain ⟨z, HZ⟩ : ∃ z, Hid (dig2 (bs.drop (k + 1)) = z) := ⟨_, rfl⟩
      rw [HZ.out] at con hd
      have hkc : (((k + 1 : Nat) : Int)) = (k : Int) + 1 := by omega
      rw [hkc] at con
      clear hc HR hb hkc
      by_cases he : bk = 37
      · have e1 : ((bk.toNat : Int) == 37) = true := by rw [he]; rfl
        cases z
        · have H := Lib.hid (show wholeL bs = false by rw [hd, he]; rfl)
          clear hd he HZ
          go_wp2_with (go_at_call 212; refine con.mono ?_; rintro e w' ⟨rfl, rfl⟩)
          go_ret
          exact ⟨(by rw [H.out]; try rfl), rfl⟩
        · have H := Lib.hid (show wholeL bs = wholeL (bs.drop (k + 1)) by rw [hd, he]; rfl)
          clear hd he HZ
          go_wp2_with (go_at_call 212; refine con.mono ?_; rintro e w' ⟨rfl, rfl⟩)
          go_round
          case rel => exact ⟨k + 1, by omega, by go_num, H⟩
          case measure => simp [intOf]; omega
      · have e1 : ((bk.toNat : Int) == 37) = false := by
          rw [beq_eq_false_iff_ne]; intro h; exact he (UInt8.toNat_inj.1 (by have : (37 : UInt8).toNat = 37 := rfl; omega))
        have H := Lib.hid (show wholeL bs = wholeL (bs.drop (k + 1)) by rw [hd, show (bk != 37) = true from by simpa using he]; rfl)
        clear hd he HZ con
        go_wp2
        go_round
        case rel => exact ⟨k + 1, by omega, by go_num, H⟩
        case measure => simp [intOf]; omega
    · have H := Lib.hid (show wholeL bs = true by rw [HR.out, List.drop_of_length_le (by rw [HX.out]; omega)]; rfl)
      clear HR hb
      go_wp2
      go_ret
      exact ⟨(by rw [H.out]; try rfl), rfl⟩

end Go.Proofs.YtkjkfgmoogbdiaaGreatDoor.Pct

namespace Go.Proofs.YtkjkfgmoogbdiaaGreatDoor.Arn
open Go.RowKit
attribute [local go_sem] Oper.semAt_some
set_option linter.unusedVariables false

theorem info_arn {t : TypeId} {P : Program} {z : Value} {s b : Nat} (h : (P.info? t).map (fun i => (i.zero, i.size, i.bytes)) = some (some z, s, b)) : ∃ i, P.info? t = some i ∧ i.zero = some z ∧ i.size = s ∧ i.bytes = b := by
  cases hi : P.info? t with
  | none => rw [hi] at h; cases h
  | some i =>
    rw [hi] at h
    simp only [Option.map_some, Option.some.injEq, Prod.mk.injEq] at h
    exact ⟨i, rfl, h.1, h.2.1, h.2.2⟩
theorem blk_alloc {w : World} (o : Obj) : Below w.heap.size w (w.alloc o) := (Below.refl _ _).alloc (Nat.le_refl _) _
theorem blk_cells (w : World) (xs : List Value) (t : TypeId) : ∀ j u, xs[j]? = some u → (w.alloc (.cells xs.toArray t)).cell? ((⟨w.heap.size, 0, none⟩ : Addr).add j) = some u := by
  intro j u hu
  have h := BL.cell (BL.new t w xs.toArray) j u (by simpa using hu)
  have e : (⟨w.heap.size, 0, none⟩ : Addr).add j = ⟨w.heap.size, j, none⟩ := by unfold Addr.add; split <;> simp_all
  rw [e]
  exact h

/-! ### plain -/
/-! ### what is written -/
/-- Nothing but the arena's block and row has changed; its new row is the elder one, or new. -/
def Wrote (b : Nat) (v v' : Value) (w w' : World) : Prop := Keep (fun k => k ≠ b ∧ v.ownBlock ≠ some k) w w' ∧ ∀ k, v'.ownBlock = some k → v.ownBlock = some k ∨ w.heap.size ≤ k
theorem Wrote.refl (b : Nat) (v : Value) (w : World) : Wrote b v v w w := ⟨Keep.refl _ _, fun k h => .inl h⟩
theorem set_same {l : List Value} {i : Nat} {x : Value} (h : l[i]? = some x) : l.set i x = l := by
  obtain ⟨hi, rfl⟩ := List.getElem?_eq_some_iff.1 h
  exact List.set_getElem_self hi
theorem Wrote.trans {b : Nat} {v v1 v2 : Value} {w w1 w2 : World} (h : Wrote b v v1 w w1) (k : Wrote b v1 v2 w1 w2) : Wrote b v v2 w w2 := by
  refine ⟨⟨k.1.os.trans h.1.os, k.1.tape.trans h.1.tape, k.1.output.trans h.1.output, Nat.le_trans h.1.size k.1.size, fun j hj hs => (k.1.block j (Nat.lt_of_lt_of_le hj h.1.size) ⟨hs.1, fun e => ?_⟩).trans (h.1.block j hj hs)⟩, fun j hj => ?_⟩
  · rcases h.2 j e with h1 | h1
    · exact hs.2 h1
    · omega
  · rcases k.2 j hj with h1 | h1
    · exact h.2 j h1
    · exact .inr (Nat.le_trans h.1.size h1)
end Go.Proofs.YtkjkfgmoogbdiaaGreatDoor.Arn

namespace Go.Proofs.YtkjkfgmoogbdiaaGreatDoor
open Go.RowKit

theorem drop_getElem {α : Type} (l : List α) (k : Nat) (h : k < l.length) : ∃ x, l[k]? = some x ∧ l.drop k = x :: l.drop (k + 1) :=
  ⟨l[k], List.getElem?_eq_getElem h, List.drop_eq_getElem_cons h⟩

end Go.Proofs.YtkjkfgmoogbdiaaGreatDoor

namespace Go.Proofs.YtkjkfgmoogbdiaaGreatDoor
open Go.RowKit Go.Shelf
attribute [local go_sem] Oper.semAt_some

/-- Where the pieces begin and end: from place i on, a piece having begun at fr. -/
def spansGo (p : UInt8 → Bool) : List UInt8 → Nat → Nat → List (Nat × Nat)
  | [], i, fr => [(fr, i)]
  | b :: r, i, fr => if p b = true then (fr, i) :: spansGo p r (i + 1) (i + 1) else spansGo p r (i + 1) fr
def spansL (p : UInt8 → Bool) (l : List UInt8) : List (Nat × Nat) := spansGo p l 0 0

/-- A pair of places, as yield takes it. -/
def SpanArg (x : Nat × Nat) (args : Array Value) (G : Nat → Prop) (_W : World) : Prop := args = #[.int .i64 x.1, .int .i64 x.2] ∧ G = fun _ => False

/-- The value fv is a test that answers p, while the blocks of RB lie as in w0. -/
structure Tests (P : Program) (g : Nat) (lb : Array Value) (p : UInt8 → Bool) (RB : Nat → Prop) (w0 : World) : Prop where
  eg : ∀ args w, (callFunc g args).run P w = .ok (.enter g args) w
  calls : ∀ (b : UInt8) (W : World), Keep RB w0 W → Calls P g (#[.int .u8 (b.toNat : Int)] ++ lb) W fun e w' => e = .returned (.bool (p b)) ∧ W = w'

def isB (c : UInt8) (b : UInt8) : Bool := b == c

theorem isByte1_any (b c : UInt8) (B : Nat) (w : World) (h : Boxed w B 5 (.int .u8 (c.toNat : Int))) :
    Calls Tryz.prog 98 #[.int .u8 (b.toNat : Int), .pointer (some ⟨B, 0, none⟩)] w fun e w' => e = .returned (.bool (isB c b)) ∧ w = w' := by
  have hc := h.cell
  have H := Lib.hid (show isB c b = ((b.toNat : Int) == (c.toNat : Int)) by unfold isB; rw [Bool.eq_iff_iff, beq_iff_eq, beq_iff_eq, ← UInt8.toNat_inj]; omega)
  clear h
  go_enter Tryz.func98, Tryz.ntmps98
  go_wp2
  go_ret
  exact ⟨(by rw [H.out]; try rfl), rfl⟩

theorem isByte_any (c : UInt8) (w : World) :
    Calls Tryz.prog 80 #[.int .u8 (c.toNat : Int)] w fun e w' => e = .returned (.func (.func 98) #[] #[.pointer (some ⟨w.heap.size, 0, none⟩)]) ∧ w' = w.alloc (.cells #[.int .u8 (c.toNat : Int)] 5) := by
  go_enter Tryz.func80, Tryz.ntmps80
  go_wp2
  go_ret
  exact ⟨rfl, rfl⟩

theorem isByte_tests (c : UInt8) (B : Nat) (RB : Nat → Prop) (w0 : World) (h : Boxed w0 B 5 (.int .u8 (c.toNat : Int))) (hB : RB B) :
    Tests Tryz.prog 98 #[.pointer (some ⟨B, 0, none⟩)] (isB c) RB w0 :=
  ⟨enters_of Tryz.func98 (by kernel_rfl) rfl, fun b W hW => isByte1_any b c B W (hW.boxed h hB)⟩

theorem spans_any (q : Option Addr) (n c g : Nat) (lb : Array Value) (w : World) :
    Calls Tryz.prog 79 #[.slice q n c, .func (.func g) #[] lb] w fun e w' => e = .returned (.func (.func 97) #[] #[.pointer (some ⟨w.heap.size, 0, none⟩), .pointer (some ⟨w.heap.size + 1, 0, none⟩)]) ∧
      w' = (w.alloc (.cells #[.slice q n c] 30)).alloc (.cells #[.func (.func g) #[] lb] 152) := by
  go_enter Tryz.func79, Tryz.ntmps79
  go_wp2
  go_ret
  exact ⟨rfl, rfl⟩


set_option maxRecDepth 100000 in
set_option maxHeartbeats 2000000 in
/-- What spans tells: all pieces' bounds. -/
theorem spans1_iter (Bt Bp : Nat) (q : Option Addr) (n c g : Nat) (lb : Array Value) (bs : List UInt8) (p : UInt8 → Bool) (RB : Nat → Prop) (w0 : World)
    (hx : bs.length = n) (hn : n ≤ 140737488355328) (hb : Lib.BytesIn w0 q n (Lib.numsL bs)) (hq : ∀ a, q = some a → 0 < n → RB a.block)
    (hT : Boxed w0 Bt 30 (.slice q n c)) (hP : Boxed w0 Bp 152 (.func (.func g) #[] lb)) (hRt : RB Bt) (hRp : RB Bp) (ht : Tests Tryz.prog g lb p RB w0) :
    IterC Tryz.prog 97 #[.pointer (some ⟨Bt, 0, none⟩), .pointer (some ⟨Bp, 0, none⟩)] SpanArg (spansL p bs) RB w0 := by
  intro l J Jx W hW hJ hJx hY h0
  refine (callsIn_wide (n := 1)).1 ?_
  refine callsIn_of_wp Tryz.func97 rfl trivial ?_ rfl
  simp only [Tryz.ntmps97, List.size_toArray, List.length_cons, List.length_nil, Nat.reduceAdd, Nat.reduceSub, Array.replicate_succ, Array.replicate_zero, List.push_toArray, List.append_toArray, List.nil_append, List.cons_append]
  have bT := (hW.boxed hT hRt).cell
  have bP := (hW.boxed hP hRp).cell
  gi_wp2
  gi_loopw [4, 9] (fun fr i wr => ∃ k f : Nat, ∃ pre, k ≤ n ∧ f ≤ k ∧ i = .int .i64 k ∧ fr = .int .i64 f ∧ Keep RB W wr ∧ Hid (spansL p bs = pre ++ spansGo p (bs.drop k) k f) ∧ J pre (fun _ => False) wr) (fun _ i _ => n - (intOf i).toNat)
  case atStart =>
    exact ⟨0, 0, [], Nat.zero_le _, Nat.zero_le _, rfl, rfl, Keep.refl _ _, rfl, h0⟩
  case round =>
    obtain ⟨k, f, pre, hk, hf, rfl, rfl, hKr, HX, hJr⟩ := hrel
    have bT := (hKr.boxed (hW.boxed hT hRt) hRt).cell
    have bP := (hKr.boxed (hW.boxed hP hRp) hRp).cell
    have hK0 := hW.trans hKr
    have hpc := fun b W h => callsIn_wide (n := 0) |>.2 (ht.calls b W h)
    have eg := ht.eg
    by_cases hlt : k < n
    · obtain ⟨b, o, rfl, hc⟩ := hb.at (by omega)
      have hRb : RB b := hq _ rfl (by omega)
      have hck : wr.cell? ⟨b, o + k, none⟩ = some (.int .u8 ((bs.getD k 0).toNat : Int)) := by
        rw [← numsL_getD bs k (by omega), ← hc k hlt]
        exact World.cell?_of_block (hK0.block b (World.block_lt_of_cell? w0 _ (hc k hlt)) hRb)
      have hdc := drop_cons bs k (by omega)
      clear hc hT hP hb
      generalize bs.getD k 0 = bk at hck hdc
      have hbk := u8_lt bk
      by_cases hp : p bk = true
      · have HX2 := Lib.hid (show spansL p bs = pre ++ (f, k) :: spansGo p (bs.drop (k + 1)) (k + 1) (k + 1) by rw [HX.out, hdc]; conv => lhs; unfold spansGo; rw [if_pos hp])
        obtain ⟨fn, tmps, assign, body, hy, hR⟩ := hY pre (f, k) _ (fun _ => False) (fun _ => False) #[.int .i64 f, .int .i64 k] wr HX2.out hJr (fun _ h => h.elim) ⟨rfl, rfl⟩ (fun _ h => h)
        clear HX hdc ht hY
        have Hp := Lib.hid hp
        gi_wp2_with fail
        refine ⟨trivial, (hpc bk wr hK0).mono ?_⟩
        rintro e w' ⟨rfl, rfl⟩
        rw [Hp.out]
        gi_wp2_with fail
        refine hR.mono ?_
        rintro e W3 ⟨hk3, (⟨rfl, hJ3⟩ | ⟨rfl, hJx3⟩)⟩
        · gi_wp2
          go_roundw
          case rel => exact ⟨k + 1, k + 1, pre ++ [(f, k)], by omega, Nat.le_refl _, by go_num, by go_num, hKr.trans (hk3.mono (fun _ _ h => .inl h)), Lib.hid (by rw [HX2.out]; simp), hJ _ _ _ _ _ hJ3 (Keep.refl _ _) (fun _ h => h.elim)⟩
          case measure => simp [intOf]; omega
        · gi_wp2
          refine bodyPost_ret (results_none rfl _ _ _) rfl ?_
          exact ⟨⟨_, rfl⟩, fun _ => False, fun _ h => h.elim, .inr ⟨pre ++ [(f, k)], _, by rw [HX2.out, List.append_assoc]; rfl, hJx _ _ _ _ _ hJx3 (Keep.refl _ _) (fun _ h => h.elim)⟩⟩
      · have hpf : p bk = false := by simpa using hp
        have HX2 := Lib.hid (show spansL p bs = pre ++ spansGo p (bs.drop (k + 1)) (k + 1) f by rw [HX.out, hdc]; conv => lhs; unfold spansGo; rw [if_neg hp])
        have Hp := Lib.hid hpf
        clear HX hdc ht hY hp hpf
        gi_wp2_with fail
        refine ⟨trivial, (hpc bk wr hK0).mono ?_⟩
        rintro e w' ⟨rfl, rfl⟩
        rw [Hp.out]
        gi_wp2_with fail
        go_roundw
        case rel => exact ⟨k + 1, f, pre, by omega, by omega, by go_num, rfl, hKr, HX2, hJr⟩
        case measure => simp [intOf]; omega
    · have HX2 := Lib.hid (show spansL p bs = pre ++ (f, n) :: [] by rw [HX.out, List.drop_of_length_le (by omega), show k = n by omega]; rfl)
      obtain ⟨fn, tmps, assign, body, hy, hR⟩ := hY pre (f, n) _ (fun _ => False) (fun _ => False) #[.int .i64 f, .int .i64 n] wr HX2.out hJr (fun _ h => h.elim) ⟨rfl, rfl⟩ (fun _ h => h)
      clear HX ht hY hb hT hP hpc
      gi_wp2_with fail
      refine hR.mono ?_
      rintro e W3 ⟨hk3, (⟨rfl, hJ3⟩ | ⟨rfl, hJx3⟩)⟩
      · gi_wp2
        refine bodyPost_end (results_none rfl _ _ _) rfl ?_
        exact ⟨⟨_, rfl⟩, fun _ => False, fun _ h => h.elim, .inl (by rw [HX2.out]; exact hJ _ _ _ _ _ hJ3 (Keep.refl _ _) (fun _ h => h.elim))⟩
      · gi_wp2
        refine bodyPost_end (results_none rfl _ _ _) rfl ?_
        exact ⟨⟨_, rfl⟩, fun _ => False, fun _ h => h.elim, .inr ⟨pre ++ [(f, n)], [], by rw [HX2.out]; simp, hJx _ _ _ _ _ hJx3 (Keep.refl _ _) (fun _ h => h.elim)⟩⟩

end Go.Proofs.YtkjkfgmoogbdiaaGreatDoor

namespace Go.Proofs.YtkjkfgmoogbdiaaGreatDoor.Url

/-- A text's one form for a place, if it has one. -/
def formL (p : Int) (l : List UInt8) : Option (List UInt8) := (Pct.itemsL l).map (Pct.canL p)
theorem form_twice (p : Int) (l c : List UInt8) (h : formL p l = some c) : formL p c = some c := by
  unfold formL at h ⊢
  obtain ⟨m, hm, rfl⟩ := Option.map_eq_some_iff.1 h
  rw [Pct.can_items, Option.map_some, Pct.can_twice]
theorem form_len (p : Int) (l c : List UInt8) (h : formL p l = some c) : c.length ≤ 3 * l.length := by
  unfold formL at h
  obtain ⟨m, hm, rfl⟩ := Option.map_eq_some_iff.1 h
  have h1 := Pct.can_len p m
  have h2 := Pct.items_len l m hm
  omega
/-- What a text stands for as it is stood in it. -/
theorem items_mem : ∀ (l : List UInt8) (m : List (UInt8 × Bool)), Pct.itemsL l = some m → ∀ x ∈ m, x.2 = false → x.1 ∈ l
  | [], m, h, x, hx, _ => by rw [Pct.items_nil] at h; cases h; cases hx
  | b :: r, m, h, x, hx, h2 => by
    by_cases hb : b = 37
    · subst hb
      cases hd : Pct.dig2 r with
      | false => rw [Pct.items_bad r hd] at h; cases h
      | true =>
        obtain ⟨y, z, t, rfl, hy, hz⟩ := Pct.dig2_cons r hd
        rw [Pct.items_coded y z t hy hz] at h
        obtain ⟨m', hm', rfl⟩ := Option.map_eq_some_iff.1 h
        rcases List.mem_cons.1 hx with rfl | hx
        · cases h2
        · have := items_mem t m' hm' x hx h2
          simp [this]
    · rw [Pct.items_as b r hb] at h
      obtain ⟨m', hm', rfl⟩ := Option.map_eq_some_iff.1 h
      rcases List.mem_cons.1 hx with rfl | hx
      · simp
      · have := items_mem r m' hm' x hx h2
        simp [this]
  termination_by l => l.length
theorem dg_hex : ∀ i : Fin 16, Pct.freeB (Pct.dg i.1) = true := by decide +kernel
theorem put_mem (s : Bool) (b d : UInt8) (h : d ∈ Pct.putL s b) (h37 : d ≠ 37) (hf : Pct.freeB d = false) : s = true ∧ d = b := by
  cases s with
  | true => exact ⟨rfl, by simpa [Pct.putL] using h⟩
  | false =>
    have hb := Pct.u8_lt b
    have h1 := dg_hex ⟨b.toNat / 16, by omega⟩
    have h2 := dg_hex ⟨b.toNat % 16, by omega⟩
    simp only [Pct.putL, Bool.false_eq_true, if_false, List.mem_cons, List.not_mem_nil, or_false] at h
    rcases h with h | h | h
    · exact absurd h h37
    · rw [h, h1] at hf; cases hf
    · rw [h, h2] at hf; cases hf
/-- What is neither free nor a percent sign stands in the form just if it may, and stood in the text. -/
theorem form_mem (p : Int) (l c : List UInt8) (d : UInt8) (h : formL p l = some c) (hd : d ∈ c) (h37 : d ≠ 37) (hf : Pct.freeB d = false) : Pct.standsB p d = true ∧ d ∈ l := by
  unfold formL at h
  obtain ⟨m, hm, rfl⟩ := Option.map_eq_some_iff.1 h
  obtain ⟨x, hx, hdx⟩ := List.mem_flatMap.1 hd
  obtain ⟨hs, rfl⟩ := put_mem _ _ _ hdx h37 hf
  unfold Pct.canB at hs
  rw [hf, Bool.false_or, Bool.and_eq_true] at hs
  have h2 : x.2 = false := by simpa using hs.1
  exact ⟨hs.2, items_mem l m hm x hx h2⟩
theorem form_no (p : Int) (l c : List UInt8) (d : UInt8) (h : formL p l = some c) (h37 : d ≠ 37) (hf : Pct.freeB d = false) (hn : Pct.standsB p d = false ∨ d ∉ l) : d ∉ c := fun hd => by
  obtain ⟨h1, h2⟩ := form_mem p l c d h hd h37 hf
  rcases hn with hn | hn
  · rw [h1] at hn; cases hn
  · exact hn h2

/-- What stands ahead of the first byte c. -/
def aheadL (c : UInt8) (l : List UInt8) : List UInt8 := l.takeWhile (· != c)
theorem ahead_no (c : UInt8) : ∀ l : List UInt8, c ∉ l → aheadL c l = l ∧ Host.tailL c l = none
  | [], _ => ⟨rfl, rfl⟩
  | b :: r, h => by
    have hb : b ≠ c := fun e => h (by simp [e])
    obtain ⟨h1, h2⟩ := ahead_no c r (fun e => h (by simp [e]))
    refine ⟨?_, ?_⟩
    · unfold aheadL at h1 ⊢
      rw [List.takeWhile_cons, if_pos (by simpa using hb), h1]
    · unfold Host.tailL; rw [if_neg hb]; exact h2
theorem ahead_yes (c : UInt8) : ∀ (x y : List UInt8), c ∉ x → aheadL c (x ++ c :: y) = x ∧ Host.tailL c (x ++ c :: y) = some y
  | [], y, _ => by
    refine ⟨?_, ?_⟩
    · show aheadL c (c :: y) = []
      unfold aheadL; rw [List.takeWhile_cons, if_neg (by simp)]
    · show Host.tailL c (c :: y) = some y
      unfold Host.tailL; rw [if_pos rfl]
  | b :: r, y, h => by
    have hb : b ≠ c := fun e => h (by simp [e])
    obtain ⟨h1, h2⟩ := ahead_yes c r y (fun e => h (by simp [e]))
    refine ⟨?_, ?_⟩
    · show aheadL c (b :: (r ++ c :: y)) = _
      unfold aheadL at h1 ⊢
      rw [List.takeWhile_cons, if_pos (by simpa using hb), h1]
    · show Host.tailL c (b :: (r ++ c :: y)) = _
      unfold Host.tailL; rw [if_neg hb]; exact h2

/-- A number's digits. -/
def digL (n : Nat) : List UInt8 := if h : n < 10 then [UInt8.ofNat (48 + n)] else digL (n / 10) ++ [UInt8.ofNat (48 + n % 10)]
theorem dig_small (n : Nat) (h : n < 10) : digL n = [UInt8.ofNat (48 + n)] := by rw [digL, dif_pos h]
theorem dig_big (n : Nat) (h : ¬ n < 10) : digL n = digL (n / 10) ++ [UInt8.ofNat (48 + n % 10)] := by rw [digL, dif_neg h]
end Go.Proofs.YtkjkfgmoogbdiaaGreatDoor.Url

namespace Go.Proofs.YtkjkfgmoogbdiaaGreatDoor
open Go.RowKit Go.Shelf
attribute [local go_sem] Oper.semAt_some

/-- A place and a value, as yield takes them. -/
def WhArg {α : Type} (enc : α → Value) (x : Nat × α) (args : Array Value) (G : Nat → Prop) (_W : World) : Prop := args = #[.int .u8 (x.1 : Int), enc x.2] ∧ G = fun _ => False

theorem mrg_step {α : Type} [LT α] [DecidableLT α] (xs ys : List α) (h : xs ≠ [] ∨ ys ≠ []) :
    ∃ x xs' ys', (whereL xs ys = 1 ∧ mrg xs ys = (1, x) :: mrg xs' ys' ∧ xs = x :: xs' ∧ ys' = ys) ∨ (whereL xs ys = 2 ∧ mrg xs ys = (2, x) :: mrg xs' ys' ∧ ys = x :: ys' ∧ xs' = xs) ∨ (whereL xs ys = 3 ∧ mrg xs ys = (3, x) :: mrg xs' ys' ∧ xs = x :: xs' ∧ ∃ y, ys = y :: ys') := by
  cases xs with
  | nil =>
    cases ys with
    | nil => simp at h
    | cons y ys => exact ⟨y, [], ys, .inr (.inl ⟨rfl, by conv => lhs; unfold mrg, rfl, rfl⟩)⟩
  | cons x xs =>
    cases ys with
    | nil => exact ⟨x, xs, [], .inl ⟨rfl, by conv => lhs; unfold mrg, rfl, rfl⟩⟩
    | cons y ys =>
      by_cases h1 : x < y
      · exact ⟨x, xs, y :: ys, .inl ⟨by rw [whereL_cons, if_pos h1], by conv => lhs; unfold mrg; rw [if_pos h1], rfl, rfl⟩⟩
      · by_cases h2 : y < x
        · exact ⟨y, x :: xs, ys, .inr (.inl ⟨by rw [whereL_cons, if_neg h1, if_pos h2], by conv => lhs; unfold mrg; rw [if_neg h1, if_pos h2], rfl, rfl⟩)⟩
        · exact ⟨x, xs, ys, .inr (.inr ⟨by rw [whereL_cons, if_neg h1, if_neg h2], by conv => lhs; unfold mrg; rw [if_neg h1, if_neg h2], rfl, y, rfl⟩)⟩

/-- A slice's length. -/
def slen : Value → Nat
  | .slice _ n _ => n
  | _ => 0
/-- The address of what is left without the first. -/
def tlA (q : Option Addr) (c : Nat) : Option Addr := if c = 1 then q else q.map (·.add 1)

theorem SlIn.tail {α : Type} {enc : α → Value} {w : World} {q : Option Addr} {n c : Nat} {x : α} {xs : List α} (h : SlIn enc w q n (x :: xs)) (hnc : n ≤ c) : SlIn enc w (tlA q c) (n - 1) xs := by
  have hl := h.1
  simp only [List.length_cons] at hl
  refine ⟨by omega, fun hn => ?_⟩
  obtain ⟨b, o, rfl, hb, hc⟩ := h.at (by omega)
  refine ⟨b, o + 1, ?_, hb, fun i y hy => ?_⟩
  · unfold tlA; rw [if_neg (by omega)]; simp [Addr.add]
  · have := hc (i + 1) y (by simpa using hy)
    rwa [show o + (i + 1) = o + 1 + i by omega] at this
theorem tlA_blk {RB : Nat → Prop} {q : Option Addr} {n c : Nat} (hq : ∀ a, q = some a → 0 < n → RB a.block) : ∀ a, tlA q c = some a → 0 < n - 1 → RB a.block := by
  intro a ha hn
  unfold tlA at ha
  split at ha
  · exact hq a ha (by omega)
  · cases q with
    | none => simp at ha
    | some b => simp [Addr.add] at ha; subst ha; exact hq b rfl (by omega)

/-- A call of yield, outside of a round. -/
theorem uponIn_yield {P : Program} {o : Oper} {a : Act} {K : Act → World → Prop} {Q : Exit → Act → World → Prop} {l : Nat} {args : Array Value} {W : World} {R : Ending → World → Prop} (h : YieldAt Fence.wide 0 P l args W R)
    (hk : ∀ v w, R (.returned v) w → K (a.put o.dst v) w) (hp : ∀ c w, ¬ R (.panicked c) w) (ho : ∀ w, ¬ R .outgrown w) : Oper.uponIn Fence.wide 1 P o a K Q ((Instr.yield l args).run P W) := by
  obtain ⟨fn, tmps, assign, body, hy, hR⟩ := h
  rw [hy]
  simp only [Oper.uponIn]
  refine ⟨fun _ => Nat.le_refl _, RoundIn.mono hR fun e w' hr => ?_⟩
  cases e with
  | returned v => exact hk v w' hr
  | panicked c => exact (hp c w' hr).elim
  | outgrown => exact (ho w' hr).elim

/-- Between two rounds of both. -/
def BothI {α : Type} [LT α] [DecidableLT α] (enc : α → Value) (RB : Nat → Prop) (W0 : World) (all : List (Nat × α)) (J : List (Nat × α) → (Nat → Prop) → World → Prop) (this that : Value) (wr : World) : Prop :=
  ∃ q1 n1 c1 xs q2 n2 c2 ys pre, this = .slice q1 n1 c1 ∧ that = .slice q2 n2 c2 ∧ n1 ≤ c1 ∧ n2 ≤ c2 ∧ n1 ≤ 140737488355328 ∧ n2 ≤ 140737488355328 ∧ SlIn enc wr q1 n1 xs ∧ SlIn enc wr q2 n2 ys ∧
    (∀ a, q1 = some a → 0 < n1 → RB a.block) ∧ (∀ a, q2 = some a → 0 < n2 → RB a.block) ∧ Keep RB W0 wr ∧ Hid (all = pre ++ mrg xs ys) ∧ J pre (fun _ => False) wr

end Go.Proofs.YtkjkfgmoogbdiaaGreatDoor

namespace Go.Proofs.YtkjkfgmoogbdiaaGreatDoor
open Go.RowKit Go.Shelf
attribute [local go_sem] Oper.semAt_some

/-- The address of a piece that begins at place l. -/
def subA (q : Option Addr) (c l : Nat) : Option Addr := if c = l then q else q.map (·.add l)
theorem subA_zero (q : Option Addr) (c : Nat) : subA q c 0 = q := by
  unfold subA
  split
  · rfl
  · cases q <;> simp [Addr.add]

/-- A piece of a list. -/
def sub (l : List UInt8) (i j : Nat) : List UInt8 := (l.drop i).take (j - i)
theorem sub_length (l : List UInt8) (i j : Nat) (h : j ≤ l.length) : (sub l i j).length = j - i := by unfold sub; simp; omega
theorem sub_getD (l : List UInt8) (i j k : Nat) (h : k < j - i) : (sub l i j).getD k 0 = l.getD (i + k) 0 := by
  unfold sub
  simp [List.getD, List.getElem?_drop, h]

theorem bytes_sub {w : World} {q : Option Addr} {n c i j : Nat} {l : List UInt8} (h : Lib.BytesIn w q n (Lib.numsL l)) (hl : l.length = n) (hij : i ≤ j) (hj : j ≤ n) (hc : n ≤ c) :
    Lib.BytesIn w (subA q c i) (j - i) (Lib.numsL (sub l i j)) := by
  intro hpos
  obtain ⟨b, o, rfl, hcell⟩ := h.at (by omega)
  refine ⟨b, o + i, ?_, fun k hk => ?_⟩
  · unfold subA
    rw [if_neg (by omega)]
    by_cases h0 : i = 0
    · subst h0; simp [Addr.add]
    · simp [Addr.add, h0]
  · rw [numsL_getD _ _ (by rw [sub_length _ _ _ (by omega)]; exact hk), sub_getD _ _ _ _ hk, Nat.add_assoc, hcell (i + k) (by omega), numsL_getD _ _ (by omega)]

theorem run_slice_sub (q : Option Addr) (n c i j : Nat) (W : World) (hij : i ≤ j) (hj : j ≤ c) :
    (Instr.slice 30 (.slice q n c) (some (.int .i64 (i : Int))) (some (.int .i64 (j : Int))) none).run Tryz.prog W = .ok (.slice (subA q c i) (j - i) (c - i)) W := by
  have hs : ∀ w, (Go.sizeOf 5).run Tryz.prog w = .ok 1 w := Tryz.sizeOf5
  have he : Tryz.prog.elem 30 = 5 := by kernel_rfl
  have h := run_slice_lh (P := Tryz.prog) (w := W) 30 q n c (by rw [he]; exact Tryz.underlying30) .i64 .i64 i j (by omega) (by omega) (by omega)
  rw [h, he, hs]
  simp only [Result.andThen, sliced, subA, Int.toNat_natCast, Nat.mul_one]

theorem Clone_any (q : Option Addr) (n c : Nat) (l : List UInt8) (w : World) (hl : l.length = n) (hn : n ≤ 140737488355328) (h : Lib.BytesIn w q n (Lib.numsL l)) :
    Calls Tryz.prog 54 #[.slice q n c] w fun e w' => ∃ v', e = .returned v' ∧ w'.ownsRow w.heap.size 5 1 v' n ((Lib.numsL l).map (Value.int .u8)) ∧ Below w.heap.size w w' := by
  cases q with
  | none =>
    have hz : n = 0 := by
      rcases Nat.eq_zero_or_pos n with h0 | h0
      · exact h0
      · obtain ⟨b, o, he, _⟩ := h.at h0
        cases he
    subst hz
    obtain rfl : l = [] := List.eq_nil_of_length_eq_zero hl
    refine (Tryz.bytes_Clone_nil 0 c w).mono fun e w' ⟨he, hw⟩ => ?_
    subst hw
    exact ⟨_, he, World.ownsRow_nil _ _ _ _, Below.refl _ _⟩
  | some a =>
    refine (Tryz.bytes_Clone_at a n c (Lib.numsL l) w (by rw [Lib.numsL_length, hl]) hn ?_).mono fun e w' ⟨v', he, ho, _, hb⟩ => ⟨v', he, ho, hb⟩
    intro i hi
    obtain ⟨b, o, he, hc⟩ := h.at (by omega)
    cases he
    rw [Go.WideShapes.add_plain]
    exact hc i hi

end Go.Proofs.YtkjkfgmoogbdiaaGreatDoor

namespace Go.Proofs.YtkjkfgmoogbdiaaGreatDoor.Url

/-- Each piece's one form, if all have one. -/
def formsL : List (List UInt8) → Option (List (List UInt8))
  | [] => some []
  | p :: r => (formL 1 p).bind fun c => (formsL r).map (c :: ·)
/-- Pieces gone through: one dot goes, two go with the one ahead. -/
def stackL : List (List UInt8) → List (List UInt8) → List (List UInt8)
  | st, [] => st
  | st, p :: r => stackL (if p = [46] then st else if p = [46, 46] then st.dropLast else st ++ [p]) r
def dotB (p : List UInt8) : Bool := p = [46] || p = [46, 46]
def dotsL (ps : List (List UInt8)) : List (List UInt8) := stackL [] ps ++ (if dotB (ps.getLastD []) = true then [[]] else [])
/-- A path's one form, if it has one. -/
def pathL : List UInt8 → Option (List UInt8)
  | [] => some [47]
  | _ :: r => (formsL (Ref.splitL 47 r)).map fun cs => 47 :: Ref.joinL 47 (dotsL cs)

theorem split_free (c : UInt8) : ∀ l : List UInt8, ∀ p ∈ Ref.splitL c l, c ∉ p
  | [], p, hp => by simp [Ref.splitL] at hp; subst hp; simp
  | b :: r, p, hp => by
    have ih := split_free c r
    by_cases h : b = c
    · subst h
      rw [Ref.split_is] at hp
      rcases List.mem_cons.1 hp with rfl | hp
      · simp
      · exact ih p hp
    · rw [Ref.split_not c b r h] at hp
      cases hs : Ref.splitL c r with
      | nil => exact absurd hs (Ref.split_ne c r)
      | cons q t =>
        rw [hs] at hp ih
        rcases List.mem_cons.1 hp with rfl | hp
        · intro hc
          rcases List.mem_append.1 hc with hc | hc
          · exact h (List.mem_singleton.1 hc).symm
          · exact ih q (by simp) hc
        · exact ih p (by simp [hp])
theorem join_mem (c : UInt8) : ∀ R : List (List UInt8), ∀ b ∈ Ref.joinL c R, b = c ∨ ∃ p ∈ R, b ∈ p
  | [], b, h => by cases h
  | [p], b, h => .inr ⟨p, by simp, h⟩
  | p :: q :: r, b, h => by
    have h' : b ∈ p ++ c :: Ref.joinL c (q :: r) := h
    rcases List.mem_append.1 h' with h | h
    · exact .inr ⟨p, by simp, h⟩
    · rcases List.mem_cons.1 h with rfl | h
      · exact .inl rfl
      · rcases join_mem c (q :: r) b h with h | ⟨x, hx, hb⟩
        · exact .inl h
        · exact .inr ⟨x, by simp [hx], hb⟩

theorem stack_mem : ∀ (ps st : List (List UInt8)), ∀ x ∈ stackL st ps, x ∈ st ∨ (x ∈ ps ∧ dotB x = false)
  | [], st, x, h => .inl h
  | p :: r, st, x, h => by
    rw [stackL] at h
    rcases stack_mem r _ x h with h | ⟨h, hd⟩
    · split at h
      · exact .inl h
      · split at h
        · exact .inl (List.dropLast_subset _ h)
        · rename_i h1 h2
          rcases List.mem_append.1 h with h | h
          · exact .inl h
          · rw [List.mem_singleton.1 h]
            exact .inr ⟨by simp, by unfold dotB; simp [h1, h2]⟩
    · exact .inr ⟨by simp [h], hd⟩
theorem stack_app : ∀ (ps qs st : List (List UInt8)), stackL st (ps ++ qs) = stackL (stackL st ps) qs
  | [], _, _ => rfl
  | p :: r, qs, st => by rw [List.cons_append, stackL, stack_app r qs, stackL]
theorem dots_mem (ps : List (List UInt8)) : ∀ x ∈ dotsL ps, x = [] ∨ (x ∈ ps ∧ dotB x = false) := by
  intro x hx
  unfold dotsL at hx
  rcases List.mem_append.1 hx with h | h
  · rcases stack_mem ps [] x h with h | h
    · cases h
    · exact .inr h
  · split at h
    · exact .inl (List.mem_singleton.1 h)
    · cases h
theorem dots_ne (ps : List (List UInt8)) (h : ps ≠ []) : dotsL ps ≠ [] := by
  unfold dotsL
  by_cases hd : dotB (ps.getLastD []) = true
  · rw [if_pos hd]; simp
  · rw [if_neg hd, List.append_nil]
    have hs := List.dropLast_concat_getLast h
    have he : ps.getLastD [] = ps.getLast h := by rw [List.getLastD_eq_getLast?, List.getLast?_eq_some_getLast h]; rfl
    rw [he] at hd
    rw [← hs, stack_app, stackL, stackL]
    unfold dotB at hd
    have h1 : ¬ ps.getLast h = [46] := fun e => hd (by rw [e]; rfl)
    have h2 : ¬ ps.getLast h = [46, 46] := fun e => hd (by rw [e]; rfl)
    rw [if_neg h1, if_neg h2]; simp
theorem forms_mem : ∀ (ps cs : List (List UInt8)), formsL ps = some cs → ∀ c ∈ cs, ∃ p ∈ ps, formL 1 p = some c
  | [], cs, h, c, hc => by rw [formsL] at h; cases h; cases hc
  | p :: r, cs, h, c, hc => by
    rw [formsL] at h
    obtain ⟨d, hd, h⟩ := Option.bind_eq_some_iff.1 h
    obtain ⟨ds, hds, rfl⟩ := Option.map_eq_some_iff.1 h
    rcases List.mem_cons.1 hc with rfl | hc
    · exact ⟨p, by simp, hd⟩
    · obtain ⟨q, hq, he⟩ := forms_mem r ds hds c hc
      exact ⟨q, by simp [hq], he⟩
theorem forms_ne (ps cs : List (List UInt8)) (h : formsL ps = some cs) (hp : ps ≠ []) : cs ≠ [] := by
  cases ps with
  | nil => exact absurd rfl hp
  | cons p r =>
    rw [formsL] at h
    obtain ⟨d, hd, h⟩ := Option.bind_eq_some_iff.1 h
    obtain ⟨ds, hds, rfl⟩ := Option.map_eq_some_iff.1 h
    simp
/-- A path in its one form. -/
def PathOk (p : List UInt8) : Prop := ∃ R : List (List UInt8), R ≠ [] ∧ p = 47 :: Ref.joinL 47 R ∧ ∀ x ∈ R, formL 1 x = some x ∧ 47 ∉ x ∧ 63 ∉ x ∧ 35 ∉ x ∧ dotB x = false
theorem path_ok (l p : List UInt8) (h : pathL l = some p) : PathOk p := by
  cases l with
  | nil =>
    rw [pathL] at h; cases h
    refine ⟨[[]], by simp, rfl, fun x hx => ?_⟩
    rw [List.mem_singleton.1 hx]
    exact ⟨rfl, by simp, by simp, by simp, by decide⟩
  | cons b r =>
    rw [pathL] at h
    obtain ⟨cs, hcs, rfl⟩ := Option.map_eq_some_iff.1 h
    refine ⟨dotsL cs, dots_ne cs (forms_ne _ _ hcs (Ref.split_ne 47 r)), rfl, fun x hx => ?_⟩
    rcases dots_mem cs x hx with rfl | ⟨hx, hd⟩
    · exact ⟨rfl, by simp, by simp, by simp, by decide⟩
    · obtain ⟨p, hp, hf⟩ := forms_mem _ _ hcs x hx
      exact ⟨form_twice 1 p x hf, form_no 1 p x 47 hf (by decide) (by decide) (.inr (split_free 47 r p hp)), form_no 1 p x 63 hf (by decide) (by decide) (.inl (by decide)), form_no 1 p x 35 hf (by decide) (by decide) (.inl (by decide)), hd⟩
end Go.Proofs.YtkjkfgmoogbdiaaGreatDoor.Url

namespace Go.Proofs.YtkjkfgmoogbdiaaGreatDoor
open Go.RowKit Go.Shelf
attribute [local go_sem] Oper.semAt_some

theorem appended_keep {W w1 : World} {n₀ B : Nat} {t e : TypeId} {size : Nat} {v v' : Value} {k m : Nat} {xs ys : List Value} {tmp : Obj} {S : Nat → Prop}
    (hv : Boxed W B t v) (hte : t ≠ e) (hrow : W.ownsRow n₀ e size v k xs) (hS : ¬ S B) (hSo : ∀ b, v.ownBlock = some b → ¬ S b) (hown' : w1.ownsRow n₀ e size v' m ys) (hgrow : (W.alloc tmp).grownBy w1 v.ownBlock) :
    Boxed w1 B t v ∧ Boxed (w1.setCell ⟨B, 0, none⟩ v') B t v' ∧ (w1.setCell ⟨B, 0, none⟩ v').ownsRow n₀ e size v' m ys ∧ Keep S W (w1.setCell ⟨B, 0, none⟩ v') := by
  have hv1 : Boxed w1 B t v := (hv.alloc tmp).kept hgrow (hv.not_row hte hrow)
  exact ⟨hv1, hv1.set v', hown'.kept (grownBy_setCell' w1 B v') (.inr (hv1.not_row hte hown').symm), ((Keep.alloc S W tmp).trans (Keep.of_grownBy hgrow hSo)).trans (Keep.setCell _ _ _ hS)⟩

/-- A row of one's own is a row. -/
theorem slIn_of_owns {α : Type} {enc : α → Value} {W : World} {base n : Nat} {e : TypeId} {v : Value} {xs : List α} (h : W.ownsRow base e 1 v n (xs.map enc)) :
    ∃ q c, v = .slice q n c ∧ n ≤ c ∧ c ≤ maxLen ∧ SlIn enc W q n xs ∧ (∀ a, q = some a → base ≤ a.block ∧ a.block < W.heap.size ∧ v.ownBlock = some a.block) := by
  have hl : xs.length = n := by have := h.1; simpa using this
  rcases h.2 with ⟨rfl, rfl⟩ | ⟨g, cap, cur, rfl, hb, hg, h1, h2, h3, h4⟩
  · exact ⟨none, 0, rfl, Nat.le_refl _, Nat.zero_le _, ⟨hl, fun h => absurd h (by omega)⟩, by intro a ha; cases ha⟩
  · have hlt := (Array.getElem?_eq_some_iff.1 hg).1
    refine ⟨some ⟨g, 0, none⟩, cap, rfl, h1, h2, ⟨hl, fun _ => ⟨g, 0, rfl, hlt, fun i x hx => ?_⟩⟩, fun a ha => by cases ha; exact ⟨hb, hlt, rfl⟩⟩
    have hi : i < xs.length := (List.getElem?_eq_some_iff.1 hx).1
    have hcur : cur[i]? = some (enc x) := by
      have : (cur.toList.take (n * 1))[i]? = some (enc x) := by
        rw [h4, List.getElem?_map, hx]; rfl
      rw [List.getElem?_take, if_pos (by omega)] at this
      simpa using this
    simp only [World.cell?, hg, Nat.zero_add]
    exact hcur

/-- The value v is the set xs, in w. -/
def SetIs {α : Type} [LT α] (enc : α → Value) (w : World) (v : Value) (xs : List α) : Prop :=
  ∃ q n c, v = .agg #[.slice q n c] ∧ n ≤ c ∧ n ≤ 140737488355328 ∧ SlIn enc w q n xs ∧ Rises xs

end Go.Proofs.YtkjkfgmoogbdiaaGreatDoor

namespace Go.Proofs.YtkjkfgmoogbdiaaGreatDoor.Ref
open Go.RowKit Go.Shelf

def numB (p : List UInt8) : Bool := (numOf 255 p).isSome
theorem addr_num (l : List (List UInt8)) : Host.addrB l = (decide (l.length = 4) && l.all numB) := rfl

end Go.Proofs.YtkjkfgmoogbdiaaGreatDoor.Ref

namespace Go.Proofs.YtkjkfgmoogbdiaaGreatDoor.Pct
open Go.RowKit Go.Shelf

theorem info_u8 : (Tryz.prog.info? 5).map (fun i => (i.zero, i.size, i.bytes)) = some (some (.int .u8 0), 1, 1) := by kernel_rfl
/-- Bytes as values. -/
def byV (l : List UInt8) : List Value := (Lib.numsL l).map (Value.int .u8)
theorem byV_app (l m : List UInt8) : byV (l ++ m) = byV l ++ byV m := by simp [byV, Lib.numsL]
theorem row_base {W : World} {base base' : Nat} {e : TypeId} {size : Nat} {v : Value} {n : Nat} {xs : List Value} (h : W.ownsRow base e size v n xs) (hb : base' ≤ base) : W.ownsRow base' e size v n xs := by
  refine ⟨h.1, ?_⟩
  rcases h.2 with hn | ⟨g, cap, cur, hv, hg, rest⟩
  · exact .inl hn
  · exact .inr ⟨g, cap, cur, hv, Nat.le_trans hb hg, rest⟩
/-- An owned row of bytes, opened. -/
theorem row_open {W : World} {base n : Nat} {v : Value} {l : List UInt8} (h : W.ownsRow base 5 1 v n (byV l)) :
    ∃ q c, v = .slice q n c ∧ l.length = n ∧ n ≤ c ∧ c ≤ maxLen ∧ Lib.BytesIn W q n (Lib.numsL l) ∧ (∀ a, q = some a → a.block < W.heap.size ∧ base ≤ a.block ∧ v.ownBlock = some a.block) := by
  have hl : l.length = n := by have := h.1; simpa [byV, Lib.numsL] using this
  rcases h.2 with ⟨rfl, rfl⟩ | ⟨g, cap, cur, rfl, hb, hg, h1, h2, h3, h4⟩
  · exact ⟨none, 0, rfl, hl, Nat.le_refl _, Nat.zero_le _, Lib.BytesIn.nil _ _ _, by intro a ha; cases ha⟩
  · refine ⟨some ⟨g, 0, none⟩, cap, rfl, hl, h1, h2, fun h0 => ⟨g, 0, rfl, fun i hi => ?_⟩, fun a ha => by cases ha; exact ⟨(Array.getElem?_eq_some_iff.1 hg).1, hb, rfl⟩⟩
    have hcur : cur[i]? = some (.int .u8 ((Lib.numsL l).getD i 0)) := by
      have : (cur.toList.take (n * 1))[i]? = some (.int .u8 ((Lib.numsL l).getD i 0)) := by
        rw [h4]
        have hi' : i < (Lib.numsL l).length := by rw [Lib.numsL_length]; omega
        simp [byV, List.getElem?_map, List.getElem?_eq_getElem hi', List.getD]
      rw [List.getElem?_take, if_pos (by omega)] at this
      simpa using this
    simp only [World.cell?, hg, Nat.zero_add]
    exact hcur

/-- What a row leaves that has grown: all but its own block lies as it lay. -/
def Grown (w : World) (v : Value) (w' : World) (v' : Value) : Prop :=
  (∀ S : Nat → Prop, (∀ b, v.ownBlock = some b → ¬ S b) → Keep S w w') ∧ (∀ b, v'.ownBlock = some b → v.ownBlock = some b ∨ w.heap.size ≤ b)

theorem digs_at (n m : Nat) (e : m = n) (h : m < (ByteArray.mk #[48, 49, 50, 51, 52, 53, 54, 55, 56, 57, 65, 66, 67, 68, 69, 70]).size) : (ByteArray.mk #[48, 49, 50, 51, 52, 53, 54, 55, 56, 57, 65, 66, 67, 68, 69, 70])[m]'h = dg n := by
  subst e
  have h' : ∀ i : Fin 16, (ByteArray.mk #[48, 49, 50, 51, 52, 53, 54, 55, 56, 57, 65, 66, 67, 68, 69, 70])[i.1]'i.2 = dg i.1 := by decide +kernel
  exact h' ⟨m, h⟩

theorem and15 (b : UInt8) : bits BinOp.and IntKind.u8 (b.toNat : Int) 15 = (b.toNat : Int) % 16 :=
  all_u8 (p := fun b => bits BinOp.and IntKind.u8 (b.toNat : Int) 15 = (b.toNat : Int) % 16) (by decide +kernel) b
theorem cell_three_new (w : World) (x y z : Value) (t : TypeId) : ∀ j u, [x, y, z][j]? = some u → (w.alloc (.cells #[x, y, z] t)).cell? ((⟨w.heap.size, 0, none⟩ : Addr).add j) = some u := by
  intro j u hj
  rw [Go.WideShapes.add_plain]
  have hn : (w.alloc (.cells #[x, y, z] t)).heap[w.heap.size]? = some (.cells #[x, y, z] t) := World.alloc_heap_new w _
  simp only [World.cell?, hn, Nat.zero_add]
  simpa using hj
/-- 'append(dst, src...)', dst the call's own. -/
theorem wp_append_own_at {P : Program} {o : Oper} {a : Act} {w : World} {K : Act → World → Prop} {Q : Exit → Act → World → Prop} (s x : Operand) (t : TypeId)
    (ho : o.op = .call { callee := .builtin .append, args := #[s, x], argTypes := #[t, t] })
    (base : Nat) (e : TypeId) (i : TypeInfo) (z : Value) (size bytes : Nat) (ht : P.underlying t = some (.slice e)) (hi : P.info? e = some i) (hz : i.zero = some z)
    (hsize : i.size = size) (hby : i.bytes = bytes) (hzs : z.cells.size = size) (hsz : 0 < size)
    (v : Value) (n : Nat) (xs : List Value) (hs : a.eval s = v) (hown : w.ownsRow base e size v n xs)
    (ad : Addr) (m c : Nat) (news : List Value) (hx : a.eval x = .slice (some ad) m c) (hl : news.length = m * size) (hnews : ∀ j u, news[j]? = some u → w.cell? (ad.add j) = some u) (h1 : ∀ u ∈ news, u.oneCell' = true)
    (h63 : n + m ≤ maxLen) (hbytes : (n + m) * bytes ≤ 140737488355328) (hbase : base ≤ w.heap.size)
    (h : ∀ v' w', w'.ownsRow base e size v' (n + m) (xs ++ news) → w.grownBy w' v.ownBlock → (v'.ownBlock = v.ownBlock ∨ v'.ownBlock = some w.heap.size) → K (a.put o.dst v') w') : o.wp P a w K Q := by
  obtain ⟨v', w', hr, h2, h3, _, h5⟩ := run_append_own_at (P := P) w base t o.type e i z size bytes ht hi hz hsize hby hzs hsz v n xs hown ad m c news hl hnews h1 h63 hbytes hbase
  unfold Oper.wp execOp
  simp only [ho, resolve, invoke, builtin, Sem.run_bind, Sem.run_pure, Result.andThen_ok, List.map_toArray, List.map_cons, List.map_nil, hs, hx, hr]
  exact h v' w' h2 h3 h5
theorem grown_of {w w2 w1 : World} {v v' : Value} {o : Obj} (hgrow : (w2.alloc o).grownBy w1 v.ownBlock) (hat : v'.ownBlock = v.ownBlock ∨ v'.ownBlock = some (w2.alloc o).heap.size) (hs : w.heap.size = w2.heap.size) (hk : ∀ S, Keep S w w2) : Grown w v w1 v' :=
  ⟨fun S hS => (hk S).trans ((Keep.alloc S w2 o).trans (Keep.of_grownBy hgrow hS)), fun b hb => by
    rcases hat with h | h
    · exact .inl (h ▸ hb)
    · rw [h] at hb; cases hb; exact .inr (by simp; omega)⟩

set_option maxRecDepth 100000 in
set_option maxHeartbeats 2000000 in
theorem appendByte_any (base : Nat) (v : Value) (l : List UInt8) (b : UInt8) (s : Bool) (w : World) (h : w.ownsRow base 5 1 v l.length (byV l)) (hbase : base ≤ w.heap.size) (hn : l.length ≤ 70368744177664) :
    Calls Tryz.prog 192 #[v, .int .u8 (b.toNat : Int), .bool s] w fun e w' => ∃ v', e = .returned v' ∧ w'.ownsRow base 5 1 v' (l ++ putL s b).length (byV (l ++ putL s b)) ∧ Grown w v w' v' := by
  obtain ⟨i0, hi0, hz0, hz1, hz2⟩ := info_parts info_u8
  have hb := u8_lt b
  cases s
  · obtain ⟨w2, hw2⟩ : ∃ w2, w.drew = w2 := ⟨_, rfl⟩
    have h2 : w2.ownsRow base 5 1 v l.length (byV l) := by rw [← hw2]; exact h
    have hs2 : w.heap.size = w2.heap.size := by rw [← hw2]; rfl
    have hk2 : ∀ S, Keep S w w2 := fun S => by rw [← hw2]; exact Keep.drew S w
    have hb2 : base ≤ w2.heap.size := by omega
    have hs2' := Lib.hid hs2
    clear hs2
    have hq : ∀ h, (ByteArray.mk #[48, 49, 50, 51, 52, 53, 54, 55, 56, 57, 65, 66, 67, 68, 69, 70])[((b.toNat : Int) / 16).toNat]'h = dg (b.toNat / 16) := fun h => digs_at (b.toNat / 16) _ (by omega) h
    have hr : ∀ h, (ByteArray.mk #[48, 49, 50, 51, 52, 53, 54, 55, 56, 57, 65, 66, 67, 68, 69, 70])[((b.toNat : Int) % 16).toNat]'h = dg (b.toNat % 16) := fun h => digs_at (b.toNat % 16) _ (by omega) h
    go_enter Tryz.func192, Tryz.ntmps192
    go_wp2
    refine pregion_any (fun _ => True) (by kernel_rfl) ?_
    rw [hw2]
    have hS : True := trivial
    refine wpAnyH_take (i := 0) (v := v) rfl (by kernel_rfl) (by kernel_rfl) (by kernel_rfl) (fun _ _ _ h => h) (.inl ⟨by kernel_rfl, ?_⟩) hS ?_
    · intro w _; go_simp
    refine plist #[true, false, false, false, false, false, false, false, false, false] (by kernel_rfl) ?_
    refine wpAnyH_take (i := 1) (v := (.int .u8 (b.toNat : Int))) rfl (by kernel_rfl) (by kernel_rfl) (by kernel_rfl) (fun _ _ _ h => h) (.inl ⟨by kernel_rfl, ?_⟩) hS ?_
    · intro w _; go_simp
    refine plist #[true, true, false, false, false, false, false, false, false, false] (by kernel_rfl) ?_
    refine wpAnyH_take (i := 2) (v := (.int .u8 ((b.toNat : Int) / 16))) rfl (by kernel_rfl) (by kernel_rfl) (by kernel_rfl) (fun _ _ _ h => h) (.inl ⟨by kernel_rfl, ?_⟩) hS ?_
    · intro w _; go_simp
    refine plist #[true, true, true, false, false, false, false, false, false, false] (by kernel_rfl) ?_
    refine wpAnyH_take (i := 3) (v := (.int .u8 ((dg (b.toNat / 16)).toNat : Int))) rfl (by kernel_rfl) (by kernel_rfl) (by kernel_rfl) (fun _ _ _ h => h) (.inl ⟨by kernel_rfl, ?_⟩) hS ?_
    · intro w _; go_simp; intro h1; have := h1 (by omega); omega
    refine plist #[true, true, true, true, false, false, false, false, false, false] (by kernel_rfl) ?_
    refine wpAnyH_take (i := 4) (v := (.int .u8 (b.toNat : Int))) rfl (by kernel_rfl) (by kernel_rfl) (by kernel_rfl) (fun _ _ _ h => h) (.inl ⟨by kernel_rfl, ?_⟩) hS ?_
    · intro w _; go_simp
    refine plist #[true, true, true, true, true, false, false, false, false, false] (by kernel_rfl) ?_
    refine wpAnyH_take (i := 5) (v := (.int .u8 ((b.toNat : Int) % 16))) rfl (by kernel_rfl) (by kernel_rfl) (by kernel_rfl) (fun _ _ _ h => h) (.inl ⟨by kernel_rfl, ?_⟩) hS ?_
    · intro w _; go_simp; exact and15 b
    refine plist #[true, true, true, true, true, true, false, false, false, false] (by kernel_rfl) ?_
    refine wpAnyH_take (i := 6) (v := (.int .u8 ((dg (b.toNat % 16)).toNat : Int))) rfl (by kernel_rfl) (by kernel_rfl) (by kernel_rfl) (fun _ _ _ h => h) (.inl ⟨by kernel_rfl, ?_⟩) hS ?_
    · intro w _; go_simp; intro h1; have := h1 (by omega); omega
    refine plist #[true, true, true, true, true, true, true, false, false, false] (by kernel_rfl) ?_
    refine pone 7 (by kernel_rfl) rfl fun K hK => ?_
    go_simp
    refine hK _ _ hS ?_
    clear hK K
    refine plist #[true, true, true, true, true, true, true, true, false, false] (by kernel_rfl) ?_
    refine pone 8 (by kernel_rfl) rfl fun K hK => ?_
    rw [if_pos (by rfl)]
    refine wp_append_own_at (Operand.tmp 12) (Operand.tmp 19) 30 rfl base 5 i0 (.int .u8 0) 1 1 Tryz.underlying30 hi0 hz0 hz1 hz2 rfl (by decide) v l.length (byV l) rfl (h2.alloc _) ⟨w2.heap.size, 0, none⟩ 3 3 (byV (putL false b)) rfl rfl (cell_three_new _ _ _ _ _) (by simp [byV, putL, Lib.numsL, Value.oneCell']) (by unfold maxLen; omega) (by omega) (by simp; omega) ?_
    intro v' w1 hown' hgrow hat
    refine hK _ _ hS ?_
    clear hK K
    refine plist #[true, true, true, true, true, true, true, true, true, false] (by kernel_rfl) ?_
    refine wpAnyH_take (i := 9) (v := v') rfl (by kernel_rfl) (by kernel_rfl) (by kernel_rfl) (fun _ _ _ h => h) (.inl ⟨by kernel_rfl, ?_⟩) hS ?_
    · intro w _; go_simp
    refine pdone (by kernel_rfl) ?_ _
    go_wp2
    go_ret
    refine ⟨v', rfl, ?_, ?_⟩
    · rw [byV_app, List.length_append]; exact hown'
    · exact grown_of hgrow hat hs2'.out hk2
  · go_enter Tryz.func192, Tryz.ntmps192
    go_wp2_with (at_builtin; refine wpList_append_own_at _ rfl _ _ 30 rfl base 5 i0 (.int .u8 0) 1 1 Tryz.underlying30 hi0 hz0 hz1 hz2 rfl (by decide) v l.length (byV l) rfl (h.alloc _) ⟨w.heap.size, 0, none⟩ 1 1 [.int .u8 (b.toNat : Int)] rfl rfl (cell_one_new _ _ _) (by simp [Value.oneCell']) (by unfold maxLen; omega) (by omega) (by simp; omega) ?_; intro v' w1 hown' hgrow _ hat)
    go_ret
    refine ⟨_, rfl, ?_, ?_⟩
    · rw [byV_app, List.length_append]; exact hown'
    · exact grown_of hgrow hat rfl (fun S => Keep.refl S w)

end Go.Proofs.YtkjkfgmoogbdiaaGreatDoor.Pct

namespace Go.Proofs.YtkjkfgmoogbdiaaGreatDoor.Url

def httpS : List UInt8 := [104, 116, 116, 112]
def httpsS : List UInt8 := [104, 116, 116, 112, 115]
/-- A scheme's own port. -/
def ownP (s : List UInt8) : Nat := if s = httpS then 80 else if s = httpsS then 443 else 0
/-- What stands ahead of the first "://", and behind it. -/
def sepL : List UInt8 → Option (List UInt8 × List UInt8)
  | [] => none
  | b :: r => match b, r with
    | 58, 47 :: 47 :: t => some ([], t)
    | b, r => (sepL r).map fun x => (b :: x.1, x.2)
/-- A URL. -/
structure U where
  scheme : List UInt8
  host : List UInt8
  port : Nat
  path : List UInt8
  query : List UInt8
  frag : List UInt8
  hq : Bool
  hf : Bool
def portL (s : List UInt8) : Option (List UInt8) → Option Nat
  | none => some (ownP s)
  | some l => (Ref.numOf 65535 l).bind fun n => if 1 ≤ n then some n.toNat else none
def optL : Option (List UInt8) → Option (List UInt8)
  | none => some []
  | some l => formL 2 l
/-- What stands behind "://". -/
def restU (s r : List UInt8) : Sum Int U :=
  let r1 := aheadL 35 r
  let r2 := aheadL 63 r1
  let a := aheadL 47 r2
  let h := aheadL 58 a
  if Host.parseE h ≠ 0 then .inl (Host.parseE h) else
  match portL s (Host.tailL 58 a), pathL (r2.drop a.length), optL (Host.tailL 63 r1), optL (Host.tailL 35 r) with
  | some n, some p, some q, some f => .inr ⟨s, Ref.lowL h, n, p, q, f, (Host.tailL 63 r1).isSome, (Host.tailL 35 r).isSome⟩
  | _, _, _, _ => .inl 2
/-- A text's URL, or the error's number. -/
def parseU (t : List UInt8) : Sum Int U :=
  if 4096 < t.length then .inl 3 else
  match sepL t with
  | none => .inl 15
  | some (s, r) => if Ref.lowL s = httpS ∨ Ref.lowL s = httpsS then restU (Ref.lowL s) r else .inl 15
def portT (u : U) : List UInt8 := if u.port = ownP u.scheme then [] else 58 :: digL u.port
def queryT (u : U) : List UInt8 := if u.hq then 63 :: u.query else []
def fragT (u : U) : List UInt8 := if u.hf then 35 :: u.frag else []
/-- A URL's text. -/
def textU (u : U) : List UInt8 := u.scheme ++ [58, 47, 47] ++ u.host ++ portT u ++ u.path ++ queryT u ++ fragT u

/-- A URL in its one form. -/
structure Ok (u : U) : Prop where
  scheme : u.scheme = httpS ∨ u.scheme = httpsS
  host : Host.parseE u.host = 0
  low : Ref.lowL u.host = u.host
  port1 : 1 ≤ u.port
  port2 : u.port ≤ 65535
  path : PathOk u.path
  query : formL 2 u.query = some u.query
  noq : u.hq = false → u.query = []
  frag : formL 2 u.frag = some u.frag
  nof : u.hf = false → u.frag = []

theorem own_pos (s : List UInt8) (h : s = httpS ∨ s = httpsS) : 1 ≤ ownP s ∧ ownP s ≤ 65535 := by
  rcases h with rfl | rfl <;> decide
theorem port_ok (s : List UInt8) (hs : s = httpS ∨ s = httpsS) (o : Option (List UInt8)) (n : Nat) (h : portL s o = some n) : 1 ≤ n ∧ n ≤ 65535 := by
  cases o with
  | none => rw [portL] at h; cases h; exact own_pos s hs
  | some l =>
    rw [portL] at h
    obtain ⟨m, hm, h⟩ := Option.bind_eq_some_iff.1 h
    split at h
    · cases h
      have hb : m ≤ 65535 := by
        unfold Ref.numOf at hm
        split at hm
        · cases hm
        · exact (Host.num_go 65535 _ _ _ hm).2.1 (by omega)
      omega
    · cases h
theorem opt_ok (o : Option (List UInt8)) (c : List UInt8) (h : optL o = some c) : formL 2 c = some c ∧ (o.isSome = false → c = []) := by
  cases o with
  | none => rw [optL] at h; cases h; exact ⟨rfl, fun _ => rfl⟩
  | some l => rw [optL] at h; exact ⟨form_twice 2 l c h, fun h => by cases h⟩
theorem rest_ok (s r : List UInt8) (u : U) (hs : s = httpS ∨ s = httpsS) (h : restU s r = .inr u) : Ok u := by
  unfold restU at h
  simp only at h
  split at h
  · cases h
  · rename_i hh
    have hh : Host.parseE (aheadL 58 (aheadL 47 (aheadL 63 (aheadL 35 r)))) = 0 := Decidable.not_not.1 hh
    split at h
    · rename_i n p q f hn hp hq hf
      cases h
      obtain ⟨h1, h2⟩ := port_ok s hs _ n hn
      obtain ⟨h3, h4⟩ := opt_ok _ q hq
      obtain ⟨h5, h6⟩ := opt_ok _ f hf
      exact ⟨hs, (Host.parse_low _).trans hh, Ref.lowL_lowL _, h1, h2, path_ok _ p hp, h3, h4, h5, h6⟩
    · cases h
theorem parse_ok (t : List UInt8) (u : U) (h : parseU t = .inr u) : Ok u := by
  unfold parseU at h
  split at h
  · cases h
  · split at h
    · cases h
    · split at h
      · rename_i hs; exact rest_ok _ _ u hs h
      · cases h

theorem host_bytes (h : List UInt8) (hp : Host.parseE h = 0) : ∀ b ∈ h, Host.hostByte b = true ∨ b = 46 := by
  intro b hb
  have hh : Host.hostB (Ref.splitL 46 h) = true := by
    unfold Host.parseE at hp
    split at hp
    · cases hp
    · split at hp
      · assumption
      · cases hp
  unfold Host.hostB at hh
  rw [Bool.and_eq_true, Bool.and_eq_true, List.all_eq_true] at hh
  rw [← Ref.join_split 46 h] at hb
  rcases join_mem 46 _ b hb with h1 | ⟨p, h1, h2⟩
  · exact .inr h1
  · have hpp := hh.1.2 p h1
    unfold Host.partB at hpp
    rw [Bool.and_eq_true, List.all_eq_true] at hpp
    exact .inl (hpp.2 b h2)
/-- The bytes of pieces, and one more for each. -/
def weightL : List (List UInt8) → Nat
  | [] => 0
  | p :: r => p.length + 1 + weightL r
theorem weight_app (x y : List (List UInt8)) : weightL (x ++ y) = weightL x + weightL y := by
  induction x with
  | nil => simp [weightL]
  | cons p r ih => rw [List.cons_append, weightL, weightL, ih]; omega
theorem weight_join (c : UInt8) : ∀ R : List (List UInt8), (Ref.joinL c R).length ≤ weightL R
  | [] => Nat.le_refl _
  | [p] => by simp [Ref.joinL, weightL]
  | p :: q :: r => by
    have ih := weight_join c (q :: r)
    show (p ++ c :: Ref.joinL c (q :: r)).length ≤ p.length + 1 + weightL (q :: r)
    rw [List.length_append, List.length_cons]; omega
theorem weight_drop (x : List (List UInt8)) : weightL x.dropLast ≤ weightL x := by
  by_cases h : x = []
  · subst h; exact Nat.le_refl _
  · have e := List.dropLast_concat_getLast h
    have : weightL x = weightL x.dropLast + weightL [x.getLast h] := by rw [← weight_app, e]
    omega
theorem weight_stack : ∀ (ps st : List (List UInt8)), weightL (stackL st ps) ≤ weightL st + weightL ps
  | [], st => by simp [stackL, weightL]
  | p :: r, st => by
    rw [stackL, weightL]
    have ih := weight_stack r (if p = [46] then st else if p = [46, 46] then st.dropLast else st ++ [p])
    have hs : weightL (if p = [46] then st else if p = [46, 46] then st.dropLast else st ++ [p]) ≤ weightL st + (p.length + 1) := by
      split
      · omega
      · split
        · have := weight_drop st; omega
        · rw [weight_app]; simp [weightL]
    omega
theorem weight_dots (ps : List (List UInt8)) : weightL (dotsL ps) ≤ weightL ps + 1 := by
  unfold dotsL
  rw [weight_app]
  have h1 := weight_stack ps []
  have h2 : weightL (if dotB (ps.getLastD []) = true then [[]] else []) ≤ 1 := by split <;> simp [weightL]
  simp only [weightL] at h1
  omega
theorem weight_forms : ∀ (ps cs : List (List UInt8)), formsL ps = some cs → weightL cs ≤ 3 * weightL ps
  | [], cs, h => by rw [formsL] at h; cases h; exact Nat.le_refl _
  | p :: r, cs, h => by
    rw [formsL] at h
    obtain ⟨d, hd, h⟩ := Option.bind_eq_some_iff.1 h
    obtain ⟨ds, hds, rfl⟩ := Option.map_eq_some_iff.1 h
    have h1 := form_len 1 p d hd
    have h2 := weight_forms r ds hds
    rw [weightL, weightL]; omega
theorem weight_onto (x : List UInt8) (l : List (List UInt8)) (h : l ≠ []) : weightL (Ref.onto x l) = x.length + weightL l := by
  cases l with
  | nil => exact absurd rfl h
  | cons p r => simp only [Ref.onto, weightL, List.length_append]; omega
theorem weight_split (c : UInt8) : ∀ l : List UInt8, weightL (Ref.splitL c l) = l.length + 1
  | [] => rfl
  | b :: r => by
    have ih := weight_split c r
    by_cases h : b = c
    · subst h; rw [Ref.split_is, weightL, ih, List.length_cons, List.length_nil]; omega
    · rw [Ref.split_not c b r h, weight_onto _ _ (Ref.split_ne c r), ih, List.length_cons]; simp; omega
theorem path_len (l p : List UInt8) (h : pathL l = some p) : p.length ≤ 3 * l.length + 2 := by
  cases l with
  | nil => rw [pathL] at h; cases h; simp
  | cons b r =>
    rw [pathL] at h
    obtain ⟨cs, hcs, rfl⟩ := Option.map_eq_some_iff.1 h
    have h1 := weight_join 47 (dotsL cs)
    have h2 := weight_dots cs
    have h3 := weight_forms _ _ hcs
    have h4 := weight_split 47 r
    rw [List.length_cons, List.length_cons]; omega
theorem ahead_len (c : UInt8) (l : List UInt8) : (aheadL c l).length ≤ l.length := by
  unfold aheadL; exact (List.takeWhile_sublist _).length_le
theorem ahead_tail (c : UInt8) : ∀ l : List UInt8, (aheadL c l).length + ((Host.tailL c l).map (fun x => x.length + 1)).getD 0 = l.length
  | [] => rfl
  | b :: r => by
    have ih := ahead_tail c r
    by_cases h : b = c
    · have e1 : aheadL c (b :: r) = [] := by unfold aheadL; rw [List.takeWhile_cons, if_neg (by simp [h])]
      have e2 : Host.tailL c (b :: r) = some r := by unfold Host.tailL; rw [if_pos h]
      rw [e1, e2]; simp
    · have e1 : aheadL c (b :: r) = b :: aheadL c r := by unfold aheadL; rw [List.takeWhile_cons, if_pos (by simpa using h)]
      have e2 : Host.tailL c (b :: r) = Host.tailL c r := by conv => lhs; unfold Host.tailL; rw [if_neg h]
      rw [e1, e2, List.length_cons, List.length_cons]; omega
theorem opt_len (o : Option (List UInt8)) (c : List UInt8) (h : optL o = some c) : c.length + (if o.isSome = true then 1 else 0) ≤ 3 * (o.map (fun x => x.length + 1)).getD 0 := by
  cases o with
  | none => rw [optL] at h; cases h; simp
  | some l =>
    rw [optL] at h
    have := form_len 2 l c h
    simp only [Option.isSome_some, if_true, Option.map_some, Option.getD_some]; omega
theorem dig_len : ∀ n : Nat, n ≤ 65535 → (digL n).length ≤ 5 := by
  have step : ∀ n, ¬ n < 10 → (digL n).length = (digL (n / 10)).length + 1 := fun n h => by rw [dig_big n h, List.length_append]; rfl
  have small : ∀ n, n < 10 → (digL n).length = 1 := fun n h => by rw [dig_small n h]; rfl
  intro n h
  by_cases h1 : n < 10
  · rw [small n h1]; omega
  · rw [step n h1]
    by_cases h2 : n / 10 < 10
    · rw [small _ h2]; omega
    · rw [step _ h2]
      by_cases h3 : n / 10 / 10 < 10
      · rw [small _ h3]; omega
      · rw [step _ h3]
        by_cases h4 : n / 10 / 10 / 10 < 10
        · rw [small _ h4]; omega
        · rw [step _ h4, small _ (by omega)]; omega
theorem sep_len : ∀ (t s r : List UInt8), sepL t = some (s, r) → r.length ≤ t.length
  | [], s, r, h => by cases h
  | b :: t, s, r, h => by
    unfold sepL at h
    split at h
    · cases h; simp; omega
    · obtain ⟨x, hx, he⟩ := Option.map_eq_some_iff.1 h
      cases he
      have := sep_len t x.1 x.2 hx
      rw [List.length_cons]; omega
theorem text_len (t : List UInt8) (u : U) (h : parseU t = .inr u) : (textU u).length ≤ 3 * t.length + 18 := by
  have hok := parse_ok t u h
  unfold parseU at h
  split at h
  · cases h
  · split at h
    · cases h
    · rename_i s r hsep
      split at h
      · have hr := sep_len t s r hsep
        unfold restU at h
        simp only at h
        split at h
        · cases h
        · split at h
          · rename_i n p q f hn hp hq hf
            cases h
            have hs : (Ref.lowL s).length ≤ 5 := by
              rcases hok.scheme with e | e <;> (have e' : Ref.lowL s = _ := e; rw [e']; decide)
            have h1 := ahead_tail 35 r
            have h2 := ahead_tail 63 (aheadL 35 r)
            have h3 := ahead_len 47 (aheadL 63 (aheadL 35 r))
            have h4 := ahead_len 58 (aheadL 47 (aheadL 63 (aheadL 35 r)))
            have h5 := path_len _ p hp
            have h6 := opt_len _ q hq
            have h7 := opt_len _ f hf
            have h8 := dig_len n hok.port2
            rw [List.length_drop] at h5
            have hpo : (portT ⟨Ref.lowL s, Ref.lowL (aheadL 58 (aheadL 47 (aheadL 63 (aheadL 35 r)))), n, p, q, f, (Host.tailL 63 (aheadL 35 r)).isSome, (Host.tailL 35 r).isSome⟩).length ≤ 6 := by
              unfold portT
              split
              · simp
              · rw [List.length_cons]; exact Nat.succ_le_succ h8
            have hqo : ∀ (o : Option (List UInt8)), (if o.isSome = true then 63 :: q else ([] : List UInt8)).length ≤ q.length + (if o.isSome = true then 1 else 0) := fun o => by cases o <;> simp
            have hfo : ∀ (o : Option (List UInt8)), (if o.isSome = true then 35 :: f else ([] : List UInt8)).length ≤ f.length + (if o.isSome = true then 1 else 0) := fun o => by cases o <;> simp
            have hq1 := hqo (Host.tailL 63 (aheadL 35 r))
            have hf1 := hfo (Host.tailL 35 r)
            have hl := Ref.lowL_length (aheadL 58 (aheadL 47 (aheadL 63 (aheadL 35 r))))
            unfold textU queryT fragT
            simp only [List.length_append, List.length_cons, List.length_nil]
            rw [hl]
            omega
          · cases h
      · cases h

end Go.Proofs.YtkjkfgmoogbdiaaGreatDoor.Url

namespace Go.Proofs.YtkjkfgmoogbdiaaGreatDoor
open Go.RowKit Go.Shelf

theorem SetIs.below {α : Type} [LT α] {enc : α → Value} {w w' : World} {v : Value} {xs : List α} (h : SetIs enc w v xs) (hb : Below w.heap.size w w') : SetIs enc w' v xs := by
  obtain ⟨q, n, c, rfl, h1, h2, h3, h4⟩ := h
  exact ⟨q, n, c, rfl, h1, h2, h3.below hb h3.lt, h4⟩
theorem below_alloc {w : World} (o : Obj) : Below w.heap.size w (w.alloc o) := (Below.refl _ w).alloc (Nat.le_refl _) o

end Go.Proofs.YtkjkfgmoogbdiaaGreatDoor

namespace Go.Proofs.YtkjkfgmoogbdiaaGreatDoor.Pct
open Go.RowKit Go.Shelf

theorem bytes_lt {w : World} {q : Option Addr} {n : Nat} {xs : List Int} (h : Lib.BytesIn w q n xs) : ∀ a, q = some a → 0 < n → a.block < w.heap.size := fun a ha h0 => by
  obtain ⟨b, o, rfl, hc⟩ := h.at h0
  cases ha
  exact World.block_lt_of_cell? w _ (hc 0 h0)
end Go.Proofs.YtkjkfgmoogbdiaaGreatDoor.Pct

namespace Go.Proofs.YtkjkfgmoogbdiaaGreatDoor.Arn
open Go.RowKit Go.Shelf
theorem wide_fn (f : FuncId) : Fence.wide.fn f = True := rfl
attribute [local go_sem] Oper.semAt_some wide_fn
set_option linter.unusedVariables false

theorem uponIn_yield {P : Program} {o : Oper} {a : Act} {K : Act → World → Prop} {Q : Exit → Act → World → Prop} {l : Nat} {args : Array Value} {W : World} {R : Ending → World → Prop} (h : YieldAt Fence.wide 0 P l args W R)
    (hk : ∀ v w, R (.returned v) w → K (a.put o.dst v) w) (hp : ∀ c w, ¬ R (.panicked c) w) (ho : ∀ w, ¬ R .outgrown w) : Oper.uponIn Fence.wide 1 P o a K Q ((Instr.yield l args).run P W) := by
  obtain ⟨fn, tmps, assign, body, hy, hR⟩ := h
  rw [hy]
  simp only [Oper.uponIn]
  refine ⟨fun _ => Nat.le_refl _, RoundIn.mono hR fun e w' hr => ?_⟩
  cases e with
  | returned v => exact hk v w' hr
  | panicked c => exact (hp c w' hr).elim
  | outgrown => exact (ho w' hr).elim

end Go.Proofs.YtkjkfgmoogbdiaaGreatDoor.Arn

namespace Go.Proofs.YtkjkfgmoogbdiaaGreatDoor
open Go.RowKit Go.Shelf
attribute [local go_sem] Oper.semAt_some

theorem row_base {W : World} {base base' : Nat} {e : TypeId} {size : Nat} {v : Value} {n : Nat} {xs : List Value} (h : W.ownsRow base e size v n xs) (hb : base' ≤ base) : W.ownsRow base' e size v n xs := by
  refine ⟨h.1, ?_⟩
  rcases h.2 with hn | ⟨g, cap, cur, rfl, hbg, rest⟩
  · exact .inl hn
  · exact .inr ⟨g, cap, cur, rfl, by omega, rest⟩
/-- An owned row of bytes, opened. -/
theorem row_open {W : World} {base n : Nat} {v : Value} {l : List UInt8} (h : W.ownsRow base 5 1 v n ((Lib.numsL l).map (Value.int .u8))) :
    ∃ q c, v = .slice q n c ∧ l.length = n ∧ n ≤ c ∧ c ≤ maxLen ∧ Lib.BytesIn W q n (Lib.numsL l) ∧ (∀ a, q = some a → a.block < W.heap.size ∧ base ≤ a.block ∧ v.ownBlock = some a.block) := by
  have hl : l.length = n := by have := h.1; simpa [Lib.numsL] using this
  rcases h.2 with ⟨rfl, rfl⟩ | ⟨g, cap, cur, rfl, hb, hg, h1, h2, h3, h4⟩
  · exact ⟨none, 0, rfl, hl, Nat.le_refl _, Nat.zero_le _, Lib.BytesIn.nil _ _ _, by intro a ha; cases ha⟩
  · refine ⟨some ⟨g, 0, none⟩, cap, rfl, hl, h1, h2, fun h0 => ⟨g, 0, rfl, fun i hi => ?_⟩, fun a ha => by cases ha; exact ⟨(Array.getElem?_eq_some_iff.1 hg).1, hb, rfl⟩⟩
    have hcur : cur[i]? = some (.int .u8 ((Lib.numsL l).getD i 0)) := by
      have : (cur.toList.take (n * 1))[i]? = some (.int .u8 ((Lib.numsL l).getD i 0)) := by
        rw [h4]
        have hi' : i < (Lib.numsL l).length := by rw [Lib.numsL_length]; omega
        simp [List.getElem?_map, List.getElem?_eq_getElem hi', List.getD]
      rw [List.getElem?_take, if_pos (by omega)] at this
      simpa using this
    simp only [World.cell?, hg, Nat.zero_add]
    exact hcur

/-- What a round leaves that was handed a row of its own. -/
def RowPost {β : Type} (J Jx : List β → (Nat → Prop) → World → Prop) (pre : List β) (RB Q : Nat → Prop) (W2 : World) (ok : Bool) (W' : World) : Prop :=
  Keep (fun b => RB b ∨ Q b) W2 W' ∧ ∃ Q' : Nat → Prop, (∀ b, Q b → Q' b) ∧ (∀ b, Q' b → b < W'.heap.size) ∧ ((ok = true ∧ J pre Q' W') ∨ (ok = false ∧ Jx pre Q' W'))

theorem yield_arg {P : Program} {l' : Nat} {β : Type} {Arg : β → Array Value → (Nat → Prop) → World → Prop} {J Jx : List β → (Nat → Prop) → World → Prop} {ys : List β} {RB : Nat → Prop} (hJ : Abide J) (hY : Rounds P l' Arg ys RB J Jx)
    {pre : List β} {y : β} {rest : List β} (hys : ys = pre ++ y :: rest) {Q : Nat → Prop} {W2 w4 : World} {v4 : Value} {args : Array Value} (hj : J pre Q W2) (hQ : ∀ b, Q b → b < W2.heap.size)
    (hb : Below W2.heap.size W2 w4) (hG : ∀ b, v4.ownBlock = some b → W2.heap.size ≤ b ∧ b < w4.heap.size) (hA : Arg y args (fun b => v4.ownBlock = some b) w4) :
    YieldAt Fence.wide 0 P l' args w4 fun e W' => ∃ ok : Bool, e = .returned (.bool ok) ∧ RowPost J Jx (pre ++ [y]) RB Q W2 ok W' := by
  have hs := hb.size
  refine (hY pre y rest (fun b => Q b ∨ (W2.heap.size ≤ b ∧ b < w4.heap.size)) (fun b => v4.ownBlock = some b) args w4 hys ?_ ?_ hA (fun b h => .inr (hG b h))).mono ?_
  · exact hJ _ _ _ _ _ hj ((Keep.of_below hb).mono fun b h _ => h) fun b h => ⟨h.imp id And.left, h.elim (fun h => Nat.lt_of_lt_of_le (hQ b h) hs) And.right⟩
  · exact fun b h => h.elim (fun h => Nat.lt_of_lt_of_le (hQ b h) hs) And.right
  · rintro e W' ⟨hk, h⟩
    have hkk : Keep (fun b => RB b ∨ Q b) W2 W' := ((Keep.of_below hb).mono fun b h _ => h).trans (hk.mono fun b hlt h => h.imp id fun h => ⟨.inl h, fun hg => by have := hG b hg; have := hQ b h; omega⟩)
    have hq1 : ∀ b, Q b → (Q b ∨ (W2.heap.size ≤ b ∧ b < w4.heap.size)) ∧ ¬ v4.ownBlock = some b := fun b h => ⟨.inl h, fun hg => by have := hG b hg; have := hQ b h; omega⟩
    have hq2 : ∀ b, ((Q b ∨ (W2.heap.size ≤ b ∧ b < w4.heap.size)) ∧ ¬ v4.ownBlock = some b) → b < W'.heap.size := fun b h => Nat.lt_of_lt_of_le (h.1.elim (fun h => Nat.lt_of_lt_of_le (hQ b h) hs) And.right) hk.size
    rcases h with ⟨rfl, h⟩ | ⟨rfl, h⟩
    · exact ⟨true, rfl, hkk, _, hq1, hq2, .inl ⟨rfl, h⟩⟩
    · exact ⟨false, rfl, hkk, _, hq1, hq2, .inr ⟨rfl, h⟩⟩

theorem bytes_take {w : World} {q : Option Addr} {n k : Nat} {l : List UInt8} (h : Lib.BytesIn w q n (Lib.numsL l)) (hl : l.length = n) (hk : k ≤ n) : Lib.BytesIn w q k (Lib.numsL (l.take k)) := fun h0 => by
  obtain ⟨b, o, rfl, hc⟩ := h.at (by omega)
  refine ⟨b, o, rfl, fun i hi => ?_⟩
  rw [hc i (by omega), numsL_getD _ _ (by omega), numsL_getD _ _ (by simp; omega)]
  simp [List.getD, hi]
theorem bytes_keep {S : Nat → Prop} {w w' : World} {q : Option Addr} {n : Nat} {xs : List Int} (h : Lib.BytesIn w q n xs) (hk : Keep S w w') (hq : ∀ a, q = some a → 0 < n → S a.block) : Lib.BytesIn w' q n xs := fun h0 => by
  obtain ⟨b, o, rfl, hc⟩ := h.at h0
  exact ⟨b, o, rfl, fun i hi => (World.cell?_of_block (hk.block b (World.block_lt_of_cell? w _ (hc i hi)) (hq _ rfl h0))).trans (hc i hi)⟩
theorem bytes_lt {w : World} {q : Option Addr} {n : Nat} {xs : List Int} (h : Lib.BytesIn w q n xs) : ∀ a, q = some a → 0 < n → a.block < w.heap.size := fun a ha h0 => by
  obtain ⟨b, o, rfl, hc⟩ := h.at h0
  cases ha
  exact World.block_lt_of_cell? w _ (hc 0 h0)
end Go.Proofs.YtkjkfgmoogbdiaaGreatDoor

namespace Go.Proofs.YtkjkfgmoogbdiaaGreatDoor.Org
open Url
set_option linter.unusedVariables false

/-- A URL's text up to its path. -/
def placeU (u : U) : List UInt8 := u.scheme ++ [58, 47, 47] ++ u.host ++ portT u
/-- The word ahead of a closed one's number. -/
def closedS : List UInt8 := [99, 108, 111, 115, 101, 100, 58]
/-- Its text. -/
def textO : Sum Nat U → List UInt8
  | .inl n => closedS ++ digL n
  | .inr u => placeU u

end Go.Proofs.YtkjkfgmoogbdiaaGreatDoor.Org

namespace Go.Proofs.YtkjkfgmoogbdiaaGreatDoor
open Go.RowKit Go.Shelf
attribute [local go_sem] Oper.semAt_some

theorem spansGo_from (p : UInt8 → Bool) : ∀ (l : List UInt8) (i f : Nat), f ≤ i → ∀ x ∈ spansGo p l i f, f ≤ x.1 ∧ x.1 ≤ x.2 ∧ x.2 ≤ i + l.length
  | [], i, f, h, x, hx => by
    simp [spansGo] at hx; subst hx; simp; exact h
  | b :: r, i, f, h, x, hx => by
    unfold spansGo at hx
    split at hx
    · rcases List.mem_cons.1 hx with rfl | hx
      · simp; omega
      · have := spansGo_from p r (i + 1) (i + 1) (Nat.le_refl _) x hx
        simp only [List.length_cons]; omega
    · have := spansGo_from p r (i + 1) f (by omega) x hx
      simp only [List.length_cons]; omega
theorem spansL_bounds (p : UInt8 → Bool) (l : List UInt8) (x : Nat × Nat) (h : x ∈ spansL p l) : x.1 ≤ x.2 ∧ x.2 ≤ l.length := by
  have := spansGo_from p l 0 0 (Nat.le_refl _) x h
  omega

end Go.Proofs.YtkjkfgmoogbdiaaGreatDoor

namespace Go.Proofs.YtkjkfgmoogbdiaaGreatDoor.Org
open Url
set_option linter.unusedVariables false

/-- "/", "?" or "#". -/
def stopB (b : UInt8) : Bool := b == 47 || b == 63 || b == 35
/-- What stands ahead of the first of them. -/
def stopL (r : List UInt8) : List UInt8 := r.takeWhile fun b => !stopB b
theorem stop_ahead : ∀ r : List UInt8, aheadL 47 (aheadL 63 (aheadL 35 r)) = stopL r
  | [] => rfl
  | b :: r => by
    have ih := stop_ahead r
    unfold aheadL stopL stopB at *
    by_cases h1 : b = 35
    · subst h1; rfl
    · rw [List.takeWhile_cons, if_pos (by simpa using h1)]
      by_cases h2 : b = 63
      · subst h2; rfl
      · rw [List.takeWhile_cons, if_pos (by simpa using h2)]
        by_cases h3 : b = 47
        · subst h3; rfl
        · rw [List.takeWhile_cons, if_pos (by simpa using h3), ih, List.takeWhile_cons, if_pos (by simp [h1, h2, h3])]
theorem stop_mem : ∀ (r : List UInt8), ∀ b ∈ stopL r, stopB b = false
  | [], b, h => by cases h
  | x :: r, b, h => by
    unfold stopL at h
    rw [List.takeWhile_cons] at h
    split at h
    · rename_i hx
      rcases List.mem_cons.1 h with rfl | h
      · simpa using hx
      · exact stop_mem r b h
    · cases h
theorem stop_at : ∀ (r : List UInt8), (stopL r).length ≤ r.length ∧ (∀ j, j < (stopL r).length → r.getD j 0 ∈ stopL r) ∧ ((stopL r).length = r.length ∨ ((stopL r).length < r.length ∧ stopB (r.getD (stopL r).length 0) = true))
  | [] => ⟨Nat.le_refl _, fun j h => absurd h (Nat.not_lt_zero _), .inl rfl⟩
  | x :: r => by
    obtain ⟨h1, h2, h3⟩ := stop_at r
    cases hx : stopB x with
    | true =>
      have e : stopL (x :: r) = [] := by unfold stopL; rw [List.takeWhile_cons, if_neg (by rw [hx]; simp)]
      rw [e]
      exact ⟨Nat.zero_le _, fun j h => absurd h (Nat.not_lt_zero _), .inr ⟨by simp, by simpa using hx⟩⟩
    | false =>
      have e : stopL (x :: r) = x :: stopL r := by unfold stopL; rw [List.takeWhile_cons, if_pos (by rw [hx]; rfl)]
      rw [e]
      refine ⟨by simp only [List.length_cons]; omega, fun j hj => ?_, ?_⟩
      · cases j with
        | zero => simp
        | succ j =>
          rw [List.getD_cons_succ]
          exact List.mem_cons_of_mem _ (h2 j (by simp only [List.length_cons] at hj; omega))
      · rw [List.length_cons, List.length_cons, List.getD_cons_succ]
        rcases h3 with h3 | ⟨h3, h4⟩
        · exact .inl (by omega)
        · exact .inr ⟨by omega, h4⟩
theorem host_small : ∀ b : UInt8, Host.hostByte b = true → b.toNat < 128 := fun b => Ref.all_u8 (p := fun b => Host.hostByte b = true → b.toNat < 128) (by decide +kernel) b
/-- What stands behind "://" of a URL, up to the first of these, is of ASCII. -/
theorem rest_small (s r : List UInt8) (u : U) (h : restU s r = .inr u) : ∀ b ∈ stopL r, b.toNat < 128 := by
  intro b hb
  rw [← stop_ahead] at hb
  unfold restU at h
  simp only at h
  split at h
  · cases h
  · rename_i hh
    have hh : Host.parseE (aheadL 58 (aheadL 47 (aheadL 63 (aheadL 35 r)))) = 0 := Decidable.not_not.1 hh
    split at h
    · rename_i n p q f hn hp hq hf
      clear h hp hq hf
      generalize aheadL 47 (aheadL 63 (aheadL 35 r)) = a at *
      have hhost : ∀ x ∈ aheadL 58 a, x.toNat < 128 := fun x hx => by
        rcases host_bytes _ hh x hx with h | h
        · exact host_small x h
        · rw [h]; decide
      by_cases h58 : (58 : UInt8) ∈ a
      · obtain ⟨x, y, rfl, hx⟩ := List.eq_append_cons_of_mem h58
        obtain ⟨e1, e2⟩ := ahead_yes 58 x y hx
        rw [e1] at hhost
        rw [e2, portL] at hn
        obtain ⟨m, hm, _⟩ := Option.bind_eq_some_iff.1 hn
        unfold Ref.numOf at hm
        split at hm
        · cases hm
        · have hd := (Host.num_go 65535 _ _ _ hm).1
          rw [List.all_eq_true] at hd
          rcases List.mem_append.1 hb with hb | hb
          · exact hhost b hb
          · rcases List.mem_cons.1 hb with rfl | hb
            · decide
            · have := (Ref.decB_of b).1 (hd b hb); omega
      · rw [(ahead_no 58 a h58).1] at hhost
        exact hhost b hb
    · cases h
/-- Where a URL's server is. -/
theorem parse_sep (t : List UInt8) (u : U) (h : parseU t = .inr u) : ∃ s r, sepL t = some (s, r) ∧ ∀ b ∈ stopL r, b.toNat < 128 := by
  unfold parseU at h
  split at h
  · cases h
  · split at h
    · cases h
    · rename_i s r hsep
      split at h
      · exact ⟨s, r, hsep, rest_small _ r u h⟩
      · cases h

/-- Does something stand behind the server? -/
def moreB (t : List UInt8) : Bool := match sepL t with
  | some x => decide ((stopL x.2).length < x.2.length)
  | none => false
/-- What the text of a closed one's number says, up to most. -/
def closedQ (most : Nat) (l : List UInt8) : Sum Int (Sum Nat U) := match Ref.numOf most l with
  | some n => if 1 ≤ n then .inr (.inl n.toNat) else .inl 2
  | none => .inl 2
/-- What an origin's text is, up to the number most. -/
def parseQ (most : Nat) (t : List UInt8) : Sum Int (Sum Nat U) :=
  if closedS.isPrefixOf t = true then closedQ most (t.drop 7)
  else match parseU t with
  | .inl e => .inl e
  | .inr u => if moreB t = true then .inl 2 else .inr (.inr u)

theorem closedQ_in (most : Nat) (l : List UInt8) (x : Sum Nat U) (h : closedQ most l = .inr x) : ∃ n : Nat, x = .inl n ∧ 1 ≤ n ∧ n ≤ most := by
  unfold closedQ at h
  split at h
  · rename_i n hn
    split at h
    · cases h
      refine ⟨_, rfl, by omega, ?_⟩
      unfold Ref.numOf at hn
      split at hn
      · cases hn
      · have := (Host.num_go most _ _ _ hn).2.1 (by omega); omega
    · cases h
  · cases h
/-- What is parsed is a closed one up to the number, or a URL's server. -/
theorem Q_in (most : Nat) (t : List UInt8) (x : Sum Nat U) (h : parseQ most t = .inr x) : (∃ n : Nat, x = .inl n ∧ 1 ≤ n ∧ n ≤ most) ∨ ∃ u, x = .inr u ∧ parseU t = .inr u := by
  unfold parseQ at h
  split at h
  · exact .inl (closedQ_in most _ x h)
  · split at h
    · cases h
    · rename_i u hu
      split at h
      · cases h
      · cases h; exact .inr ⟨u, rfl, hu⟩
end Go.Proofs.YtkjkfgmoogbdiaaGreatDoor.Org

namespace Go.Proofs.YtkjkfgmoogbdiaaGreatDoor
open Go.RowKit Go.Shelf Go.Sort

theorem keep_putRow {α : Type} [Inhabited α] (S : Nat → Prop) (enc : α → Value) (w : World) (blk off : Nat) (d : Array α) (h : ¬ S blk) : Keep S w (putRow enc w blk off d) :=
  ⟨rfl, rfl, rfl, by simp, fun k hk hs => by
    have : blk ≠ k := fun e => h (e ▸ hs)
    simp [putRow, mapBlock, Array.getElem?_modify, this]⟩
theorem keep_grow (S : Nat → Prop) (w : World) (os : Array Obj) : Keep S w (Sort.grow w os) :=
  ⟨rfl, rfl, rfl, by simp [Sort.grow], fun k hk _ => by simp [Sort.grow, Array.getElem?_append, hk]⟩
theorem keep_ahead (S : Nat → Prop) (w : World) (n : Nat) : Keep S w (Sort.ahead w n) := ⟨rfl, rfl, rfl, Nat.le_refl _, fun _ _ _ => rfl⟩
theorem holds_keep {α : Type} [Inhabited α] {enc : α → Value} {S : Nat → Prop} {w w' : World} {blk off : Nat} {d : Array α} (h : Holds enc w blk off d) (hk : Keep S w w') (hS : S blk) (hb : blk < w.heap.size) : Holds enc w' blk off d :=
  fun j hj => ⟨(World.cell?_of_block (hk.block blk hb hS)).trans (h j hj).1, (World.frozen?_of_block (hk.block blk hb hS)).trans (h j hj).2⟩

end Go.Proofs.YtkjkfgmoogbdiaaGreatDoor
