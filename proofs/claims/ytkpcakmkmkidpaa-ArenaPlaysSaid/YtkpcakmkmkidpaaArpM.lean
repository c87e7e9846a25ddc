/- ArenaPlays: what lies in memory between two acts; pieces of the law's code. Conditions: none. -/
import Derived.Test.YtkpcakmkmkidpaaArnG
import Derived.Test.YtkpcakmkmkidpaaArnJ
import Derived.Test.YtkpcakmkmkidpaaArnK
import Derived.Test.YtkpcakmkmkidpaaArnL
import Derived.Test.YtkpcakmkmkidpaaArnN
import Derived.Test.YtkpcakmkmkidpaaOrdP
import Derived.WalkKit
import Derived.Deep.Cut
namespace Go.Proofs.Ytkpcakmkmkidpaa.arenaPlays
open Go.RowKit Arn Go.Shelf
set_option linter.unusedVariables false
attribute [local go_sem] Oper.semAt_some wide_fn

/-- What lies in memory between two acts. -/
structure Mem (w : World) (b1 b2 size : Nat) (g : Value) (sl : List (Sl Int)) (L : List (Th Int)) (v vR : Value) (gs : List Int) (W : World) : Prop where
  a : At w.heap.size b1 size v sl W
  r : RAt w.heap.size b2 size vR L W
  row : W.ownsRow w.heap.size 3 1 g gs.length (gs.map (Value.int .i64))
  bel : Below w.heap.size w W
section
variable {w : World} {b1 b2 size : Nat} {g : Value} {sl sl' : List (Sl Int)} {L L' : List (Th Int)} {v v' vR vR' : Value} {gs : List Int} {W W' : World}
theorem Mem.on (h : Mem w b1 b2 size g sl L v vR gs W) (hb : Below W.heap.size W W') : Mem w b1 b2 size g sl L v vR gs W' :=
  ⟨h.a.on hb, h.r.on hb, (Keep.of_below hb).row h.row fun b hb => (h.row.lt b hb).2, h.bel.trans (hb.mono h.bel.size)⟩
theorem Mem.ne (h : Mem w b1 b2 size g sl L v vR gs W) :
    b1 ≠ b2 ∧ v.ownBlock ≠ some b2 ∧ vR.ownBlock ≠ some b1 ∧ (∀ k, vR.ownBlock = some k → v.ownBlock ≠ some k) ∧ (∀ k, g.ownBlock = some k → k ≠ b1 ∧ k ≠ b2 ∧ v.ownBlock ≠ some k ∧ vR.ownBlock ≠ some k) :=
  ⟨BL.ne h.a.bl h.r.bl (by decide), h.r.bl.ne_row (by decide) h.a.row, h.a.bl.ne_row (by decide) h.r.row, fun k hk => rows_ne h.r.row h.a.row (by decide) k hk,
   fun k hk => ⟨fun e => h.a.bl.ne_row (by decide) h.row (e ▸ hk), fun e => h.r.bl.ne_row (by decide) h.row (e ▸ hk), rows_ne h.row h.a.row (by decide) k hk, rows_ne h.row h.r.row (by decide) k hk⟩⟩
/-- The arena alone was written. -/
theorem Mem.arena (h : Mem w b1 b2 size g sl L v vR gs W) (ha : At w.heap.size b1 size v' sl' W') (hw : Wrote b1 v v' W W') : Mem w b1 b2 size g sl' L v' vR gs W' := by
  obtain ⟨n1, n2, n3, n4, n5⟩ := h.ne
  exact ⟨ha, h.r.keep hw.1 ⟨fun e => n1 e.symm, n2⟩ fun k hk => ⟨fun e => n3 (e ▸ hk), n4 k hk⟩, hw.1.row h.row fun k hk => ⟨(n5 k hk).1, (n5 k hk).2.2.1⟩, h.bel.trans ((hw.1.mono fun j _ hj => ⟨by have := h.a.lo; omega, fun e => by have := (h.a.row.lt _ e).1; omega⟩).below h.bel.size)⟩
/-- The document's list alone was written. -/
theorem Mem.list (h : Mem w b1 b2 size g sl L v vR gs W) (hr : RAt w.heap.size b2 size vR' L' W') (hw : Wrote b2 vR vR' W W') : Mem w b1 b2 size g sl L' v vR' gs W' := by
  obtain ⟨n1, n2, n3, n4, n5⟩ := h.ne
  exact ⟨h.a.keep hw.1 ⟨n1, n3⟩ fun k hk => ⟨fun e => n2 (e ▸ hk), fun e => n4 k e hk⟩, hr, hw.1.row h.row fun k hk => ⟨(n5 k hk).2.1, (n5 k hk).2.2.2⟩, h.bel.trans ((hw.1.mono fun j _ hj => ⟨by have := h.r.lo; omega, fun e => by have := (h.r.row.lt _ e).1; omega⟩).below h.bel.size)⟩
/-- One more handle was kept. -/
theorem Mem.given {A : World} {g' : Value} {y : Int} (h : Mem w b1 b2 size g sl L v vR gs W) (hA : Below W.heap.size W A) (hg : A.grownBy W' g.ownBlock) (ho : W'.ownsRow w.heap.size 3 1 g' (gs.length + 1) (gs.map (Value.int .i64) ++ [.int .i64 y])) : Mem w b1 b2 size g' sl L v vR (gs ++ [y]) W' := by
  have h' := h.on hA
  obtain ⟨n1, n2, n3, n4, n5⟩ := h'.ne
  have k := Keep.of_grownBy (S := fun k => g.ownBlock ≠ some k) hg (fun r hr => fun h => h hr)
  refine ⟨h'.a.keep k (fun e => (n5 _ e).1 rfl) (fun j hj e => (n5 _ e).2.2.1 hj), h'.r.keep k (fun e => (n5 _ e).2.1 rfl) (fun j hj e => (n5 _ e).2.2.2 hj), by rw [List.length_append, List.map_append]; exact ho, h'.bel.trans ((k.mono fun j _ hj e => by have := (h'.row.lt _ e).1; omega).below h'.bel.size)⟩
end
/-- Between two acts. -/
structure St (w : World) (b1 b2 size m : Nat) (g : Value) (sl : List (Sl Int)) (L : List (Th Int)) (v vR : Value) (gs : List Int) (W : World) : Prop extends Mem w b1 b2 size g sl L v vR gs W where
  both : Both size m sl L
  hs : ∀ x ∈ gs, i64B x
  few : gs.length ≤ m
theorem St.on {w : World} {b1 b2 size m : Nat} {g : Value} {sl : List (Sl Int)} {L : List (Th Int)} {v vR : Value} {gs : List Int} {W W' : World} (h : St w b1 b2 size m g sl L v vR gs W) (hb : Below W.heap.size W W') : St w b1 b2 size m g sl L v vR gs W' :=
  ⟨h.toMem.on hb, h.both, h.hs, h.few⟩
/-- One cell of the document's list is written. -/
theorem rat_set {base b size : Nat} {v : Value} {L : List (Th Int)} {w : World} (h : RAt base b size v L w) {a : Nat} {t t' : Th Int} (ha : L[a]? = some t) (j : Nat) (u : Value) (hj : thC t' = (thC t).set j u) (hj4 : j < 4) :
    ∃ g cap, v = .slice (some ⟨g, 0, none⟩) L.length cap ∧ w.frozen? ⟨g, a * 4 + j, none⟩ = false ∧ RAt base b size v (L.set a t') (w.setCell ⟨g, a * 4 + j, none⟩ u) ∧ Wrote b v v w (w.setCell ⟨g, a * 4 + j, none⟩ u) := by
  have hlt := (List.getElem?_eq_some_iff.1 ha).1
  rcases h.row.2 with ⟨_, h0⟩ | ⟨g, cap, cur, rfl, _⟩
  · omega
  have hbg : b ≠ g := fun e => (BL.ne_row h.bl (by decide) h.row) (by rw [e]; rfl)
  have h1 := h.row.stored (a * 4 + j) u
  have e : (thsC L).set (a * 4 + j) u = thsC (L.set a t') := by
    have key : ∀ (l : List (Th Int)) (i : Nat), l[i]? = some t → (thsC l).set (i * 4 + j) u = thsC (l.set i t') := by
      intro l
      induction l with
      | nil => intro i hi; simp at hi
      | cons y r ih =>
        intro i hi
        have e1 : (thC y).length = 4 := rfl
        cases i with
        | zero =>
          obtain rfl : y = t := by simpa using hi
          rw [List.set_cons_zero, thsC, thsC, hj, Nat.zero_mul, Nat.zero_add, List.set_append_left _ _ (by rw [e1]; omega)]
        | succ i =>
          rw [List.set_cons_succ, thsC, thsC, List.set_append_right _ _ (by rw [e1]; omega), e1, show (i + 1) * 4 + j - 4 = i * 4 + j by omega, ih i (by simpa using hi)]
    exact key L a ha
  have hr := h1.1
  rw [e] at hr
  have hk : Keep (fun k => k ≠ g) w (w.setCell ⟨g, a * 4 + j, none⟩ u) := Keep.setCell w _ _ (by simp)
  refine ⟨g, cap, rfl, h.row.frozenAt _, ⟨h.bl.keep hk hbg, h.lo, by rw [List.length_set]; exact hr⟩, hk.mono fun k _ hk => fun e => hk.2 (by rw [e]; rfl), fun k hk => .inl hk⟩

def StX (w : World) (b1 b2 size k : Nat) (g : Value) (W : World) : Prop := ∃ (q : Option Addr) (m c : Nat) (sl : List (Sl Int)) (L : List (Th Int)) (v vR : Value) (gs : List Int), g = .slice q m c ∧ gs.length = m ∧ St w b1 b2 size k (.slice q m c) sl L v vR gs W

/-- The first piece of a code that is so. -/
def findC (p : Code → Bool) : Code → Option Code
  | .seq a b => if p (.seq a b) then some (.seq a b) else (match findC p a with | some c => some c | none => findC p b)
  | .block n c => if p (.block n c) then some (.block n c) else findC p c
  | .cond t a b => if p (.cond t a b) then some (.cond t a b) else (match findC p a with | some c => some c | none => findC p b)
  | .loop c => if p (.loop c) then some (.loop c) else findC p c
  | c => if p c then some c else none
def isBlock (n : Nat) : Code → Bool
  | .block m _ => m == n
  | _ => false
def isFrom (n : Nat) : Code → Bool
  | .seq (.region m _ _) _ => m == n
  | _ => false
noncomputable def switchC : Code := ((Try.f3.body.bind (findC (isBlock 2))).getD .skip)
noncomputable def tailC : Code := ((Try.f3.body.bind (findC (isFrom 43))).getD .skip)
end Go.Proofs.Ytkpcakmkmkidpaa.arenaPlays
