/- The laws over arenas: a []Act that came in, as a list; lives. Conditions: none. -/
import Derived.Test.YtkpcakmkmkidpaaArnF
import Derived.ChangeSlices
import Derived.ChangeSame
import Derived.OpenShut
namespace Go.Proofs.Ytkpcakmkmkidpaa.Arn
open Go.RowKit Go.Shelf Go.ChangeShapes Go.WideShapes
attribute [local go_sem] Oper.semAt_some wide_fn
set_option linter.unusedVariables false

structure Ax where
  kind : Int
  x : Int
  h : Int
  old : Int
def i64B (n : Int) : Prop := -9223372036854775808 ≤ n ∧ n ≤ 9223372036854775807
/-- The slice at a reads as these acts. -/
def ActsIn (w : World) (a : Option Addr) (n : Nat) (l : List Ax) : Prop := l.length = n ∧ ∀ i x, l[i]? = some x → ∃ g o, a = some ⟨g, o, none⟩ ∧ g < w.heap.size ∧
  w.cell? ⟨g, o + i * 4, none⟩ = some (.int .i64 x.kind) ∧ w.cell? ⟨g, o + i * 4 + 1, none⟩ = some (.int .i64 x.x) ∧ w.cell? ⟨g, o + i * 4 + 2, none⟩ = some (.int .i64 x.h) ∧ w.cell? ⟨g, o + i * 4 + 3, none⟩ = some (.int .i64 x.old) ∧ i64B x.kind ∧ i64B x.x ∧ i64B x.h ∧ i64B x.old
theorem ActsIn.on {w w' : World} {a : Option Addr} {n : Nat} {l : List Ax} (h : ActsIn w a n l) (hb : Below w.heap.size w w') : ActsIn w' a n l := by
  refine ⟨h.1, fun i x hx => ?_⟩
  obtain ⟨g, o, rfl, hg, h0, h1, h2, h3, hr⟩ := h.2 i x hx
  have e : ∀ k, w'.cell? ⟨g, k, none⟩ = w.cell? ⟨g, k, none⟩ := fun k => World.cell?_of_block (a := ⟨g, k, none⟩) (hb.block g hg)
  exact ⟨g, o, rfl, Nat.lt_of_lt_of_le hg hb.size, (e _).trans h0, (e _).trans h1, (e _).trans h2, (e _).trans h3, hr⟩
theorem addr_plain {w : World} {x : Addr} {v : Value} (h : w.cell? x = some v) : ∃ b o, x = ⟨b, o, none⟩ ∧ b < w.heap.size := by
  obtain ⟨b, o, s⟩ := x
  cases s with
  | none => exact ⟨b, o, rfl, World.block_lt_of_cell? w _ h⟩
  | some s =>
    exfalso
    simp only [World.cell?] at h
    split at h
    · simp at h
    · cases h
theorem cells_four {w : World} {base : Nat} {a : Addr} {l : List Value} (h : w.cells? base a 4 = some l) : ∃ v0 v1 v2 v3, l = [v0, v1, v2, v3] ∧ w.cell? a = some v0 ∧ w.cell? (a.add 1) = some v1 ∧ w.cell? (a.add 2) = some v2 ∧ w.cell? (a.add 3) = some v3 := by
  unfold World.cells? at h
  split at h
  · rw [show List.range 4 = [0, 1, 2, 3] from rfl] at h
    simp only [List.mapM_cons, List.mapM_nil, Option.pure_def, Option.bind_eq_bind, Option.bind_eq_some_iff] at h
    obtain ⟨v0, h0, l1, ⟨v1, h1, l2, ⟨v2, h2, l3, ⟨v3, h3, l4, e4, e3⟩, e2⟩, e1⟩, e0⟩ := h
    cases e4; cases e3; cases e2; cases e1; cases e0
    refine ⟨v0, v1, v2, v3, rfl, ?_, h1, h2, h3⟩
    rw [← h0]; simp [Addr.add]
  · cases h
set_option maxRecDepth 100000 in
theorem open_act {H : Type} {enc : TypeId × Value → H} {w : World} {base : Nat} {spare : Nat → Bool} {held : Bool} {fuel : Nat} {p : Addr} {cs : List Value} {x : DataW H × List MemPlace} (hcs : w.cells? base p 4 = some cs) (h : DataW.trod enc Try.prog w base spare held fuel 47 cs = some x) :
    ∃ y : Ax, w.cell? p = some (.int .i64 y.kind) ∧ w.cell? (p.add 1) = some (.int .i64 y.x) ∧ w.cell? (p.add 2) = some (.int .i64 y.h) ∧ w.cell? (p.add 3) = some (.int .i64 y.old) ∧ i64B y.kind ∧ i64B y.x ∧ i64B y.h ∧ i64B y.old := by
  obtain ⟨v0, v1, v2, v3, rfl, h0, h1, h2, h3⟩ := cells_four hcs
  obtain ⟨xs, m, _, rfl, hl, hlen, hf⟩ := DataW.trod_struct Try.underlying47 h
  have e1 : Try.prog.cellsOf 3 = 1 := by kernel_rfl
  match xs, hlen with
  | [y0, y1, y2, y3], _ =>
    have g0 : DataW.trod enc Try.prog w base spare held m 3 [v0] = some y0 := by simpa [e1] using hf 0 _ rfl
    have g1 : DataW.trod enc Try.prog w base spare held m 3 [v1] = some y1 := by simpa [e1] using hf 1 _ rfl
    have g2 : DataW.trod enc Try.prog w base spare held m 3 [v2] = some y2 := by simpa [e1] using hf 2 _ rfl
    have g3 : DataW.trod enc Try.prog w base spare held m 3 [v3] = some y3 := by simpa [e1] using hf 3 _ rfl
    obtain ⟨k0, e0, _, w0⟩ := DataW.trod_int Try.underlying3 g0
    obtain ⟨k1, e1, _, w1⟩ := DataW.trod_int Try.underlying3 g1
    obtain ⟨k2, e2, _, w2⟩ := DataW.trod_int Try.underlying3 g2
    obtain ⟨k3, e3, _, w3⟩ := DataW.trod_int Try.underlying3 g3
    cases e0; cases e1; cases e2; cases e3
    exact ⟨⟨k0, k1, k2, k3⟩, h0, h1, h2, h3, bounds_i64 w0, bounds_i64 w1, bounds_i64 w2, bounds_i64 w3⟩
theorem list_of {α : Type} {P : Nat → α → Prop} : ∀ n : Nat, (∀ i, i < n → ∃ z, P i z) → ∃ zs : List α, zs.length = n ∧ ∀ i z, zs[i]? = some z → P i z
  | 0, _ => ⟨[], rfl, fun i z h => by simp at h⟩
  | n + 1, h => by
    obtain ⟨zs, hl, hz⟩ := list_of n fun i hi => h i (by omega)
    obtain ⟨z, hp⟩ := h n (by omega)
    refine ⟨zs ++ [z], by simp [hl], fun i y hy => ?_⟩
    rcases Nat.lt_or_ge i zs.length with hi | hi
    · rw [List.getElem?_append_left hi] at hy
      exact hz i y hy
    · rw [List.getElem?_append_right hi] at hy
      have h0 : i - zs.length = 0 := by
        have := (List.getElem?_eq_some_iff.1 hy).1
        simp at this
        omega
      rw [h0] at hy
      obtain rfl : z = y := by simpa using hy
      obtain rfl : i = n := by omega
      exact hp
set_option maxRecDepth 100000 in
theorem open_acts {H : Type} {enc : TypeId × Value → H} {w : World} {base : Nat} {spare : Nat → Bool} {held : Bool} {fuel : Nat} {a : Option Addr} {len cap : Nat} {x : DataW H × List MemPlace} (h : DataW.trod enc Try.prog w base spare held fuel 22 [.slice a len cap] = some x) :
    ∃ l : List Ax, ActsIn w a len l := by
  rcases DataW.trod_slice Try.underlying22 h with ⟨h0, _⟩ | ⟨a', len', cap', elems, rest, n, _, hcs, _, _, hl, hm, hlen, hel, _, _⟩
  · cases h0
    exact ⟨[], rfl, fun i x hx => by simp at hx⟩
  · cases hcs
    have key : ∀ i, i < len → ∃ y : Ax, w.cell? (a'.add (i * 4)) = some (.int .i64 y.kind) ∧ w.cell? ((a'.add (i * 4)).add 1) = some (.int .i64 y.x) ∧ w.cell? ((a'.add (i * 4)).add 2) = some (.int .i64 y.h) ∧ w.cell? ((a'.add (i * 4)).add 3) = some (.int .i64 y.old) ∧ i64B y.kind ∧ i64B y.x ∧ i64B y.h ∧ i64B y.old := fun i hi => by
      have h2 := hel i hi
      obtain ⟨y, hy⟩ : ∃ y, elems[i]? = some y := ⟨_, List.getElem?_eq_getElem (by omega)⟩
      rw [hy, Option.bind_eq_some_iff] at h2
      obtain ⟨cs, hcs, hty⟩ := h2
      rw [show Try.prog.cellsOf 47 = 4 by kernel_rfl] at hcs
      exact open_act hcs hty
    obtain ⟨l, hln, hP⟩ := list_of len key
    refine ⟨l, hln, fun i y hy => ?_⟩
    obtain ⟨y0, hy0⟩ : ∃ y0, l[0]? = some y0 := ⟨_, List.getElem?_eq_getElem (by have := (List.getElem?_eq_some_iff.1 hy).1; omega)⟩
    obtain ⟨b, o, hbo, hb⟩ := addr_plain (hP 0 y0 hy0).1
    have hz : a'.add (0 * 4) = a' := by cases a'; simp [Addr.add]
    rw [hz] at hbo
    subst hbo
    obtain ⟨h0, h1, h2, h3, hr⟩ := hP i y hy
    rw [Go.WideShapes.add_plain] at h0 h1 h2 h3
    rw [Go.WideShapes.add_plain] at h1 h2 h3
    exact ⟨b, o, rfl, hb, h0, h1, h2, h3, hr⟩

set_option maxRecDepth 100000 in
set_option maxHeartbeats 4000000 in
theorem lives_any (w : World) : Calls Try.prog 6 #[] w fun e w' => e = .returned (.bool true) ∧ Below w.heap.size w w' := by
  have con0 := New_good 1 w (by omega)
  have A0 := At.new w.heap.size 1 w (Nat.le_refl _) (by omega) (by omega)
  have hB0 := blk_alloc (w := w) (.cells #[.int .i64 1, .slice none 0 0] 64)
  obtain ⟨W0, hW0⟩ : ∃ W0, w.alloc (.cells #[.int .i64 1, .slice none 0 0] 64) = W0 := ⟨_, rfl⟩
  replace A0 : At w.heap.size w.heap.size 1 (.slice none 0 0) [] W0 := hW0 ▸ A0
  rw [hW0] at con0 hB0
  have con1 := Put_any _ _ _ _ _ 5 W0 A0 (fun s hs => by cases hs) hB0.size
  clear hW0
  go_enter Try.func6, Try.ntmps6
  go_wp2_with fail
  refine con0.mono ?_
  rintro e w' ⟨rfl, rfl⟩
  go_wp2_with fail
  refine con1.mono ?_
  rintro e W1 ⟨rfl, v1, A1, K1⟩
  replace A1 : At w.heap.size w.heap.size 1 v1 [⟨1, some 5⟩] W1 := A1
  have hB1 := hB0.trans ((K1.1.mono fun j _ hj => ⟨by omega, by simp [Value.ownBlock]⟩).below hB0.size)
  have con2 := Drop_any _ _ _ _ _ 1024 W1 A1 (fun s hs => by simp at hs; subst hs; decide) (by omega)
  clear con0 con1 A0
  have p1 : putHd 1 ([] : List (Sl Int)) = 1024 := by decide
  have p2 : putE 1 ([] : List (Sl Int)) = 0 := by decide
  rw [p1, p2]
  clear p1 p2
  go_wp2_with fail
  refine con2.mono ?_
  rintro e W2 ⟨rfl, v2, A2, K2⟩
  replace A2 : At w.heap.size w.heap.size 1 v2 [⟨1, none⟩] W2 := A2
  have hB2 := hB1.trans ((K2.1.mono fun j _ hj => ⟨by omega, fun e => by have := (A1.row.lt _ e).1; omega⟩).below hB1.size)
  have con3 := Put_any _ _ _ _ _ 6 W2 A2 (fun s hs => by simp at hs; subst hs; decide) hB2.size
  clear con2 A1 K1 K2
  have p3 : (findS [(⟨1, some 5⟩ : Sl Int)] 1024).isSome = true := by decide
  rw [p3]
  clear p3
  go_wp2_with fail
  refine con3.mono ?_
  rintro e W3 ⟨rfl, v3, A3, K3⟩
  replace A3 : At w.heap.size w.heap.size 1 v3 [⟨2, some 6⟩] W3 := A3
  have hB3 := hB2.trans ((K3.1.mono fun j _ hj => ⟨by omega, fun e => by have := (A2.row.lt _ e).1; omega⟩).below hB2.size)
  have con4 := Get_any _ _ _ _ _ 1024 W3 A3 (fun s hs => by simp at hs; subst hs; decide) (by omega)
  clear con3 A2 K3
  have p4 : putHd 1 [(⟨1, none⟩ : Sl Int)] = 2048 := by decide
  have p5 : putE 1 [(⟨1, none⟩ : Sl Int)] = 0 := by decide
  rw [p4, p5]
  clear p4 p5
  go_wp2_with fail
  refine con4.mono ?_
  rintro e W4 ⟨rfl, K4⟩
  have hB4 := hB3.trans (K4.mono hB3.size)
  have p6 : getX [(⟨2, some 6⟩ : Sl Int)] 1024 = none := by decide
  rw [p6]
  clear p6 con4 A3 K4
  go_wp2
  go_ret
  exact ⟨rfl, hB4⟩
end Go.Proofs.Ytkpcakmkmkidpaa.Arn
