/- Package arena: All, Len; the law's all: what an arena tells, in two rows. Conditions: at most 1024 slots. -/
import Derived.Test.YtkpcakmkmkidpaaArnR
import Derived.Test.YtkpcakmkmkidpaaOrdU
import Derived.Test.YtkpcakmkmkidpaaOrdA
import Derived.BigQuiet
import Derived.Deep.QuietTactic
namespace Go.Proofs.Ytkpcakmkmkidpaa.Arn
open Go.RowKit Go.Shelf
attribute [local go_sem] Oper.semAt_some wide_fn
set_option linter.unusedVariables false

/-! ### plain -/
def tell (s : Sl Int) (k : Nat) : List (Int × Int) := match s.x with | some x => [(hOf s.n k, x)] | none => []
theorem allS_app : ∀ (l m : List (Sl Int)) (j : Nat), allS j (l ++ m) = allS j l ++ allS (j + l.length) m
  | [], m, j => by simp [allS]
  | s :: r, m, j => by
    rw [List.cons_append, allS, allS, allS_app r m (j + 1), List.append_assoc, List.length_cons]
    rw [show j + 1 + r.length = j + (r.length + 1) by omega]
theorem allS_take {sl : List (Sl Int)} {k : Nat} {s : Sl Int} (h : sl[k]? = some s) : allS 0 (sl.take (k + 1)) = allS 0 (sl.take k) ++ tell s k := by
  obtain ⟨hk, rfl⟩ := List.getElem?_eq_some_iff.1 h
  rw [List.take_succ_eq_append_getElem hk, allS_app]
  have e : 0 + (sl.take k).length = k := by rw [List.length_take]; omega
  rw [e]
  congr 1
  simp only [allS, tell, List.append_nil]
  cases sl[k].x <;> rfl
theorem allS_le : ∀ (sl : List (Sl Int)) (j : Nat), (allS j sl).length ≤ sl.length
  | [], j => by simp [allS]
  | s :: r, j => by
    have := allS_le r (j + 1)
    rw [allS, List.length_append, List.length_cons]
    cases s.x <;> simp <;> omega
theorem info_i64 : (Try.prog.info? 3).map (fun i => (i.zero, i.size, i.bytes)) = some (some (.int .i64 0), 1, 8) := by kernel_rfl
theorem row_slice {w : World} {base n : Nat} {e : TypeId} {size : Nat} {v : Value} {xs : List Value} (h : w.ownsRow base e size v n xs) : ∃ q c, v = .slice q n c := by
  rcases h.2 with ⟨rfl, h0⟩ | ⟨g, cap, cur, rfl, _⟩
  · exact ⟨none, 0, by rw [h0]⟩
  · exact ⟨_, _, rfl⟩
/-- A block of one cell is a BL. -/
theorem box_bl {w : World} {B : Nat} {t : TypeId} {v : Value} (h : Boxed w B t v) : BL t B #[v] w := h
theorem add_block (b o j : Nat) : ((⟨b, o, none⟩ : Addr).add j).block = b := by unfold Addr.add; split <;> rfl
theorem cell_later {w : World} {p : Addr} {u : Value} {o : Obj} (h : w.cell? p = some u) : (w.alloc o).cell? p = some u :=
  (World.cell?_of_block ((blk_alloc o).block p.block (World.block_lt_of_cell? w p h))).trans h
theorem cell_grown1 {w w' : World} {p : Addr} {u : Value} {row : Option Nat} (hg : w.grownBy w' row) (hne : row ≠ some p.block) (h : w.cell? p = some u) : w'.cell? p = some u :=
  (World.cell?_of_block (hg.block p.block (World.block_lt_of_cell? w p h) (fun e => hne e.symm))).trans h
theorem row_not_obj {w : World} {base n l : Nat} {e : TypeId} {size : Nat} {v : Value} {xs : List Value} (h : w.ownsRow base e size v n xs) {o : Obj} (hl : w.heap[l]? = some o) (ho : ∀ c t f, o ≠ .cells c t f) : v.ownBlock ≠ some l := by
  rcases h.2 with ⟨rfl, _⟩ | ⟨g, cap, cur, rfl, _, hg, _⟩
  · exact fun e => by cases e
  · intro hb
    have hb2 : g = l := by simpa [Value.ownBlock] using hb
    subst hb2
    rw [hl] at hg
    cases hg
    exact ho _ _ _ rfl
theorem box_not_obj {w : World} {B l : Nat} {t : TypeId} {v : Value} (h : Boxed w B t v) {o : Obj} (hl : w.heap[l]? = some o) (ho : ∀ c t f, o ≠ .cells c t f) : B ≠ l := fun e => by
  subst e
  unfold Boxed at h
  rw [hl] at h
  cases h
  exact ho _ _ _ rfl
theorem row_not_loop {w : World} {base n l : Nat} {e : TypeId} {size : Nat} {v : Value} {xs : List Value} (h : w.ownsRow base e size v n xs) {r : Loop} (hl : w.heap[l]? = some (.loop r)) : v.ownBlock ≠ some l := by
  rcases h.2 with ⟨rfl, _⟩ | ⟨g, cap, cur, rfl, _, hg, _⟩
  · exact fun e => by cases e
  · intro hb
    have hb2 : g = l := by simpa [Value.ownBlock] using hb
    subst hb2
    rw [hl] at hg
    cases hg

/-! ### All -/
theorem All_any (p : Option Addr) (w : World) (b : Nat) (hp : p = some ⟨b, 0, none⟩) :
    Calls Try.prog 11 #[.pointer p] w fun e w' => e = .returned (.func (.func 27) #[] #[.pointer (some ⟨w.heap.size, 0, none⟩)]) ∧ w' = w.alloc (.cells #[.pointer p] 24) := by
  subst hp
  have hmf : ∀ (fn : Fn) (first cap : Array Value) (w : World), (Instr.makeFunc fn first cap).run Try.prog w = .ok (.func fn first cap) w := fun _ _ _ _ => rfl
  go_enter Try.func11, Try.ntmps11
  go_wp2
  go_ret
  exact ⟨rfl, rfl⟩
theorem All_nil (w : World) :
    Calls Try.prog 11 #[.pointer none] w fun e w' => e = .returned (.func (.func 26) #[] #[]) ∧ w' = w.alloc (.cells #[.pointer none] 24) := by
  go_enter Try.func11, Try.ntmps11
  go_wp2
  go_ret
  exact ⟨rfl, rfl⟩
/-- The iterator of no arena. -/
theorem All1_iter : IterS Try.prog 26 #[] (fun sl _ => sl = []) := by
  intro l J sl0 W hL hD hS hY h0
  have h1 := hL _ _ _ h0
  subst h1
  have HJ := Lib.hid h0
  clear hL hD hS hY h0
  refine (callsIn_wide (n := 1)).1 ?_
  refine callsIn_of_wp Try.func26 rfl trivial ?_ rfl
  simp only [Try.ntmps26, List.size_toArray, List.length_cons, List.length_nil, Nat.reduceAdd, Nat.reduceSub, Array.replicate_succ, Array.replicate_zero, List.push_toArray, List.append_toArray, List.nil_append, List.cons_append]
  gi_wp2
  refine bodyPost_end (results_none rfl _ _ _) rfl ?_
  exact ⟨⟨_, rfl⟩, [], rfl, HJ.out⟩
/-- What lies in an arena still lies there when only new memory was written, and the box of its pointer too. -/
theorem LiesA.on {base b size pb : Nat} {sl : List (Sl Int)} {N : Nat} {w W : World} (h : LiesA base b size pb sl w) (hb : b < N) (hp : pb < N) (hr : ∀ v, At base b size v sl w → ∀ k, v.ownBlock = some k → k < N) (hk : Below N w W) : LiesA base b size pb sl W := by
  obtain ⟨⟨v, ha⟩, hf, hc⟩ := h
  exact ⟨⟨v, ha.keep (Keep.of_below hk) hb (hr v ha)⟩, hf, by rw [← hc]; exact World.cell?_of_block (hk.block pb hp)⟩

/-! ### all -/
/-- Two boxes with rows of their own: what has been told so far. -/
structure Two (N B1 B2 : Nat) (v1 v2 : Value) (l : List (Int × Int)) (W : World) : Prop where
  b1 : Boxed W B1 32 v1
  b2 : Boxed W B2 32 v2
  ne : B1 ≠ B2
  r1 : W.ownsRow N 3 1 v1 l.length ((l.map Prod.fst).map (Value.int .i64))
  r2 : W.ownsRow N 3 1 v2 l.length ((l.map Prod.snd).map (Value.int .i64))
  d : ∀ b, v1.ownBlock = some b → v2.ownBlock ≠ some b
  n1 : N ≤ B1
  n2 : N ≤ B2
theorem Two.keep {N B1 B2 : Nat} {v1 v2 : Value} {l : List (Int × Int)} {W W' : World} {S : Nat → Prop} (h : Two N B1 B2 v1 v2 l W) (hk : Keep S W W') (h1 : S B1) (h2 : S B2) (h3 : ∀ b, v1.ownBlock = some b → S b) (h4 : ∀ b, v2.ownBlock = some b → S b) : Two N B1 B2 v1 v2 l W' :=
  ⟨hk.boxed h.b1 h1, hk.boxed h.b2 h2, h.ne, hk.row h.r1 h3, hk.row h.r2 h4, h.d, h.n1, h.n2⟩
theorem Two.on {N B1 B2 : Nat} {v1 v2 : Value} {l : List (Int × Int)} {W W' : World} (h : Two N B1 B2 v1 v2 l W) (hk : Below W.heap.size W W') : Two N B1 B2 v1 v2 l W' :=
  h.keep (Keep.of_below hk) h.b1.lt h.b2.lt (fun b hb => (h.r1.lt b hb).2) (fun b hb => (h.r2.lt b hb).2)
/-- An append to the first row: what stays. -/
theorem Two.grow1 {N B1 B2 : Nat} {v1 v2 : Value} {l : List (Int × Int)} {W A w1 : World} (h : Two N B1 B2 v1 v2 l W) (hA : Below W.heap.size W A) (hg : A.grownBy w1 v1.ownBlock) :
    Boxed w1 B1 32 v1 ∧ Boxed w1 B2 32 v2 ∧ w1.ownsRow N 3 1 v2 l.length ((l.map Prod.snd).map (Value.int .i64)) := by
  have h' := h.on hA
  have k := Keep.of_grownBy (S := fun k => v1.ownBlock ≠ some k) hg (fun r hr => fun h => h hr)
  exact ⟨k.boxed h'.b1 (h'.b1.not_row (by decide) h'.r1).symm, k.boxed h'.b2 (h'.b2.not_row (by decide) h'.r1).symm, k.row h'.r2 fun b hb e => h'.d b e hb⟩
/-- Both have grown, and are put back. -/
theorem Two.grown {N B1 B2 : Nat} {v1 v2 v1' v2' : Value} {l : List (Int × Int)} {W A1 w1 A2 w2 : World} {x y : Int} (h : Two N B1 B2 v1 v2 l W) (hN : N ≤ W.heap.size) (hA1 : Below W.heap.size W A1) (hg1 : A1.grownBy w1 v1.ownBlock)
    (o1 : w1.ownsRow N 3 1 v1' (l.length + 1) ((l.map Prod.fst).map (Value.int .i64) ++ [.int .i64 x])) (at1 : v1'.ownBlock = v1.ownBlock ∨ v1'.ownBlock = some A1.heap.size)
    (hA2 : Below w1.heap.size w1 A2) (hg2 : A2.grownBy w2 v2.ownBlock) (o2 : w2.ownsRow N 3 1 v2' (l.length + 1) ((l.map Prod.snd).map (Value.int .i64) ++ [.int .i64 y])) (at2 : v2'.ownBlock = v2.ownBlock ∨ v2'.ownBlock = some A2.heap.size) :
    Boxed w2 B1 32 v1 ∧ Boxed w2 B2 32 v2 ∧ Boxed (w2.setCell ⟨B1, 0, none⟩ v1') B2 32 v2 ∧
    Two N B1 B2 v1' v2' (l ++ [(x, y)]) ((w2.setCell ⟨B1, 0, none⟩ v1').setCell ⟨B2, 0, none⟩ v2') ∧ Below N W ((w2.setCell ⟨B1, 0, none⟩ v1').setCell ⟨B2, 0, none⟩ v2') := by
  obtain ⟨e1, e2, e3⟩ := h.grow1 hA1 hg1
  have hn1 := h.r1.lt
  have hn2 := h.r2.lt
  have hs1 := hA1.size
  have hs2 := hg1.size
  have hs3 := hA2.size
  have hs4 := hg2.size
  have kA := Keep.of_below hA2
  have f1 := kA.boxed e1 e1.lt
  have f2 := kA.boxed e2 e2.lt
  have f3 := kA.row e3 fun b hb => (e3.lt b hb).2
  have p1 := kA.row o1 fun b hb => (o1.lt b hb).2
  have k2 := Keep.of_grownBy (S := fun k => v2.ownBlock ≠ some k) hg2 (fun r hr => fun h => h hr)
  have g1 := k2.boxed f1 (f1.not_row (by decide) f3).symm
  have g2 := k2.boxed f2 (f2.not_row (by decide) f3).symm
  have hd1 : ∀ b, v1'.ownBlock = some b → v2.ownBlock ≠ some b := fun b hb e => by
    rcases at1 with h1 | h1
    · exact h.d b (h1 ▸ hb) e
    · rw [h1] at hb; cases hb
      have := (hn2 _ e).2; omega
  have q1 := k2.row p1 hd1
  have m1 := g1.set v1'
  have m2 : Boxed (w2.setCell ⟨B1, 0, none⟩ v1') B2 32 v2 := (Keep.setCell (S := fun k => k ≠ B1) w2 _ v1' (by simp)).boxed g2 h.ne.symm
  have m3 := m2.set v2'
  have kS := (Keep.setCell (S := fun k => k ≠ B1 ∧ k ≠ B2) w2 ⟨B1, 0, none⟩ v1' (by simp)).trans (Keep.setCell (S := fun k => k ≠ B1 ∧ k ≠ B2) (w2.setCell ⟨B1, 0, none⟩ v1') ⟨B2, 0, none⟩ v2' (by simp))
  have z1 := box_bl g1
  have z2 := box_bl g2
  refine ⟨g1, g2, m2, ⟨(Keep.setCell (S := fun k => k ≠ B2) _ _ _ (by simp)).boxed m1 h.ne, m3, h.ne, ?_, ?_, fun b hb e => ?_, h.n1, h.n2⟩, ?_⟩
  · rw [List.length_append, List.map_append, List.map_append]
    exact kS.row q1 fun b hb => ⟨fun e => z1.ne_row (by decide) q1 (e ▸ hb), fun e => z2.ne_row (by decide) q1 (e ▸ hb)⟩
  · rw [List.length_append, List.map_append, List.map_append]
    exact kS.row o2 fun b hb => ⟨fun e => z1.ne_row (by decide) o2 (e ▸ hb), fun e => z2.ne_row (by decide) o2 (e ▸ hb)⟩
  · rcases at2 with h2 | h2
    · exact hd1 b hb (h2 ▸ e)
    · rw [h2] at e; cases e
      have := (o1.lt _ hb).2; omega
  · have b1 : Below N W A1 := hA1.mono hN
    have b2 : Below N A1 w1 := ⟨hg1.os, hg1.tape, hg1.output, hg1.size, fun k hk => hg1.block k (by omega) (fun e => by have := (hn1 _ e.symm).1; omega)⟩
    have b3 : Below N w1 A2 := hA2.mono (by omega)
    have b4 : Below N A2 w2 := ⟨hg2.os, hg2.tape, hg2.output, hg2.size, fun k hk => hg2.block k (by omega) (fun e => by have := (hn2 _ e.symm).1; omega)⟩
    have b5 : Below N w2 ((w2.setCell ⟨B1, 0, none⟩ v1').setCell ⟨B2, 0, none⟩ v2') := (kS.mono fun k hk hN => ⟨by have := h.n1; omega, by have := h.n2; omega⟩).below (by omega)
    exact (((b1.trans b2).trans b3).trans b4).trans b5

theorem all_keeps {N B1 B2 D : Nat} {v1 v2 : Value} {l : List (Int × Int)} {W A1 w1 A2 w2 : World} {ds : Option (List Deferred)} {r : Loop} (hA1 : Below W.heap.size W A1) (hg1 : A1.grownBy w1 v1.ownBlock) (hA2 : Below w1.heap.size w1 A2) (hg2 : A2.grownBy w2 v2.ownBlock)
    (h : Two N B1 B2 v1 v2 l W) (hD : W.heap[D]? = some (.deferred ds)) (hR : W.heap[D + 1]? = some (.loop r)) (u1 u2 : Value) : Keep (fun b => b = D ∨ b = D + 1) W ((w2.setCell ⟨B1, 0, none⟩ u1).setCell ⟨B2, 0, none⟩ u2) := by
  have hl := (Array.getElem?_eq_some_iff.1 hR).1
  have a1 := row_not_obj h.r1 hD (by simp)
  have a2 := row_not_obj h.r1 hR (by simp)
  have b1 := row_not_obj h.r2 hD (by simp)
  have b2 := row_not_obj h.r2 hR (by simp)
  have c1 := box_not_obj h.b1 hD (by simp)
  have c2 := box_not_obj h.b1 hR (by simp)
  have d1 := box_not_obj h.b2 hD (by simp)
  have d2 := box_not_obj h.b2 hR (by simp)
  have k1 : Keep (fun b => b = D ∨ b = D + 1) W A1 := (Keep.of_below hA1).mono fun k hk _ => hk
  have k2 : Keep (fun b => b = D ∨ b = D + 1) A1 w1 := Keep.of_grownBy hg1 fun r hr hS => by rcases hS with rfl | rfl <;> contradiction
  have k3 : Keep (fun b => b = D ∨ b = D + 1) w1 A2 := (Keep.of_below hA2).mono fun k hk _ => hk
  have k4 : Keep (fun b => b = D ∨ b = D + 1) A2 w2 := Keep.of_grownBy hg2 fun r hr hS => by rcases hS with rfl | rfl <;> contradiction
  exact ((((k1.trans k2).trans k3).trans k4).trans (Keep.setCell _ _ _ (by simp; exact ⟨c1, c2⟩))).trans (Keep.setCell _ _ _ (by simp; exact ⟨d1, d2⟩))
/-- Between two rounds of all. -/
def AllI (w : World) (B1 B2 : Nat) (sl0 : List (Sl Int)) (sl : List (Sl Int)) (k : Nat) (W : World) : Prop :=
  sl = sl0 ∧ k ≤ sl0.length ∧ Below w.heap.size w W ∧ ∃ v1 v2, Two w.heap.size B1 B2 v1 v2 (allS 0 (sl0.take k)) W
/-- What all leaves. -/
def AllOut (sl : List (Sl Int)) (w : World) (e : Ending) (w' : World) : Prop :=
  ∃ q1 c1 q2 c2, e = .returned (.tuple #[.slice q1 (allS 0 sl).length c1, .slice q2 (allS 0 sl).length c2]) ∧ w'.ownsRow w.heap.size 3 1 (.slice q1 (allS 0 sl).length c1) (allS 0 sl).length (((allS 0 sl).map Prod.fst).map (Value.int .i64)) ∧
    w'.ownsRow w.heap.size 3 1 (.slice q2 (allS 0 sl).length c2) (allS 0 sl).length (((allS 0 sl).map Prod.snd).map (Value.int .i64)) ∧ Below w.heap.size w w'

set_option maxRecDepth 100000 in
set_option maxHeartbeats 8000000 in
theorem all_any (gf : Nat) (lb : Array Value) (Lies : List (Sl Int) → World → Prop) (sl : List (Sl Int)) (w : World) (eg : ∀ args w, (callFunc gf args).run Try.prog w = .ok (.enter gf args) w)
    (hi : IterS Try.prog gf lb Lies) (hL : ∀ W, Below w.heap.size w W → Lies sl W) (hN : sl.length ≤ 1024) :
    Calls Try.prog 10 #[.func (.func gf) #[] lb] w (AllOut sl w) := by
  obtain ⟨i0, hi0, hz0, hz1, hz2⟩ := info_arn info_i64
  refine (callsIn_wide (n := 1)).1 ?_
  refine callsIn_of_wp_marks Try.func10 rfl trivial ?_ rfl
  simp only [Try.ntmps10, List.size_toArray, List.length_cons, List.length_nil, Nat.reduceAdd, Nat.reduceSub, Array.replicate_succ, Array.replicate_zero, List.push_toArray, List.append_toArray, List.nil_append, List.cons_append]
  gi_wp2
  have bO := Boxed.new w 32 (.slice none 0 0)
  have bP := Boxed.new (w.alloc (.cells #[.slice none 0 0] 32)) 32 (.slice none 0 0)
  rw [World.size_alloc] at bP
  replace bO := bO.alloc (.cells #[.slice none 0 0] 32)
  obtain ⟨W0, hW0⟩ : ∃ W0, (w.alloc (.cells #[.slice none 0 0] 32)).alloc (.cells #[.slice none 0 0] 32) = W0 := ⟨_, rfl⟩
  rw [hW0] at bO bP ⊢
  have hB0 : Below w.heap.size w W0 := hW0 ▸ ((Below.refl _ w).alloc (Nat.le_refl _) _).alloc (by simp) _
  have hs0 : W0.heap.size = w.heap.size + 2 := by rw [← hW0]; simp
  clear hW0
  have hT0 : Two w.heap.size w.heap.size (w.heap.size + 1) (.slice none 0 0) (.slice none 0 0) (allS 0 (sl.take 0)) W0 := ⟨bO, bP, by omega, World.ownsRow_nil _ _ _ _, World.ownsRow_nil _ _ _ _, (fun b hb => by cases hb), Nat.le_refl _, by omega⟩
  refine rf_lawS (gf := gf) (lb := lb) rfl eg hi rfl (AllI w w.heap.size (w.heap.size + 1) sl) sl ?_ ?_ ?_ ?_ ⟨rfl, Nat.zero_le _, hB0, _, _, hT0⟩ ?round ?done
  · rintro sl' k W ⟨rfl, -, hb, -⟩
    exact hL W hb
  · rintro sl' k A B ⟨rfl, hk, hb, v1, v2, hT⟩ hB
    exact ⟨rfl, hk, hb.trans (hB.mono hb.size), v1, v2, hT.on hB⟩
  · rintro sl' k A B ⟨rfl, hk, hb, v1, v2, hT⟩ ⟨r, hr⟩ hB hs
    refine ⟨rfl, hk, hb.trans ((hB.mono fun j _ hj => by omega).below hb.size), v1, v2, hT.keep hB (by omega) (by omega) (fun b hb e => row_not_loop hT.r1 hr (e ▸ hb)) (fun b hb e => row_not_loop hT.r2 hr (e ▸ hb))⟩
  · rintro sl' k W s ⟨rfl, hk, hb, v1, v2, hT⟩ hs hx
    have e := allS_take hs
    rw [show tell s k = [] by unfold tell; rw [hx], List.append_nil] at e
    exact ⟨rfl, (List.getElem?_eq_some_iff.1 hs).1, hb, v1, v2, by rw [e]; exact hT⟩
  case round =>
    rintro sl' k s x W ⟨rfl, hk, hb, v1, v2, hT⟩ hs hx ⟨r, hr⟩ hD
    have e := allS_take hs
    rw [show tell s k = [(hOf s.n k, x)] by unfold tell; rw [hx]] at e
    have HE := Lib.hid e
    have hk1 := (List.getElem?_eq_some_iff.1 hs).1
    have HDr := Lib.hid hD
    have hln : (allS 0 (sl'.take k)).length ≤ 1024 := by have := allS_le (sl'.take k) 0; rw [List.length_take] at this; omega
    generalize allS 0 (sl'.take k) = pre at *
    obtain ⟨H, hH⟩ : ∃ H, hOf s.n k = H := ⟨_, rfl⟩
    rw [hH] at HE ⊢
    clear e hs hx hH hD
    gi_wp2
    refine ⟨Keep.refl _ _, fun W2 hk2 hs2 ⟨r2, hr2⟩ => ?_⟩
    replace hT := hT.keep hk2 (by omega) (by omega) (fun b hb e => row_not_loop hT.r1 hr (e ▸ hb)) (fun b hb e => row_not_loop hT.r2 hr (e ▸ hb))
    have hb2 : Below w.heap.size w W2 := hb.trans ((hk2.mono fun j _ hj => by omega).below hb.size)
    have HD2 := Lib.hid (hk2.heap (show W0.heap.size ≠ W0.heap.size + 1 by omega) HDr.out)
    have HR2 := Lib.hid hr2
    clear hk2 hr hb hr2 hs2
    obtain ⟨Wd, hWd⟩ : ∃ Wd, W2.drew = Wd := ⟨_, rfl⟩
    have hdr : Below W2.heap.size W2 Wd := by rw [← hWd]; exact (Below.refl _ _).drew
    replace hT := hT.on hdr
    replace hb2 := hb2.trans (hdr.mono hb2.size)
    have hsd : Wd.heap.size = W2.heap.size := by rw [← hWd]; rfl
    have HDd := Lib.hid (show Wd.heap[W0.heap.size]? = some (.deferred (some [])) by rw [← hWd]; exact HD2.out)
    have HRd := Lib.hid (show Wd.heap[W0.heap.size + 1]? = some (.loop r2) by rw [← hWd]; exact HR2.out)
    have HKd := Lib.hid (show Keep (fun b => b = W0.heap.size ∨ b = W0.heap.size + 1) W2 Wd by rw [← hWd]; exact Keep.drew _ _)
    have c1 := hT.b1.cell
    have c2 := hT.b2.cell
    have hsz := hb2.size
    have HT := Lib.hid hT
    have HB2 := Lib.hid hb2
    have HWd := Lib.hid hWd
    have hm2 : (pre.length + 1) * 8 ≤ 140737488355328 := by omega
    have hm3 : pre.length + 1 ≤ maxLen := by unfold maxLen; omega
    have HSD := Lib.hid hsd
    clear hWd hdr hT hb2 hsd HD2 HR2
    gi_wp2
    refine region_anyO (fun j => decide (j < 8)) (fun X => X.cell? ⟨w.heap.size, 0, none⟩ = some v1 ∧ X.cell? ⟨w.heap.size + 1, 0, none⟩ = some v2) (by kernel_rfl) ?_
    rw [HWd.out]
    refine anyO_take2 0 (v := v1) rfl (by kernel_rfl) (by kernel_rfl) (by kernel_rfl) (by kernel_rfl) (by kernel_rfl) (by kernel_rfl) (fun _ _ _ h => h) ⟨.inl ⟨by rfl, ?_⟩, fun _ => rfl⟩ ⟨c1, c2⟩ ?_
    · rintro w ⟨h1, h2⟩; go_simp
    simp only [Act.put, List.getElem_toArray, List.getElem_cons_zero, List.setIfInBounds_toArray, List.set_cons_zero, List.set_cons_succ]
    refine anyO_take2 1 (v := .int .i64 H) rfl (by kernel_rfl) (by kernel_rfl) (by kernel_rfl) (by kernel_rfl) (by kernel_rfl) (by kernel_rfl) (fun _ _ _ h => h) ⟨.inl ⟨by rfl, ?_⟩, fun _ => rfl⟩ ⟨c1, c2⟩ ?_
    · rintro w -; go_simp
    simp only [Act.put, List.getElem_toArray, List.getElem_cons_zero, List.getElem_cons_succ, List.setIfInBounds_toArray, List.set_cons_zero, List.set_cons_succ]
    refine anyO_take2 4 (v := v2) rfl (by kernel_rfl) (by kernel_rfl) (by kernel_rfl) (by kernel_rfl) (by kernel_rfl) (by kernel_rfl) (fun _ _ _ h => h) ⟨.inl ⟨by rfl, ?_⟩, fun _ => rfl⟩ ⟨c1, c2⟩ ?_
    · rintro w ⟨h1, h2⟩; go_simp
    simp only [Act.put, List.getElem_toArray, List.getElem_cons_zero, List.getElem_cons_succ, List.setIfInBounds_toArray, List.set_cons_zero, List.set_cons_succ]
    refine anyO_take2 5 (v := .int .i64 x) rfl (by kernel_rfl) (by kernel_rfl) (by kernel_rfl) (by kernel_rfl) (by kernel_rfl) (by kernel_rfl) (fun _ _ _ h => h) ⟨.inl ⟨by rfl, ?_⟩, fun _ => rfl⟩ ⟨c1, c2⟩ ?_
    · rintro w -; go_simp
    simp only [Act.put, List.getElem_toArray, List.getElem_cons_zero, List.getElem_cons_succ, List.setIfInBounds_toArray, List.set_cons_zero, List.set_cons_succ]
    refine anyO_pair 2 6 (by kernel_rfl) rfl rfl (fun K hK => ?_) (fun K hK => ?_)
    · have hT := HT.out
      have hA0 : Below Wd.heap.size Wd (Wd.alloc (.cells #[.int .i64 H] 3)) := (Below.refl _ _).alloc (Nat.le_refl _) _
      have bb0 := hT.on hA0
      go_simp
      refine hK _ _ (fun _ => ⟨bb0.b1.cell, bb0.b2.cell⟩) ?_
      clear hK K
      refine anyO_pair 3 6 (by kernel_rfl) rfl rfl (fun K hK => ?_) (fun K hK => ?_)
      · rw [if_pos (by rfl)]
        have N1 : ∀ j u, [Value.int .i64 H][j]? = some u → (Wd.alloc (.cells #[.int .i64 H] 3)).cell? ((⟨Wd.heap.size, 0, none⟩ : Addr).add j) = some u := by
          have hh := blk_cells Wd [.int .i64 H] 3
          intro j u hu
          exact hh j u hu
        refine Ap.wpIn_append_own _ _ 32 rfl w.heap.size 3 i0 (.int .i64 0) 1 8 Try.underlying32 hi0 hz0 hz1 hz2 rfl (by decide) v1 pre.length _ rfl (hT.on hA0).r1 ⟨Wd.heap.size, 0, none⟩ 1 1 [.int .i64 H] rfl rfl N1 (by simp [Value.oneCell']) hm3 hm2 (by have := hA0.size; omega) ?_
        intro v1' w1 o1 g1 at1
        have G1 := hT.grow1 hA0 g1
        refine hK _ _ (fun _ => ⟨G1.1.cell, G1.2.1.cell⟩) ?_
        clear hK K N1
        have hA2 : Below w1.heap.size w1 (w1.alloc (.cells #[.int .i64 x] 3)) := (Below.refl _ _).alloc (Nat.le_refl _) _
        have bc2 := (Keep.of_below hA2).boxed G1.1 G1.1.lt
        have bd2 := (Keep.of_below hA2).boxed G1.2.1 G1.2.1.lt
        refine anyO_one 6 (by kernel_rfl) rfl fun K hK => ?_
        go_simp
        refine hK _ _ (fun _ => ⟨bc2.cell, bd2.cell⟩) ?_
        clear hK K
        refine anyO_one 7 (by kernel_rfl) rfl fun K hK => ?_
        rw [if_pos (by rfl)]
        have N2 : ∀ j u, [Value.int .i64 x][j]? = some u → (w1.alloc (.cells #[.int .i64 x] 3)).cell? ((⟨w1.heap.size, 0, none⟩ : Addr).add j) = some u := by
          have hh := blk_cells w1 [.int .i64 x] 3
          intro j u hu
          exact hh j u hu
        have R2 := (Keep.of_below (show Below w1.heap.size w1 (w1.alloc (.cells #[.int .i64 x] 3)) from hA2)).row G1.2.2 fun b hb => (G1.2.2.lt b hb).2
        refine Ap.wpIn_append_own _ _ 32 rfl w.heap.size 3 i0 (.int .i64 0) 1 8 Try.underlying32 hi0 hz0 hz1 hz2 rfl (by decide) v2 pre.length _ rfl R2 ⟨w1.heap.size, 0, none⟩ 1 1 [.int .i64 x] rfl rfl N2 (by simp [Value.oneCell']) hm3 hm2 (by have h1 := hA0.size; have h2 := g1.size; have h3 := (show Below w1.heap.size w1 (w1.alloc (.cells #[.int .i64 x] 3)) from hA2).size; omega) ?_
        intro v2' w2 o2 g2 at2
        obtain ⟨E1, E2, E3, E4, E5⟩ := hT.grown (by have := HB2.out.size; exact this) hA0 g1 o1 at1 (show Below w1.heap.size w1 (w1.alloc (.cells #[.int .i64 x] 3)) from hA2) g2 o2 at2
        refine hK _ _ (fun _ => ⟨E1.cell, E2.cell⟩) ?_
        clear hK K N2 R2
        obtain ⟨p1, d1, rfl⟩ := row_slice o1
        obtain ⟨p2, d2, rfl⟩ := row_slice o2
        have KK := all_keeps (D := W0.heap.size) hA0 g1 (show Below w1.heap.size w1 (w1.alloc (.cells #[.int .i64 x] 3)) from hA2) g2 HT.out HDd.out HRd.out (.slice p1 (pre.length + 1) d1) (.slice p2 (pre.length + 1) d2)
        have f1 := E1.frozen
        have f2 := E3.frozen
        have e1 := E1.cell
        have e3 := E3.cell
        refine anyO_one 8 (by kernel_rfl) rfl fun K hK => ?_
        clear E1 E2 E3 o1 o2 g1 g2 at1 at2 G1 hT
        go_simp
        refine hK _ _ (fun h => by cases h) ?_
        clear hK K
        refine anyO_one 9 (by kernel_rfl) rfl fun K hK => ?_
        go_simp
        refine hK _ _ (fun h => by cases h) ?_
        clear hK K
        refine anyO_done (by kernel_rfl) ?_ _
        have HF := Lib.hid (And.intro E4 E5)
        have HK := Lib.hid KK
        clear E4 E5 KK f1 f2 e1 e3
        gi_wp2
        exact ⟨HKd.out.trans HK.out, sl', rfl, rfl, hk1, HB2.out.trans HF.out.2, _, _, by rw [HE.out]; exact HF.out.1⟩
      · have hA1 : Below Wd.heap.size Wd ((Wd.alloc (.cells #[.int .i64 H] 3)).alloc (.cells #[.int .i64 x] 3)) := hA0.alloc (by simp) _
        have bb1 := hT.on hA1
        go_simp
        refine hK _ _ (fun _ => ⟨bb1.b1.cell, bb1.b2.cell⟩) ?_
        clear hK K
        refine anyO_one 3 (by kernel_rfl) rfl fun K hK => ?_
        rw [if_pos (by rfl)]
        have N1 : ∀ j u, [Value.int .i64 H][j]? = some u → ((Wd.alloc (.cells #[.int .i64 H] 3)).alloc (.cells #[.int .i64 x] 3)).cell? ((⟨Wd.heap.size, 0, none⟩ : Addr).add j) = some u := by
          have hh := blk_cells Wd [.int .i64 H] 3
          intro j u hu
          exact cell_later (hh j u hu)
        refine Ap.wpIn_append_own _ _ 32 rfl w.heap.size 3 i0 (.int .i64 0) 1 8 Try.underlying32 hi0 hz0 hz1 hz2 rfl (by decide) v1 pre.length _ rfl (hT.on hA1).r1 ⟨Wd.heap.size, 0, none⟩ 1 1 [.int .i64 H] rfl rfl N1 (by simp [Value.oneCell']) hm3 hm2 (by have := hA1.size; omega) ?_
        intro v1' w1 o1 g1 at1
        have G1 := hT.grow1 hA1 g1
        refine hK _ _ (fun _ => ⟨G1.1.cell, G1.2.1.cell⟩) ?_
        clear hK K N1
        simp only [Act.put, List.getElem_toArray, List.getElem_cons_zero, List.getElem_cons_succ, List.setIfInBounds_toArray, List.set_cons_zero, List.set_cons_succ]
        refine anyO_one 7 (by kernel_rfl) rfl fun K hK => ?_
        rw [if_pos (by rfl)]
        have N2 : ∀ j u, [Value.int .i64 x][j]? = some u → w1.cell? ((⟨Wd.heap.size + 1, 0, none⟩ : Addr).add j) = some u := by
          have hh := blk_cells (Wd.alloc (.cells #[.int .i64 H] 3)) [.int .i64 x] 3
          rw [World.size_alloc] at hh
          intro j u hu
          exact cell_grown1 g1 (fun e => by have := (hT.r1.lt _ e).2; rw [add_block] at this; omega) (hh j u hu)
        have R2 := (Keep.of_below (show Below w1.heap.size w1 w1 from (Below.refl _ _))).row G1.2.2 fun b hb => (G1.2.2.lt b hb).2
        refine Ap.wpIn_append_own _ _ 32 rfl w.heap.size 3 i0 (.int .i64 0) 1 8 Try.underlying32 hi0 hz0 hz1 hz2 rfl (by decide) v2 pre.length _ rfl R2 ⟨Wd.heap.size + 1, 0, none⟩ 1 1 [.int .i64 x] rfl rfl N2 (by simp [Value.oneCell']) hm3 hm2 (by have h1 := hA1.size; have h2 := g1.size; have h3 := (show Below w1.heap.size w1 w1 from (Below.refl _ _)).size; omega) ?_
        intro v2' w2 o2 g2 at2
        obtain ⟨E1, E2, E3, E4, E5⟩ := hT.grown (by have := HB2.out.size; exact this) hA1 g1 o1 at1 (show Below w1.heap.size w1 w1 from (Below.refl _ _)) g2 o2 at2
        refine hK _ _ (fun _ => ⟨E1.cell, E2.cell⟩) ?_
        clear hK K N2 R2
        obtain ⟨p1, d1, rfl⟩ := row_slice o1
        obtain ⟨p2, d2, rfl⟩ := row_slice o2
        have KK := all_keeps (D := W0.heap.size) hA1 g1 (show Below w1.heap.size w1 w1 from (Below.refl _ _)) g2 HT.out HDd.out HRd.out (.slice p1 (pre.length + 1) d1) (.slice p2 (pre.length + 1) d2)
        have f1 := E1.frozen
        have f2 := E3.frozen
        have e1 := E1.cell
        have e3 := E3.cell
        refine anyO_one 8 (by kernel_rfl) rfl fun K hK => ?_
        clear E1 E2 E3 o1 o2 g1 g2 at1 at2 G1 hT
        go_simp
        refine hK _ _ (fun h => by cases h) ?_
        clear hK K
        refine anyO_one 9 (by kernel_rfl) rfl fun K hK => ?_
        go_simp
        refine hK _ _ (fun h => by cases h) ?_
        clear hK K
        refine anyO_done (by kernel_rfl) ?_ _
        have HF := Lib.hid (And.intro E4 E5)
        have HK := Lib.hid KK
        clear E4 E5 KK f1 f2 e1 e3
        gi_wp2
        exact ⟨HKd.out.trans HK.out, sl', rfl, rfl, hk1, HB2.out.trans HF.out.2, _, _, by rw [HE.out]; exact HF.out.1⟩
    · have hT := HT.out
      have hA0 : Below Wd.heap.size Wd (Wd.alloc (.cells #[.int .i64 x] 3)) := (Below.refl _ _).alloc (Nat.le_refl _) _
      have bb0 := hT.on hA0
      go_simp
      refine hK _ _ (fun _ => ⟨bb0.b1.cell, bb0.b2.cell⟩) ?_
      clear hK K
      have hA1 : Below Wd.heap.size Wd ((Wd.alloc (.cells #[.int .i64 x] 3)).alloc (.cells #[.int .i64 H] 3)) := hA0.alloc (by simp) _
      have bb1 := hT.on hA1
      refine anyO_one 2 (by kernel_rfl) rfl fun K hK => ?_
      go_simp
      refine hK _ _ (fun _ => ⟨bb1.b1.cell, bb1.b2.cell⟩) ?_
      clear hK K
      refine anyO_one 3 (by kernel_rfl) rfl fun K hK => ?_
      rw [if_pos (by rfl)]
      have N1 : ∀ j u, [Value.int .i64 H][j]? = some u → ((Wd.alloc (.cells #[.int .i64 x] 3)).alloc (.cells #[.int .i64 H] 3)).cell? ((⟨Wd.heap.size + 1, 0, none⟩ : Addr).add j) = some u := by
        have hh := blk_cells (Wd.alloc (.cells #[.int .i64 x] 3)) [.int .i64 H] 3
        rw [World.size_alloc] at hh
        intro j u hu
        exact hh j u hu
      refine Ap.wpIn_append_own _ _ 32 rfl w.heap.size 3 i0 (.int .i64 0) 1 8 Try.underlying32 hi0 hz0 hz1 hz2 rfl (by decide) v1 pre.length _ rfl (hT.on hA1).r1 ⟨Wd.heap.size + 1, 0, none⟩ 1 1 [.int .i64 H] rfl rfl N1 (by simp [Value.oneCell']) hm3 hm2 (by have := hA1.size; omega) ?_
      intro v1' w1 o1 g1 at1
      have G1 := hT.grow1 hA1 g1
      refine hK _ _ (fun _ => ⟨G1.1.cell, G1.2.1.cell⟩) ?_
      clear hK K N1
      simp only [Act.put, List.getElem_toArray, List.getElem_cons_zero, List.getElem_cons_succ, List.setIfInBounds_toArray, List.set_cons_zero, List.set_cons_succ]
      refine anyO_one 7 (by kernel_rfl) rfl fun K hK => ?_
      rw [if_pos (by rfl)]
      have N2 : ∀ j u, [Value.int .i64 x][j]? = some u → w1.cell? ((⟨Wd.heap.size, 0, none⟩ : Addr).add j) = some u := by
        have hh := blk_cells Wd [.int .i64 x] 3
        intro j u hu
        exact cell_grown1 g1 (fun e => by have := (hT.r1.lt _ e).2; rw [add_block] at this; omega) (cell_later (hh j u hu))
      have R2 := (Keep.of_below (show Below w1.heap.size w1 w1 from (Below.refl _ _))).row G1.2.2 fun b hb => (G1.2.2.lt b hb).2
      refine Ap.wpIn_append_own _ _ 32 rfl w.heap.size 3 i0 (.int .i64 0) 1 8 Try.underlying32 hi0 hz0 hz1 hz2 rfl (by decide) v2 pre.length _ rfl R2 ⟨Wd.heap.size, 0, none⟩ 1 1 [.int .i64 x] rfl rfl N2 (by simp [Value.oneCell']) hm3 hm2 (by have h1 := hA1.size; have h2 := g1.size; have h3 := (show Below w1.heap.size w1 w1 from (Below.refl _ _)).size; omega) ?_
      intro v2' w2 o2 g2 at2
      obtain ⟨E1, E2, E3, E4, E5⟩ := hT.grown (by have := HB2.out.size; exact this) hA1 g1 o1 at1 (show Below w1.heap.size w1 w1 from (Below.refl _ _)) g2 o2 at2
      refine hK _ _ (fun _ => ⟨E1.cell, E2.cell⟩) ?_
      clear hK K N2 R2
      obtain ⟨p1, d1, rfl⟩ := row_slice o1
      obtain ⟨p2, d2, rfl⟩ := row_slice o2
      have KK := all_keeps (D := W0.heap.size) hA1 g1 (show Below w1.heap.size w1 w1 from (Below.refl _ _)) g2 HT.out HDd.out HRd.out (.slice p1 (pre.length + 1) d1) (.slice p2 (pre.length + 1) d2)
      have f1 := E1.frozen
      have f2 := E3.frozen
      have e1 := E1.cell
      have e3 := E3.cell
      refine anyO_one 8 (by kernel_rfl) rfl fun K hK => ?_
      clear E1 E2 E3 o1 o2 g1 g2 at1 at2 G1 hT
      go_simp
      refine hK _ _ (fun h => by cases h) ?_
      clear hK K
      refine anyO_one 9 (by kernel_rfl) rfl fun K hK => ?_
      go_simp
      refine hK _ _ (fun h => by cases h) ?_
      clear hK K
      refine anyO_done (by kernel_rfl) ?_ _
      have HF := Lib.hid (And.intro E4 E5)
      have HK := Lib.hid KK
      clear E4 E5 KK f1 f2 e1 e3
      gi_wp2
      exact ⟨HKd.out.trans HK.out, sl', rfl, rfl, hk1, HB2.out.trans HF.out.2, _, _, by rw [HE.out]; exact HF.out.1⟩
  case done =>
    rintro sl' W hsl ⟨rfl, hk, hb, v1, v2, hT⟩ hD hlt
    rw [List.take_length] at hT
    have c1 := hT.b1.cell
    have c2 := hT.b2.cell
    obtain ⟨q1, d1, rfl⟩ := row_slice hT.r1
    obtain ⟨q2, d2, rfl⟩ := row_slice hT.r2
    have HT := Lib.hid hT
    have HB := Lib.hid hb
    have HD := Lib.hid hD
    clear hT hb hD
    gi_wp2_with (gi_quiet (fail))
    refine ⟨by simp, .inl ⟨_, _, rfl, run_takeDeferred (show (W.drewN _).heap[w.heap.size + 2]? = some (.deferred (some [])) by rw [← hs0]; exact HD.out), ?_⟩⟩
    refine ⟨.tuple #[.slice q1 (allS 0 sl').length d1, .slice q2 (allS 0 sl').length d2], by simp [results, Try.f10, go_sem], q1, d1, q2, d2, rfl, ?_⟩
    have hD := HD.out
    rw [hs0] at hD
    have k1 : Keep (fun b => b ≠ w.heap.size + 2) W ((W.drewN nq).putObj (w.heap.size + 2) (.deferred none)) :=
      (show Keep _ W (W.drewN nq) from ⟨rfl, rfl, rfl, Nat.le_refl _, fun _ _ _ => rfl⟩).trans (Keep.putObj _ _ _ (by simp))
    exact ⟨k1.row HT.out.r1 (fun b hb e => row_not_obj HT.out.r1 hD (by simp) (e ▸ hb)), k1.row HT.out.r2 (fun b hb e => row_not_obj HT.out.r2 hD (by simp) (e ▸ hb)), HB.out.trans ((k1.mono fun j _ hj => by omega).below HB.out.size)⟩
end Go.Proofs.Ytkpcakmkmkidpaa.Arn
