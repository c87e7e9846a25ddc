/- Of's set is new memory; joins, meets and what is left are the document's lists. Conditions: at most 2^40 values. -/
import Derived.Test.YthfclmnmnmeldaaSetR
namespace Go.Proofs.Ythfclmnmnmeldaa
open Go.RowKit Go.Shelf

theorem bothL_rises (xs ys : List Int) (b : Bool) (h : Rises xs) : Rises (bothL xs ys b) := List.Pairwise.sublist List.filter_sublist h
theorem mem_bothL (xs ys : List Int) (b : Bool) (a : Int) : a ∈ bothL xs ys b ↔ a ∈ xs ∧ (a ∈ ys ↔ b = true) := by
  unfold bothL hasL
  rw [List.mem_filter]
  cases b <;> simp
theorem minus_both (xs ys : List Int) (hx : Rises xs) (hy : Rises ys) : pickL [1] xs ys = bothL xs ys false :=
  rises_ext (pickL_rises _ _ _ hx hy) (bothL_rises _ _ _ hx) fun a => by rw [mem_minus _ _ hx hy, mem_bothL]; simp
theorem meet_both (xs ys : List Int) (hx : Rises xs) (hy : Rises ys) : pickL [3] xs ys = bothL xs ys true :=
  rises_ext (pickL_rises _ _ _ hx hy) (bothL_rises _ _ _ hx) fun a => by rw [mem_meet _ _ hx hy, mem_bothL]; simp
theorem join_set (xs ys : List Int) (hx : Rises xs) (hy : Rises ys) : pickL [1, 2, 3] xs ys = setI (xs ++ ys) :=
  rises_ext (pickL_rises _ _ _ hx hy) (setI_rises _) fun a => by rw [mem_join _ _ hx hy, mem_setI, List.mem_append]
theorem with_set (xs ys : List Int) : pickL [1, 2, 3] (setI xs) (setI ys) = setI (xs ++ ys) :=
  rises_ext (pickL_rises _ _ _ (setI_rises _) (setI_rises _)) (setI_rises _) fun a => by rw [mem_join _ _ (setI_rises _) (setI_rises _), mem_setI, mem_setI, mem_setI, List.mem_append]

set_option maxRecDepth 100000 in
set_option maxHeartbeats 1000000 in
theorem Of_new (q : Option Addr) (n c : Nat) (zs : List Int) (w : World) (h : SlIn (Value.int .i64) w q n zs) (hq : q = none → c = 0) (hm : n ≤ 1099511627776) :
    Calls Try.prog 8 #[.slice q n c] w fun e w' => ∃ q c, e = .returned (.agg #[.slice q (setI zs).length c]) ∧ SetIs (Value.int .i64) w' (.agg #[.slice q (setI zs).length c]) (setI zs) ∧ (∀ a, q = some a → w.heap.size < a.block) ∧ Below w.heap.size w w' := by
  obtain ⟨i0, hi0, hz0, hz1, hz2⟩ := info_parts info_int
  have b0 := Boxed.new w 25 (.slice none 0 0)
  have h0 := h.alloc (.cells #[.slice none 0 0] 25)
  have hb0 := below_alloc (w := w) (.cells #[.slice none 0 0] 25)
  have hsz : (w.alloc (.cells #[.slice none 0 0] 25)).heap.size = w.heap.size + 1 := by simp
  obtain ⟨W, hW⟩ : ∃ W, w.alloc (.cells #[.slice none 0 0] 25) = W := ⟨_, rfl⟩
  rw [hW] at b0 h0 hb0 hsz
  have hsz' := Lib.hid hsz
  have hl := Lib.hid h.1
  have HW := Lib.hid hW
  clear hsz h hW
  go_enter Try.func8, Try.ntmps8
  go_wp2_with (at_builtin; refine wpList_append_row (enc := Value.int .i64) rfl _ _ 22 3 rfl i0 (.int .i64 0) 8 Try.underlying22 hi0 hz0 hz1 hz2 rfl (fun _ => rfl) (by decide) (w.heap.size + 1) (.slice none 0 0) 0 [] rfl (World.ownsRow_nil _ _ _ _) q n c zs rfl hq (by rw [HW.out]; exact h0) (by omega) (by simp) ?_; intro v1 w1 hown hgrow)
  rw [HW.out] at hgrow
  simp only [Nat.zero_add, List.nil_append] at hown
  have hgs := hgrow.size
  rw [hsz'.out] at hgs
  have con := ordered_own (w.heap.size + 1) v1 n zs w1 hown hgs hm
  have hk1 : Keep (fun _ => True) W w1 := Keep.of_grownBy hgrow (fun r hr => by cases hr)
  have b1 := hk1.boxed b0 trivial
  have hb1 : Below w.heap.size w w1 := hb0.trans ((hk1.mono (T := (· < w.heap.size)) fun _ _ _ => trivial).below hb0.size)
  clear hown hgrow hk1
  go_wp2_with fail
  refine con.mono ?_
  rintro e w2 ⟨q2, c2, rfl, hset, hqb, hbel⟩
  have b2 := (Keep.of_below hbel).boxed b1 (by omega)
  have cR := b2.cell
  have fR := b2.frozen
  have hb2 := hb1.trans (hbel.mono (by omega))
  clear con
  obtain ⟨_, _, _, he, hc2, hm2, hsl, hr⟩ := hset
  cases he
  go_wp2
  have hbr2 := (b2.set (.slice q2 (setI zs).length c2)).cell
  refine bodyPost_ret (v := .agg #[.slice q2 (setI zs).length c2]) (by simp [results, Try.f8, go_sem, hbr2]) rfl ⟨q2, c2, rfl, ⟨q2, (setI zs).length, c2, rfl, hc2, hm2, ?_, hr⟩, (fun a h => by have := (hqb a h).1; omega), hb2.setCell (Nat.le_refl _) _⟩
  exact hsl.keep (Keep.setCell (S := fun b => w.heap.size + 1 ≤ b) w2 ⟨w.heap.size, 0, none⟩ _ (by simp)) fun a h _ => (hqb a h).1


/-- A step of a region that is wanted. -/
theorem wpList_wanted {P : Program} {ops : Array Oper} {rest : List Oper} {o : Oper} {a : Act} {w : World} {Q : Exit → Act → World → Prop} (hw : Region.wanted o (yielded ops a.tmps) = true)
    (h : ∀ K : Act → World → Prop, (∀ a w, wpList P ops Q rest a w → K a w) → o.wp P a w K Q) : wpList P ops Q (o :: rest) a w :=
  wpList_step fun K hK => by simp only [hw, if_true]; exact h K hK

theorem run_append_row {α : Type} {enc : α → Value} {w : World} (t ty oty : TypeId) (i0 : TypeInfo) (z : Value) (bytes : Nat) (ht : Try.prog.underlying t = some (.slice ty)) (hi0 : Try.prog.info? ty = some i0) (hz0 : i0.zero = some z) (hz1 : i0.size = 1) (hz2 : i0.bytes = bytes) (hz3 : z.cells.size = 1)
    (h1 : ∀ u, (enc u).oneCell' = true) (hby : bytes ≤ 16) (base : Nat) (v : Value) (n : Nat) (xs : List Value) (hown : w.ownsRow base ty 1 v n xs) (q : Option Addr) (m c : Nat) (zs : List α) (hq : q = none → c = 0)
    (hb : SlIn enc w q m zs) (h47 : n + m ≤ 2199023255552) (hbase : base ≤ w.heap.size) :
    ∃ v' w', (Builtin.append_ #[t, t] oty #[v, .slice q m c]).run Try.prog w = .ok v' w' ∧ w'.ownsRow base ty 1 v' (n + m) (xs ++ zs.map enc) ∧ w.grownBy w' v.ownBlock := by
  cases q with
  | none =>
    obtain rfl := hq rfl
    have hm : m = 0 := by
      rcases Nat.eq_zero_or_pos m with h0 | h0
      · exact h0
      · obtain ⟨b, o, he, _⟩ := hb.at h0; cases he
    subst hm
    obtain rfl : zs = [] := List.eq_nil_of_length_eq_zero hb.1
    exact ⟨v, w, run_append_owned_none (P := Try.prog) (w := w) base t oty ty i0 1 ht hi0 v n xs hown, by simpa using hown, ⟨rfl, rfl, rfl, Nat.le_refl _, fun _ _ _ => rfl⟩⟩
  | some ad =>
    have hbb : (n + m) * bytes ≤ (n + m) * 16 := Nat.mul_le_mul_left _ hby
    obtain ⟨v', w', hr, h2, h3, _, _⟩ := run_append_own_at (P := Try.prog) w base t oty ty i0 z 1 bytes ht hi0 hz0 hz1 hz2 hz3 (by decide) v n xs hown ad m c (zs.map enc) (by simp [hb.1]) (fun j u hj => by
      rw [List.getElem?_map] at hj
      cases hy : zs[j]? with
      | none => rw [hy] at hj; cases hj
      | some y =>
        rw [hy] at hj
        cases hj
        have hjl : j < zs.length := (List.getElem?_eq_some_iff.1 hy).1
        obtain ⟨b, o, he, _, hcc⟩ := hb.at (by have := hb.1; omega)
        cases he
        rw [Go.WideShapes.add_plain]
        exact hcc j y hy) (fun u hu => by obtain ⟨y, _, rfl⟩ := List.mem_map.1 hu; exact h1 y) (by unfold maxLen; omega) (by omega) hbase
    exact ⟨v', w', hr, h2, h3⟩

/-- 'append(dst, src...)' behind a guard that lets it, dst the call's own. -/
theorem wpList_append_rowg {α : Type} {enc : α → Value} {ops : Array Oper} {rest : List Oper} {o : Oper} {a : Act} {w : World} {Q : Exit → Act → World → Prop} (hwd : Region.wanted o (yielded ops a.tmps) = true) (s x : Operand) (t ty : TypeId)
    (ho : o.op = .call { callee := .builtin .append, args := #[s, x], argTypes := #[t, t] }) (i0 : TypeInfo) (z : Value) (bytes : Nat) (ht : Try.prog.underlying t = some (.slice ty)) (hi0 : Try.prog.info? ty = some i0) (hz0 : i0.zero = some z) (hz1 : i0.size = 1) (hz2 : i0.bytes = bytes) (hz3 : z.cells.size = 1)
    (h1 : ∀ u, (enc u).oneCell' = true) (hby : bytes ≤ 16) (base : Nat) (v : Value) (n : Nat) (xs : List Value) (hs : a.eval s = v) (hown : w.ownsRow base ty 1 v n xs) (q : Option Addr) (m c : Nat) (zs : List α) (hx : a.eval x = .slice q m c) (hq : q = none → c = 0)
    (hb : SlIn enc w q m zs) (h47 : n + m ≤ 2199023255552) (hbase : base ≤ w.heap.size)
    (h : ∀ v' w', w'.ownsRow base ty 1 v' (n + m) (xs ++ zs.map enc) → w.grownBy w' v.ownBlock → wpList Try.prog ops Q rest (a.put o.dst v') w') : wpList Try.prog ops Q (o :: rest) a w := by
  refine wpList_wanted hwd fun K hK => ?_
  obtain ⟨v', w', hr, h2, h3⟩ := run_append_row (enc := enc) (w := w) t ty o.type i0 z bytes ht hi0 hz0 hz1 hz2 hz3 h1 hby base v n xs hown q m c zs hq hb h47 hbase
  unfold Oper.wp execOp
  simp only [ho, resolve, invoke, builtin, Sem.run_bind, Sem.run_pure, Result.andThen_ok, List.map_toArray, List.map_cons, List.map_nil, hs, hx, hr]
  exact hK _ _ (h v' w' h2 h3)

end Go.Proofs.Ythfclmnmnmeldaa
