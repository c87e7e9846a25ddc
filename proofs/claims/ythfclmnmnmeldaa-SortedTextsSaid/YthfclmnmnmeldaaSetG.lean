/- package sorted: Of, With, Without. Conditions: at most 2^40 values. -/
import Derived.Test.YthfclmnmnmeldaaSetF
import Derived.Lib.OwnBridge
import Derived.Laws.AppendOwnNone
namespace Go.Proofs.Ythfclmnmnmeldaa
open Go.RowKit Go.Shelf Go.Sort

/-- 'append(dst, src...)', dst the call's own, src whatever row. -/
theorem wpList_append_row {α : Type} {enc : α → Value} {ops : Array Oper} {rest : List Oper} {o : Oper} {a : Act} {w : World} {Q : Exit → Act → World → Prop} (hgd : o.guard = none) (s x : Operand) (t ty : TypeId)
    (ho : o.op = .call { callee := .builtin .append, args := #[s, x], argTypes := #[t, t] }) (i0 : TypeInfo) (z : Value) (bytes : Nat) (ht : Try.prog.underlying t = some (.slice ty)) (hi0 : Try.prog.info? ty = some i0) (hz0 : i0.zero = some z) (hz1 : i0.size = 1) (hz2 : i0.bytes = bytes) (hz3 : z.cells.size = 1)
    (h1 : ∀ u, (enc u).oneCell' = true) (hby : bytes ≤ 16)
    (base : Nat) (v : Value) (n : Nat) (xs : List Value) (hs : a.eval s = v) (hown : w.ownsRow base ty 1 v n xs) (q : Option Addr) (m c : Nat) (zs : List α) (hx : a.eval x = .slice q m c) (hq : q = none → c = 0)
    (hb : SlIn enc w q m zs) (h47 : n + m ≤ 2199023255552) (hbase : base ≤ w.heap.size)
    (h : ∀ v' w', w'.ownsRow base ty 1 v' (n + m) (xs ++ zs.map enc) → w.grownBy w' v.ownBlock → wpList Try.prog ops Q rest (a.put o.dst v') w') : wpList Try.prog ops Q (o :: rest) a w := by
  cases q with
  | none =>
    obtain rfl := hq rfl
    have hm : m = 0 := by
      rcases Nat.eq_zero_or_pos m with h0 | h0
      · exact h0
      · obtain ⟨b, o, he, _⟩ := hb.at h0; cases he
    subst hm
    obtain rfl : zs = [] := List.eq_nil_of_length_eq_zero hb.1
    refine wpList_append_own_none hgd s x _ ho base ty i0 1 ht hi0 v n xs hs hown hx (h v w ?_ ⟨rfl, rfl, rfl, Nat.le_refl _, fun _ _ _ => rfl⟩)
    simpa using hown
  | some ad =>
    have hbb : (n + m) * bytes ≤ (n + m) * 16 := Nat.mul_le_mul_left _ hby
    refine wpList_append_own w hgd s x _ ho base ty i0 z 1 bytes ht hi0 hz0 hz1 hz2 hz3 (by decide) v n xs hs hown ad m c (zs.map enc) hx (by simp [hb.1]) (fun j u hj => ?_) (fun u hu => by obtain ⟨y, _, rfl⟩ := List.mem_map.1 hu; exact h1 y) (by unfold maxLen; omega) (by omega) hbase (fun v' w' h1 h2 _ => h v' w' h1 h2)
    rw [List.getElem?_map] at hj
    cases hy : zs[j]? with
    | none => rw [hy] at hj; cases hj
    | some y =>
      rw [hy] at hj
      cases hj
      have hjl : j < zs.length := (List.getElem?_eq_some_iff.1 hy).1
      obtain ⟨b, o, he, _, hcc⟩ := hb.at (by have := hb.1; omega)
      cases he
      rw [Go.WideShapes.add_plain]
      exact hcc j y hy

theorem ordered_none (q : Option Addr) (cap : Nat) (w : World) (_hcap : q = none → cap = 0) :
    Calls Try.prog 31 #[.slice q 0 cap] w fun e w' => e = .returned (.agg #[.slice q 0 cap]) ∧ Below w.heap.size w w' := by
  have con1 := fun W => Try.slices_Sort_int_none q cap W
  have con2 := fun W => Try.slices_Compact_int_empty q cap W
  have b0 := Boxed.new w 25 (.slice none 0 0)
  go_enter Try.func31, Try.ntmps31
  go_wp2_with fail
  refine (con1 _).mono ?_
  rintro e w1 ⟨rfl, rfl⟩
  go_wp2_with fail
  refine (con2 _).mono ?_
  rintro e w2 ⟨rfl, rfl⟩
  go_wp2
  have hbr2 := (b0.set (.slice q 0 cap)).cell
  refine bodyPost_ret (v := .agg #[.slice q 0 cap]) (by simp [results, Try.f31, go_sem]) rfl ⟨rfl, below_alloc _⟩

theorem setI_nil : setI [] = [] := List.eq_nil_of_length_eq_zero (Nat.le_zero.1 (setI_length []))

/-- ordered at a row of one's own. -/
theorem ordered_own (base : Nat) (v : Value) (n : Nat) (zs : List Int) (w : World) (h : w.ownsRow base 3 1 v n (zs.map (Value.int .i64))) (hbase : base ≤ w.heap.size) (hm : n ≤ 1099511627776) :
    Calls Try.prog 31 #[v] w fun e w' => ∃ q c, e = .returned (.agg #[.slice q (setI zs).length c]) ∧ SetIs (Value.int .i64) w' (.agg #[.slice q (setI zs).length c]) (setI zs) ∧ (∀ a, q = some a → base ≤ a.block ∧ a.block < w.heap.size) ∧ Below base w w' := by
  by_cases hv : v = .slice none 0 0
  · subst hv
    have hl : zs = [] := by
      have h1 := h.1
      rcases h.2 with ⟨_, h2⟩ | ⟨g, cap, cur, h2, _⟩
      · simp [h2] at h1; exact h1
      · cases h2
    subst hl
    refine (ordered_none none 0 w (fun _ => rfl)).mono fun e w' ⟨he, hb⟩ => ?_
    rw [setI_nil]
    exact ⟨none, 0, he, ⟨_, _, _, rfl, Nat.le_refl _, Nat.zero_le _, SlIn.nil _ _ _, List.Pairwise.nil⟩, (by intro a h; cases h), hb.mono hbase⟩
  · obtain ⟨g, cap, rfl, hb, hlt, hn, hcm, hl, hH⟩ := Lib.holds_of_ownsRow h hv
    subst hl
    refine (ordered_any g cap zs w hH hlt hn hm).mono fun e w' ⟨he, hs, hk⟩ => ⟨_, _, he, hs, by intro a h; cases h; exact ⟨hb, hlt⟩, (hk.mono fun b _ h => by omega).below hbase⟩

set_option maxRecDepth 100000 in
set_option maxHeartbeats 1000000 in
theorem Of_any (q : Option Addr) (n c : Nat) (zs : List Int) (w : World) (h : SlIn (Value.int .i64) w q n zs) (hq : q = none → c = 0) (hm : n ≤ 1099511627776) :
    Calls Try.prog 8 #[.slice q n c] w fun e w' => ∃ v, e = .returned v ∧ SetIs (Value.int .i64) w' v (setI zs) ∧ Below w.heap.size w w' := by
  obtain ⟨i0, hi0, hz0, hz1, hz2⟩ := info_parts info_int
  have b0 := Boxed.new w 25 (.slice none 0 0)
  have h0 := h.alloc (.cells #[.slice none 0 0] 25)
  have hb0 := below_alloc (w := w) (.cells #[.slice none 0 0] 25)
  have hsz : (w.alloc (.cells #[.slice none 0 0] 25)).heap.size = w.heap.size + 1 := by simp
  obtain ⟨W, hW⟩ : ∃ W, w.alloc (.cells #[.slice none 0 0] 25) = W := ⟨_, rfl⟩
  rw [hW] at b0 h0 hb0 hsz
  have hsz' := Lib.hid hsz
  have hl := Lib.hid h.1
  have HW := Lib.hid hW
  clear hsz h hW
  go_enter Try.func8, Try.ntmps8
  go_wp2_with (at_builtin; refine wpList_append_row (enc := Value.int .i64) rfl _ _ 22 3 rfl i0 (.int .i64 0) 8 Try.underlying22 hi0 hz0 hz1 hz2 rfl (fun _ => rfl) (by decide) (w.heap.size + 1) (.slice none 0 0) 0 [] rfl (World.ownsRow_nil _ _ _ _) q n c zs rfl hq (by rw [HW.out]; exact h0) (by omega) (by simp) ?_; intro v1 w1 hown hgrow)
  rw [HW.out] at hgrow
  simp only [Nat.zero_add, List.nil_append] at hown
  have hgs := hgrow.size
  rw [hsz'.out] at hgs
  have con := ordered_own (w.heap.size + 1) v1 n zs w1 hown hgs hm
  have hk1 : Keep (fun _ => True) W w1 := Keep.of_grownBy hgrow (fun r hr => by cases hr)
  have b1 := hk1.boxed b0 trivial
  have hb1 : Below w.heap.size w w1 := hb0.trans ((hk1.mono (T := (· < w.heap.size)) fun _ _ _ => trivial).below hb0.size)
  clear hown hgrow hk1
  go_wp2_with fail
  refine con.mono ?_
  rintro e w2 ⟨q2, c2, rfl, hset, hqb, hbel⟩
  have b2 := (Keep.of_below hbel).boxed b1 (by omega)
  have cR := b2.cell
  have fR := b2.frozen
  have hb2 := hb1.trans (hbel.mono (by omega))
  clear con
  obtain ⟨_, _, _, he, hc2, hm2, hsl, hr⟩ := hset
  cases he
  go_wp2
  have hbr2 := (b2.set (.slice q2 (setI zs).length c2)).cell
  refine bodyPost_ret (v := .agg #[.slice q2 (setI zs).length c2]) (by simp [results, Try.f8, go_sem, hbr2]) rfl ⟨_, rfl, ⟨q2, (setI zs).length, c2, rfl, hc2, hm2, ?_, hr⟩, hb2.setCell (Nat.le_refl _) _⟩
  exact hsl.keep (Keep.setCell (S := fun b => w.heap.size + 1 ≤ b) w2 ⟨w.heap.size, 0, none⟩ _ (by simp)) fun a h _ => (hqb a h).1

end Go.Proofs.Ythfclmnmnmeldaa
