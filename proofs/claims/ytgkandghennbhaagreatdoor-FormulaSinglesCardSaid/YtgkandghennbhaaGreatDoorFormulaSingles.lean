/- FormulaSingles: the law returns true at whatever input, and writes nothing that was there: its tied card. Conditions: none. -/
import Derived.Test.YtgkandghennbhaaGreatDoorBaseF
namespace Go.Proofs.YtgkandghennbhaaGreatDoor.formulaSingles
open Go.RowKit Go.Shelf Url Org Frm Cls
attribute [local go_sem] Oper.semAt_some
set_option linter.unusedVariables false

theorem mk_of (s : ByteArray) : (⟨s.data.toList.toArray⟩ : ByteArray) = s := by cases s; simp
theorem cell_two (w : World) (t : TypeId) (u v : Value) : (w.alloc (.cells #[u, v] t)).cell? ⟨w.heap.size, 0, none⟩ = some u ∧ (w.alloc (.cells #[u, v] t)).cell? ⟨w.heap.size, 1, none⟩ = some v := by
  have h := World.alloc_heap_new w (.cells #[u, v] t)
  constructor
  · show World.cell? _ ⟨w.heap.size, 0, none⟩ = _
    unfold World.cell?
    rw [h]
    rfl
  · show World.cell? _ ⟨w.heap.size, 1, none⟩ = _
    unfold World.cell?
    rw [h]
    rfl
/-- A box that holds a formula. -/
def FB (b : Nat) (q : Option Addr) (n c : Nat) (x : List (List (List UInt8))) (X : World) : Prop := Boxed X b 26 (.slice q n c) ∧ FrmIs X (.agg #[.slice q n c]) x
theorem FB.on {b : Nat} {q : Option Addr} {n c : Nat} {x : List (List (List UInt8))} {X Y : World} (h : FB b q n c x X) (hb : Below X.heap.size X Y) : FB b q n c x Y :=
  ⟨(Keep.of_below hb).boxed h.1 h.1.lt, h.2.below hb⟩
theorem FB.new {q : Option Addr} {n c : Nat} {x : List (List (List UInt8))} {X : World} (h : FrmIs X (.agg #[.slice q n c]) x) : FB X.heap.size q n c x (X.alloc (.cells #[.slice q n c] 26)) :=
  ⟨Boxed.new _ _ _, h.below (below_alloc _)⟩
theorem FB.cell {b : Nat} {q : Option Addr} {n c : Nat} {x : List (List (List UInt8))} {X : World} (h : FB b q n c x X) : X.cell? ⟨b, 0, none⟩ = some (.slice q n c) := h.1.cell

/-- A box that holds a clause. -/
def CB (b : Nat) (q : Option Addr) (n c : Nat) (x : List (List UInt8)) (X : World) : Prop := Boxed X b 44 (.slice q n c) ∧ SetIs encStr X (.agg #[.slice q n c]) x
theorem CB.on {b : Nat} {q : Option Addr} {n c : Nat} {x : List (List UInt8)} {X Y : World} (h : CB b q n c x X) (hb : Below X.heap.size X Y) : CB b q n c x Y :=
  ⟨(Keep.of_below hb).boxed h.1 h.1.lt, h.2.below hb⟩
theorem CB.new {q : Option Addr} {n c : Nat} {x : List (List UInt8)} {X : World} (h : SetIs encStr X (.agg #[.slice q n c]) x) : CB X.heap.size q n c x (X.alloc (.cells #[.slice q n c] 44)) :=
  ⟨Boxed.new _ _ _, h.below (below_alloc _)⟩
theorem CB.cell {b : Nat} {q : Option Addr} {n c : Nat} {x : List (List UInt8)} {X : World} (h : CB b q n c x X) : X.cell? ⟨b, 0, none⟩ = some (.slice q n c) := h.1.cell

theorem one_few (c : List (List UInt8)) (h : COk c) : Canon [c] :=
  ⟨Rises.cons (fun y hy => (by cases hy)) Rises.nil, fun d hd => (by rw [List.mem_singleton.1 hd]; exact h.rise), fun x hx y hy _ => (by rw [List.mem_singleton.1 hx, List.mem_singleton.1 hy])⟩
theorem twice (c : List (List UInt8)) (h : COk c) : ofF [c, c] = .inr [c] := by
  have hr : ∀ d ∈ [c, c], Rises d := fun d hd => by
    have : d = c := by simpa using hd
    rw [this]; exact h.rise
  have e : redL [c, c] = [c] := rises_ext (red_canon _ hr).rise (one_few c h).rise fun d => by
    rw [mem_red]
    constructor
    · rintro ⟨hd, _⟩
      simpa using hd
    · intro hd
      have hd : d = c := by simpa using hd
      refine ⟨by simp [hd], fun y hy _ => ?_⟩
      have : y = c := by simpa using hy
      rw [this, hd]
  unfold ofF
  rw [e, if_pos (by simp)]
theorem once (c : List (List UInt8)) (h : COk c) : ofF [c] = .inr [c] := ofF_self [c] ⟨one_few c h, fun d hd => (by rw [List.mem_singleton.1 hd]; exact h), by simp⟩
theorem single_cases (p : List UInt8) : (∃ n : Int, ofC [p] = .inl n ∧ singleR p = .inl n ∧ n ≠ 0) ∨ (ofC [p] = .inr [p] ∧ singleR p = .inr [[p]] ∧ COk [p]) := by
  cases h : ofC [p] with
  | inl n => exact .inl ⟨n, rfl, by unfold singleR; rw [h], by rcases ofC_no _ _ h with h | h <;> omega⟩
  | inr c =>
    have hk := (of_ok _ c h).1
    have e : c = [p] := by
      unfold ofC at h
      split at h
      · split at h
        · cases h; rfl
        · cases h
      · cases h
    subst e
    exact .inr ⟨rfl, by unfold singleR; rw [h]; exact once _ hk, hk⟩
theorem set_has (p : List UInt8) : S.hasS (setS [p]) p = true := by
  unfold S.hasS
  rw [List.contains_iff_mem, mem_setS]
  simp
theorem one_text (p : List UInt8) : frmT [[p]] = p := by simp [frmT, clsT]

set_option maxRecDepth 100000 in
set_option maxHeartbeats 16000000 in
theorem walk : Walks := by
  intro a0 w w0 hG
  obtain ⟨p, rfl⟩ : ∃ p : List UInt8, a0 = ⟨p.toArray⟩ := ⟨a0.data.toList, (mk_of a0).symm⟩
  clear w0
  have con := lives_any w hG
  have HG := Lib.hid hG
  have HSZ := Lib.hid (mk_size p)
  clear hG
  by_cases hbig : 300 < p.length
  · have d1 : decide ((300 : Int) < (p.length : Int)) = true := by simp; omega
    have d1' : decide ((300 : Int) < ((⟨p.toArray⟩ : ByteArray).size : Int)) = true := by rewrite [HSZ.out]; exact d1
    clear hbig
    go_enter Tryz.func5, Tryz.ntmps5
    go_wp2_with fail
    refine con.mono ?_
    rintro e X1 ⟨rfl, B_1⟩
    clear con
    have con := lives_any X1 (HG.out.on B_1)
    go_wp2_with fail
    refine con.mono ?_
    rintro e X2 ⟨rfl, hb⟩
    clear con
    go_wp2
    go_ret
    exact ⟨rfl, B_1.trans (hb.mono B_1.size)⟩
  have d1 : decide ((300 : Int) < (p.length : Int)) = false := by simp; omega
  have d1' : decide ((300 : Int) < ((⟨p.toArray⟩ : ByteArray).size : Int)) = false := by rewrite [HSZ.out]; exact d1
  have hpl : p.length ≤ 1300 := by omega
  clear hbig
  go_enter Tryz.func5, Tryz.ntmps5
  go_wp2_with fail
  refine con.mono ?_
  rintro e X1 ⟨rfl, B_1⟩
  clear con
  have con := Single_any p X1 hpl (HG.out.on B_1)
  go_wp2_with fail
  refine con.mono ?_
  rintro e X2 ⟨q3, n3, c3, rfl, hs3, _, hb⟩
  have B_2 := B_1.trans (hb.mono B_1.size)
  clear con hb B_1 d1 d1'
  obtain ⟨b3, hb3⟩ : ∃ b, X2.heap.size = b := ⟨_, rfl⟩
  obtain ⟨X3, hX3⟩ : ∃ Z, X2.alloc (.cells #[.slice q3 n3 c3] 26) = Z := ⟨_, rfl⟩
  have F3 : FB b3 q3 n3 c3 (frmV (singleR p)) X3 := by rw [← hX3, ← hb3]; exact FB.new hs3
  have hb : Below X2.heap.size X2 X3 := by rw [← hX3]; exact below_alloc _
  have B_3 := B_2.trans (hb.mono B_2.size)
  clear hb B_2 hs3
  obtain ⟨X4, hX4⟩ : ∃ Z, X3.alloc (.cells #[.string ⟨p.toArray⟩] 9) = Z := ⟨_, rfl⟩
  have bp : Boxed X4 X3.heap.size 9 (.string ⟨p.toArray⟩) := by rw [← hX4]; exact Boxed.new _ _ _
  have hb : Below X3.heap.size X3 X4 := by rw [← hX4]; exact below_alloc _
  have hz3 : X3.heap.size = b3 + 1 := by rw [← hX3, ← hb3]; simp
  have B_4 := B_3.trans (hb.mono B_3.size)
  replace F3 := F3.on hb
  have hsl : SlIn encStr X4 (some ⟨b3 + 1, 0, none⟩) 1 [p] := ⟨rfl, fun _ => ⟨_, _, rfl, by rw [← hz3]; exact bp.lt, fun i x hx => by
    cases i with
    | zero => cases hx; rw [← hz3]; exact bp.cell
    | succ i => simp at hx⟩⟩
  have con := Cls.Of_any (some ⟨b3 + 1, 0, none⟩) 1 1 [p] X4 hsl (fun h => by cases h) (by decide) (fun t ht => by rw [List.mem_singleton.1 ht]; exact hpl) (HG.out.on B_4)
  have HX3 := Lib.hid hX3
  have HX4 := Lib.hid hX4
  have HB3 := Lib.hid hb3
  have HZ3 := Lib.hid hz3
  clear hX3 hX4 hb3 hz3 hb bp hsl B_3
  go_wp2_with fail
  rewrite [HB3.out, HX3.out, HX4.out]
  refine con.mono ?_
  rintro e X5 ⟨q5, n5, c5, rfl, hs5, hb⟩
  have B_5 := B_4.trans (hb.mono B_4.size)
  replace F3 := F3.on hb
  clear con hb B_4 HX3 HX4 HB3 HZ3
  obtain ⟨b5, hb5⟩ : ∃ b, X5.heap.size = b := ⟨_, rfl⟩
  obtain ⟨X6, hX6⟩ : ∃ Z, X5.alloc (.cells #[.slice q5 n5 c5] 44) = Z := ⟨_, rfl⟩
  have C5 : CB b5 q5 n5 c5 (valC (ofC [p])) X6 := by rw [← hX6, ← hb5]; exact CB.new hs5
  have hb : Below X5.heap.size X5 X6 := by rw [← hX6]; exact below_alloc _
  have B_6 := B_5.trans (hb.mono B_5.size)
  replace F3 := F3.on hb
  have hz6 : X6.heap.size = b5 + 1 := by rw [← hX6, ← hb5]; simp
  have HZ6 := Lib.hid hz6
  clear hb B_5 hs5 hz6
  have HX6 := Lib.hid hX6
  have HB5 := Lib.hid hb5
  clear hX6 hb5
  rcases single_cases p with ⟨n, hc, hsr, hn⟩ | ⟨hc, hsr, hk⟩
  · rewrite [hsr] at F3
    rewrite [hc, hsr]
    clear C5 hc hsr
    unfold errC frmE
    have e1 : ((n : Int) != n) = false := by simp
    have e2 : ((n : Int) != 0) = true := by rw [bne_iff_ne]; exact hn
    have con := Frm.Len_any _ _ X6 F3.2
    have x3 : (X5.alloc (.cells #[.slice q5 n5 c5] 44)).cell? ⟨b3, 0, none⟩ = some (.slice q3 n3 c3) := by rw [HX6.out]; exact F3.cell
    clear hn
    go_wp2_with fail
    rewrite [HB5.out, HX6.out]
    go_wp2_with fail
    refine con.mono ?_
    rintro e X7 ⟨rfl, hb⟩
    have B_7 := B_6.trans (hb.mono B_6.size)
    clear con
    go_wp2
    go_ret
    exact ⟨by first | rfl | simp [frmV], B_7⟩
  rewrite [hsr] at F3
  rewrite [hc] at C5
  rewrite [hc, hsr]
  clear hc hsr
  replace F3 : FB b3 q3 n3 c3 [[p]] X6 := F3
  replace C5 : CB b5 q5 n5 c5 [p] X6 := C5
  unfold errC frmE
  have x5 : (X5.alloc (.cells #[.slice q5 n5 c5] 44)).cell? ⟨b5, 0, none⟩ = some (.slice q5 n5 c5) := by rw [HX6.out]; exact C5.cell
  obtain ⟨X7, hX7⟩ : ∃ Z, X6.alloc (.cells #[.slice q5 n5 c5, .slice q5 n5 c5] 44) = Z := ⟨_, rfl⟩
  have hc0 : X7.cell? ⟨X6.heap.size, 0, none⟩ = some (.slice q5 n5 c5) := by rw [← hX7]; exact (cell_two _ _ _ _).1
  have hc1 : X7.cell? ⟨X6.heap.size, 1, none⟩ = some (.slice q5 n5 c5) := by rw [← hX7]; exact (cell_two _ _ _ _).2
  have hlt : X6.heap.size < X7.heap.size := World.block_lt_of_cell? _ _ hc0
  have hb : Below X6.heap.size X6 X7 := by rw [← hX7]; exact below_alloc _
  have B_7 := B_6.trans (hb.mono B_6.size)
  replace F3 := F3.on hb
  replace C5 := C5.on hb
  have hcl : ClsIn X7 (some ⟨X6.heap.size, 0, none⟩) 2 [[p], [p]] := ⟨[((q5, n5, c5), [p]), ((q5, n5, c5), [p])], ⟨rfl, fun _ => ⟨_, _, rfl, hlt, fun i x hx => by
    match i, hx with
    | 0, hx => cases hx; exact hc0
    | 1, hx => cases hx; exact hc1
    | i + 2, hx => simp at hx⟩⟩, fun z hz => by
      have hz : z = ((q5, n5, c5), [p]) := by simpa using hz
      rw [hz]
      exact ⟨C5.2, by simp⟩, rfl⟩
  have con := Frm.Of_any (some ⟨X6.heap.size, 0, none⟩) 2 2 [[p], [p]] X7 hcl (fun h => by cases h) (by decide)
  rewrite [twice [p] hk, HZ6.out] at con
  have HX7 := Lib.hid hX7
  clear hX7 hc0 hc1 hlt hb hcl B_6 C5 hk
  go_wp2_with fail
  rewrite [HB5.out, HX6.out]
  go_wp2_with fail
  rewrite [HX7.out]
  refine con.mono ?_
  rintro e X8 ⟨q7, n7, c7, rfl, hs7, _, hb⟩
  replace hs7 : FrmIs X8 (.agg #[.slice q7 n7 c7]) [[p]] := hs7
  have B_8 := B_7.trans (hb.mono B_7.size)
  replace F3 := F3.on hb
  clear con hb B_7 x5 HX6 HB5 HX7
  unfold frmE
  obtain ⟨b7, hb7⟩ : ∃ b, X8.heap.size = b := ⟨_, rfl⟩
  obtain ⟨X9, hX9⟩ : ∃ Z, X8.alloc (.cells #[.slice q7 n7 c7] 26) = Z := ⟨_, rfl⟩
  have F7 : FB b7 q7 n7 c7 [[p]] X9 := by rw [← hX9, ← hb7]; exact FB.new hs7
  have hb : Below X8.heap.size X8 X9 := by rw [← hX9]; exact below_alloc _
  have B_9 := B_8.trans (hb.mono B_8.size)
  replace F3 := F3.on hb
  clear hb B_8 hs7
  have HX9 := Lib.hid hX9
  have HB7 := Lib.hid hb7
  clear hX9 hb7
  have x3 : (X8.alloc (.cells #[.slice q7 n7 c7] 26)).cell? ⟨b3, 0, none⟩ = some (.slice q3 n3 c3) := by rw [HX9.out]; exact F3.cell
  have x7 : (X8.alloc (.cells #[.slice q7 n7 c7] 26)).cell? ⟨b7, 0, none⟩ = some (.slice q7 n7 c7) := by rw [HX9.out]; exact F7.cell
  have con := Frm.Same_any _ _ [[p]] [[p]] X9 F7.2 F3.2 (by simp) (by simp)
  rewrite [decide_eq_true (rfl : ([[p]] : List (List (List UInt8))) = [[p]])] at con
  go_wp2_with fail
  rewrite [HB7.out, HX9.out]
  go_wp2_with fail
  refine con.mono ?_
  rintro e X10 ⟨rfl, hb⟩
  have B_10 := B_9.trans (hb.mono B_9.size)
  replace F3 := F3.on hb
  clear con hb B_9 x3 x7 F7 HX9 HB7
  have con := Frm.Len_any _ _ X10 F3.2
  have x3 := F3.cell
  go_wp2_with fail
  refine con.mono ?_
  rintro e X11 ⟨rfl, hb⟩
  have B_11 := B_10.trans (hb.mono B_10.size)
  replace F3 := F3.on hb
  clear con hb B_10 x3
  have con := Frm.Text_any _ _ X11 F3.2 (by simp) (by rw [one_text]; omega)
  rewrite [one_text] at con
  have x3 := F3.cell
  have e1 : (p == p) = true := beq_self_eq_true p
  go_wp2_with fail
  refine con.mono ?_
  rintro e X12 ⟨rfl, hb⟩
  have B_12 := B_11.trans (hb.mono B_11.size)
  replace F3 := F3.on hb
  clear con hb B_11 x3
  have con := Principals_one _ [p] X12 F3.2 (by simp)
  have x3 := F3.cell
  go_wp2_with fail
  refine con.mono ?_
  rintro e X13 ⟨q63, n63, c63, rfl, hs63, hb⟩
  have B_13 := B_12.trans (hb.mono B_12.size)
  clear con hb B_12 x3 F3
  have con := S.Has_any _ _ p X13 hs63
  rewrite [set_has] at con
  go_wp2_with fail
  refine con.mono ?_
  rintro e X14 ⟨rfl, hb⟩
  have B_14 := B_13.trans (hb.mono B_13.size)
  clear con hb B_13
  go_wp2
  go_ret
  exact ⟨by first | rfl | simp, B_14⟩

theorem proved : Rows.FormulaSinglesCardSaid := card walk
end Go.Proofs.YtgkandghennbhaaGreatDoor.formulaSingles
