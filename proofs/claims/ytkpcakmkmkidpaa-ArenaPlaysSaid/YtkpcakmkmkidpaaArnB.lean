/- Package arena: New, Put, Get, Set, Drop. Conditions: numbers of at most 2^40. -/
import Derived.Test.YtkpcakmkmkidpaaArnA
import Derived.Maps.AppendAt
import Derived.Maps.OwnIn
import Derived.Deep.Cut
namespace Go.Proofs.Ytkpcakmkmkidpaa.Arn
open Go.RowKit
attribute [local go_sem] Oper.semAt_some
set_option linter.unusedVariables false

theorem info_slot : (Try.prog.info? 66).map (fun i => (i.zero, i.size, i.bytes)) = some (some (.agg #[.int .i64 0, .int .i64 0, .bool false]), 3, 24) := by kernel_rfl
theorem info_arn {t : TypeId} {P : Program} {z : Value} {s b : Nat} (h : (P.info? t).map (fun i => (i.zero, i.size, i.bytes)) = some (some z, s, b)) : ∃ i, P.info? t = some i ∧ i.zero = some z ∧ i.size = s ∧ i.bytes = b := by
  cases hi : P.info? t with
  | none => rw [hi] at h; cases h
  | some i =>
    rw [hi] at h
    simp only [Option.map_some, Option.some.injEq, Prod.mk.injEq] at h
    exact ⟨i, rfl, h.1, h.2.1, h.2.2⟩
theorem blk_alloc {w : World} (o : Obj) : Below w.heap.size w (w.alloc o) := (Below.refl _ _).alloc (Nat.le_refl _) _
theorem blk_cells (w : World) (xs : List Value) (t : TypeId) : ∀ j u, xs[j]? = some u → (w.alloc (.cells xs.toArray t)).cell? ((⟨w.heap.size, 0, none⟩ : Addr).add j) = some u := by
  intro j u hu
  have h := BL.cell (BL.new t w xs.toArray) j u (by simpa using hu)
  have e : (⟨w.heap.size, 0, none⟩ : Addr).add j = ⟨w.heap.size, j, none⟩ := by unfold Addr.add; split <;> simp_all
  rw [e]
  exact h

/-! ### plain -/
def putL (size : Nat) (sl : List (Sl Int)) (x : Int) : List (Sl Int) := match freeF sl with
  | some i => (match sl[i]? with | some s => sl.set i ⟨s.n + 1, some x⟩ | none => sl)
  | none => if sl.length < size then sl ++ [⟨1, some x⟩] else sl
def putHd (size : Nat) (sl : List (Sl Int)) : Int := match freeF sl with
  | some i => (match sl[i]? with | some s => hOf (s.n + 1) i | none => 0)
  | none => if sl.length < size then hOf 1 sl.length else 0
def putE (size : Nat) (sl : List (Sl Int)) : Int := match freeF sl with
  | some _ => 0
  | none => if sl.length < size then 0 else 6
def getX (sl : List (Sl Int)) (h : Int) : Option Int := match findS sl h with
  | some i => (match sl[i]? with | some s => s.x | none => none)
  | none => none

/-! ### what is written -/
/-- Nothing but the arena's block and row has changed; its new row is the elder one, or new. -/
def Wrote (b : Nat) (v v' : Value) (w w' : World) : Prop := Keep (fun k => k ≠ b ∧ v.ownBlock ≠ some k) w w' ∧ ∀ k, v'.ownBlock = some k → v.ownBlock = some k ∨ w.heap.size ≤ k
theorem Wrote.refl (b : Nat) (v : Value) (w : World) : Wrote b v v w w := ⟨Keep.refl _ _, fun k h => .inl h⟩
theorem At.set {base b size g cap : Nat} {sl : List (Sl Int)} {w : World} (h : At base b size (.slice (some ⟨g, 0, none⟩) sl.length cap) sl w) (i : Nat) (s : Sl Int) (hi : i < sl.length) :
    At base b size (.slice (some ⟨g, 0, none⟩) (sl.set i s).length cap) (sl.set i s) (((w.setCell ⟨g, i * 3, none⟩ (.int .i64 (s.x.getD 0))).setCell ⟨g, i * 3 + 1, none⟩ (.int .i64 s.n)).setCell ⟨g, i * 3 + 2, none⟩ (.bool s.x.isSome)) ∧
    Wrote b (.slice (some ⟨g, 0, none⟩) sl.length cap) (.slice (some ⟨g, 0, none⟩) (sl.set i s).length cap) w (((w.setCell ⟨g, i * 3, none⟩ (.int .i64 (s.x.getD 0))).setCell ⟨g, i * 3 + 1, none⟩ (.int .i64 s.n)).setCell ⟨g, i * 3 + 2, none⟩ (.bool s.x.isSome)) := by
  have h1 := h.row.stored (i * 3) (.int .i64 (s.x.getD 0))
  have h2 := h1.1.stored (i * 3 + 1) (.int .i64 s.n)
  have h3 := h2.1.stored (i * 3 + 2) (.bool s.x.isSome)
  have hbg : b ≠ g := fun e => (BL.ne_row h.bl (by decide) h.row) (by rw [e]; rfl)
  have hr := h3.1
  rw [← slsC_set sl i s hi] at hr
  have hk : Keep (fun k => k ≠ g) w (((w.setCell ⟨g, i * 3, none⟩ (.int .i64 (s.x.getD 0))).setCell ⟨g, i * 3 + 1, none⟩ (.int .i64 s.n)).setCell ⟨g, i * 3 + 2, none⟩ (.bool s.x.isSome)) :=
    ((Keep.setCell w _ _ (by simp)).trans (Keep.setCell _ _ _ (by simp))).trans (Keep.setCell _ _ _ (by simp))
  rw [List.length_set]
  refine ⟨⟨h.bl.keep hk hbg, h.lo, by rw [List.length_set]; exact hr, by rw [List.length_set]; exact h.len, h.size1, h.size2⟩, hk.mono fun k _ hk => fun e => hk.2 (by rw [e]; rfl), fun k hk => .inl hk⟩

theorem set_same {l : List Value} {i : Nat} {x : Value} (h : l[i]? = some x) : l.set i x = l := by
  obtain ⟨hi, rfl⟩ := List.getElem?_eq_some_iff.1 h
  exact List.set_getElem_self hi
theorem At.set1 {base b size g cap : Nat} {sl : List (Sl Int)} {w : World} (h : At base b size (.slice (some ⟨g, 0, none⟩) sl.length cap) sl w) {i : Nat} {s : Sl Int} (hi : sl[i]? = some s) (hx : s.x.isSome = true) (x : Int) :
    At base b size (.slice (some ⟨g, 0, none⟩) (sl.set i ⟨s.n, some x⟩).length cap) (sl.set i ⟨s.n, some x⟩) (w.setCell ⟨g, i * 3, none⟩ (.int .i64 x)) ∧
    Wrote b (.slice (some ⟨g, 0, none⟩) sl.length cap) (.slice (some ⟨g, 0, none⟩) (sl.set i ⟨s.n, some x⟩).length cap) w (w.setCell ⟨g, i * 3, none⟩ (.int .i64 x)) := by
  have h1 := h.row.stored (i * 3) (.int .i64 x)
  have hlt := (List.getElem?_eq_some_iff.1 hi).1
  have hbg : b ≠ g := fun e => (BL.ne_row h.bl (by decide) h.row) (by rw [e]; rfl)
  have hr := h1.1
  have e : (slsC sl).set (i * 3) (.int .i64 x) = slsC (sl.set i ⟨s.n, some x⟩) := by
    rw [slsC_set sl i _ hlt]
    obtain ⟨-, a2, a3⟩ := slsC_at sl i s hi
    rw [hx] at a3
    symm
    rw [set_same (i := i * 3 + 2), set_same (i := i * 3 + 1)]
    · rfl
    · rw [List.getElem?_set_ne (by omega)]; exact a2
    · rw [List.getElem?_set_ne (by omega), List.getElem?_set_ne (by omega)]; exact a3
  rw [e] at hr
  have hk : Keep (fun k => k ≠ g) w (w.setCell ⟨g, i * 3, none⟩ (.int .i64 x)) := Keep.setCell w _ _ (by simp)
  rw [List.length_set]
  refine ⟨⟨h.bl.keep hk hbg, h.lo, by rw [List.length_set]; exact hr, by rw [List.length_set]; exact h.len, h.size1, h.size2⟩, hk.mono fun k _ hk => fun e => hk.2 (by rw [e]; rfl), fun k hk => .inl hk⟩

theorem New_bad (n : Int) (w : World) (h : n < 1 ∨ 1024 < n) : Calls Try.prog 7 #[.int .i64 n] w fun e w' => e = .returned (.pointer none) ∧ w = w' := by
  by_cases h1 : n < 1
  · have d1 : decide (n < 1) = true := decide_eq_true h1
    clear h
    go_enter Try.func7, Try.ntmps7
    go_wp2
    go_ret
    exact ⟨rfl, rfl⟩
  · have d1 : decide (n < 1) = false := decide_eq_false h1
    have d2 : decide (1024 < n) = true := decide_eq_true (by omega)
    clear h
    go_enter Try.func7, Try.ntmps7
    go_wp2
    go_ret
    exact ⟨rfl, rfl⟩
theorem New_good (n : Int) (w : World) (h : 1 ≤ n ∧ n ≤ 1024) : Calls Try.prog 7 #[.int .i64 n] w fun e w' => e = .returned (.pointer (some ⟨w.heap.size, 0, none⟩)) ∧ w' = w.alloc (.cells #[.int .i64 n, .slice none 0 0] 64) := by
  have d1 : decide (n < 1) = false := decide_eq_false (by omega)
  have d2 : decide (1024 < n) = false := decide_eq_false (by omega)
  clear h
  go_enter Try.func7, Try.ntmps7
  go_wp2
  go_ret
  exact ⟨rfl, rfl⟩
theorem At.new (base size : Nat) (w : World) (hb : base ≤ w.heap.size) (h1 : 1 ≤ size) (h2 : size ≤ 1024) : At base w.heap.size size (.slice none 0 0) [] (w.alloc (.cells #[.int .i64 size, .slice none 0 0] 64)) :=
  ⟨BL.new _ w _, hb, World.ownsRow_nil _ _ _ _, Nat.zero_le _, h1, h2⟩

theorem Get_any (base b size : Nat) (v : Value) (sl : List (Sl Int)) (h : Int) (w : World) (ha : At base b size v sl w) (hf : Few 1099511627776 sl) (hh : -9223372036854775808 ≤ h ∧ h ≤ 9223372036854775807) :
    Calls Try.prog 9 #[.pointer (some ⟨b, 0, none⟩), .int .i64 h] w fun e w' => e = .returned (.tuple #[.int .i64 ((getX sl h).getD 0), .bool (getX sl h).isSome]) ∧ Below w.heap.size w w' := by
  have con := of_any base b size v sl h w ha hf hh
  have HA := Lib.hid ha
  clear ha hf hh
  go_enter Try.func9, Try.ntmps9
  go_wp2_with fail
  refine con.mono ?_
  rintro e w' ⟨⟨hn, rfl⟩ | ⟨g, cap, i, rfl, hi, rfl⟩, rfl⟩
  · have HE := Lib.hid (show getX sl h = none by unfold getX; rw [hn])
    clear con hn
    go_wp2
    go_ret2
    exact ⟨by rw [HE.out]; rfl, blk_alloc _⟩
  · obtain ⟨hlt, s, hs, hx⟩ : i < sl.length ∧ ∃ s, sl[i]? = some s ∧ s.x.isSome = true := by
      obtain ⟨s, x, h1, h2, -⟩ := (find_is sl h i (by have := HA.out.len; have := HA.out.size2; omega)).1 hi
      exact ⟨(List.getElem?_eq_some_iff.1 h1).1, s, h1, by rw [h2]; rfl⟩
    obtain ⟨c0, c1, c2⟩ := HA.out.cells hs
    obtain ⟨x, hx2⟩ := Option.isSome_iff_exists.1 hx
    rw [hx2] at c0
    replace c0 : w.cell? ⟨g, i * 3, none⟩ = some (.int .i64 x) := c0
    have HE := Lib.hid (show getX sl h = some x by unfold getX; simp only [hi, hs]; exact hx2)
    clear con hi hs hx hx2 c1 c2
    go_wp2
    go_ret2
    exact ⟨by rw [HE.out]; rfl, Below.refl _ _⟩

theorem Set_any (base b size : Nat) (v : Value) (sl : List (Sl Int)) (h x : Int) (w : World) (ha : At base b size v sl w) (hf : Few 1099511627776 sl) (hh : -9223372036854775808 ≤ h ∧ h ≤ 9223372036854775807) :
    Calls Try.prog 12 #[.pointer (some ⟨b, 0, none⟩), .int .i64 h, .int .i64 x] w fun e w' => e = .returned (.bool (findS sl h).isSome) ∧ ∃ v', At base b size v' (setS sl h x) w' ∧ Wrote b v v' w w' := by
  have con := of_any base b size v sl h w ha hf hh
  have HA := Lib.hid ha
  clear ha hf hh
  go_enter Try.func12, Try.ntmps12
  go_wp2_with fail
  refine con.mono ?_
  rintro e w' ⟨⟨hn, rfl⟩ | ⟨g, cap, i, rfl, hi, rfl⟩, rfl⟩
  · have HE := Lib.hid hn
    clear con hn
    go_wp2
    go_ret
    exact ⟨by rw [HE.out]; rfl, v, by unfold setS; rw [HE.out]; exact HA.out, Wrote.refl _ _ _⟩
  · obtain ⟨s, y, h1, h2, -⟩ := (find_is sl h i (by have := HA.out.len; have := HA.out.size2; omega)).1 hi
    have hlt := (List.getElem?_eq_some_iff.1 h1).1
    have c0 := (HA.out.cells h1).1
    have f0 := HA.out.row.frozenAt (i * 3)
    have HE := Lib.hid hi
    have hset := HA.out.set1 h1 (by rw [h2]; rfl) x
    have HS := Lib.hid (show setS sl h x = sl.set i ⟨s.n, some x⟩ by unfold setS; simp only [hi, h1])
    have HSE := Lib.hid hset
    clear con hi h1 h2 hset
    go_wp2
    go_ret
    refine ⟨by rw [HE.out]; rfl, _, by rw [HS.out]; exact HSE.out.1, HSE.out.2⟩

set_option maxRecDepth 100000 in
theorem Drop_any (base b size : Nat) (v : Value) (sl : List (Sl Int)) (h : Int) (w : World) (ha : At base b size v sl w) (hf : Few 1099511627776 sl) (hh : -9223372036854775808 ≤ h ∧ h ≤ 9223372036854775807) :
    Calls Try.prog 13 #[.pointer (some ⟨b, 0, none⟩), .int .i64 h] w fun e w' => e = .returned (.bool (findS sl h).isSome) ∧ ∃ v', At base b size v' (dropS sl h) w' ∧ Wrote b v v' w w' := by
  have con := of_any base b size v sl h w ha hf hh
  have HA := Lib.hid ha
  clear ha hf hh
  go_enter Try.func13, Try.ntmps13
  go_wp2_with fail
  refine con.mono ?_
  rintro e w' ⟨⟨hn, rfl⟩ | ⟨g, cap, i, rfl, hi, rfl⟩, rfl⟩
  · have HE := Lib.hid hn
    clear con hn
    go_wp2
    go_ret
    exact ⟨by rw [HE.out]; rfl, v, by unfold dropS; rw [HE.out]; exact HA.out, Wrote.refl _ _ _⟩
  · obtain ⟨s, y, h1, h2, -⟩ := (find_is sl h i (by have := HA.out.len; have := HA.out.size2; omega)).1 hi
    have hlt := (List.getElem?_eq_some_iff.1 h1).1
    obtain ⟨c0, c1, c2⟩ := HA.out.cells h1
    have f0 := HA.out.row.frozenAt (i * 3)
    have f1 := HA.out.row.frozenAt (i * 3 + 1)
    have f2 := HA.out.row.frozenAt (i * 3 + 2)
    have HE := Lib.hid hi
    have hset := HA.out.set i ⟨s.n, none⟩ hlt
    have HS := Lib.hid (show dropS sl h = sl.set i ⟨s.n, none⟩ by unfold dropS; simp only [hi, h1])
    obtain ⟨m, hm⟩ : ∃ m, s.n = m := ⟨_, rfl⟩
    rw [hm] at c1 hset HS
    have HSE := Lib.hid hset
    clear con hi h1 h2 hset hm
    go_wp2
    go_ret
    refine ⟨by rw [HE.out]; rfl, _, by rw [HS.out]; exact HSE.out.1, HSE.out.2⟩
/-- One more slot, empty, behind the others. -/
theorem At.more {base b size : Nat} {v v' : Value} {sl : List (Sl Int)} {w w1 w2 : World} (h : At base b size v sl w) (hw : Below w.heap.size w w1) (hlt : sl.length < size) (hb : base ≤ w.heap.size)
    (hown : w2.ownsRow base 66 3 v' (sl.length + 1) (slsC sl ++ [.int .i64 0, .int .i64 0, .bool false])) (hg : w1.grownBy w2 v.ownBlock) (hat : v'.ownBlock = v.ownBlock ∨ v'.ownBlock = some w1.heap.size) :
    At base b size v' (sl ++ [⟨0, none⟩]) (w2.setCell ⟨b, 1, none⟩ v') ∧ Wrote b v v' w (w2.setCell ⟨b, 1, none⟩ v') := by
  have hbl := h.bl.on hw
  have hne := BL.ne_row hbl (by decide) ((h.on hw).row)
  have hb2 : BL 64 b #[.int .i64 size, v] w2 := (hg.block b hbl.lt (fun e => hne e.symm)).trans hbl
  have hne2 := BL.ne_row hb2 (by decide) hown
  have hb3 := hb2.set 1 v'
  have k1 : Keep (fun k => k ≠ b ∧ v.ownBlock ≠ some k) w w2 := ((Keep.of_below hw).mono fun k hk _ => hk).trans (Keep.of_grownBy hg (fun r hr h => h.2 hr))
  have k2 : Keep (fun k => k ≠ b) w2 (w2.setCell ⟨b, 1, none⟩ v') := Keep.setCell w2 _ _ (by simp)
  refine ⟨⟨hb3, h.lo, ?_, by rw [List.length_append]; simp; omega, h.size1, h.size2⟩, k1.trans (k2.mono fun k _ hk => hk.1), fun k hk => ?_⟩
  · rw [slsC_app, List.length_append]
    exact k2.row hown fun k hk e => hne2 (e ▸ hk)
  · rcases hat with e | e
    · exact .inl (by rw [← e]; exact hk)
    · rw [e] at hk
      cases hk
      exact .inr hw.size
theorem Wrote.trans {b : Nat} {v v1 v2 : Value} {w w1 w2 : World} (h : Wrote b v v1 w w1) (k : Wrote b v1 v2 w1 w2) : Wrote b v v2 w w2 := by
  refine ⟨⟨k.1.os.trans h.1.os, k.1.tape.trans h.1.tape, k.1.output.trans h.1.output, Nat.le_trans h.1.size k.1.size, fun j hj hs => (k.1.block j (Nat.lt_of_lt_of_le hj h.1.size) ⟨hs.1, fun e => ?_⟩).trans (h.1.block j hj hs)⟩, fun j hj => ?_⟩
  · rcases h.2 j e with h1 | h1
    · exact hs.2 h1
    · omega
  · rcases k.2 j hj with h1 | h1
    · exact h.2 j h1
    · exact .inr (Nat.le_trans h.1.size h1)
theorem fr_some {sl : List (Sl Int)} {i : Nat} (h : freeF sl = some i) : ∃ s, sl[i]? = some s ∧ s.x = none ∧ frN sl = i ∧ i < sl.length := by
  obtain ⟨s, hs, hx⟩ := free_lt sl i h
  exact ⟨s, hs, hx, by unfold frN; rw [h]; rfl, (List.getElem?_eq_some_iff.1 hs).1⟩
theorem fr_none {sl : List (Sl Int)} (h : freeF sl = none) : frN sl = sl.length := by unfold frN; rw [h]; rfl

/-- What Put leaves. -/
def PutOut (base b size : Nat) (v : Value) (sl : List (Sl Int)) (x : Int) (w : World) (e : Ending) (w' : World) : Prop :=
  e = .returned (.tuple #[.int .i64 (putHd size sl), .int .i64 (putE size sl)]) ∧ ∃ v', At base b size v' (putL size sl x) w' ∧ Wrote b v v' w w'

set_option maxRecDepth 100000 in
set_option maxHeartbeats 4000000 in
theorem Put_any (base b size : Nat) (v : Value) (sl : List (Sl Int)) (x : Int) (w : World) (ha : At base b size v sl w) (hf : Few 1000000 sl) (hb : base ≤ w.heap.size) :
    Calls Try.prog 8 #[.pointer (some ⟨b, 0, none⟩), .int .i64 x] w (PutOut base b size v sl x w) := by
  have con := free_any base b size v sl w ha
  have c0 : w.cell? ⟨b, 0, none⟩ = some (.int .i64 size) := ha.bl.cell 0 _ rfl
  have c1 : w.cell? ⟨b, 1, none⟩ = some v := ha.bl.cell 1 _ rfl
  have hl := ha.len
  have hs := ha.size2
  have HA := Lib.hid ha
  cases hfr : freeF sl with
  | some i =>
    obtain ⟨s, hsi, hsx, hfn, hlt⟩ := fr_some hfr
    have hn := hf s (List.mem_of_getElem? hsi)
    obtain ⟨g, cap, rfl⟩ : ∃ g cap, v = .slice (some ⟨g, 0, none⟩) sl.length cap := by
      rcases ha.form with ⟨-, rfl⟩ | h
      · simp at hlt
      · exact h
    obtain ⟨d0, d1, d2⟩ := ha.cells hsi
    have f0 := ha.row.frozenAt (i * 3)
    have f1 := ha.row.frozenAt (i * 3 + 1)
    have f2 := ha.row.frozenAt (i * 3 + 2)
    have hset := ha.set i ⟨s.n + 1, some x⟩ hlt
    obtain ⟨e0, e1, e2⟩ := hset.1.cells (show (sl.set i ⟨s.n + 1, some x⟩)[i]? = some ⟨s.n + 1, some x⟩ by simp [hlt])
    obtain ⟨m, hm⟩ : ∃ m, s.n = m := ⟨_, rfl⟩
    have H1 := Lib.hid (show putHd size sl = hOf (m + 1) i by unfold putHd; simp only [hfr, hsi]; rw [hm])
    have H2 := Lib.hid (show putE size sl = 0 by unfold putE; simp only [hfr])
    have H3 := Lib.hid (show putL size sl x = sl.set i ⟨m + 1, some x⟩ by unfold putL; simp only [hfr, hsi]; rw [hm])
    rw [hm] at d1 hset e1 hn
    rw [hfn] at con
    have HH := Lib.hid (fun W hc => handle_any g (i * 3) i (m + 1) W hc (by omega) (by omega))
    have HSET := Lib.hid hset
    have HE1 := Lib.hid e1
    obtain ⟨n, hn2⟩ : ∃ n, sl.length = n := ⟨_, rfl⟩
    rw [hn2] at c1 hlt hl
    clear hfr hsi hsx hfn hset ha hf hm e0 e1 e2
    have g1 : ((i : Int) == (size : Int)) = false := by rw [beq_eq_false_iff_ne]; omega
    have g2 : ((i : Int) == (n : Int)) = false := by rw [beq_eq_false_iff_ne]; omega
    have HN := Lib.hid hn2
    clear hn2
    go_enter Try.func8, Try.ntmps8
    go_wp2_with fail
    refine con.mono ?_
    rintro e w' ⟨rfl, rfl⟩
    clear con
    go_wp2_with fail
    refine (HH.out _ HE1.out).mono ?_
    rintro e w' ⟨rfl, rfl⟩
    go_wp2
    go_ret2
    exact ⟨by rw [H1.out, H2.out]; rfl, _, by rw [H3.out]; exact HSET.out.1, HSET.out.2⟩
  | none =>
    have hfn := fr_none hfr
    rw [hfn] at con
    by_cases hlt : sl.length < size
    · have H1 := Lib.hid (show putHd size sl = hOf 1 sl.length by unfold putHd; simp only [hfr, if_pos hlt])
      have H2 := Lib.hid (show putE size sl = 0 by unfold putE; simp only [hfr, if_pos hlt])
      have H3 := Lib.hid (show putL size sl x = sl ++ [⟨1, some x⟩] by unfold putL; simp only [hfr, if_pos hlt])
      obtain ⟨i0, hi0, hz0, hz1, hz2⟩ := info_arn info_slot
      obtain ⟨n, hn⟩ : ∃ n, sl.length = n := ⟨_, rfl⟩
      have hrow := ha.row.alloc (.cells #[.int .i64 0, .int .i64 0, .bool false] 66)
      rw [hn] at con hlt hl hrow
      have g1 : ((n : Int) == (size : Int)) = false := by rw [beq_eq_false_iff_ne]; omega
      have g2 : ((n : Int) == (n : Int)) = true := by simp
      have hm2 : (n + 1) * 24 ≤ 140737488355328 := by omega
      have hm3 : n + 1 ≤ maxLen := by unfold maxLen; omega
      have HN := Lib.hid hn
      obtain ⟨q, cap, hv, -⟩ := ha.sl
      rw [hn] at hv
      subst hv
      clear hfr hfn ha hf hn
      go_enter Try.func8, Try.ntmps8
      go_wp2_with fail
      refine con.mono ?_
      rintro e w' ⟨rfl, rfl⟩
      clear con
      go_upto_region 9 with (
        at_builtin
        go_must (refine wpList_append_own_at _ rfl _ _ 62 rfl base 66 i0 (.agg #[.int .i64 0, .int .i64 0, .bool false]) 3 24 Try.underlying62 hi0 hz0 hz1 hz2 rfl (by decide) (.slice q n cap) n (slsC sl) rfl hrow ⟨w.heap.size, 0, none⟩ 1 1 [.int .i64 0, .int .i64 0, .bool false] rfl rfl (blk_cells _ _ _) (by simp [Value.oneCell']) hm3 hm2 (by simp; omega) ?_)
        intro v' w1 hown' hgrow _ hat
        have hat2 := HA.out.more (blk_alloc _) (by rw [HN.out]; exact hlt) hb (by rw [HN.out]; exact hown') hgrow hat
        have cb := (hat2.1.bl.frozen 1)
        have hbq := (HA.out.on (blk_alloc (.cells #[.int .i64 0, .int .i64 0, .bool false] 66))).bl
        have hbw : BL 64 b #[.int .i64 size, .slice q n cap] w1 := (hgrow.block b hbq.lt (fun e => BL.ne_row hbq (by decide) hrow e.symm)).trans hbq
        have e0 : w1.cell? ⟨b, 0, none⟩ = some (.int .i64 size) := hbw.cell 0 _ rfl
        have e1 : w1.cell? ⟨b, 1, none⟩ = some (.slice q n cap) := hbw.cell 1 _ rfl
        have ef := hbw.frozen 1
        obtain ⟨g, cap2, rfl⟩ : ∃ g cap2, v' = .slice (some ⟨g, 0, none⟩) (n + 1) cap2 := by
          rcases hown'.2 with ⟨_, h⟩ | ⟨g, cap2, cur, h, _⟩
          · omega
          · exact ⟨g, cap2, h⟩
        obtain ⟨W, hW⟩ : ∃ W, w1.setCell ⟨b, 1, none⟩ (.slice (some ⟨g, 0, none⟩) (n + 1) cap2) = W := ⟨_, rfl⟩
        rw [hW] at hat2 cb
        have hlen : (sl ++ [(⟨0, none⟩ : Sl Int)]).length = n + 1 := by rw [List.length_append, HN.out]; rfl
        have hA2 := hat2.1
        rw [← hlen] at hA2
        obtain ⟨d0, d1, d2⟩ := hA2.cells (i := n) (s := ⟨0, none⟩) (by rw [← HN.out]; simp)
        have c1W : W.cell? ⟨b, 1, none⟩ = some (.slice (some ⟨g, 0, none⟩) (n + 1) cap2) := hat2.1.bl.cell 1 _ rfl
        have f0 := hA2.row.frozenAt (n * 3)
        have f1 := hA2.row.frozenAt (n * 3 + 1)
        have f2 := hA2.row.frozenAt (n * 3 + 2)
        have hset := hA2.set n ⟨1, some x⟩ (by rw [hlen]; omega)
        have hse : (sl ++ [(⟨0, none⟩ : Sl Int)]).set n ⟨1, some x⟩ = sl ++ [⟨1, some x⟩] := by rw [← HN.out]; simp
        rw [hse] at hset
        obtain ⟨e0', e1', e2'⟩ := hset.1.cells (i := n) (s := ⟨1, some x⟩) (by rw [← HN.out]; simp)
        have HH := Lib.hid (fun W hc => handle_any g (n * 3) n 1 W hc (by omega) (by omega))
        have hwr := hat2.2
        rw [hlen] at hset
        have HSET := Lib.hid hset
        have HWR := Lib.hid hwr
        have HE1 := Lib.hid e1'
        have HW := Lib.hid hW
        have HAT := Lib.hid hat
        have HLEN := Lib.hid hlen
        clear hat2 hA2 hset hse hwr hW hown' hgrow hat hrow hbq hbw cb hlen e0' e1' e2')
      rw [HW.out]
      go_wp2_with fail
      refine (HH.out _ HE1.out).mono ?_
      rintro e w' ⟨rfl, rfl⟩
      go_wp2
      go_ret2
      exact ⟨by rw [H1.out, H2.out, HN.out]; rfl, _, by rw [H3.out]; exact HSET.out.1, HWR.out.trans HSET.out.2⟩
    · have H1 := Lib.hid (show putHd size sl = 0 by unfold putHd; simp only [hfr, if_neg hlt])
      have H2 := Lib.hid (show putE size sl = 6 by unfold putE; simp only [hfr, if_neg hlt])
      have H3 := Lib.hid (show putL size sl x = sl by unfold putL; simp only [hfr, if_neg hlt])
      have g1 : ((sl.length : Int) == (size : Int)) = true := by rw [beq_iff_eq]; omega
      obtain ⟨n, hn⟩ : ∃ n, sl.length = n := ⟨_, rfl⟩
      rw [hn] at con g1
      clear hfr hfn ha hf hlt hn hl
      go_enter Try.func8, Try.ntmps8
      go_wp2_with fail
      refine con.mono ?_
      rintro e w' ⟨rfl, rfl⟩
      clear con
      go_wp2
      go_ret2
      exact ⟨by rw [H1.out, H2.out]; rfl, v, by rw [H3.out]; exact HA.out, Wrote.refl _ _ _⟩
end Go.Proofs.Ytkpcakmkmkidpaa.Arn
