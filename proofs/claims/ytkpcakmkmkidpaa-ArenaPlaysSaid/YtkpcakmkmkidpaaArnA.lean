/- An arena as it lies in memory: its block, its row of slots; free, handle, of. Conditions: at most 1024 slots, numbers of at most 2^40. -/
import Derived.Test.YtkpcakmkmkidpaaArnM
import Derived.Test.YtkpcakmkmkidpaaProg
import Derived.Test.YtkpcakmkmkidpaaRf
import Derived.Laws.OwnMore
import Derived.Lib.Hide
import Derived.WalkKit
import Derived.WalkSpells
import Derived.WalkLawsBesides
namespace Go.Proofs.Ytkpcakmkmkidpaa.Arn
open Go.RowKit
set_option linter.unusedVariables false

/-- A block of cells, of a type, no cell of it frozen. -/
def BL (t : TypeId) (B : Nat) (cs : Array Value) (X : World) : Prop := X.heap[B]? = some (.cells cs t (0, 0))
theorem BL.cell {t : TypeId} {B : Nat} {cs : Array Value} {X : World} (h : BL t B cs X) (i : Nat) (x : Value) (hx : cs[i]? = some x) : X.cell? ⟨B, i, none⟩ = some x := by
  unfold BL at h
  unfold World.cell?
  simp [h, hx]
theorem BL.frozen {t : TypeId} {B : Nat} {cs : Array Value} {X : World} (h : BL t B cs X) (i : Nat) : X.frozen? ⟨B, i, none⟩ = false := by
  unfold BL at h
  unfold World.frozen?
  simp [h]
theorem BL.lt {t : TypeId} {B : Nat} {cs : Array Value} {X : World} (h : BL t B cs X) : B < X.heap.size := (Array.getElem?_eq_some_iff.1 h).1
theorem BL.keep {t : TypeId} {B : Nat} {cs : Array Value} {S : Nat → Prop} {X Y : World} (h : BL t B cs X) (hk : Keep S X Y) (hS : S B) : BL t B cs Y := hk.heap hS h
theorem BL.on {t : TypeId} {B : Nat} {cs : Array Value} {X Y : World} (h : BL t B cs X) (hk : Below X.heap.size X Y) : BL t B cs Y := (hk.block B h.lt).trans h
theorem BL.new (t : TypeId) (w : World) (cs : Array Value) : BL t w.heap.size cs (w.alloc (.cells cs t)) := World.alloc_heap_new w _
theorem BL.set {t : TypeId} {B : Nat} {cs : Array Value} {X : World} (h : BL t B cs X) (i : Nat) (v : Value) : BL t B (cs.setIfInBounds i v) (X.setCell ⟨B, i, none⟩ v) := heap_setCell_same X B i cs t v h
/-- Blocks of two types are two. -/
theorem BL.ne {t u : TypeId} {B C : Nat} {cs ds : Array Value} {X : World} (h : BL t B cs X) (k : BL u C ds X) (htu : t ≠ u) : B ≠ C := fun e => by
  subst e
  unfold BL at h k
  rw [h] at k
  cases k
  exact htu rfl
theorem BL.ne_row {t e : TypeId} {B : Nat} {cs : Array Value} {X : World} (h : BL t B cs X) (hte : t ≠ e) {base size k : Nat} {v : Value} {xs : List Value} (hr : X.ownsRow base e size v k xs) : v.ownBlock ≠ some B := by
  rcases hr.2 with ⟨rfl, _⟩ | ⟨g, cap, cur, rfl, _, hg, _⟩
  · exact fun e => by cases e
  · intro hb
    have hb2 : g = B := by simpa [Value.ownBlock] using hb
    subst hb2
    unfold BL at h
    rw [h] at hg
    cases hg
    exact hte rfl
theorem rows_ne {t e : TypeId} {X : World} {base size k : Nat} {v : Value} {xs : List Value} (h : X.ownsRow base e size v k xs) {base' size' k' : Nat} {v' : Value} {xs' : List Value} (h' : X.ownsRow base' t size' v' k' xs') (hte : t ≠ e) : ∀ b, v.ownBlock = some b → v'.ownBlock ≠ some b := by
  intro b hb
  rcases h.2 with ⟨rfl, _⟩ | ⟨g, cap, cur, rfl, _, hg, _⟩
  · cases hb
  · have hb2 : g = b := by simpa [Value.ownBlock] using hb
    subst hb2
    exact BL.ne_row (t := e) (B := g) (cs := cur) hg (fun e => hte e.symm) h'

/-- The cells of slots. -/
def slC (s : Sl Int) : List Value := [.int .i64 (s.x.getD 0), .int .i64 s.n, .bool s.x.isSome]
def slsC : List (Sl Int) → List Value
  | [] => []
  | s :: r => slC s ++ slsC r
theorem slsC_len : ∀ l : List (Sl Int), (slsC l).length = l.length * 3
  | [] => rfl
  | s :: r => by rw [slsC, List.length_append, slsC_len r, List.length_cons]; simp [slC]; omega
theorem slsC_app : ∀ l m : List (Sl Int), slsC (l ++ m) = slsC l ++ slsC m
  | [], m => rfl
  | s :: r, m => by rw [List.cons_append, slsC, slsC, slsC_app r m, List.append_assoc]
theorem slsC_at : ∀ (l : List (Sl Int)) (i : Nat) (s : Sl Int), l[i]? = some s → (slsC l)[i * 3]? = some (.int .i64 (s.x.getD 0)) ∧ (slsC l)[i * 3 + 1]? = some (.int .i64 s.n) ∧ (slsC l)[i * 3 + 2]? = some (.bool s.x.isSome)
  | [], i, s, h => by simp at h
  | t :: r, 0, s, h => by
    obtain rfl : t = s := by simpa using h
    exact ⟨rfl, rfl, rfl⟩
  | t :: r, i + 1, s, h => by
    obtain ⟨h1, h2, h3⟩ := slsC_at r i s (by simpa using h)
    refine ⟨?_, ?_, ?_⟩
    · rw [slsC, List.getElem?_append_right (by simp [slC]; omega), ← h1]; simp [slC]; congr 1; omega
    · rw [slsC, List.getElem?_append_right (by simp [slC]; omega), ← h2]; simp [slC]; congr 1; omega
    · rw [slsC, List.getElem?_append_right (by simp [slC]; omega), ← h3]; simp [slC]; congr 1; omega
theorem slsC_set : ∀ (l : List (Sl Int)) (i : Nat) (s : Sl Int), i < l.length → slsC (l.set i s) = (((slsC l).set (i * 3) (.int .i64 (s.x.getD 0))).set (i * 3 + 1) (.int .i64 s.n)).set (i * 3 + 2) (.bool s.x.isSome)
  | [], i, s, h => by simp at h
  | t :: r, 0, s, h => rfl
  | t :: r, i + 1, s, h => by
    rw [List.set_cons_succ, slsC, slsC_set r i s (by simpa using h), slsC]
    have e1 : (slC t).length = 3 := rfl
    rw [List.set_append_right _ _ (by rw [e1]; omega), List.set_append_right _ _ (by rw [e1]; omega), List.set_append_right _ _ (by rw [e1]; omega)]
    rw [e1, show (i + 1) * 3 - 3 = i * 3 by omega, show (i + 1) * 3 + 1 - 3 = i * 3 + 1 by omega, show (i + 1) * 3 + 2 - 3 = i * 3 + 2 by omega]

/-- An arena lies at block b, its slots in the row v; all from base on. -/
structure At (base b size : Nat) (v : Value) (sl : List (Sl Int)) (w : World) : Prop where
  bl : BL 64 b #[.int .i64 size, v] w
  lo : base ≤ b
  row : w.ownsRow base 66 3 v sl.length (slsC sl)
  len : sl.length ≤ size
  size1 : 1 ≤ size
  size2 : size ≤ 1024
/-- All numbers are at most so much. -/
def Few (K : Nat) (sl : List (Sl Int)) : Prop := ∀ s ∈ sl, s.n ≤ K
theorem At.keep {base b size : Nat} {v : Value} {sl : List (Sl Int)} {w w' : World} {S : Nat → Prop} (h : At base b size v sl w) (hk : Keep S w w') (h1 : S b) (h2 : ∀ k, v.ownBlock = some k → S k) : At base b size v sl w' :=
  ⟨h.bl.keep hk h1, h.lo, hk.row h.row h2, h.len, h.size1, h.size2⟩
theorem At.on {base b size : Nat} {v : Value} {sl : List (Sl Int)} {w w' : World} (h : At base b size v sl w) (hk : Below w.heap.size w w') : At base b size v sl w' :=
  h.keep (Keep.of_below hk) h.bl.lt fun k hk => (h.row.lt k hk).2
theorem At.form {base b size : Nat} {v : Value} {sl : List (Sl Int)} {w : World} (h : At base b size v sl w) : (v = .slice none 0 0 ∧ sl = []) ∨ ∃ g cap, v = .slice (some ⟨g, 0, none⟩) sl.length cap := by
  rcases h.row.2 with ⟨rfl, h0⟩ | ⟨g, cap, cur, rfl, _⟩
  · exact .inl ⟨rfl, List.eq_nil_of_length_eq_zero h0⟩
  · exact .inr ⟨g, cap, rfl⟩
theorem At.cells {base b size g cap : Nat} {sl : List (Sl Int)} {w : World} (h : At base b size (.slice (some ⟨g, 0, none⟩) sl.length cap) sl w) {i : Nat} {s : Sl Int} (hi : sl[i]? = some s) :
    w.cell? ⟨g, i * 3, none⟩ = some (.int .i64 (s.x.getD 0)) ∧ w.cell? ⟨g, i * 3 + 1, none⟩ = some (.int .i64 s.n) ∧ w.cell? ⟨g, i * 3 + 2, none⟩ = some (.bool s.x.isSome) := by
  obtain ⟨h1, h2, h3⟩ := slsC_at sl i s hi
  have hl := (List.getElem?_eq_some_iff.1 hi).1
  refine ⟨?_, ?_, ?_⟩
  · rw [h.row.cellAt (i * 3) (by omega)]; exact h1
  · rw [h.row.cellAt (i * 3 + 1) (by omega)]; exact h2
  · rw [h.row.cellAt (i * 3 + 2) (by omega)]; exact h3
/-- The first free slot, or how many there are. -/
def frN (sl : List (Sl Int)) : Nat := (freeF sl).getD sl.length

theorem handle_any (g o i n : Nat) (w : World) (hc : w.cell? ⟨g, o + 1, none⟩ = some (.int .i64 n)) (hn : n ≤ 1099511627776) (hi : i ≤ 1024) :
    Calls Try.prog 24 #[.pointer (some ⟨g, o, none⟩), .int .i64 i] w fun e w' => e = .returned (.int .i64 (hOf n i)) ∧ w = w' := by
  unfold hOf
  go_enter Try.func24, Try.ntmps24
  go_wp2
  go_ret
  exact ⟨rfl, rfl⟩

theorem At.sl {base b size : Nat} {v : Value} {sl : List (Sl Int)} {w : World} (h : At base b size v sl w) : ∃ q cap, v = .slice q sl.length cap ∧ ∀ i s, sl[i]? = some s → ∃ g, q = some ⟨g, 0, none⟩ ∧ w.cell? ⟨g, i * 3, none⟩ = some (.int .i64 (s.x.getD 0)) ∧ w.cell? ⟨g, i * 3 + 1, none⟩ = some (.int .i64 s.n) ∧ w.cell? ⟨g, i * 3 + 2, none⟩ = some (.bool s.x.isSome) := by
  rcases h.form with ⟨rfl, rfl⟩ | ⟨g, cap, rfl⟩
  · exact ⟨none, 0, rfl, fun i s hs => by simp at hs⟩
  · exact ⟨some ⟨g, 0, none⟩, cap, rfl, fun i s hs => ⟨g, rfl, h.cells hs⟩⟩
theorem fr_at : ∀ (sl : List (Sl Int)) (k : Nat) (s : Sl Int), (∀ j t, j < k → sl[j]? = some t → t.x.isSome = true) → sl[k]? = some s → s.x.isSome = false → frN sl = k
  | [], k, s, _, h, _ => by simp at h
  | t :: r, 0, s, _, h, hx => by
    obtain rfl : t = s := by simpa using h
    have : t.x = none := by cases hh : t.x with | none => rfl | some _ => rw [hh] at hx; cases hx
    simp [frN, freeF, this]
  | t :: r, k + 1, s, hf, h, hx => by
    have ht := hf 0 t (by omega) rfl
    have ih := fr_at r k s (fun j u hj hu => hf (j + 1) u (by omega) (by simpa using hu)) (by simpa using h) hx
    unfold frN at ih ⊢
    have : t.x.isNone = false := by cases hh : t.x with | none => rw [hh] at ht; cases ht | some _ => rfl
    rw [freeF, this]
    cases hq : freeF r with
    | none => rw [hq] at ih; simp at ih ⊢; omega
    | some i => rw [hq] at ih; simp at ih ⊢; omega
theorem fr_end (sl : List (Sl Int)) (hf : ∀ j t, j < sl.length → sl[j]? = some t → t.x.isSome = true) : frN sl = sl.length := by
  unfold frN
  cases h : freeF sl with
  | none => rfl
  | some i =>
    obtain ⟨s, hs, hx⟩ := free_lt sl i h
    have := hf i s (List.getElem?_eq_some_iff.1 hs).1 hs
    rw [hx] at this
    cases this

set_option maxRecDepth 100000 in
set_option maxHeartbeats 4000000 in
theorem free_any (base b size : Nat) (v : Value) (sl : List (Sl Int)) (w : World) (h : At base b size v sl w) :
    Calls Try.prog 23 #[.pointer (some ⟨b, 0, none⟩)] w fun e w' => e = .returned (.int .i64 (frN sl)) ∧ w = w' := by
  have hl := h.len
  have hs := h.size2
  obtain ⟨q, cap, rfl, hq⟩ := h.sl
  have c1 : w.cell? ⟨b, 1, none⟩ = some (.slice q sl.length cap) := h.bl.cell 1 _ rfl
  obtain ⟨n, hn⟩ : ∃ n, sl.length = n := ⟨_, rfl⟩
  rw [hn] at c1 hl
  have HN := Lib.hid hn
  have HQ := Lib.hid hq
  obtain ⟨f, hf⟩ : ∃ f, frN sl = f := ⟨_, rfl⟩
  rw [hf]
  have HF := Lib.hid hf
  clear h hn hq hf
  go_enter Try.func23, Try.ntmps23
  go_wp2
  go_loop [9] (fun i => ∃ k : Nat, k ≤ n ∧ i = .int .i64 k ∧ Hid (∀ j t, j < k → sl[j]? = some t → t.x.isSome = true)) (fun i => n - (intOf i).toNat)
  case atStart => exact ⟨0, by omega, rfl, Lib.hid fun j t hj => by omega⟩
  case round =>
    obtain ⟨k, hk, rfl, HR⟩ := hrel
    by_cases hlt : k < n
    · obtain ⟨s, hsk⟩ : ∃ s, sl[k]? = some s := ⟨_, List.getElem?_eq_getElem (by have := HN.out; omega)⟩
      obtain ⟨g, rfl, -, -, c2⟩ := HQ.out k s hsk
      obtain ⟨bx, hbx⟩ : ∃ bx, s.x.isSome = bx := ⟨_, rfl⟩
      rw [hbx] at c2
      have HB := Lib.hid hbx
      have HS := Lib.hid hsk
      clear hbx hsk
      cases bx with
      | true =>
        have HR2 := Lib.hid (show ∀ j t, j < k + 1 → sl[j]? = some t → t.x.isSome = true from fun j t hj ht => by
          rcases Nat.lt_or_ge j k with h | h
          · exact HR.out j t h ht
          · obtain rfl : j = k := by omega
            have := HS.out
            rw [ht] at this
            cases this
            exact HB.out)
        go_wp2
        go_round
        case rel => exact ⟨k + 1, by omega, by go_num, HR2⟩
        case measure => simp [intOf]; omega
      | false =>
        have HE := Lib.hid (fr_at sl k s HR.out HS.out HB.out)
        go_wp2
        go_ret
        exact ⟨by rw [← HF.out, HE.out]; rfl, rfl⟩
    · have HE := Lib.hid (fr_end sl fun j t hj ht => HR.out j t (by have := HN.out; omega) ht)
      go_wp2
      go_ret
      exact ⟨by rw [← HF.out, HE.out, HN.out]; rfl, rfl⟩

set_option maxRecDepth 100000 in
set_option maxHeartbeats 4000000 in
/-- The slot in which a handle's thing lies. -/
theorem of_any (base b size : Nat) (v : Value) (sl : List (Sl Int)) (h : Int) (w : World) (ha : At base b size v sl w) (hf : Few 1099511627776 sl) (hh : -9223372036854775808 ≤ h ∧ h ≤ 9223372036854775807) :
    Calls Try.prog 25 #[.pointer (some ⟨b, 0, none⟩), .int .i64 h] w fun e w' =>
      ((findS sl h = none ∧ e = .returned (.pointer none)) ∨ ∃ g cap i, v = .slice (some ⟨g, 0, none⟩) sl.length cap ∧ findS sl h = some i ∧ e = .returned (.pointer (some ⟨g, i * 3, none⟩))) ∧ w = w' := by
  have hl := ha.len
  have hs := ha.size2
  obtain ⟨q, cap, rfl, hq⟩ := ha.sl
  have c1 : w.cell? ⟨b, 1, none⟩ = some (.slice q sl.length cap) := ha.bl.cell 1 _ rfl
  obtain ⟨n, hn⟩ : ∃ n, sl.length = n := ⟨_, rfl⟩
  rw [hn] at c1 hl
  have HN := Lib.hid hn
  have HQ := Lib.hid hq
  have HFW := Lib.hid hf
  clear ha hn hq hf
  by_cases h0 : h < 0
  · have HE := Lib.hid (show findS sl h = none by unfold findS; rw [if_pos h0])
    have d0 : decide (h < 0) = true := decide_eq_true h0
    go_enter Try.func25, Try.ntmps25
    go_wp2
    go_ret
    exact ⟨.inl ⟨HE.out, rfl⟩, rfl⟩
  · have d0 : decide (h < 0) = false := decide_eq_false h0
    obtain ⟨k, hk⟩ : ∃ k : Nat, h % 1024 = (k : Int) := ⟨(h % 1024).toNat, by omega⟩
    have hk2 : k < 1024 := by omega
    have hke : (h % 1024).toNat = k := by omega
    have hg : 0 ≤ h := by omega
    have ht : h.tmod 1024 = (k : Int) := by rw [Int.tmod_eq_emod_of_nonneg hg]; exact hk
    by_cases hlt : k < n
    · obtain ⟨s, hsk⟩ : ∃ s, sl[k]? = some s := ⟨_, List.getElem?_eq_getElem (by have := HN.out; omega)⟩
      obtain ⟨g, rfl, -, c3, c2⟩ := HQ.out k s hsk
      have hsn := HFW.out s (List.mem_of_getElem? hsk)
      obtain ⟨m, hm⟩ : ∃ m, s.n = m := ⟨_, rfl⟩
      obtain ⟨bx, hbx⟩ : ∃ bx, s.x.isSome = bx := ⟨_, rfl⟩
      rw [hbx] at c2
      rw [hm] at c3 hsn
      have HE := Lib.hid (show findS sl h = if bx = true ∧ (m : Int) = h / 1024 then some k else none by unfold findS; rw [if_neg h0, hke, hsk]; show (if s.x.isSome = true ∧ (s.n : Int) = h / 1024 then some k else none) = _; rw [hbx, hm])
      have hh := handle_any g (k * 3) k m w c3 hsn (by omega)
      unfold hOf at hh
      have HH := Lib.hid hh
      have HK := Lib.hid hk
      clear hbx hm hsk hke h0 hh
      cases bx with
      | false =>
        go_enter Try.func25, Try.ntmps25
        go_wp2
        go_ret
        exact ⟨.inl ⟨by rw [HE.out]; simp, rfl⟩, rfl⟩
      | true =>
        obtain ⟨y, hy⟩ : ∃ y : Int, (m : Int) * 1024 + (k : Int) = y := ⟨_, rfl⟩
        have con := HH.out
        unfold hOf at con
        rw [hy] at con
        obtain ⟨be, hbe⟩ : ∃ be, (y == h) = be := ⟨_, rfl⟩
        have HY := Lib.hid hy
        have HBE := Lib.hid hbe
        clear hy
        cases be with
        | true =>
          have hz : findS sl h = some k := by
            rw [HE.out, if_pos ⟨rfl, by have := eq_of_beq HBE.out; have := HY.out; have := HK.out; omega⟩]
          have HZ := Lib.hid hz
          clear hz
          go_enter Try.func25, Try.ntmps25
          go_wp2_with fail
          refine con.mono ?_
          rintro e w' ⟨rfl, rfl⟩
          clear con
          go_wp2
          go_ret
          exact ⟨.inr ⟨g, cap, k, by rw [HN.out], HZ.out, rfl⟩, rfl⟩
        | false =>
          have hz : findS sl h = none := by
            rw [HE.out, if_neg (fun hc => by have := ne_of_beq_false HBE.out; have := HY.out; have := HK.out; omega)]
          have HZ := Lib.hid hz
          clear hz
          go_enter Try.func25, Try.ntmps25
          go_wp2_with fail
          refine con.mono ?_
          rintro e w' ⟨rfl, rfl⟩
          clear con
          go_wp2
          go_ret
          exact ⟨.inl ⟨HZ.out, rfl⟩, rfl⟩
    · have HE := Lib.hid (show findS sl h = none by unfold findS; rw [if_neg h0, hke, List.getElem?_eq_none (by have := HN.out; omega)])
      clear hke h0
      go_enter Try.func25, Try.ntmps25
      go_wp2
      go_ret
      exact ⟨.inl ⟨HE.out, rfl⟩, rfl⟩
end Go.Proofs.Ytkpcakmkmkidpaa.Arn
