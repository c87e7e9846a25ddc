/- SortedTells: the law returns true at whatever input, and writes nothing that was there. Conditions: none. -/
import Derived.Test.YthfclmnmnmeldaaRows
import Derived.Test.YthfclmnmnmeldaaSetR
import Derived.WalkKit
import Derived.ProofKit
import Derived.OpenShut
import Derived.ShutString
import Derived.ChangeOld
import Derived.Below
namespace Go.Proofs.Ythfclmnmnmeldaa.sortedTells
open Go.ChangeShapes Go.WideShapes Go.ChangeAt Go.RowKit
open Go.ChangeMaps (open_string shut_string)
set_option linter.unusedVariables false

theorem own : ownKnob Try.prog.godebug = none := by kernel_rfl
theorem laidOut : laidOutB Try.prog = true := by kernel_rfl

def IsRow (k : IntKind) (w : World) (a : Option Addr) (len cap : Nat) (zs : List Int) : Prop :=
  (a = none ∧ len = 0 ∧ cap = 0 ∧ zs = []) ∨
  ∃ x, a = some x ∧ len ≤ cap ∧ cap ≤ maxLen ∧ zs.length = cap ∧ (∀ i, i < zs.length → w.cell? (x.add i) = some (.int k (zs.getD i 0))) ∧ ∀ n ∈ zs, (Lit.int k n).wf = true

theorem row_ints {w : World} {a : Option Addr} {len cap : Nat} {zs : List Int} (h : IsRow .i64 w a len cap zs) : ∃ xs : List Int, SlIn (Value.int .i64) w a len xs ∧ (a = none → cap = 0) ∧ len ≤ cap := by
  rcases h with ⟨rfl, rfl, rfl, rfl⟩ | ⟨⟨b, o, s⟩, rfl, h1, h2, h3, h4, h5⟩
  · exact ⟨[], SlIn.nil _ _ _, fun _ => rfl, Nat.le_refl _⟩
  · refine ⟨zs.take len, ⟨by simp; omega, fun hp => ?_⟩, (fun h => by cases h), h1⟩
    have hc0 := h4 0 (by omega)
    have hspot : s = none := by simpa [Addr.add] using World.cell?_spot hc0
    subst hspot
    rw [Go.WideShapes.add_plain] at hc0
    refine ⟨b, o, rfl, World.block_lt_of_cell? w _ hc0, fun i x hx => ?_⟩
    rw [List.getElem?_take] at hx
    split at hx
    · have := h4 i (by omega)
      rw [Go.WideShapes.add_plain] at this
      rw [this, List.getD, hx]; rfl
    · cases hx

theorem both_sub (xs ys : List Int) : (((bothL xs ys false).length : Int) == 0) = subB xs ys := by
  rw [Bool.eq_iff_iff, subB_iff, beq_iff_eq]
  constructor
  · intro h a ha
    have h0 : bothL xs ys false = [] := List.eq_nil_of_length_eq_zero (by omega)
    unfold bothL at h0
    rw [List.filter_eq_nil_iff] at h0
    have := h0 a ha
    unfold hasL at this
    simpa using this
  · intro h
    have h0 : bothL xs ys false = [] := by
      unfold bothL
      rw [List.filter_eq_nil_iff]
      intro a ha
      have := h a ha
      unfold hasL; simpa using this
    rw [h0]; rfl
set_option maxHeartbeats 8000000 in
set_option maxRecDepth 100000 in
theorem walk (a0 : Option Addr) (len0 cap0 : Nat) (z0 : List Int) (a1 : Option Addr) (len1 cap1 : Nat) (z1 : List Int) (a2 : Int) (a3 : Int) (w : World) (w0 : IsRow .i64 w a0 len0 cap0 z0) (w1 : IsRow .i64 w a1 len1 cap1 z1) (w2 : (Lit.int .i64 a2).wf = true) (w3 : (Lit.int .i64 a3).wf = true) :
    Calls Try.prog 4 #[.slice a0 len0 cap0, .slice a1 len1 cap1, .int .i64 a2, .int .i64 a3] w fun e w' => e = .returned (.bool true) ∧ Below w.heap.size w w' := by
  obtain ⟨al, ha, hna, _⟩ := row_ints w0
  obtain ⟨bl, hb, hnb, _⟩ := row_ints w1
  clear w0 w1 w2 w3
  by_cases hbig : 60 < len0
  · have d1 : decide ((60 : Int) < (len0 : Int)) = true := by simp; omega
    clear ha hb
    go_enter Try.func4, Try.ntmps4
    go_wp2_with fail
    refine (lives_any _).mono ?_
    rintro e w2 ⟨rfl, hb2⟩
    go_wp2_with fail
    refine (lives_any _).mono ?_
    rintro e w3 ⟨rfl, hb3⟩
    go_wp2
    go_ret
    exact ⟨rfl, hb2.trans (hb3.mono hb2.size)⟩
  have d1 : decide ((60 : Int) < (len0 : Int)) = false := by simp; omega
  by_cases hbig1 : 60 < len1
  · have d2 : decide ((60 : Int) < (len1 : Int)) = true := by simp; omega
    clear ha hb
    go_enter Try.func4, Try.ntmps4
    go_wp2_with fail
    refine (lives_any _).mono ?_
    rintro e w2 ⟨rfl, hb2⟩
    go_wp2_with fail
    refine (lives_any _).mono ?_
    rintro e w3 ⟨rfl, hb3⟩
    go_wp2
    go_ret
    exact ⟨rfl, hb2.trans (hb3.mono hb2.size)⟩
  have d2 : decide ((60 : Int) < (len1 : Int)) = false := by simp; omega
  have hs0 : len0 ≤ 60 := by omega
  have hs1 : len1 ≤ 60 := by omega
  clear hbig hbig1
  have hla := setI_length al
  have hlb := setI_length bl
  have hra := setI_rises al
  have hrb := setI_rises bl
  rw [ha.1] at hla
  rw [hb.1] at hlb
  go_enter Try.func4, Try.ntmps4
  go_wp2_with fail
  refine (lives_any _).mono ?_
  rintro e w1 ⟨rfl, hB1⟩
  have ha1 := ha.below hB1 ha.lt
  have hb1 := hb.below hB1 hb.lt
  clear ha hb
  go_wp2_with fail
  refine (Of_any a0 len0 cap0 al w1 ha1 hna (by omega)).mono ?_
  rintro e w2 ⟨vx, rfl, hx2, hB⟩
  have hB2 := hB1.trans (hB.mono hB1.size)
  have ha2 := ha1.below hB ha1.lt
  have hb2 := hb1.below hB hb1.lt
  clear ha1 hb1 hB1 hB
  go_wp2_with fail
  refine (Of_any a1 len1 cap1 bl w2 hb2 hnb (by omega)).mono ?_
  rintro e w3 ⟨vy, rfl, hy3, hB⟩
  have hB3 := hB2.trans (hB.mono hB2.size)
  have ha3 := ha2.below hB ha2.lt
  have hb3 := hb2.below hB hb2.lt
  have hx3 := hx2.below hB
  clear ha2 hb2 hB2 hB hx2
  obtain ⟨qx, nx, cx, rfl, hx3'⟩ := hx3
  obtain ⟨qy, ny, cy, rfl, hy3'⟩ := hy3
  have hx3 : SetIs (Value.int .i64) w3 (.agg #[.slice qx nx cx]) (setI al) := ⟨qx, nx, cx, rfl, hx3'⟩
  have hy3 : SetIs (Value.int .i64) w3 (.agg #[.slice qy ny cy]) (setI bl) := ⟨qy, ny, cy, rfl, hy3'⟩
  clear hx3' hy3'
  obtain ⟨W, hW⟩ : ∃ W, (w3.alloc (.cells #[.slice qx nx cx] 25)).alloc (.cells #[.slice qy ny cy] 25) = W := ⟨_, rfl⟩
  have bx4 : Boxed W w3.heap.size 25 (.slice qx nx cx) := by rw [← hW]; exact (Boxed.new w3 _ _).alloc _
  have by4 : Boxed W (w3.heap.size + 1) 25 (.slice qy ny cy) := by
    rw [← hW]
    have := Boxed.new (w3.alloc (.cells #[.slice qx nx cx] 25)) 25 (.slice qy ny cy)
    rwa [World.size_alloc] at this
  have hBW : Below w3.heap.size w3 W := by rw [← hW]; exact (below_alloc _).trans ((below_alloc _).mono (by simp))
  have hB4 := hB3.trans (hBW.mono hB3.size)
  have ha4 := ha3.below hBW ha3.lt
  have hb4 := hb3.below hBW hb3.lt
  have hx4 := hx3.below hBW
  have hy4 := hy3.below hBW
  have HW := Lib.hid hW
  clear ha3 hb3 hx3 hy3 hBW hB3 hW
  have hW4 := HW.out
  clear hW4
  go_wp2_with fail
  rw [HW.out]
  refine (refOf_any a0 len0 cap0 al W ha4 (by omega)).mono ?_
  rintro e w5 ⟨ap, cp, rfl, hp, hB⟩
  have ha5 := ha4.below hB ha4.lt
  have hb5 := hb4.below hB hb4.lt
  have hx5 := hx4.below hB
  have hy5 := hy4.below hB
  have bx5 := (Keep.of_below hB).boxed bx4 bx4.lt
  have by5 := (Keep.of_below hB).boxed by4 by4.lt
  have hB5 := hB4.trans (hB.mono hB4.size)
  clear ha4 hb4 hx4 hy4 bx4 by4 hB4
  try clear cbx4 cby4
  have cbx5 := bx5.cell
  have cby5 := by5.cell
  clear hB
  have hp5 := hp
  clear hp
  go_wp2_with fail
  refine (refOf_any a1 len1 cap1 bl w5 hb5 (by omega)).mono ?_
  rintro e w6 ⟨aq, cq, rfl, hq, hB⟩
  have ha6 := ha5.below hB ha5.lt
  have hb6 := hb5.below hB hb5.lt
  have hx6 := hx5.below hB
  have hy6 := hy5.below hB
  have bx6 := (Keep.of_below hB).boxed bx5 bx5.lt
  have by6 := (Keep.of_below hB).boxed by5 by5.lt
  have hp6 := hp5.below hB hp5.lt
  have hB6 := hB5.trans (hB.mono hB5.size)
  clear ha5 hb5 hx5 hy5 bx5 by5 hp5 hB5
  try clear cbx5 cby5
  have cbx6 := bx6.cell
  have cby6 := by6.cell
  clear hB
  have hq6 := hq
  clear hq
  obtain ⟨at3, hat⟩ : ∃ o, atL (setI al) a3 = o := ⟨_, rfl⟩
  have conA := At_any _ (setI al) a3 w6 hx6
  rw [hat] at conA
  have HAT := Lib.hid hat
  clear hat
  go_wp2_with fail
  refine (conA).mono ?_
  rintro e w7 ⟨rfl, hB⟩
  have ha7 := ha6.below hB ha6.lt
  have hb7 := hb6.below hB hb6.lt
  have hx7 := hx6.below hB
  have hy7 := hy6.below hB
  have bx7 := (Keep.of_below hB).boxed bx6 bx6.lt
  have by7 := (Keep.of_below hB).boxed by6 by6.lt
  have hp7 := hp6.below hB hp6.lt
  have hq7 := hq6.below hB hq6.lt
  have hB7 := hB6.trans (hB.mono hB6.size)
  clear ha6 hb6 hx6 hy6 bx6 by6 hp6 hq6 hB6
  try clear cbx6 cby6
  have cbx7 := bx7.cell
  have cby7 := by7.cell
  clear hB
  have hp_ := hp7
  cases at3 with
  | none =>
    have hcase : a3 < 0 ∨ ((setI al).length : Int) ≤ a3 := by
      have := HAT.out
      unfold atL at this
      by_cases h : 0 ≤ a3
      · rw [if_pos h] at this
        right
        have := List.getElem?_eq_none_iff.1 this
        omega
      · left; omega
    clear HAT conA hp_
    rcases hcase with h | h
    · have e1 : decide ((0 : Int) ≤ a3) = false := by simpa using h
      clear h
      obtain ⟨r, hr⟩ : ∃ r, hasL (setI al) a2 = r := ⟨_, rfl⟩
      have conH := Has_any _ (setI al) a2 w7 hx7
      rw [hr] at conH
      go_wp2_with fail
      refine (conH).mono ?_
      rintro e w8 ⟨rfl, hB⟩
      have ha8 := ha7.below hB ha7.lt
      have hb8 := hb7.below hB hb7.lt
      have hx8 := hx7.below hB
      have hy8 := hy7.below hB
      have bx8 := (Keep.of_below hB).boxed bx7 bx7.lt
      have by8 := (Keep.of_below hB).boxed by7 by7.lt
      have hp8 := hp7.below hB hp7.lt
      have hq8 := hq7.below hB hq7.lt
      have hB8 := hB7.trans (hB.mono hB7.size)
      clear ha7 hb7 hx7 hy7 bx7 by7 hp7 hq7 hB7
      try clear cbx7 cby7
      have cbx8 := bx8.cell
      have cby8 := by8.cell
      clear hB
      have conI := In_any (some ap) (setI al).length cp (setI al) a2 w8 hp8 (by omega)
      rw [hr] at conI
      clear hr conH
      go_wp2_with fail
      refine (conI).mono ?_
      rintro e w' ⟨rfl, rfl⟩
      clear conI
      have hrr : (r == r) = true := by simp
      obtain ⟨u, hu⟩ : ∃ u, subB (setI al) (setI bl) = u := ⟨_, rfl⟩
      have conS := Sub_any _ _ (setI al) (setI bl) w8 hx8 hy8 (by omega) (by omega)
      rw [hu] at conS
      have HU := Lib.hid hu
      clear hu
      go_wp2_with fail
      refine (conS).mono ?_
      rintro e w9 ⟨rfl, hB⟩
      have ha9 := ha8.below hB ha8.lt
      have hb9 := hb8.below hB hb8.lt
      have hx9 := hx8.below hB
      have hy9 := hy8.below hB
      have bx9 := (Keep.of_below hB).boxed bx8 bx8.lt
      have by9 := (Keep.of_below hB).boxed by8 by8.lt
      have hp9 := hp8.below hB hp8.lt
      have hq9 := hq8.below hB hq8.lt
      have hB9 := hB8.trans (hB.mono hB8.size)
      clear ha8 hb8 hx8 hy8 bx8 by8 hp8 hq8 hB8
      try clear cbx8 cby8
      have cbx9 := bx9.cell
      have cby9 := by9.cell
      clear hB
      have conB := Both_any (some ap) (some aq) (setI al).length cp (setI bl).length cq (setI al) (setI bl) false w9 hp9 hq9 (by omega) (by omega)
      have hbs := both_sub (setI al) (setI bl)
      rw [HU.out] at hbs
      have hbl := bothL_length (setI al) (setI bl) false
      generalize (bothL (setI al) (setI bl) false) = ps at conB hbs hbl
      clear conS HU
      go_wp2_with fail
      refine (conB).mono ?_
      rintro e w10 ⟨qb, cb, rfl, _, _, hB⟩
      have ha10 := ha9.below hB ha9.lt
      have hb10 := hb9.below hB hb9.lt
      have hx10 := hx9.below hB
      have hy10 := hy9.below hB
      have bx10 := (Keep.of_below hB).boxed bx9 bx9.lt
      have by10 := (Keep.of_below hB).boxed by9 by9.lt
      have hp10 := hp9.below hB hp9.lt
      have hq10 := hq9.below hB hq9.lt
      have hB10 := hB9.trans (hB.mono hB9.size)
      clear ha9 hb9 hx9 hy9 bx9 by9 hp9 hq9 hB9
      try clear cbx9 cby9
      have cbx10 := bx10.cell
      have cby10 := by10.cell
      clear hB
      have huu : (u == u) = true := by simp
      clear conB
      obtain ⟨m, hm⟩ : ∃ m, cmpL (setI al) (setI bl) = m := ⟨_, rfl⟩
      have conC := Cmp_any _ _ (setI al) (setI bl) w10 hx10 hy10
      rw [hm] at conC
      have conD := fun w h1 h2 => refCmp_any (some ap) (some aq) (setI al).length cp (setI bl).length cq (setI al) (setI bl) w h1 h2 (by omega) (by omega)
      rw [hm] at conD
      clear hm
      go_wp2_with fail
      refine (conC).mono ?_
      rintro e w11 ⟨rfl, hB⟩
      have ha11 := ha10.below hB ha10.lt
      have hb11 := hb10.below hB hb10.lt
      have hx11 := hx10.below hB
      have hy11 := hy10.below hB
      have bx11 := (Keep.of_below hB).boxed bx10 bx10.lt
      have by11 := (Keep.of_below hB).boxed by10 by10.lt
      have hp11 := hp10.below hB hp10.lt
      have hq11 := hq10.below hB hq10.lt
      have hB11 := hB10.trans (hB.mono hB10.size)
      clear ha10 hb10 hx10 hy10 bx10 by10 hp10 hq10 hB10
      try clear cbx10 cby10
      have cbx11 := bx11.cell
      have cby11 := by11.cell
      clear hB
      go_wp2_with fail
      refine (conD _ hp11 hq11).mono ?_
      rintro e w12 ⟨rfl, hB⟩
      have ha12 := ha11.below hB ha11.lt
      have hb12 := hb11.below hB hb11.lt
      have hx12 := hx11.below hB
      have hy12 := hy11.below hB
      have bx12 := (Keep.of_below hB).boxed bx11 bx11.lt
      have by12 := (Keep.of_below hB).boxed by11 by11.lt
      have hp12 := hp11.below hB hp11.lt
      have hq12 := hq11.below hB hq11.lt
      have hB12 := hB11.trans (hB.mono hB11.size)
      clear ha11 hb11 hx11 hy11 bx11 by11 hp11 hq11 hB11
      try clear cbx11 cby11
      have cbx12 := bx12.cell
      have cby12 := by12.cell
      clear hB
      go_wp2
      go_ret
      exact ⟨rfl, hB12⟩
    · by_cases h0 : (0 : Int) ≤ a3
      · have e1 : decide ((0 : Int) ≤ a3) = true := by simpa using h0
        have e2 : decide (a3 < ((setI al).length : Int)) = false := by simpa using h
        clear h h0
        obtain ⟨r, hr⟩ : ∃ r, hasL (setI al) a2 = r := ⟨_, rfl⟩
        have conH := Has_any _ (setI al) a2 w7 hx7
        rw [hr] at conH
        go_wp2_with fail
        refine (conH).mono ?_
        rintro e w8 ⟨rfl, hB⟩
        have ha8 := ha7.below hB ha7.lt
        have hb8 := hb7.below hB hb7.lt
        have hx8 := hx7.below hB
        have hy8 := hy7.below hB
        have bx8 := (Keep.of_below hB).boxed bx7 bx7.lt
        have by8 := (Keep.of_below hB).boxed by7 by7.lt
        have hp8 := hp7.below hB hp7.lt
        have hq8 := hq7.below hB hq7.lt
        have hB8 := hB7.trans (hB.mono hB7.size)
        clear ha7 hb7 hx7 hy7 bx7 by7 hp7 hq7 hB7
        try clear cbx7 cby7
        have cbx8 := bx8.cell
        have cby8 := by8.cell
        clear hB
        have conI := In_any (some ap) (setI al).length cp (setI al) a2 w8 hp8 (by omega)
        rw [hr] at conI
        clear hr conH
        go_wp2_with fail
        refine (conI).mono ?_
        rintro e w' ⟨rfl, rfl⟩
        clear conI
        have hrr : (r == r) = true := by simp
        obtain ⟨u, hu⟩ : ∃ u, subB (setI al) (setI bl) = u := ⟨_, rfl⟩
        have conS := Sub_any _ _ (setI al) (setI bl) w8 hx8 hy8 (by omega) (by omega)
        rw [hu] at conS
        have HU := Lib.hid hu
        clear hu
        go_wp2_with fail
        refine (conS).mono ?_
        rintro e w9 ⟨rfl, hB⟩
        have ha9 := ha8.below hB ha8.lt
        have hb9 := hb8.below hB hb8.lt
        have hx9 := hx8.below hB
        have hy9 := hy8.below hB
        have bx9 := (Keep.of_below hB).boxed bx8 bx8.lt
        have by9 := (Keep.of_below hB).boxed by8 by8.lt
        have hp9 := hp8.below hB hp8.lt
        have hq9 := hq8.below hB hq8.lt
        have hB9 := hB8.trans (hB.mono hB8.size)
        clear ha8 hb8 hx8 hy8 bx8 by8 hp8 hq8 hB8
        try clear cbx8 cby8
        have cbx9 := bx9.cell
        have cby9 := by9.cell
        clear hB
        have conB := Both_any (some ap) (some aq) (setI al).length cp (setI bl).length cq (setI al) (setI bl) false w9 hp9 hq9 (by omega) (by omega)
        have hbs := both_sub (setI al) (setI bl)
        rw [HU.out] at hbs
        have hbl := bothL_length (setI al) (setI bl) false
        generalize (bothL (setI al) (setI bl) false) = ps at conB hbs hbl
        clear conS HU
        go_wp2_with fail
        refine (conB).mono ?_
        rintro e w10 ⟨qb, cb, rfl, _, _, hB⟩
        have ha10 := ha9.below hB ha9.lt
        have hb10 := hb9.below hB hb9.lt
        have hx10 := hx9.below hB
        have hy10 := hy9.below hB
        have bx10 := (Keep.of_below hB).boxed bx9 bx9.lt
        have by10 := (Keep.of_below hB).boxed by9 by9.lt
        have hp10 := hp9.below hB hp9.lt
        have hq10 := hq9.below hB hq9.lt
        have hB10 := hB9.trans (hB.mono hB9.size)
        clear ha9 hb9 hx9 hy9 bx9 by9 hp9 hq9 hB9
        try clear cbx9 cby9
        have cbx10 := bx10.cell
        have cby10 := by10.cell
        clear hB
        have huu : (u == u) = true := by simp
        clear conB
        obtain ⟨m, hm⟩ : ∃ m, cmpL (setI al) (setI bl) = m := ⟨_, rfl⟩
        have conC := Cmp_any _ _ (setI al) (setI bl) w10 hx10 hy10
        rw [hm] at conC
        have conD := fun w h1 h2 => refCmp_any (some ap) (some aq) (setI al).length cp (setI bl).length cq (setI al) (setI bl) w h1 h2 (by omega) (by omega)
        rw [hm] at conD
        clear hm
        go_wp2_with fail
        refine (conC).mono ?_
        rintro e w11 ⟨rfl, hB⟩
        have ha11 := ha10.below hB ha10.lt
        have hb11 := hb10.below hB hb10.lt
        have hx11 := hx10.below hB
        have hy11 := hy10.below hB
        have bx11 := (Keep.of_below hB).boxed bx10 bx10.lt
        have by11 := (Keep.of_below hB).boxed by10 by10.lt
        have hp11 := hp10.below hB hp10.lt
        have hq11 := hq10.below hB hq10.lt
        have hB11 := hB10.trans (hB.mono hB10.size)
        clear ha10 hb10 hx10 hy10 bx10 by10 hp10 hq10 hB10
        try clear cbx10 cby10
        have cbx11 := bx11.cell
        have cby11 := by11.cell
        clear hB
        go_wp2_with fail
        refine (conD _ hp11 hq11).mono ?_
        rintro e w12 ⟨rfl, hB⟩
        have ha12 := ha11.below hB ha11.lt
        have hb12 := hb11.below hB hb11.lt
        have hx12 := hx11.below hB
        have hy12 := hy11.below hB
        have bx12 := (Keep.of_below hB).boxed bx11 bx11.lt
        have by12 := (Keep.of_below hB).boxed by11 by11.lt
        have hp12 := hp11.below hB hp11.lt
        have hq12 := hq11.below hB hq11.lt
        have hB12 := hB11.trans (hB.mono hB11.size)
        clear ha11 hb11 hx11 hy11 bx11 by11 hp11 hq11 hB11
        try clear cbx11 cby11
        have cbx12 := bx12.cell
        have cby12 := by12.cell
        clear hB
        go_wp2
        go_ret
        exact ⟨rfl, hB12⟩
      · have e1 : decide ((0 : Int) ≤ a3) = false := by simpa using h0
        clear h h0
        obtain ⟨r, hr⟩ : ∃ r, hasL (setI al) a2 = r := ⟨_, rfl⟩
        have conH := Has_any _ (setI al) a2 w7 hx7
        rw [hr] at conH
        go_wp2_with fail
        refine (conH).mono ?_
        rintro e w8 ⟨rfl, hB⟩
        have ha8 := ha7.below hB ha7.lt
        have hb8 := hb7.below hB hb7.lt
        have hx8 := hx7.below hB
        have hy8 := hy7.below hB
        have bx8 := (Keep.of_below hB).boxed bx7 bx7.lt
        have by8 := (Keep.of_below hB).boxed by7 by7.lt
        have hp8 := hp7.below hB hp7.lt
        have hq8 := hq7.below hB hq7.lt
        have hB8 := hB7.trans (hB.mono hB7.size)
        clear ha7 hb7 hx7 hy7 bx7 by7 hp7 hq7 hB7
        try clear cbx7 cby7
        have cbx8 := bx8.cell
        have cby8 := by8.cell
        clear hB
        have conI := In_any (some ap) (setI al).length cp (setI al) a2 w8 hp8 (by omega)
        rw [hr] at conI
        clear hr conH
        go_wp2_with fail
        refine (conI).mono ?_
        rintro e w' ⟨rfl, rfl⟩
        clear conI
        have hrr : (r == r) = true := by simp
        obtain ⟨u, hu⟩ : ∃ u, subB (setI al) (setI bl) = u := ⟨_, rfl⟩
        have conS := Sub_any _ _ (setI al) (setI bl) w8 hx8 hy8 (by omega) (by omega)
        rw [hu] at conS
        have HU := Lib.hid hu
        clear hu
        go_wp2_with fail
        refine (conS).mono ?_
        rintro e w9 ⟨rfl, hB⟩
        have ha9 := ha8.below hB ha8.lt
        have hb9 := hb8.below hB hb8.lt
        have hx9 := hx8.below hB
        have hy9 := hy8.below hB
        have bx9 := (Keep.of_below hB).boxed bx8 bx8.lt
        have by9 := (Keep.of_below hB).boxed by8 by8.lt
        have hp9 := hp8.below hB hp8.lt
        have hq9 := hq8.below hB hq8.lt
        have hB9 := hB8.trans (hB.mono hB8.size)
        clear ha8 hb8 hx8 hy8 bx8 by8 hp8 hq8 hB8
        try clear cbx8 cby8
        have cbx9 := bx9.cell
        have cby9 := by9.cell
        clear hB
        have conB := Both_any (some ap) (some aq) (setI al).length cp (setI bl).length cq (setI al) (setI bl) false w9 hp9 hq9 (by omega) (by omega)
        have hbs := both_sub (setI al) (setI bl)
        rw [HU.out] at hbs
        have hbl := bothL_length (setI al) (setI bl) false
        generalize (bothL (setI al) (setI bl) false) = ps at conB hbs hbl
        clear conS HU
        go_wp2_with fail
        refine (conB).mono ?_
        rintro e w10 ⟨qb, cb, rfl, _, _, hB⟩
        have ha10 := ha9.below hB ha9.lt
        have hb10 := hb9.below hB hb9.lt
        have hx10 := hx9.below hB
        have hy10 := hy9.below hB
        have bx10 := (Keep.of_below hB).boxed bx9 bx9.lt
        have by10 := (Keep.of_below hB).boxed by9 by9.lt
        have hp10 := hp9.below hB hp9.lt
        have hq10 := hq9.below hB hq9.lt
        have hB10 := hB9.trans (hB.mono hB9.size)
        clear ha9 hb9 hx9 hy9 bx9 by9 hp9 hq9 hB9
        try clear cbx9 cby9
        have cbx10 := bx10.cell
        have cby10 := by10.cell
        clear hB
        have huu : (u == u) = true := by simp
        clear conB
        obtain ⟨m, hm⟩ : ∃ m, cmpL (setI al) (setI bl) = m := ⟨_, rfl⟩
        have conC := Cmp_any _ _ (setI al) (setI bl) w10 hx10 hy10
        rw [hm] at conC
        have conD := fun w h1 h2 => refCmp_any (some ap) (some aq) (setI al).length cp (setI bl).length cq (setI al) (setI bl) w h1 h2 (by omega) (by omega)
        rw [hm] at conD
        clear hm
        go_wp2_with fail
        refine (conC).mono ?_
        rintro e w11 ⟨rfl, hB⟩
        have ha11 := ha10.below hB ha10.lt
        have hb11 := hb10.below hB hb10.lt
        have hx11 := hx10.below hB
        have hy11 := hy10.below hB
        have bx11 := (Keep.of_below hB).boxed bx10 bx10.lt
        have by11 := (Keep.of_below hB).boxed by10 by10.lt
        have hp11 := hp10.below hB hp10.lt
        have hq11 := hq10.below hB hq10.lt
        have hB11 := hB10.trans (hB.mono hB10.size)
        clear ha10 hb10 hx10 hy10 bx10 by10 hp10 hq10 hB10
        try clear cbx10 cby10
        have cbx11 := bx11.cell
        have cby11 := by11.cell
        clear hB
        go_wp2_with fail
        refine (conD _ hp11 hq11).mono ?_
        rintro e w12 ⟨rfl, hB⟩
        have ha12 := ha11.below hB ha11.lt
        have hb12 := hb11.below hB hb11.lt
        have hx12 := hx11.below hB
        have hy12 := hy11.below hB
        have bx12 := (Keep.of_below hB).boxed bx11 bx11.lt
        have by12 := (Keep.of_below hB).boxed by11 by11.lt
        have hp12 := hp11.below hB hp11.lt
        have hq12 := hq11.below hB hq11.lt
        have hB12 := hB11.trans (hB.mono hB11.size)
        clear ha11 hb11 hx11 hy11 bx11 by11 hp11 hq11 hB11
        try clear cbx11 cby11
        have cbx12 := bx12.cell
        have cby12 := by12.cell
        clear hB
        go_wp2
        go_ret
        exact ⟨rfl, hB12⟩
  | some y =>
    have hcase : 0 ≤ a3 ∧ (setI al)[a3.toNat]? = some y := by
      have := HAT.out
      unfold atL at this
      by_cases h : 0 ≤ a3
      · rw [if_pos h] at this; exact ⟨h, this⟩
      · rw [if_neg h] at this; cases this
    obtain ⟨h0, hy⟩ := hcase
    obtain ⟨k, rfl⟩ : ∃ k : Nat, a3 = k := ⟨a3.toNat, by omega⟩
    rw [Int.toNat_natCast] at hy
    have hk : k < (setI al).length := (List.getElem?_eq_some_iff.1 hy).1
    obtain ⟨b, o, he, _, hc⟩ := hp7.at (by omega)
    cases he
    have hck := hc k y hy
    have e1 : decide ((0 : Int) ≤ (k : Int)) = true := by simp
    have e2 : decide ((k : Int) < ((setI al).length : Int)) = true := by simpa using hk
    clear HAT conA hp_ hc hy h0
    obtain ⟨r, hr⟩ : ∃ r, hasL (setI al) a2 = r := ⟨_, rfl⟩
    have conH := Has_any _ (setI al) a2 w7 hx7
    rw [hr] at conH
    go_wp2_with fail
    refine (conH).mono ?_
    rintro e w8 ⟨rfl, hB⟩
    have ha8 := ha7.below hB ha7.lt
    have hb8 := hb7.below hB hb7.lt
    have hx8 := hx7.below hB
    have hy8 := hy7.below hB
    have bx8 := (Keep.of_below hB).boxed bx7 bx7.lt
    have by8 := (Keep.of_below hB).boxed by7 by7.lt
    have hp8 := hp7.below hB hp7.lt
    have hq8 := hq7.below hB hq7.lt
    have hB8 := hB7.trans (hB.mono hB7.size)
    clear ha7 hb7 hx7 hy7 bx7 by7 hp7 hq7 hB7
    try clear cbx7 cby7
    have cbx8 := bx8.cell
    have cby8 := by8.cell
    clear hB
    have conI := In_any (some ⟨b, o, none⟩) (setI al).length cp (setI al) a2 w8 hp8 (by omega)
    rw [hr] at conI
    clear hr conH
    go_wp2_with fail
    refine (conI).mono ?_
    rintro e w' ⟨rfl, rfl⟩
    clear conI
    have hrr : (r == r) = true := by simp
    obtain ⟨u, hu⟩ : ∃ u, subB (setI al) (setI bl) = u := ⟨_, rfl⟩
    have conS := Sub_any _ _ (setI al) (setI bl) w8 hx8 hy8 (by omega) (by omega)
    rw [hu] at conS
    have HU := Lib.hid hu
    clear hu
    go_wp2_with fail
    refine (conS).mono ?_
    rintro e w9 ⟨rfl, hB⟩
    have ha9 := ha8.below hB ha8.lt
    have hb9 := hb8.below hB hb8.lt
    have hx9 := hx8.below hB
    have hy9 := hy8.below hB
    have bx9 := (Keep.of_below hB).boxed bx8 bx8.lt
    have by9 := (Keep.of_below hB).boxed by8 by8.lt
    have hp9 := hp8.below hB hp8.lt
    have hq9 := hq8.below hB hq8.lt
    have hB9 := hB8.trans (hB.mono hB8.size)
    clear ha8 hb8 hx8 hy8 bx8 by8 hp8 hq8 hB8
    try clear cbx8 cby8
    have cbx9 := bx9.cell
    have cby9 := by9.cell
    clear hB
    have conB := Both_any (some ⟨b, o, none⟩) (some aq) (setI al).length cp (setI bl).length cq (setI al) (setI bl) false w9 hp9 hq9 (by omega) (by omega)
    have hbs := both_sub (setI al) (setI bl)
    rw [HU.out] at hbs
    have hbl := bothL_length (setI al) (setI bl) false
    generalize (bothL (setI al) (setI bl) false) = ps at conB hbs hbl
    clear conS HU
    go_wp2_with fail
    refine (conB).mono ?_
    rintro e w10 ⟨qb, cb, rfl, _, _, hB⟩
    have ha10 := ha9.below hB ha9.lt
    have hb10 := hb9.below hB hb9.lt
    have hx10 := hx9.below hB
    have hy10 := hy9.below hB
    have bx10 := (Keep.of_below hB).boxed bx9 bx9.lt
    have by10 := (Keep.of_below hB).boxed by9 by9.lt
    have hp10 := hp9.below hB hp9.lt
    have hq10 := hq9.below hB hq9.lt
    have hB10 := hB9.trans (hB.mono hB9.size)
    clear ha9 hb9 hx9 hy9 bx9 by9 hp9 hq9 hB9
    try clear cbx9 cby9
    have cbx10 := bx10.cell
    have cby10 := by10.cell
    clear hB
    have huu : (u == u) = true := by simp
    clear conB
    obtain ⟨m, hm⟩ : ∃ m, cmpL (setI al) (setI bl) = m := ⟨_, rfl⟩
    have conC := Cmp_any _ _ (setI al) (setI bl) w10 hx10 hy10
    rw [hm] at conC
    have conD := fun w h1 h2 => refCmp_any (some ⟨b, o, none⟩) (some aq) (setI al).length cp (setI bl).length cq (setI al) (setI bl) w h1 h2 (by omega) (by omega)
    rw [hm] at conD
    clear hm
    go_wp2_with fail
    refine (conC).mono ?_
    rintro e w11 ⟨rfl, hB⟩
    have ha11 := ha10.below hB ha10.lt
    have hb11 := hb10.below hB hb10.lt
    have hx11 := hx10.below hB
    have hy11 := hy10.below hB
    have bx11 := (Keep.of_below hB).boxed bx10 bx10.lt
    have by11 := (Keep.of_below hB).boxed by10 by10.lt
    have hp11 := hp10.below hB hp10.lt
    have hq11 := hq10.below hB hq10.lt
    have hB11 := hB10.trans (hB.mono hB10.size)
    clear ha10 hb10 hx10 hy10 bx10 by10 hp10 hq10 hB10
    try clear cbx10 cby10
    have cbx11 := bx11.cell
    have cby11 := by11.cell
    clear hB
    go_wp2_with fail
    refine (conD _ hp11 hq11).mono ?_
    rintro e w12 ⟨rfl, hB⟩
    have ha12 := ha11.below hB ha11.lt
    have hb12 := hb11.below hB hb11.lt
    have hx12 := hx11.below hB
    have hy12 := hy11.below hB
    have bx12 := (Keep.of_below hB).boxed bx11 bx11.lt
    have by12 := (Keep.of_below hB).boxed by11 by11.lt
    have hp12 := hp11.below hB hp11.lt
    have hq12 := hq11.below hB hq11.lt
    have hB12 := hB11.trans (hB.mono hB11.size)
    clear ha11 hb11 hx11 hy11 bx11 by11 hp11 hq11 hB11
    try clear cbx11 cby11
    have cbx12 := bx12.cell
    have cby12 := by12.cell
    clear hB
    go_wp2
    go_ret
    exact ⟨rfl, hB12⟩

set_option maxRecDepth 100000 in
theorem lifted (os : Os) (started : os.Started) (H : Type) (enc : TypeId × Value → H) :
    ReturnsInHanded {} Try.checked os 4 .any (Rows.sortedTellsSpec.pre6 enc Try.prog Try.f4 Rows.sortedTellsRow.domain false) (Rows.sortedTellsSpec.post enc Try.prog Try.f4 false true false false) := by
  refine returnsInHanded_of_change (C := Try.checked) own started (by kernel_rfl) Try.func4
    (ChangeSpec.witness6 (enc := enc) (C := Try.checked) false ⟨#[], #[.slice none 0 0, .slice none 0 0, .int .i64 0, .int .i64 0], []⟩ 8 (by kernel_rfl) (by kernel_rfl) (by kernel_rfl) (by kernel_rfl)) ?_
  intro W base args ds gs before hval0 hW hcnd _
  have hval : ∀ (j : Nat) t v, Try.f4.params[j]? = some t → args[j]? = some v → Value.okWide Try.prog W .any base t v := hval0
  have hW' := hW
  obtain ⟨p, q, hA0, hV, rfl, hfz, hnd⟩ := hW
  have hA : DataW.TrodAll enc Try.prog W 0 (fun _ => true) true Try.f4.params.toList args.toList ds p := hA0
  rw [Try.params4] at hA hval
  obtain ⟨v0, vs0, d0, ds0, p0, q0, hargs, rfl, rfl, h0, r0⟩ := trodAll_cons hA
  obtain ⟨v1, vs1, d1, ds1, p1, q1, rfl, rfl, rfl, h1, r1⟩ := trodAll_cons r0
  obtain ⟨v2, vs2, d2, ds2, p2, q2, rfl, rfl, rfl, h2, r2⟩ := trodAll_cons r1
  obtain ⟨v3, vs3, d3, ds3, p3, q3, rfl, rfl, rfl, h3, r3⟩ := trodAll_cons r2
  obtain ⟨rfl, rfl, rfl⟩ := trodAll_nil r3
  obtain rfl : args = #[v0, v1, v2, v3] := by cases args; simp_all
  obtain ⟨rfl, rfl⟩ := trodVars_none hV
  obtain ⟨a0, len0, cap0, rfl⟩ := okWide_slice Try.underlying22 (hval 0 22 v0 rfl rfl)
  have k0 := h0
  have lt0 : ∀ x ∈ p0, x.block < W.heap.size := by obtain ⟨m, hm⟩ := k0; exact DataW.trod_lt m _ _ _ hm
  obtain ⟨z0, w0⟩ : ∃ zs, IsRow .i64 W a0 len0 cap0 zs := by
    obtain ⟨fuel, hf⟩ := h0
    rcases open_ints Try.underlying22 Try.underlying3 (by kernel_rfl) hf with ⟨hcs, _⟩ | ⟨x, l, c, zs, hcs, _, hl, hm, hz, _, hcell, hwz⟩
    · simp [Value.cells] at hcs
      obtain ⟨rfl, rfl, rfl⟩ := hcs
      exact ⟨[], .inl ⟨rfl, rfl, rfl, rfl⟩⟩
    · simp [Value.cells] at hcs
      obtain ⟨rfl, rfl, rfl⟩ := hcs
      exact ⟨zs, .inr ⟨_, rfl, hl, hm, by simpa using hz, hcell, hwz⟩⟩
  obtain ⟨a1, len1, cap1, rfl⟩ := okWide_slice Try.underlying22 (hval 1 22 v1 rfl rfl)
  have k1 := h1
  have lt1 : ∀ x ∈ p1, x.block < W.heap.size := by obtain ⟨m, hm⟩ := k1; exact DataW.trod_lt m _ _ _ hm
  obtain ⟨z1, w1⟩ : ∃ zs, IsRow .i64 W a1 len1 cap1 zs := by
    obtain ⟨fuel, hf⟩ := h1
    rcases open_ints Try.underlying22 Try.underlying3 (by kernel_rfl) hf with ⟨hcs, _⟩ | ⟨x, l, c, zs, hcs, _, hl, hm, hz, _, hcell, hwz⟩
    · simp [Value.cells] at hcs
      obtain ⟨rfl, rfl, rfl⟩ := hcs
      exact ⟨[], .inl ⟨rfl, rfl, rfl, rfl⟩⟩
    · simp [Value.cells] at hcs
      obtain ⟨rfl, rfl, rfl⟩ := hcs
      exact ⟨zs, .inr ⟨_, rfl, hl, hm, by simpa using hz, hcell, hwz⟩⟩
  obtain ⟨a2, rfl, rfl, rfl, w2⟩ := open_int Try.underlying3 (hval 2 3 v2 rfl rfl) h2
  obtain ⟨a3, rfl, rfl, rfl, w3⟩ := open_int Try.underlying3 (hval 3 3 v3 rfl rfl) h3
  clear hA0 hval0
  refine (walk a0 len0 cap0 z0 a1 len1 cap1 z1 a2 a3 W w0 w1 w2 w3).mono fun e W' ⟨he, bel⟩ => ?_
  subst he
  exact ⟨_, rfl, _, _, _, [], _, [], hW', trodAll_mk1 (shut_bool Try.underlying4 _), (trodAll_cons_mk (Below.trod laidOut (by kernel_rfl) (of_decide_eq_true (by kernel_rfl)) k0 bel lt0) (trodAll_cons_mk (Below.trod laidOut (by kernel_rfl) (of_decide_eq_true (by kernel_rfl)) k1 bel lt1) (trodAll_cons_mk (shut_int Try.underlying3 w2) (trodAll_cons_mk (shut_int Try.underlying3 w3) trodAll_mk0)))), rfl, bel.frame _, fun h => by cases h⟩

theorem over : Rows.sortedTellsRow.holds Try.pinned (OpenSpec.ofChange Rows.sortedTellsSpec) :=
  OpenClaim.holds_of_wide 4 Try.f4 rfl rfl rfl rfl rfl rfl rfl ⟨rfl, rfl, rfl, rfl, rfl⟩ rfl rfl rfl rfl rfl (by kernel_rfl) Try.func4 (by kernel_rfl)
    (of_decide_eq_true (by kernel_rfl)) (by unfold Func.isWrapper; first | (rw [if_pos (by decide +kernel)]; kernel_rfl) | (rw [if_neg (by decide +kernel)]; exact ⟨rfl, rfl⟩))
    (fun os started H enc _ => lifted os started H enc)

theorem proved : Rows.SortedTellsSaid := over
end Go.Proofs.Ythfclmnmnmeldaa.sortedTells
