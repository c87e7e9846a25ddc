/- SortedRules: the law returns true at whatever input, and writes nothing that was there. Conditions: none. -/
import Derived.Test.YthfclmnmnmeldaaRows
import Derived.Test.YthfclmnmnmeldaaSetR
import Derived.Test.YthfclmnmnmeldaaOrdP
import Derived.WalkKit
import Derived.ProofKit
import Derived.OpenShut
import Derived.ShutString
import Derived.ChangeOld
import Derived.Below
import Derived.IntWalk
namespace Go.Proofs.Ythfclmnmnmeldaa.sortedRules
open Go.ChangeShapes Go.WideShapes Go.ChangeAt Go.RowKit
open Go.ChangeMaps (open_string shut_string)
set_option linter.unusedVariables false

theorem own : ownKnob Try.prog.godebug = none := by kernel_rfl
theorem laidOut : laidOutB Try.prog = true := by kernel_rfl

def IsRow (k : IntKind) (w : World) (a : Option Addr) (len cap : Nat) (zs : List Int) : Prop :=
  (a = none ∧ len = 0 ∧ cap = 0 ∧ zs = []) ∨
  ∃ x, a = some x ∧ len ≤ cap ∧ cap ≤ maxLen ∧ zs.length = cap ∧ (∀ i, i < zs.length → w.cell? (x.add i) = some (.int k (zs.getD i 0))) ∧ ∀ n ∈ zs, (Lit.int k n).wf = true

theorem row_ints {w : World} {a : Option Addr} {len cap : Nat} {zs : List Int} (h : IsRow .i64 w a len cap zs) : ∃ xs : List Int, SlIn (Value.int .i64) w a len xs ∧ (a = none → cap = 0) ∧ len ≤ cap := by
  rcases h with ⟨rfl, rfl, rfl, rfl⟩ | ⟨⟨b, o, s⟩, rfl, h1, h2, h3, h4, h5⟩
  · exact ⟨[], SlIn.nil _ _ _, fun _ => rfl, Nat.le_refl _⟩
  · refine ⟨zs.take len, ⟨by simp; omega, fun hp => ?_⟩, (fun h => by cases h), h1⟩
    have hc0 := h4 0 (by omega)
    have hspot : s = none := by simpa [Addr.add] using World.cell?_spot hc0
    subst hspot
    rw [Go.WideShapes.add_plain] at hc0
    refine ⟨b, o, rfl, World.block_lt_of_cell? w _ hc0, fun i x hx => ?_⟩
    rw [List.getElem?_take] at hx
    split at hx
    · have := h4 i (by omega)
      rw [Go.WideShapes.add_plain] at this
      rw [this, List.getD, hx]; rfl
    · cases hx

theorem pickL_len (ws : List Nat) (xs ys : List Int) : (pickL ws xs ys).length ≤ xs.length + ys.length := Nat.le_trans (picked_length _ _) (mrg_length xs ys)
theorem cmp_of (xs ys : List Int) (hx : Rises xs) (hy : Rises ys) (h : ∀ a, a ∈ xs ↔ a ∈ ys) : cmpL xs ys = 0 := (cmpL_eq xs ys).2 (rises_ext hx hy h)
theorem rJ (x y : List Int) (hx : Rises x) (hy : Rises y) : Rises (pickL [1, 2, 3] x y) := pickL_rises _ _ _ hx hy
theorem rM (x y : List Int) (hx : Rises x) (hy : Rises y) : Rises (pickL [3] x y) := pickL_rises _ _ _ hx hy
theorem rD (x y : List Int) (hx : Rises x) (hy : Rises y) : Rises (pickL [1] x y) := pickL_rises _ _ _ hx hy
theorem law1 (x y : List Int) (hx : Rises x) (hy : Rises y) : cmpL (pickL [1, 2, 3] x y) (pickL [1, 2, 3] y x) = 0 :=
  cmp_of _ _ (rJ x y hx hy) (rJ y x hy hx) fun a => by rw [mem_join _ _ hx hy, mem_join _ _ hy hx]; exact Or.comm
theorem law2 (x y : List Int) (hx : Rises x) (hy : Rises y) : cmpL (pickL [3] x y) (pickL [3] y x) = 0 :=
  cmp_of _ _ (rM x y hx hy) (rM y x hy hx) fun a => by rw [mem_meet _ _ hx hy, mem_meet _ _ hy hx]; exact And.comm
theorem law3 (x y z : List Int) (hx : Rises x) (hy : Rises y) (hz : Rises z) : cmpL (pickL [1, 2, 3] (pickL [1, 2, 3] x y) z) (pickL [1, 2, 3] x (pickL [1, 2, 3] y z)) = 0 :=
  cmp_of _ _ (rJ _ _ (rJ x y hx hy) hz) (rJ _ _ hx (rJ y z hy hz)) fun a => by
    rw [mem_join _ _ (rJ x y hx hy) hz, mem_join _ _ hx hy, mem_join _ _ hx (rJ y z hy hz), mem_join _ _ hy hz]; exact or_assoc
theorem law4 (x y z : List Int) (hx : Rises x) (hy : Rises y) (hz : Rises z) : cmpL (pickL [3] x (pickL [1, 2, 3] y z)) (pickL [1, 2, 3] (pickL [3] x y) (pickL [3] x z)) = 0 :=
  cmp_of _ _ (rM _ _ hx (rJ y z hy hz)) (rJ _ _ (rM x y hx hy) (rM x z hx hz)) fun a => by
    rw [mem_meet _ _ hx (rJ y z hy hz), mem_join _ _ hy hz, mem_join _ _ (rM x y hx hy) (rM x z hx hz), mem_meet _ _ hx hy, mem_meet _ _ hx hz]; exact and_or_left
theorem law5 (x y : List Int) (hx : Rises x) (hy : Rises y) : cmpL (pickL [1, 2, 3] (pickL [3] x y) (pickL [1] x y)) x = 0 :=
  cmp_of _ _ (rJ _ _ (rM x y hx hy) (rD x y hx hy)) hx fun a => by
    rw [mem_join _ _ (rM x y hx hy) (rD x y hx hy), mem_meet _ _ hx hy, mem_minus _ _ hx hy]
    by_cases h : a ∈ y <;> simp [h]
theorem law6 (x y : List Int) (hx : Rises x) (hy : Rises y) : subB (pickL [3] x y) x = true := (subB_iff _ _).2 fun a ha => ((mem_meet _ _ hx hy a).1 ha).1
theorem law7 (x y : List Int) (hx : Rises x) (hy : Rises y) : subB x (pickL [1, 2, 3] x y) = true := (subB_iff _ _).2 fun a ha => (mem_join _ _ hx hy a).2 (.inl ha)
theorem law8 (x y : List Int) (hx : Rises x) (hy : Rises y) : (subB x y == (cmpL (pickL [1, 2, 3] x y) y == 0)) = true := by
  rw [beq_iff_eq, Bool.eq_iff_iff, subB_iff, beq_iff_eq, cmpL_eq]
  constructor
  · intro h
    refine rises_ext (rJ x y hx hy) hy fun a => ?_
    rw [mem_join _ _ hx hy]
    exact ⟨fun k => k.elim (h a) id, .inr⟩
  · intro h a ha
    rw [← h, mem_join _ _ hx hy]
    exact .inl ha
set_option maxHeartbeats 8000000 in
set_option maxRecDepth 100000 in
theorem walk (a0 : Option Addr) (len0 cap0 : Nat) (z0 : List Int) (a1 : Option Addr) (len1 cap1 : Nat) (z1 : List Int) (a2 : Option Addr) (len2 cap2 : Nat) (z2 : List Int) (w : World) (w0 : IsRow .i64 w a0 len0 cap0 z0) (w1 : IsRow .i64 w a1 len1 cap1 z1) (w2 : IsRow .i64 w a2 len2 cap2 z2) :
    Calls Try.prog 5 #[.slice a0 len0 cap0, .slice a1 len1 cap1, .slice a2 len2 cap2] w fun e w' => e = .returned (.bool true) ∧ Below w.heap.size w w' := by
  obtain ⟨al, ha, hna, _⟩ := row_ints w0
  obtain ⟨bl, hb, hnb, _⟩ := row_ints w1
  obtain ⟨cl, hc, hnc, _⟩ := row_ints w2
  clear w0 w1 w2
  by_cases hbig0 : 60 < len0
  · have e0 : decide ((60 : Int) < (len0 : Int)) = true := by simp; omega
    clear ha hb hc
    go_enter Try.func5, Try.ntmps5
    go_wp2_with fail
    refine (lives_any _).mono ?_
    rintro e w2 ⟨rfl, hb2⟩
    go_wp2_with fail
    refine (lives_any _).mono ?_
    rintro e w3 ⟨rfl, hb3⟩
    go_wp2
    go_ret
    exact ⟨rfl, hb2.trans (hb3.mono hb2.size)⟩
  have e0 : decide ((60 : Int) < (len0 : Int)) = false := by simp; omega
  have hs0 : len0 ≤ 60 := by omega
  clear hbig0
  by_cases hbig1 : 60 < len1
  · have e1 : decide ((60 : Int) < (len1 : Int)) = true := by simp; omega
    clear ha hb hc
    go_enter Try.func5, Try.ntmps5
    go_wp2_with fail
    refine (lives_any _).mono ?_
    rintro e w2 ⟨rfl, hb2⟩
    go_wp2_with fail
    refine (lives_any _).mono ?_
    rintro e w3 ⟨rfl, hb3⟩
    go_wp2
    go_ret
    exact ⟨rfl, hb2.trans (hb3.mono hb2.size)⟩
  have e1 : decide ((60 : Int) < (len1 : Int)) = false := by simp; omega
  have hs1 : len1 ≤ 60 := by omega
  clear hbig1
  by_cases hbig2 : 60 < len2
  · have e2 : decide ((60 : Int) < (len2 : Int)) = true := by simp; omega
    clear ha hb hc
    go_enter Try.func5, Try.ntmps5
    go_wp2_with fail
    refine (lives_any _).mono ?_
    rintro e w2 ⟨rfl, hb2⟩
    go_wp2_with fail
    refine (lives_any _).mono ?_
    rintro e w3 ⟨rfl, hb3⟩
    go_wp2
    go_ret
    exact ⟨rfl, hb2.trans (hb3.mono hb2.size)⟩
  have e2 : decide ((60 : Int) < (len2 : Int)) = false := by simp; omega
  have hs2 : len2 ≤ 60 := by omega
  clear hbig2
  have hla := setI_length al
  have hlb := setI_length bl
  have hlc := setI_length cl
  have hra := setI_rises al
  have hrb := setI_rises bl
  have hrc := setI_rises cl
  rw [ha.1] at hla
  rw [hb.1] at hlb
  rw [hc.1] at hlc
  go_enter Try.func5, Try.ntmps5
  go_wp2_with fail
  refine (lives_any _).mono ?_
  rintro e w1 ⟨rfl, hB1⟩
  have ha1 := ha.below hB1 ha.lt
  have hb1 := hb.below hB1 hb.lt
  have hc1 := hc.below hB1 hc.lt
  clear ha hb hc
  go_wp2_with fail
  refine (Of_any a0 len0 cap0 al w1 ha1 hna (by omega)).mono ?_
  rintro e w2 ⟨vx, rfl, sx, hB⟩
  have ha2 := ha1.below hB ha1.lt
  have hb2 := hb1.below hB hb1.lt
  have hc2 := hc1.below hB hc1.lt
  have hB2 := hB1.trans (hB.mono hB1.size)
  clear ha1 hb1 hc1 hB1
  clear hB
  have hsx2 := sx
  clear sx
  go_wp2_with fail
  refine (Of_any a1 len1 cap1 bl w2 hb2 hnb (by omega)).mono ?_
  rintro e w3 ⟨vy, rfl, sy, hB⟩
  have hb3 := hb2.below hB hb2.lt
  have hc3 := hc2.below hB hc2.lt
  have hsx3 := hsx2.below hB
  have hB3 := hB2.trans (hB.mono hB2.size)
  clear hb2 hc2 hsx2 hB2
  clear hB
  have hsy3 := sy
  clear sy
  go_wp2_with fail
  refine (Of_any a2 len2 cap2 cl w3 hc3 hnc (by omega)).mono ?_
  rintro e w4 ⟨vz, rfl, sz, hB⟩
  have hc4 := hc3.below hB hc3.lt
  have hsx4 := hsx3.below hB
  have hsy4 := hsy3.below hB
  have hB4 := hB3.trans (hB.mono hB3.size)
  clear hc3 hsx3 hsy3 hB3
  clear hB
  have hsz4 := sz
  clear sz
  have qx := hsx4
  obtain ⟨qx_, nx_, cx_, rfl, _⟩ := qx
  have qy := hsy4
  obtain ⟨qy_, ny_, cy_, rfl, _⟩ := qy
  have qz := hsz4
  obtain ⟨qz_, nz_, cz_, rfl, _⟩ := qz
  obtain ⟨W, hW⟩ : ∃ W, ((w4.alloc (.cells #[.slice qx_ nx_ cx_] 25)).alloc (.cells #[.slice qy_ ny_ cy_] 25)).alloc (.cells #[.slice qz_ nz_ cz_] 25) = W := ⟨_, rfl⟩
  have bx5 : Boxed W (w4.heap.size) 25 (.slice qx_ nx_ cx_) := by rw [← hW]; exact ((Boxed.new w4 _ _).alloc _).alloc _
  have by5 : Boxed W (w4.heap.size + 1) 25 (.slice qy_ ny_ cy_) := by
    rw [← hW]
    have := (Boxed.new (w4.alloc (.cells #[.slice qx_ nx_ cx_] 25)) 25 (.slice qy_ ny_ cy_)).alloc (.cells #[.slice qz_ nz_ cz_] 25)
    rwa [World.size_alloc] at this
  have bz5 : Boxed W (w4.heap.size + 1 + 1) 25 (.slice qz_ nz_ cz_) := by
    rw [← hW]
    have := Boxed.new ((w4.alloc (.cells #[.slice qx_ nx_ cx_] 25)).alloc (.cells #[.slice qy_ ny_ cy_] 25)) 25 (.slice qz_ nz_ cz_)
    rwa [World.size_alloc, World.size_alloc] at this
  have hBW : Below w4.heap.size w4 W := by rw [← hW]; exact ((below_alloc _).trans ((below_alloc _).mono (by simp))).trans ((below_alloc _).mono (by simp; omega))
  have hB5 := hB4.trans (hBW.mono hB4.size)
  have hsx5 := hsx4.below hBW
  have hsy5 := hsy4.below hBW
  have hsz5 := hsz4.below hBW
  have HW := Lib.hid hW
  clear hsx4 hsy4 hsz4 hBW hB4 hW
  generalize setI al = x at *
  generalize setI bl = y at *
  generalize setI cl = z at *
  have L1 := Lib.hid (law1 x y hra hrb)
  have L2 := Lib.hid (law2 x y hra hrb)
  have L3 := Lib.hid (law3 x y z hra hrb hrc)
  have L4 := Lib.hid (law4 x y z hra hrb hrc)
  have L5 := Lib.hid (law5 x y hra hrb)
  have L6 := Lib.hid (law6 x y hra hrb)
  have L7 := Lib.hid (law7 x y hra hrb)
  have L8 := Lib.hid (law8 x y hra hrb)
  have L9 := Lib.hid (cmpL_neg x y)
  have L9b := cmpL_bd y x
  have p0 := pickL_len [1, 2, 3] x y
  have p1 := pickL_len [1, 2, 3] y x
  have p2 := pickL_len [1, 2, 3] y z
  have p3 := pickL_len [3] x y
  have p4 := pickL_len [3] x z
  have p5 := pickL_len [1] x y
  go_wp2_with fail
  rw [HW.out]
  refine pregion_any (fun X => X.cell? ⟨w4.heap.size, 0, none⟩ = some (.slice qx_ nx_ cx_) ∧ X.cell? ⟨w4.heap.size + 1, 0, none⟩ = some (.slice qy_ ny_ cy_) ∧ X.cell? ⟨w4.heap.size + 1 + 1, 0, none⟩ = some (.slice qz_ nz_ cz_)) (by kernel_rfl) ?_
  have hS5 : (fun X : World => X.cell? ⟨w4.heap.size, 0, none⟩ = some (.slice qx_ nx_ cx_) ∧ X.cell? ⟨w4.heap.size + 1, 0, none⟩ = some (.slice qy_ ny_ cy_) ∧ X.cell? ⟨w4.heap.size + 1 + 1, 0, none⟩ = some (.slice qz_ nz_ cz_)) W.drew := ⟨bx5.cell, by5.cell, bz5.cell⟩
  refine wpAnyH_take (i := 0) (v := .agg #[.slice qx_ nx_ cx_]) rfl (by kernel_rfl) (by kernel_rfl) (by kernel_rfl) (fun _ _ _ h => h) (.inl ⟨by kernel_rfl, ?_⟩) hS5 ?_
  · rintro w ⟨h1, h2, h3⟩; go_simp
  refine plist #[true, false, false, false, false, false, false, false, false, false, false, false, false, false, false, false, false, false, false, false, false, false, false, false, false, false, false, false, false, false, false, false, false, false, false, false, false, false, false, false, false, false, false, false, false, false, false, false] (by kernel_rfl) ?_
  refine wpAnyH_take (i := 1) (v := .agg #[.slice qy_ ny_ cy_]) rfl (by kernel_rfl) (by kernel_rfl) (by kernel_rfl) (fun _ _ _ h => h) (.inl ⟨by kernel_rfl, ?_⟩) hS5 ?_
  · rintro w ⟨h1, h2, h3⟩; go_simp
  refine plist #[true, true, false, false, false, false, false, false, false, false, false, false, false, false, false, false, false, false, false, false, false, false, false, false, false, false, false, false, false, false, false, false, false, false, false, false, false, false, false, false, false, false, false, false, false, false, false, false] (by kernel_rfl) ?_
  refine wpAnyH_take (i := 3) (v := .agg #[.slice qy_ ny_ cy_]) rfl (by kernel_rfl) (by kernel_rfl) (by kernel_rfl) (fun _ _ _ h => h) (.inl ⟨by kernel_rfl, ?_⟩) hS5 ?_
  · rintro w ⟨h1, h2, h3⟩; go_simp
  refine plist #[true, true, false, true, false, false, false, false, false, false, false, false, false, false, false, false, false, false, false, false, false, false, false, false, false, false, false, false, false, false, false, false, false, false, false, false, false, false, false, false, false, false, false, false, false, false, false, false] (by kernel_rfl) ?_
  refine wpAnyH_take (i := 4) (v := .agg #[.slice qx_ nx_ cx_]) rfl (by kernel_rfl) (by kernel_rfl) (by kernel_rfl) (fun _ _ _ h => h) (.inl ⟨by kernel_rfl, ?_⟩) hS5 ?_
  · rintro w ⟨h1, h2, h3⟩; go_simp
  refine plist #[true, true, false, true, true, false, false, false, false, false, false, false, false, false, false, false, false, false, false, false, false, false, false, false, false, false, false, false, false, false, false, false, false, false, false, false, false, false, false, false, false, false, false, false, false, false, false, false] (by kernel_rfl) ?_
  refine pone 2 (by kernel_rfl) rfl fun K hK => ?_
  go_simp
  refine (Join_any _ _ (x) (y) W.drew hsx5 hsy5 (by omega) (by omega)).mono ?_
  rintro e u6 ⟨vj1, rfl, sj1, hB⟩
  have hB : Below W.heap.size W u6 := ⟨hB.os, hB.tape, hB.output, hB.size, hB.block⟩
  have hsx6 := hsx5.below hB
  have hsy6 := hsy5.below hB
  have hsz6 := hsz5.below hB
  have bx6 := (Keep.of_below hB).boxed bx5 bx5.lt
  have by6 := (Keep.of_below hB).boxed by5 by5.lt
  have bz6 := (Keep.of_below hB).boxed bz5 bz5.lt
  have hB6 := hB5.trans (hB.mono hB5.size)
  have hS6 : (fun X : World => X.cell? ⟨w4.heap.size, 0, none⟩ = some (.slice qx_ nx_ cx_) ∧ X.cell? ⟨w4.heap.size + 1, 0, none⟩ = some (.slice qy_ ny_ cy_) ∧ X.cell? ⟨w4.heap.size + 1 + 1, 0, none⟩ = some (.slice qz_ nz_ cz_)) u6 := ⟨bx6.cell, by6.cell, bz6.cell⟩
  clear hB hsx5 hsy5 hsz5 bx5 by5 bz5 hB5 hS5
  have hj16 := sj1
  clear sj1
  refine hK _ _ hS6 ?_
  clear hK K
  refine plist #[true, true, true, true, true, false, false, false, false, false, false, false, false, false, false, false, false, false, false, false, false, false, false, false, false, false, false, false, false, false, false, false, false, false, false, false, false, false, false, false, false, false, false, false, false, false, false, false] (by kernel_rfl) ?_
  refine pone 5 (by kernel_rfl) rfl fun K hK => ?_
  go_simp
  refine (Join_any _ _ (y) (x) u6 hsy6 hsx6 (by omega) (by omega)).mono ?_
  rintro e u7 ⟨vj2, rfl, sj2, hB⟩
  have hsx7 := hsx6.below hB
  have hsy7 := hsy6.below hB
  have hsz7 := hsz6.below hB
  have hj17 := hj16.below hB
  have bx7 := (Keep.of_below hB).boxed bx6 bx6.lt
  have by7 := (Keep.of_below hB).boxed by6 by6.lt
  have bz7 := (Keep.of_below hB).boxed bz6 bz6.lt
  have hB7 := hB6.trans (hB.mono hB6.size)
  have hS7 : (fun X : World => X.cell? ⟨w4.heap.size, 0, none⟩ = some (.slice qx_ nx_ cx_) ∧ X.cell? ⟨w4.heap.size + 1, 0, none⟩ = some (.slice qy_ ny_ cy_) ∧ X.cell? ⟨w4.heap.size + 1 + 1, 0, none⟩ = some (.slice qz_ nz_ cz_)) u7 := ⟨bx7.cell, by7.cell, bz7.cell⟩
  clear hB hsx6 hsy6 hsz6 hj16 bx6 by6 bz6 hB6 hS6
  have hj27 := sj2
  clear sj2
  refine hK _ _ hS7 ?_
  clear hK K
  refine plist #[true, true, true, true, true, true, false, false, false, false, false, false, false, false, false, false, false, false, false, false, false, false, false, false, false, false, false, false, false, false, false, false, false, false, false, false, false, false, false, false, false, false, false, false, false, false, false, false] (by kernel_rfl) ?_
  refine pone 6 (by kernel_rfl) rfl fun K hK => ?_
  go_simp
  have con := Cmp_any _ _ (pickL [1, 2, 3] x y) (pickL [1, 2, 3] y x) u7 hj17 hj27
  rw [L1.out] at con
  refine con.mono ?_
  clear con
  rintro e u8 ⟨rfl, hB⟩
  have hsx8 := hsx7.below hB
  have hsy8 := hsy7.below hB
  have hsz8 := hsz7.below hB
  have hj18 := hj17.below hB
  have hj28 := hj27.below hB
  have bx8 := (Keep.of_below hB).boxed bx7 bx7.lt
  have by8 := (Keep.of_below hB).boxed by7 by7.lt
  have bz8 := (Keep.of_below hB).boxed bz7 bz7.lt
  have hB8 := hB7.trans (hB.mono hB7.size)
  have hS8 : (fun X : World => X.cell? ⟨w4.heap.size, 0, none⟩ = some (.slice qx_ nx_ cx_) ∧ X.cell? ⟨w4.heap.size + 1, 0, none⟩ = some (.slice qy_ ny_ cy_) ∧ X.cell? ⟨w4.heap.size + 1 + 1, 0, none⟩ = some (.slice qz_ nz_ cz_)) u8 := ⟨bx8.cell, by8.cell, bz8.cell⟩
  clear hB hsx7 hsy7 hsz7 hj17 hj27 bx7 by7 bz7 hB7 hS7
  refine hK _ _ hS8 ?_
  clear hK K
  clear hj18
  clear hj28
  refine plist #[true, true, true, true, true, true, true, false, false, false, false, false, false, false, false, false, false, false, false, false, false, false, false, false, false, false, false, false, false, false, false, false, false, false, false, false, false, false, false, false, false, false, false, false, false, false, false, false] (by kernel_rfl) ?_
  refine wpAnyH_take (i := 7) (v := .bool false) rfl (by kernel_rfl) (by kernel_rfl) (by kernel_rfl) (fun _ _ _ h => h) (.inl ⟨by kernel_rfl, ?_⟩) hS8 ?_
  · rintro w ⟨h1, h2, h3⟩; go_simp
  refine plist #[true, true, true, true, true, true, true, true, false, false, false, false, false, false, false, false, false, false, false, false, false, false, false, false, false, false, false, false, false, false, false, false, false, false, false, false, false, false, false, false, false, false, false, false, false, false, false, false] (by kernel_rfl) ?_
  refine wpAnyH_take (i := 8) (v := .bool false) rfl (by kernel_rfl) (by kernel_rfl) (by kernel_rfl) (fun _ _ _ h => h) (.inl ⟨by kernel_rfl, ?_⟩) hS8 ?_
  · rintro w ⟨h1, h2, h3⟩; go_simp
  refine plist #[true, true, true, true, true, true, true, true, true, false, false, false, false, false, false, false, false, false, false, false, false, false, false, false, false, false, false, false, false, false, false, false, false, false, false, false, false, false, false, false, false, false, false, false, false, false, false, false] (by kernel_rfl) ?_
  refine wpAnyH_take (i := 9) (v := .agg #[.slice qx_ nx_ cx_]) rfl (by kernel_rfl) (by kernel_rfl) (by kernel_rfl) (fun _ _ _ h => h) (.inl ⟨by kernel_rfl, ?_⟩) hS8 ?_
  · rintro w ⟨h1, h2, h3⟩; go_simp
  refine plist #[true, true, true, true, true, true, true, true, true, true, false, false, false, false, false, false, false, false, false, false, false, false, false, false, false, false, false, false, false, false, false, false, false, false, false, false, false, false, false, false, false, false, false, false, false, false, false, false] (by kernel_rfl) ?_
  refine wpAnyH_take (i := 10) (v := .agg #[.slice qy_ ny_ cy_]) rfl (by kernel_rfl) (by kernel_rfl) (by kernel_rfl) (fun _ _ _ h => h) (.inl ⟨by kernel_rfl, ?_⟩) hS8 ?_
  · rintro w ⟨h1, h2, h3⟩; go_simp
  refine plist #[true, true, true, true, true, true, true, true, true, true, true, false, false, false, false, false, false, false, false, false, false, false, false, false, false, false, false, false, false, false, false, false, false, false, false, false, false, false, false, false, false, false, false, false, false, false, false, false] (by kernel_rfl) ?_
  refine wpAnyH_take (i := 12) (v := .agg #[.slice qy_ ny_ cy_]) rfl (by kernel_rfl) (by kernel_rfl) (by kernel_rfl) (fun _ _ _ h => h) (.inl ⟨by kernel_rfl, ?_⟩) hS8 ?_
  · rintro w ⟨h1, h2, h3⟩; go_simp
  refine plist #[true, true, true, true, true, true, true, true, true, true, true, false, true, false, false, false, false, false, false, false, false, false, false, false, false, false, false, false, false, false, false, false, false, false, false, false, false, false, false, false, false, false, false, false, false, false, false, false] (by kernel_rfl) ?_
  refine wpAnyH_take (i := 13) (v := .agg #[.slice qx_ nx_ cx_]) rfl (by kernel_rfl) (by kernel_rfl) (by kernel_rfl) (fun _ _ _ h => h) (.inl ⟨by kernel_rfl, ?_⟩) hS8 ?_
  · rintro w ⟨h1, h2, h3⟩; go_simp
  refine plist #[true, true, true, true, true, true, true, true, true, true, true, false, true, true, false, false, false, false, false, false, false, false, false, false, false, false, false, false, false, false, false, false, false, false, false, false, false, false, false, false, false, false, false, false, false, false, false, false] (by kernel_rfl) ?_
  refine pone 11 (by kernel_rfl) rfl fun K hK => ?_
  go_simp
  refine (Meet_any _ _ (x) (y) u8 hsx8 hsy8 (by omega) (by omega)).mono ?_
  rintro e u9 ⟨vm1, rfl, sm1, hB⟩
  have hsx9 := hsx8.below hB
  have hsy9 := hsy8.below hB
  have hsz9 := hsz8.below hB
  have bx9 := (Keep.of_below hB).boxed bx8 bx8.lt
  have by9 := (Keep.of_below hB).boxed by8 by8.lt
  have bz9 := (Keep.of_below hB).boxed bz8 bz8.lt
  have hB9 := hB8.trans (hB.mono hB8.size)
  have hS9 : (fun X : World => X.cell? ⟨w4.heap.size, 0, none⟩ = some (.slice qx_ nx_ cx_) ∧ X.cell? ⟨w4.heap.size + 1, 0, none⟩ = some (.slice qy_ ny_ cy_) ∧ X.cell? ⟨w4.heap.size + 1 + 1, 0, none⟩ = some (.slice qz_ nz_ cz_)) u9 := ⟨bx9.cell, by9.cell, bz9.cell⟩
  clear hB hsx8 hsy8 hsz8 bx8 by8 bz8 hB8 hS8
  have hm19 := sm1
  clear sm1
  refine hK _ _ hS9 ?_
  clear hK K
  refine plist #[true, true, true, true, true, true, true, true, true, true, true, true, true, true, false, false, false, false, false, false, false, false, false, false, false, false, false, false, false, false, false, false, false, false, false, false, false, false, false, false, false, false, false, false, false, false, false, false] (by kernel_rfl) ?_
  refine pone 14 (by kernel_rfl) rfl fun K hK => ?_
  go_simp
  refine (Meet_any _ _ (y) (x) u9 hsy9 hsx9 (by omega) (by omega)).mono ?_
  rintro e u10 ⟨vm2, rfl, sm2, hB⟩
  have hsx10 := hsx9.below hB
  have hsy10 := hsy9.below hB
  have hsz10 := hsz9.below hB
  have hm110 := hm19.below hB
  have bx10 := (Keep.of_below hB).boxed bx9 bx9.lt
  have by10 := (Keep.of_below hB).boxed by9 by9.lt
  have bz10 := (Keep.of_below hB).boxed bz9 bz9.lt
  have hB10 := hB9.trans (hB.mono hB9.size)
  have hS10 : (fun X : World => X.cell? ⟨w4.heap.size, 0, none⟩ = some (.slice qx_ nx_ cx_) ∧ X.cell? ⟨w4.heap.size + 1, 0, none⟩ = some (.slice qy_ ny_ cy_) ∧ X.cell? ⟨w4.heap.size + 1 + 1, 0, none⟩ = some (.slice qz_ nz_ cz_)) u10 := ⟨bx10.cell, by10.cell, bz10.cell⟩
  clear hB hsx9 hsy9 hsz9 hm19 bx9 by9 bz9 hB9 hS9
  have hm210 := sm2
  clear sm2
  refine hK _ _ hS10 ?_
  clear hK K
  refine plist #[true, true, true, true, true, true, true, true, true, true, true, true, true, true, true, false, false, false, false, false, false, false, false, false, false, false, false, false, false, false, false, false, false, false, false, false, false, false, false, false, false, false, false, false, false, false, false, false] (by kernel_rfl) ?_
  refine pone 15 (by kernel_rfl) rfl fun K hK => ?_
  go_simp
  have con := Cmp_any _ _ (pickL [3] x y) (pickL [3] y x) u10 hm110 hm210
  rw [L2.out] at con
  refine con.mono ?_
  clear con
  rintro e u11 ⟨rfl, hB⟩
  have hsx11 := hsx10.below hB
  have hsy11 := hsy10.below hB
  have hsz11 := hsz10.below hB
  have hm111 := hm110.below hB
  have hm211 := hm210.below hB
  have bx11 := (Keep.of_below hB).boxed bx10 bx10.lt
  have by11 := (Keep.of_below hB).boxed by10 by10.lt
  have bz11 := (Keep.of_below hB).boxed bz10 bz10.lt
  have hB11 := hB10.trans (hB.mono hB10.size)
  have hS11 : (fun X : World => X.cell? ⟨w4.heap.size, 0, none⟩ = some (.slice qx_ nx_ cx_) ∧ X.cell? ⟨w4.heap.size + 1, 0, none⟩ = some (.slice qy_ ny_ cy_) ∧ X.cell? ⟨w4.heap.size + 1 + 1, 0, none⟩ = some (.slice qz_ nz_ cz_)) u11 := ⟨bx11.cell, by11.cell, bz11.cell⟩
  clear hB hsx10 hsy10 hsz10 hm110 hm210 bx10 by10 bz10 hB10 hS10
  refine hK _ _ hS11 ?_
  clear hK K
  clear hm111
  clear hm211
  refine plist #[true, true, true, true, true, true, true, true, true, true, true, true, true, true, true, true, false, false, false, false, false, false, false, false, false, false, false, false, false, false, false, false, false, false, false, false, false, false, false, false, false, false, false, false, false, false, false, false] (by kernel_rfl) ?_
  refine wpAnyH_take (i := 16) (v := .bool false) rfl (by kernel_rfl) (by kernel_rfl) (by kernel_rfl) (fun _ _ _ h => h) (.inl ⟨by kernel_rfl, ?_⟩) hS11 ?_
  · rintro w ⟨h1, h2, h3⟩; go_simp
  refine plist #[true, true, true, true, true, true, true, true, true, true, true, true, true, true, true, true, true, false, false, false, false, false, false, false, false, false, false, false, false, false, false, false, false, false, false, false, false, false, false, false, false, false, false, false, false, false, false, false] (by kernel_rfl) ?_
  refine wpAnyH_take (i := 17) (v := .bool false) rfl (by kernel_rfl) (by kernel_rfl) (by kernel_rfl) (fun _ _ _ h => h) (.inl ⟨by kernel_rfl, ?_⟩) hS11 ?_
  · rintro w ⟨h1, h2, h3⟩; go_simp
  refine plist #[true, true, true, true, true, true, true, true, true, true, true, true, true, true, true, true, true, true, false, false, false, false, false, false, false, false, false, false, false, false, false, false, false, false, false, false, false, false, false, false, false, false, false, false, false, false, false, false] (by kernel_rfl) ?_
  refine wpAnyH_take (i := 18) (v := .bool false) rfl (by kernel_rfl) (by kernel_rfl) (by kernel_rfl) (fun _ _ _ h => h) (.inl ⟨by kernel_rfl, ?_⟩) hS11 ?_
  · rintro w ⟨h1, h2, h3⟩; go_simp
  refine plist #[true, true, true, true, true, true, true, true, true, true, true, true, true, true, true, true, true, true, true, false, false, false, false, false, false, false, false, false, false, false, false, false, false, false, false, false, false, false, false, false, false, false, false, false, false, false, false, false] (by kernel_rfl) ?_
  refine wpAnyH_take (i := 19) (v := .agg #[.slice qx_ nx_ cx_]) rfl (by kernel_rfl) (by kernel_rfl) (by kernel_rfl) (fun _ _ _ h => h) (.inl ⟨by kernel_rfl, ?_⟩) hS11 ?_
  · rintro w ⟨h1, h2, h3⟩; go_simp
  refine plist #[true, true, true, true, true, true, true, true, true, true, true, true, true, true, true, true, true, true, true, true, false, false, false, false, false, false, false, false, false, false, false, false, false, false, false, false, false, false, false, false, false, false, false, false, false, false, false, false] (by kernel_rfl) ?_
  refine wpAnyH_take (i := 20) (v := .agg #[.slice qy_ ny_ cy_]) rfl (by kernel_rfl) (by kernel_rfl) (by kernel_rfl) (fun _ _ _ h => h) (.inl ⟨by kernel_rfl, ?_⟩) hS11 ?_
  · rintro w ⟨h1, h2, h3⟩; go_simp
  refine plist #[true, true, true, true, true, true, true, true, true, true, true, true, true, true, true, true, true, true, true, true, true, false, false, false, false, false, false, false, false, false, false, false, false, false, false, false, false, false, false, false, false, false, false, false, false, false, false, false] (by kernel_rfl) ?_
  refine wpAnyH_take (i := 22) (v := .agg #[.slice qz_ nz_ cz_]) rfl (by kernel_rfl) (by kernel_rfl) (by kernel_rfl) (fun _ _ _ h => h) (.inl ⟨by kernel_rfl, ?_⟩) hS11 ?_
  · rintro w ⟨h1, h2, h3⟩; go_simp
  refine plist #[true, true, true, true, true, true, true, true, true, true, true, true, true, true, true, true, true, true, true, true, true, false, true, false, false, false, false, false, false, false, false, false, false, false, false, false, false, false, false, false, false, false, false, false, false, false, false, false] (by kernel_rfl) ?_
  refine wpAnyH_take (i := 24) (v := .agg #[.slice qx_ nx_ cx_]) rfl (by kernel_rfl) (by kernel_rfl) (by kernel_rfl) (fun _ _ _ h => h) (.inl ⟨by kernel_rfl, ?_⟩) hS11 ?_
  · rintro w ⟨h1, h2, h3⟩; go_simp
  refine plist #[true, true, true, true, true, true, true, true, true, true, true, true, true, true, true, true, true, true, true, true, true, false, true, false, true, false, false, false, false, false, false, false, false, false, false, false, false, false, false, false, false, false, false, false, false, false, false, false] (by kernel_rfl) ?_
  refine wpAnyH_take (i := 25) (v := .agg #[.slice qy_ ny_ cy_]) rfl (by kernel_rfl) (by kernel_rfl) (by kernel_rfl) (fun _ _ _ h => h) (.inl ⟨by kernel_rfl, ?_⟩) hS11 ?_
  · rintro w ⟨h1, h2, h3⟩; go_simp
  refine plist #[true, true, true, true, true, true, true, true, true, true, true, true, true, true, true, true, true, true, true, true, true, false, true, false, true, true, false, false, false, false, false, false, false, false, false, false, false, false, false, false, false, false, false, false, false, false, false, false] (by kernel_rfl) ?_
  refine wpAnyH_take (i := 26) (v := .agg #[.slice qz_ nz_ cz_]) rfl (by kernel_rfl) (by kernel_rfl) (by kernel_rfl) (fun _ _ _ h => h) (.inl ⟨by kernel_rfl, ?_⟩) hS11 ?_
  · rintro w ⟨h1, h2, h3⟩; go_simp
  refine plist #[true, true, true, true, true, true, true, true, true, true, true, true, true, true, true, true, true, true, true, true, true, false, true, false, true, true, true, false, false, false, false, false, false, false, false, false, false, false, false, false, false, false, false, false, false, false, false, false] (by kernel_rfl) ?_
  refine pone 21 (by kernel_rfl) rfl fun K hK => ?_
  go_simp
  refine (Join_any _ _ (x) (y) u11 hsx11 hsy11 (by omega) (by omega)).mono ?_
  rintro e u12 ⟨vj3, rfl, sj3, hB⟩
  have hsx12 := hsx11.below hB
  have hsy12 := hsy11.below hB
  have hsz12 := hsz11.below hB
  have bx12 := (Keep.of_below hB).boxed bx11 bx11.lt
  have by12 := (Keep.of_below hB).boxed by11 by11.lt
  have bz12 := (Keep.of_below hB).boxed bz11 bz11.lt
  have hB12 := hB11.trans (hB.mono hB11.size)
  have hS12 : (fun X : World => X.cell? ⟨w4.heap.size, 0, none⟩ = some (.slice qx_ nx_ cx_) ∧ X.cell? ⟨w4.heap.size + 1, 0, none⟩ = some (.slice qy_ ny_ cy_) ∧ X.cell? ⟨w4.heap.size + 1 + 1, 0, none⟩ = some (.slice qz_ nz_ cz_)) u12 := ⟨bx12.cell, by12.cell, bz12.cell⟩
  clear hB hsx11 hsy11 hsz11 bx11 by11 bz11 hB11 hS11
  have hj312 := sj3
  clear sj3
  refine hK _ _ hS12 ?_
  clear hK K
  refine plist #[true, true, true, true, true, true, true, true, true, true, true, true, true, true, true, true, true, true, true, true, true, true, true, false, true, true, true, false, false, false, false, false, false, false, false, false, false, false, false, false, false, false, false, false, false, false, false, false] (by kernel_rfl) ?_
  refine pone 23 (by kernel_rfl) rfl fun K hK => ?_
  go_simp
  refine (Join_any _ _ (pickL [1, 2, 3] x y) (z) u12 hj312 hsz12 (by omega) (by omega)).mono ?_
  rintro e u13 ⟨vj4, rfl, sj4, hB⟩
  have hsx13 := hsx12.below hB
  have hsy13 := hsy12.below hB
  have hsz13 := hsz12.below hB
  have hj313 := hj312.below hB
  have bx13 := (Keep.of_below hB).boxed bx12 bx12.lt
  have by13 := (Keep.of_below hB).boxed by12 by12.lt
  have bz13 := (Keep.of_below hB).boxed bz12 bz12.lt
  have hB13 := hB12.trans (hB.mono hB12.size)
  have hS13 : (fun X : World => X.cell? ⟨w4.heap.size, 0, none⟩ = some (.slice qx_ nx_ cx_) ∧ X.cell? ⟨w4.heap.size + 1, 0, none⟩ = some (.slice qy_ ny_ cy_) ∧ X.cell? ⟨w4.heap.size + 1 + 1, 0, none⟩ = some (.slice qz_ nz_ cz_)) u13 := ⟨bx13.cell, by13.cell, bz13.cell⟩
  clear hB hsx12 hsy12 hsz12 hj312 bx12 by12 bz12 hB12 hS12
  have hj413 := sj4
  clear sj4
  refine hK _ _ hS13 ?_
  clear hK K
  refine plist #[true, true, true, true, true, true, true, true, true, true, true, true, true, true, true, true, true, true, true, true, true, true, true, true, true, true, true, false, false, false, false, false, false, false, false, false, false, false, false, false, false, false, false, false, false, false, false, false] (by kernel_rfl) ?_
  refine pone 27 (by kernel_rfl) rfl fun K hK => ?_
  go_simp
  refine (Join_any _ _ (y) (z) u13 hsy13 hsz13 (by omega) (by omega)).mono ?_
  rintro e u14 ⟨vj5, rfl, sj5, hB⟩
  have hsx14 := hsx13.below hB
  have hsy14 := hsy13.below hB
  have hsz14 := hsz13.below hB
  have hj314 := hj313.below hB
  have hj414 := hj413.below hB
  have bx14 := (Keep.of_below hB).boxed bx13 bx13.lt
  have by14 := (Keep.of_below hB).boxed by13 by13.lt
  have bz14 := (Keep.of_below hB).boxed bz13 bz13.lt
  have hB14 := hB13.trans (hB.mono hB13.size)
  have hS14 : (fun X : World => X.cell? ⟨w4.heap.size, 0, none⟩ = some (.slice qx_ nx_ cx_) ∧ X.cell? ⟨w4.heap.size + 1, 0, none⟩ = some (.slice qy_ ny_ cy_) ∧ X.cell? ⟨w4.heap.size + 1 + 1, 0, none⟩ = some (.slice qz_ nz_ cz_)) u14 := ⟨bx14.cell, by14.cell, bz14.cell⟩
  clear hB hsx13 hsy13 hsz13 hj313 hj413 bx13 by13 bz13 hB13 hS13
  have hj514 := sj5
  clear sj5
  refine hK _ _ hS14 ?_
  clear hK K
  refine plist #[true, true, true, true, true, true, true, true, true, true, true, true, true, true, true, true, true, true, true, true, true, true, true, true, true, true, true, true, false, false, false, false, false, false, false, false, false, false, false, false, false, false, false, false, false, false, false, false] (by kernel_rfl) ?_
  refine pone 28 (by kernel_rfl) rfl fun K hK => ?_
  go_simp
  refine (Join_any _ _ (x) (pickL [1, 2, 3] y z) u14 hsx14 hj514 (by omega) (by omega)).mono ?_
  rintro e u15 ⟨vj6, rfl, sj6, hB⟩
  have hsx15 := hsx14.below hB
  have hsy15 := hsy14.below hB
  have hsz15 := hsz14.below hB
  have hj315 := hj314.below hB
  have hj415 := hj414.below hB
  have hj515 := hj514.below hB
  have bx15 := (Keep.of_below hB).boxed bx14 bx14.lt
  have by15 := (Keep.of_below hB).boxed by14 by14.lt
  have bz15 := (Keep.of_below hB).boxed bz14 bz14.lt
  have hB15 := hB14.trans (hB.mono hB14.size)
  have hS15 : (fun X : World => X.cell? ⟨w4.heap.size, 0, none⟩ = some (.slice qx_ nx_ cx_) ∧ X.cell? ⟨w4.heap.size + 1, 0, none⟩ = some (.slice qy_ ny_ cy_) ∧ X.cell? ⟨w4.heap.size + 1 + 1, 0, none⟩ = some (.slice qz_ nz_ cz_)) u15 := ⟨bx15.cell, by15.cell, bz15.cell⟩
  clear hB hsx14 hsy14 hsz14 hj314 hj414 hj514 bx14 by14 bz14 hB14 hS14
  have hj615 := sj6
  clear sj6
  refine hK _ _ hS15 ?_
  clear hK K
  refine plist #[true, true, true, true, true, true, true, true, true, true, true, true, true, true, true, true, true, true, true, true, true, true, true, true, true, true, true, true, true, false, false, false, false, false, false, false, false, false, false, false, false, false, false, false, false, false, false, false] (by kernel_rfl) ?_
  refine pone 29 (by kernel_rfl) rfl fun K hK => ?_
  go_simp
  have con := Cmp_any _ _ (pickL [1, 2, 3] (pickL [1, 2, 3] x y) z) (pickL [1, 2, 3] x (pickL [1, 2, 3] y z)) u15 hj415 hj615
  rw [L3.out] at con
  refine con.mono ?_
  clear con
  rintro e u16 ⟨rfl, hB⟩
  have hsx16 := hsx15.below hB
  have hsy16 := hsy15.below hB
  have hsz16 := hsz15.below hB
  have hj316 := hj315.below hB
  have hj416 := hj415.below hB
  have hj516 := hj515.below hB
  have hj616 := hj615.below hB
  have bx16 := (Keep.of_below hB).boxed bx15 bx15.lt
  have by16 := (Keep.of_below hB).boxed by15 by15.lt
  have bz16 := (Keep.of_below hB).boxed bz15 bz15.lt
  have hB16 := hB15.trans (hB.mono hB15.size)
  have hS16 : (fun X : World => X.cell? ⟨w4.heap.size, 0, none⟩ = some (.slice qx_ nx_ cx_) ∧ X.cell? ⟨w4.heap.size + 1, 0, none⟩ = some (.slice qy_ ny_ cy_) ∧ X.cell? ⟨w4.heap.size + 1 + 1, 0, none⟩ = some (.slice qz_ nz_ cz_)) u16 := ⟨bx16.cell, by16.cell, bz16.cell⟩
  clear hB hsx15 hsy15 hsz15 hj315 hj415 hj515 hj615 bx15 by15 bz15 hB15 hS15
  refine hK _ _ hS16 ?_
  clear hK K
  clear hj316
  clear hj416
  clear hj516
  clear hj616
  refine plist #[true, true, true, true, true, true, true, true, true, true, true, true, true, true, true, true, true, true, true, true, true, true, true, true, true, true, true, true, true, true, false, false, false, false, false, false, false, false, false, false, false, false, false, false, false, false, false, false] (by kernel_rfl) ?_
  refine wpAnyH_take (i := 30) (v := .bool false) rfl (by kernel_rfl) (by kernel_rfl) (by kernel_rfl) (fun _ _ _ h => h) (.inl ⟨by kernel_rfl, ?_⟩) hS16 ?_
  · rintro w ⟨h1, h2, h3⟩; go_simp
  refine plist #[true, true, true, true, true, true, true, true, true, true, true, true, true, true, true, true, true, true, true, true, true, true, true, true, true, true, true, true, true, true, true, false, false, false, false, false, false, false, false, false, false, false, false, false, false, false, false, false] (by kernel_rfl) ?_
  refine wpAnyH_take (i := 31) (v := .bool false) rfl (by kernel_rfl) (by kernel_rfl) (by kernel_rfl) (fun _ _ _ h => h) (.inl ⟨by kernel_rfl, ?_⟩) hS16 ?_
  · rintro w ⟨h1, h2, h3⟩; go_simp
  refine plist #[true, true, true, true, true, true, true, true, true, true, true, true, true, true, true, true, true, true, true, true, true, true, true, true, true, true, true, true, true, true, true, true, false, false, false, false, false, false, false, false, false, false, false, false, false, false, false, false] (by kernel_rfl) ?_
  refine wpAnyH_take (i := 32) (v := .bool false) rfl (by kernel_rfl) (by kernel_rfl) (by kernel_rfl) (fun _ _ _ h => h) (.inl ⟨by kernel_rfl, ?_⟩) hS16 ?_
  · rintro w ⟨h1, h2, h3⟩; go_simp
  refine plist #[true, true, true, true, true, true, true, true, true, true, true, true, true, true, true, true, true, true, true, true, true, true, true, true, true, true, true, true, true, true, true, true, true, false, false, false, false, false, false, false, false, false, false, false, false, false, false, false] (by kernel_rfl) ?_
  refine wpAnyH_take (i := 33) (v := .agg #[.slice qx_ nx_ cx_]) rfl (by kernel_rfl) (by kernel_rfl) (by kernel_rfl) (fun _ _ _ h => h) (.inl ⟨by kernel_rfl, ?_⟩) hS16 ?_
  · rintro w ⟨h1, h2, h3⟩; go_simp
  refine plist #[true, true, true, true, true, true, true, true, true, true, true, true, true, true, true, true, true, true, true, true, true, true, true, true, true, true, true, true, true, true, true, true, true, true, false, false, false, false, false, false, false, false, false, false, false, false, false, false] (by kernel_rfl) ?_
  refine wpAnyH_take (i := 34) (v := .agg #[.slice qy_ ny_ cy_]) rfl (by kernel_rfl) (by kernel_rfl) (by kernel_rfl) (fun _ _ _ h => h) (.inl ⟨by kernel_rfl, ?_⟩) hS16 ?_
  · rintro w ⟨h1, h2, h3⟩; go_simp
  refine plist #[true, true, true, true, true, true, true, true, true, true, true, true, true, true, true, true, true, true, true, true, true, true, true, true, true, true, true, true, true, true, true, true, true, true, true, false, false, false, false, false, false, false, false, false, false, false, false, false] (by kernel_rfl) ?_
  refine wpAnyH_take (i := 35) (v := .agg #[.slice qz_ nz_ cz_]) rfl (by kernel_rfl) (by kernel_rfl) (by kernel_rfl) (fun _ _ _ h => h) (.inl ⟨by kernel_rfl, ?_⟩) hS16 ?_
  · rintro w ⟨h1, h2, h3⟩; go_simp
  refine plist #[true, true, true, true, true, true, true, true, true, true, true, true, true, true, true, true, true, true, true, true, true, true, true, true, true, true, true, true, true, true, true, true, true, true, true, true, false, false, false, false, false, false, false, false, false, false, false, false] (by kernel_rfl) ?_
  refine wpAnyH_take (i := 38) (v := .agg #[.slice qx_ nx_ cx_]) rfl (by kernel_rfl) (by kernel_rfl) (by kernel_rfl) (fun _ _ _ h => h) (.inl ⟨by kernel_rfl, ?_⟩) hS16 ?_
  · rintro w ⟨h1, h2, h3⟩; go_simp
  refine plist #[true, true, true, true, true, true, true, true, true, true, true, true, true, true, true, true, true, true, true, true, true, true, true, true, true, true, true, true, true, true, true, true, true, true, true, true, false, false, true, false, false, false, false, false, false, false, false, false] (by kernel_rfl) ?_
  refine wpAnyH_take (i := 39) (v := .agg #[.slice qy_ ny_ cy_]) rfl (by kernel_rfl) (by kernel_rfl) (by kernel_rfl) (fun _ _ _ h => h) (.inl ⟨by kernel_rfl, ?_⟩) hS16 ?_
  · rintro w ⟨h1, h2, h3⟩; go_simp
  refine plist #[true, true, true, true, true, true, true, true, true, true, true, true, true, true, true, true, true, true, true, true, true, true, true, true, true, true, true, true, true, true, true, true, true, true, true, true, false, false, true, true, false, false, false, false, false, false, false, false] (by kernel_rfl) ?_
  refine wpAnyH_take (i := 41) (v := .agg #[.slice qx_ nx_ cx_]) rfl (by kernel_rfl) (by kernel_rfl) (by kernel_rfl) (fun _ _ _ h => h) (.inl ⟨by kernel_rfl, ?_⟩) hS16 ?_
  · rintro w ⟨h1, h2, h3⟩; go_simp
  refine plist #[true, true, true, true, true, true, true, true, true, true, true, true, true, true, true, true, true, true, true, true, true, true, true, true, true, true, true, true, true, true, true, true, true, true, true, true, false, false, true, true, false, true, false, false, false, false, false, false] (by kernel_rfl) ?_
  refine wpAnyH_take (i := 42) (v := .agg #[.slice qz_ nz_ cz_]) rfl (by kernel_rfl) (by kernel_rfl) (by kernel_rfl) (fun _ _ _ h => h) (.inl ⟨by kernel_rfl, ?_⟩) hS16 ?_
  · rintro w ⟨h1, h2, h3⟩; go_simp
  refine plist #[true, true, true, true, true, true, true, true, true, true, true, true, true, true, true, true, true, true, true, true, true, true, true, true, true, true, true, true, true, true, true, true, true, true, true, true, false, false, true, true, false, true, true, false, false, false, false, false] (by kernel_rfl) ?_
  refine pone 36 (by kernel_rfl) rfl fun K hK => ?_
  go_simp
  refine (Join_any _ _ (y) (z) u16 hsy16 hsz16 (by omega) (by omega)).mono ?_
  rintro e u17 ⟨vj7, rfl, sj7, hB⟩
  have hsx17 := hsx16.below hB
  have hsy17 := hsy16.below hB
  have hsz17 := hsz16.below hB
  have bx17 := (Keep.of_below hB).boxed bx16 bx16.lt
  have by17 := (Keep.of_below hB).boxed by16 by16.lt
  have bz17 := (Keep.of_below hB).boxed bz16 bz16.lt
  have hB17 := hB16.trans (hB.mono hB16.size)
  have hS17 : (fun X : World => X.cell? ⟨w4.heap.size, 0, none⟩ = some (.slice qx_ nx_ cx_) ∧ X.cell? ⟨w4.heap.size + 1, 0, none⟩ = some (.slice qy_ ny_ cy_) ∧ X.cell? ⟨w4.heap.size + 1 + 1, 0, none⟩ = some (.slice qz_ nz_ cz_)) u17 := ⟨bx17.cell, by17.cell, bz17.cell⟩
  clear hB hsx16 hsy16 hsz16 bx16 by16 bz16 hB16 hS16
  have hj717 := sj7
  clear sj7
  refine hK _ _ hS17 ?_
  clear hK K
  refine plist #[true, true, true, true, true, true, true, true, true, true, true, true, true, true, true, true, true, true, true, true, true, true, true, true, true, true, true, true, true, true, true, true, true, true, true, true, true, false, true, true, false, true, true, false, false, false, false, false] (by kernel_rfl) ?_
  refine pone 37 (by kernel_rfl) rfl fun K hK => ?_
  go_simp
  refine (Meet_any _ _ (x) (pickL [1, 2, 3] y z) u17 hsx17 hj717 (by omega) (by omega)).mono ?_
  rintro e u18 ⟨vm3, rfl, sm3, hB⟩
  have hsx18 := hsx17.below hB
  have hsy18 := hsy17.below hB
  have hsz18 := hsz17.below hB
  have hj718 := hj717.below hB
  have bx18 := (Keep.of_below hB).boxed bx17 bx17.lt
  have by18 := (Keep.of_below hB).boxed by17 by17.lt
  have bz18 := (Keep.of_below hB).boxed bz17 bz17.lt
  have hB18 := hB17.trans (hB.mono hB17.size)
  have hS18 : (fun X : World => X.cell? ⟨w4.heap.size, 0, none⟩ = some (.slice qx_ nx_ cx_) ∧ X.cell? ⟨w4.heap.size + 1, 0, none⟩ = some (.slice qy_ ny_ cy_) ∧ X.cell? ⟨w4.heap.size + 1 + 1, 0, none⟩ = some (.slice qz_ nz_ cz_)) u18 := ⟨bx18.cell, by18.cell, bz18.cell⟩
  clear hB hsx17 hsy17 hsz17 hj717 bx17 by17 bz17 hB17 hS17
  have hm318 := sm3
  clear sm3
  refine hK _ _ hS18 ?_
  clear hK K
  refine plist #[true, true, true, true, true, true, true, true, true, true, true, true, true, true, true, true, true, true, true, true, true, true, true, true, true, true, true, true, true, true, true, true, true, true, true, true, true, true, true, true, false, true, true, false, false, false, false, false] (by kernel_rfl) ?_
  refine pone 40 (by kernel_rfl) rfl fun K hK => ?_
  go_simp
  refine (Meet_any _ _ (x) (y) u18 hsx18 hsy18 (by omega) (by omega)).mono ?_
  rintro e u19 ⟨vm4, rfl, sm4, hB⟩
  have hsx19 := hsx18.below hB
  have hsy19 := hsy18.below hB
  have hsz19 := hsz18.below hB
  have hj719 := hj718.below hB
  have hm319 := hm318.below hB
  have bx19 := (Keep.of_below hB).boxed bx18 bx18.lt
  have by19 := (Keep.of_below hB).boxed by18 by18.lt
  have bz19 := (Keep.of_below hB).boxed bz18 bz18.lt
  have hB19 := hB18.trans (hB.mono hB18.size)
  have hS19 : (fun X : World => X.cell? ⟨w4.heap.size, 0, none⟩ = some (.slice qx_ nx_ cx_) ∧ X.cell? ⟨w4.heap.size + 1, 0, none⟩ = some (.slice qy_ ny_ cy_) ∧ X.cell? ⟨w4.heap.size + 1 + 1, 0, none⟩ = some (.slice qz_ nz_ cz_)) u19 := ⟨bx19.cell, by19.cell, bz19.cell⟩
  clear hB hsx18 hsy18 hsz18 hj718 hm318 bx18 by18 bz18 hB18 hS18
  have hm419 := sm4
  clear sm4
  refine hK _ _ hS19 ?_
  clear hK K
  refine plist #[true, true, true, true, true, true, true, true, true, true, true, true, true, true, true, true, true, true, true, true, true, true, true, true, true, true, true, true, true, true, true, true, true, true, true, true, true, true, true, true, true, true, true, false, false, false, false, false] (by kernel_rfl) ?_
  refine pone 43 (by kernel_rfl) rfl fun K hK => ?_
  go_simp
  refine (Meet_any _ _ (x) (z) u19 hsx19 hsz19 (by omega) (by omega)).mono ?_
  rintro e u20 ⟨vm5, rfl, sm5, hB⟩
  have hsx20 := hsx19.below hB
  have hsy20 := hsy19.below hB
  have hsz20 := hsz19.below hB
  have hj720 := hj719.below hB
  have hm320 := hm319.below hB
  have hm420 := hm419.below hB
  have bx20 := (Keep.of_below hB).boxed bx19 bx19.lt
  have by20 := (Keep.of_below hB).boxed by19 by19.lt
  have bz20 := (Keep.of_below hB).boxed bz19 bz19.lt
  have hB20 := hB19.trans (hB.mono hB19.size)
  have hS20 : (fun X : World => X.cell? ⟨w4.heap.size, 0, none⟩ = some (.slice qx_ nx_ cx_) ∧ X.cell? ⟨w4.heap.size + 1, 0, none⟩ = some (.slice qy_ ny_ cy_) ∧ X.cell? ⟨w4.heap.size + 1 + 1, 0, none⟩ = some (.slice qz_ nz_ cz_)) u20 := ⟨bx20.cell, by20.cell, bz20.cell⟩
  clear hB hsx19 hsy19 hsz19 hj719 hm319 hm419 bx19 by19 bz19 hB19 hS19
  have hm520 := sm5
  clear sm5
  refine hK _ _ hS20 ?_
  clear hK K
  refine plist #[true, true, true, true, true, true, true, true, true, true, true, true, true, true, true, true, true, true, true, true, true, true, true, true, true, true, true, true, true, true, true, true, true, true, true, true, true, true, true, true, true, true, true, true, false, false, false, false] (by kernel_rfl) ?_
  refine pone 44 (by kernel_rfl) rfl fun K hK => ?_
  go_simp
  refine (Join_any _ _ (pickL [3] x y) (pickL [3] x z) u20 hm420 hm520 (by omega) (by omega)).mono ?_
  rintro e u21 ⟨vj8, rfl, sj8, hB⟩
  have hsx21 := hsx20.below hB
  have hsy21 := hsy20.below hB
  have hsz21 := hsz20.below hB
  have hj721 := hj720.below hB
  have hm321 := hm320.below hB
  have hm421 := hm420.below hB
  have hm521 := hm520.below hB
  have bx21 := (Keep.of_below hB).boxed bx20 bx20.lt
  have by21 := (Keep.of_below hB).boxed by20 by20.lt
  have bz21 := (Keep.of_below hB).boxed bz20 bz20.lt
  have hB21 := hB20.trans (hB.mono hB20.size)
  have hS21 : (fun X : World => X.cell? ⟨w4.heap.size, 0, none⟩ = some (.slice qx_ nx_ cx_) ∧ X.cell? ⟨w4.heap.size + 1, 0, none⟩ = some (.slice qy_ ny_ cy_) ∧ X.cell? ⟨w4.heap.size + 1 + 1, 0, none⟩ = some (.slice qz_ nz_ cz_)) u21 := ⟨bx21.cell, by21.cell, bz21.cell⟩
  clear hB hsx20 hsy20 hsz20 hj720 hm320 hm420 hm520 bx20 by20 bz20 hB20 hS20
  have hj821 := sj8
  clear sj8
  refine hK _ _ hS21 ?_
  clear hK K
  refine plist #[true, true, true, true, true, true, true, true, true, true, true, true, true, true, true, true, true, true, true, true, true, true, true, true, true, true, true, true, true, true, true, true, true, true, true, true, true, true, true, true, true, true, true, true, true, false, false, false] (by kernel_rfl) ?_
  refine pone 45 (by kernel_rfl) rfl fun K hK => ?_
  go_simp
  have con := Cmp_any _ _ (pickL [3] x (pickL [1, 2, 3] y z)) (pickL [1, 2, 3] (pickL [3] x y) (pickL [3] x z)) u21 hm321 hj821
  rw [L4.out] at con
  refine con.mono ?_
  clear con
  rintro e u22 ⟨rfl, hB⟩
  have hsx22 := hsx21.below hB
  have hsy22 := hsy21.below hB
  have hsz22 := hsz21.below hB
  have hj722 := hj721.below hB
  have hm322 := hm321.below hB
  have hm422 := hm421.below hB
  have hm522 := hm521.below hB
  have hj822 := hj821.below hB
  have bx22 := (Keep.of_below hB).boxed bx21 bx21.lt
  have by22 := (Keep.of_below hB).boxed by21 by21.lt
  have bz22 := (Keep.of_below hB).boxed bz21 bz21.lt
  have hB22 := hB21.trans (hB.mono hB21.size)
  have hS22 : (fun X : World => X.cell? ⟨w4.heap.size, 0, none⟩ = some (.slice qx_ nx_ cx_) ∧ X.cell? ⟨w4.heap.size + 1, 0, none⟩ = some (.slice qy_ ny_ cy_) ∧ X.cell? ⟨w4.heap.size + 1 + 1, 0, none⟩ = some (.slice qz_ nz_ cz_)) u22 := ⟨bx22.cell, by22.cell, bz22.cell⟩
  clear hB hsx21 hsy21 hsz21 hj721 hm321 hm421 hm521 hj821 bx21 by21 bz21 hB21 hS21
  refine hK _ _ hS22 ?_
  clear hK K
  clear hj722
  clear hm322
  clear hm422
  clear hm522
  clear hj822
  refine plist #[true, true, true, true, true, true, true, true, true, true, true, true, true, true, true, true, true, true, true, true, true, true, true, true, true, true, true, true, true, true, true, true, true, true, true, true, true, true, true, true, true, true, true, true, true, true, false, false] (by kernel_rfl) ?_
  refine pone 46 (by kernel_rfl) rfl fun K hK => ?_
  go_simp
  refine hK _ _ hS22 ?_
  clear hK K
  refine plist #[true, true, true, true, true, true, true, true, true, true, true, true, true, true, true, true, true, true, true, true, true, true, true, true, true, true, true, true, true, true, true, true, true, true, true, true, true, true, true, true, true, true, true, true, true, true, true, false] (by kernel_rfl) ?_
  refine pone 47 (by kernel_rfl) rfl fun K hK => ?_
  go_simp
  refine hK _ _ hS22 ?_
  clear hK K
  refine pdone (by kernel_rfl) ?_ _
  clear hS22
  obtain ⟨my, hmy⟩ : ∃ m, cmpL y x = m := ⟨_, rfl⟩
  rw [hmy] at L9b
  have L9 := Lib.hid (show cmpL x y = -my by rw [L9.out, hmy])
  have L9c := Lib.hid hmy
  obtain ⟨uu, hu⟩ : ∃ m, subB x y = m := ⟨_, rfl⟩
  obtain ⟨mm, hm⟩ : ∃ m, cmpL (pickL [1, 2, 3] x y) y = m := ⟨_, rfl⟩
  have L8 := Lib.hid (show (uu == (mm == 0)) = true by have := L8.out; rw [hu, hm] at this; exact this)
  have HU := Lib.hid hu
  have HM := Lib.hid hm
  have b1 : -1 ≤ my := by omega
  have b2 : my ≤ 1 := by omega
  clear hmy hu hm L9b
  go_wp2_with fail
  refine pregion_any (fun X => X.cell? ⟨w4.heap.size, 0, none⟩ = some (.slice qx_ nx_ cx_) ∧ X.cell? ⟨w4.heap.size + 1, 0, none⟩ = some (.slice qy_ ny_ cy_) ∧ X.cell? ⟨w4.heap.size + 1 + 1, 0, none⟩ = some (.slice qz_ nz_ cz_)) (by kernel_rfl) ?_
  have hS22 : (fun X : World => X.cell? ⟨w4.heap.size, 0, none⟩ = some (.slice qx_ nx_ cx_) ∧ X.cell? ⟨w4.heap.size + 1, 0, none⟩ = some (.slice qy_ ny_ cy_) ∧ X.cell? ⟨w4.heap.size + 1 + 1, 0, none⟩ = some (.slice qz_ nz_ cz_)) u22.drew := ⟨bx22.cell, by22.cell, bz22.cell⟩
  refine wpAnyH_take (i := 0) (v := .agg #[.slice qx_ nx_ cx_]) rfl (by kernel_rfl) (by kernel_rfl) (by kernel_rfl) (fun _ _ _ h => h) (.inl ⟨by kernel_rfl, ?_⟩) hS22 ?_
  · rintro w ⟨h1, h2, h3⟩; go_simp
  refine plist #[true, false, false, false, false, false, false, false, false, false, false, false, false, false, false, false, false, false, false, false, false, false, false, false, false, false, false, false, false, false, false, false, false, false, false, false, false, false, false, false, false, false, false, false, false, false, false] (by kernel_rfl) ?_
  refine wpAnyH_take (i := 1) (v := .agg #[.slice qy_ ny_ cy_]) rfl (by kernel_rfl) (by kernel_rfl) (by kernel_rfl) (fun _ _ _ h => h) (.inl ⟨by kernel_rfl, ?_⟩) hS22 ?_
  · rintro w ⟨h1, h2, h3⟩; go_simp
  refine plist #[true, true, false, false, false, false, false, false, false, false, false, false, false, false, false, false, false, false, false, false, false, false, false, false, false, false, false, false, false, false, false, false, false, false, false, false, false, false, false, false, false, false, false, false, false, false, false] (by kernel_rfl) ?_
  refine wpAnyH_take (i := 3) (v := .agg #[.slice qx_ nx_ cx_]) rfl (by kernel_rfl) (by kernel_rfl) (by kernel_rfl) (fun _ _ _ h => h) (.inl ⟨by kernel_rfl, ?_⟩) hS22 ?_
  · rintro w ⟨h1, h2, h3⟩; go_simp
  refine plist #[true, true, false, true, false, false, false, false, false, false, false, false, false, false, false, false, false, false, false, false, false, false, false, false, false, false, false, false, false, false, false, false, false, false, false, false, false, false, false, false, false, false, false, false, false, false, false] (by kernel_rfl) ?_
  refine wpAnyH_take (i := 4) (v := .agg #[.slice qy_ ny_ cy_]) rfl (by kernel_rfl) (by kernel_rfl) (by kernel_rfl) (fun _ _ _ h => h) (.inl ⟨by kernel_rfl, ?_⟩) hS22 ?_
  · rintro w ⟨h1, h2, h3⟩; go_simp
  refine plist #[true, true, false, true, true, false, false, false, false, false, false, false, false, false, false, false, false, false, false, false, false, false, false, false, false, false, false, false, false, false, false, false, false, false, false, false, false, false, false, false, false, false, false, false, false, false, false] (by kernel_rfl) ?_
  refine wpAnyH_take (i := 7) (v := .agg #[.slice qx_ nx_ cx_]) rfl (by kernel_rfl) (by kernel_rfl) (by kernel_rfl) (fun _ _ _ h => h) (.inl ⟨by kernel_rfl, ?_⟩) hS22 ?_
  · rintro w ⟨h1, h2, h3⟩; go_simp
  refine plist #[true, true, false, true, true, false, false, true, false, false, false, false, false, false, false, false, false, false, false, false, false, false, false, false, false, false, false, false, false, false, false, false, false, false, false, false, false, false, false, false, false, false, false, false, false, false, false] (by kernel_rfl) ?_
  refine pone 2 (by kernel_rfl) rfl fun K hK => ?_
  go_simp
  refine (Meet_any _ _ (x) (y) u22.drew hsx22 hsy22 (by omega) (by omega)).mono ?_
  rintro e u23 ⟨vm1, rfl, sm1, hB⟩
  have hB : Below u22.heap.size u22 u23 := ⟨hB.os, hB.tape, hB.output, hB.size, hB.block⟩
  have hsx23 := hsx22.below hB
  have hsy23 := hsy22.below hB
  have hsz23 := hsz22.below hB
  have bx23 := (Keep.of_below hB).boxed bx22 bx22.lt
  have by23 := (Keep.of_below hB).boxed by22 by22.lt
  have bz23 := (Keep.of_below hB).boxed bz22 bz22.lt
  have hB23 := hB22.trans (hB.mono hB22.size)
  have hS23 : (fun X : World => X.cell? ⟨w4.heap.size, 0, none⟩ = some (.slice qx_ nx_ cx_) ∧ X.cell? ⟨w4.heap.size + 1, 0, none⟩ = some (.slice qy_ ny_ cy_) ∧ X.cell? ⟨w4.heap.size + 1 + 1, 0, none⟩ = some (.slice qz_ nz_ cz_)) u23 := ⟨bx23.cell, by23.cell, bz23.cell⟩
  clear hB hsx22 hsy22 hsz22 bx22 by22 bz22 hB22 hS22
  have hm123 := sm1
  clear sm1
  refine hK _ _ hS23 ?_
  clear hK K
  refine plist #[true, true, true, true, true, false, false, true, false, false, false, false, false, false, false, false, false, false, false, false, false, false, false, false, false, false, false, false, false, false, false, false, false, false, false, false, false, false, false, false, false, false, false, false, false, false, false] (by kernel_rfl) ?_
  refine pone 5 (by kernel_rfl) rfl fun K hK => ?_
  go_simp
  refine (Minus_any _ _ (x) (y) u23 hsx23 hsy23 (by omega) (by omega)).mono ?_
  rintro e u24 ⟨vd1, rfl, sd1, hB⟩
  have hsx24 := hsx23.below hB
  have hsy24 := hsy23.below hB
  have hsz24 := hsz23.below hB
  have hm124 := hm123.below hB
  have bx24 := (Keep.of_below hB).boxed bx23 bx23.lt
  have by24 := (Keep.of_below hB).boxed by23 by23.lt
  have bz24 := (Keep.of_below hB).boxed bz23 bz23.lt
  have hB24 := hB23.trans (hB.mono hB23.size)
  have hS24 : (fun X : World => X.cell? ⟨w4.heap.size, 0, none⟩ = some (.slice qx_ nx_ cx_) ∧ X.cell? ⟨w4.heap.size + 1, 0, none⟩ = some (.slice qy_ ny_ cy_) ∧ X.cell? ⟨w4.heap.size + 1 + 1, 0, none⟩ = some (.slice qz_ nz_ cz_)) u24 := ⟨bx24.cell, by24.cell, bz24.cell⟩
  clear hB hsx23 hsy23 hsz23 hm123 bx23 by23 bz23 hB23 hS23
  have hd124 := sd1
  clear sd1
  refine hK _ _ hS24 ?_
  clear hK K
  refine plist #[true, true, true, true, true, true, false, true, false, false, false, false, false, false, false, false, false, false, false, false, false, false, false, false, false, false, false, false, false, false, false, false, false, false, false, false, false, false, false, false, false, false, false, false, false, false, false] (by kernel_rfl) ?_
  refine pone 6 (by kernel_rfl) rfl fun K hK => ?_
  go_simp
  refine (Join_any _ _ (pickL [3] x y) (pickL [1] x y) u24 hm124 hd124 (by omega) (by omega)).mono ?_
  rintro e u25 ⟨vj1, rfl, sj1, hB⟩
  have hsx25 := hsx24.below hB
  have hsy25 := hsy24.below hB
  have hsz25 := hsz24.below hB
  have hm125 := hm124.below hB
  have hd125 := hd124.below hB
  have bx25 := (Keep.of_below hB).boxed bx24 bx24.lt
  have by25 := (Keep.of_below hB).boxed by24 by24.lt
  have bz25 := (Keep.of_below hB).boxed bz24 bz24.lt
  have hB25 := hB24.trans (hB.mono hB24.size)
  have hS25 : (fun X : World => X.cell? ⟨w4.heap.size, 0, none⟩ = some (.slice qx_ nx_ cx_) ∧ X.cell? ⟨w4.heap.size + 1, 0, none⟩ = some (.slice qy_ ny_ cy_) ∧ X.cell? ⟨w4.heap.size + 1 + 1, 0, none⟩ = some (.slice qz_ nz_ cz_)) u25 := ⟨bx25.cell, by25.cell, bz25.cell⟩
  clear hB hsx24 hsy24 hsz24 hm124 hd124 bx24 by24 bz24 hB24 hS24
  have hj125 := sj1
  clear sj1
  refine hK _ _ hS25 ?_
  clear hK K
  refine plist #[true, true, true, true, true, true, true, true, false, false, false, false, false, false, false, false, false, false, false, false, false, false, false, false, false, false, false, false, false, false, false, false, false, false, false, false, false, false, false, false, false, false, false, false, false, false, false] (by kernel_rfl) ?_
  refine pone 8 (by kernel_rfl) rfl fun K hK => ?_
  go_simp
  have con := Cmp_any _ _ (pickL [1, 2, 3] (pickL [3] x y) (pickL [1] x y)) (x) u25 hj125 hsx25
  rw [L5.out] at con
  refine con.mono ?_
  clear con
  rintro e u26 ⟨rfl, hB⟩
  have hsx26 := hsx25.below hB
  have hsy26 := hsy25.below hB
  have hsz26 := hsz25.below hB
  have hm126 := hm125.below hB
  have hd126 := hd125.below hB
  have hj126 := hj125.below hB
  have bx26 := (Keep.of_below hB).boxed bx25 bx25.lt
  have by26 := (Keep.of_below hB).boxed by25 by25.lt
  have bz26 := (Keep.of_below hB).boxed bz25 bz25.lt
  have hB26 := hB25.trans (hB.mono hB25.size)
  have hS26 : (fun X : World => X.cell? ⟨w4.heap.size, 0, none⟩ = some (.slice qx_ nx_ cx_) ∧ X.cell? ⟨w4.heap.size + 1, 0, none⟩ = some (.slice qy_ ny_ cy_) ∧ X.cell? ⟨w4.heap.size + 1 + 1, 0, none⟩ = some (.slice qz_ nz_ cz_)) u26 := ⟨bx26.cell, by26.cell, bz26.cell⟩
  clear hB hsx25 hsy25 hsz25 hm125 hd125 hj125 bx25 by25 bz25 hB25 hS25
  refine hK _ _ hS26 ?_
  clear hK K
  clear hm126
  clear hd126
  clear hj126
  refine plist #[true, true, true, true, true, true, true, true, true, false, false, false, false, false, false, false, false, false, false, false, false, false, false, false, false, false, false, false, false, false, false, false, false, false, false, false, false, false, false, false, false, false, false, false, false, false, false] (by kernel_rfl) ?_
  refine wpAnyH_take (i := 9) (v := .bool true) rfl (by kernel_rfl) (by kernel_rfl) (by kernel_rfl) (fun _ _ _ h => h) (.inl ⟨by kernel_rfl, ?_⟩) hS26 ?_
  · rintro w ⟨h1, h2, h3⟩; go_simp
  refine plist #[true, true, true, true, true, true, true, true, true, true, false, false, false, false, false, false, false, false, false, false, false, false, false, false, false, false, false, false, false, false, false, false, false, false, false, false, false, false, false, false, false, false, false, false, false, false, false] (by kernel_rfl) ?_
  refine wpAnyH_take (i := 10) (v := .bool true) rfl (by kernel_rfl) (by kernel_rfl) (by kernel_rfl) (fun _ _ _ h => h) (.inl ⟨by kernel_rfl, ?_⟩) hS26 ?_
  · rintro w ⟨h1, h2, h3⟩; go_simp
  refine plist #[true, true, true, true, true, true, true, true, true, true, true, false, false, false, false, false, false, false, false, false, false, false, false, false, false, false, false, false, false, false, false, false, false, false, false, false, false, false, false, false, false, false, false, false, false, false, false] (by kernel_rfl) ?_
  refine wpAnyH_take (i := 11) (v := .agg #[.slice qx_ nx_ cx_]) rfl (by kernel_rfl) (by kernel_rfl) (by kernel_rfl) (fun _ _ _ h => h) (.inl ⟨by kernel_rfl, ?_⟩) hS26 ?_
  · rintro w ⟨h1, h2, h3⟩; go_simp
  refine plist #[true, true, true, true, true, true, true, true, true, true, true, true, false, false, false, false, false, false, false, false, false, false, false, false, false, false, false, false, false, false, false, false, false, false, false, false, false, false, false, false, false, false, false, false, false, false, false] (by kernel_rfl) ?_
  refine wpAnyH_take (i := 12) (v := .agg #[.slice qy_ ny_ cy_]) rfl (by kernel_rfl) (by kernel_rfl) (by kernel_rfl) (fun _ _ _ h => h) (.inl ⟨by kernel_rfl, ?_⟩) hS26 ?_
  · rintro w ⟨h1, h2, h3⟩; go_simp
  refine plist #[true, true, true, true, true, true, true, true, true, true, true, true, true, false, false, false, false, false, false, false, false, false, false, false, false, false, false, false, false, false, false, false, false, false, false, false, false, false, false, false, false, false, false, false, false, false, false] (by kernel_rfl) ?_
  refine wpAnyH_take (i := 14) (v := .agg #[.slice qx_ nx_ cx_]) rfl (by kernel_rfl) (by kernel_rfl) (by kernel_rfl) (fun _ _ _ h => h) (.inl ⟨by kernel_rfl, ?_⟩) hS26 ?_
  · rintro w ⟨h1, h2, h3⟩; go_simp
  refine plist #[true, true, true, true, true, true, true, true, true, true, true, true, true, false, true, false, false, false, false, false, false, false, false, false, false, false, false, false, false, false, false, false, false, false, false, false, false, false, false, false, false, false, false, false, false, false, false] (by kernel_rfl) ?_
  refine pone 13 (by kernel_rfl) rfl fun K hK => ?_
  go_simp
  refine (Meet_any _ _ (x) (y) u26 hsx26 hsy26 (by omega) (by omega)).mono ?_
  rintro e u27 ⟨vm2, rfl, sm2, hB⟩
  have hsx27 := hsx26.below hB
  have hsy27 := hsy26.below hB
  have hsz27 := hsz26.below hB
  have bx27 := (Keep.of_below hB).boxed bx26 bx26.lt
  have by27 := (Keep.of_below hB).boxed by26 by26.lt
  have bz27 := (Keep.of_below hB).boxed bz26 bz26.lt
  have hB27 := hB26.trans (hB.mono hB26.size)
  have hS27 : (fun X : World => X.cell? ⟨w4.heap.size, 0, none⟩ = some (.slice qx_ nx_ cx_) ∧ X.cell? ⟨w4.heap.size + 1, 0, none⟩ = some (.slice qy_ ny_ cy_) ∧ X.cell? ⟨w4.heap.size + 1 + 1, 0, none⟩ = some (.slice qz_ nz_ cz_)) u27 := ⟨bx27.cell, by27.cell, bz27.cell⟩
  clear hB hsx26 hsy26 hsz26 bx26 by26 bz26 hB26 hS26
  have hm227 := sm2
  clear sm2
  refine hK _ _ hS27 ?_
  clear hK K
  refine plist #[true, true, true, true, true, true, true, true, true, true, true, true, true, true, true, false, false, false, false, false, false, false, false, false, false, false, false, false, false, false, false, false, false, false, false, false, false, false, false, false, false, false, false, false, false, false, false] (by kernel_rfl) ?_
  refine pone 15 (by kernel_rfl) rfl fun K hK => ?_
  go_simp
  have con := Sub_any _ _ (pickL [3] x y) x u27 hm227 hsx27 (by omega) (by omega)
  rw [L6.out] at con
  refine con.mono ?_
  clear con
  rintro e u28 ⟨rfl, hB⟩
  have hsx28 := hsx27.below hB
  have hsy28 := hsy27.below hB
  have hsz28 := hsz27.below hB
  have hm228 := hm227.below hB
  have bx28 := (Keep.of_below hB).boxed bx27 bx27.lt
  have by28 := (Keep.of_below hB).boxed by27 by27.lt
  have bz28 := (Keep.of_below hB).boxed bz27 bz27.lt
  have hB28 := hB27.trans (hB.mono hB27.size)
  have hS28 : (fun X : World => X.cell? ⟨w4.heap.size, 0, none⟩ = some (.slice qx_ nx_ cx_) ∧ X.cell? ⟨w4.heap.size + 1, 0, none⟩ = some (.slice qy_ ny_ cy_) ∧ X.cell? ⟨w4.heap.size + 1 + 1, 0, none⟩ = some (.slice qz_ nz_ cz_)) u28 := ⟨bx28.cell, by28.cell, bz28.cell⟩
  clear hB hsx27 hsy27 hsz27 hm227 bx27 by27 bz27 hB27 hS27
  refine hK _ _ hS28 ?_
  clear hK K
  clear hm228
  refine plist #[true, true, true, true, true, true, true, true, true, true, true, true, true, true, true, true, false, false, false, false, false, false, false, false, false, false, false, false, false, false, false, false, false, false, false, false, false, false, false, false, false, false, false, false, false, false, false] (by kernel_rfl) ?_
  refine wpAnyH_take (i := 16) (v := .bool true) rfl (by kernel_rfl) (by kernel_rfl) (by kernel_rfl) (fun _ _ _ h => h) (.inl ⟨by kernel_rfl, ?_⟩) hS28 ?_
  · rintro w ⟨h1, h2, h3⟩; go_simp
  refine plist #[true, true, true, true, true, true, true, true, true, true, true, true, true, true, true, true, true, false, false, false, false, false, false, false, false, false, false, false, false, false, false, false, false, false, false, false, false, false, false, false, false, false, false, false, false, false, false] (by kernel_rfl) ?_
  refine wpAnyH_take (i := 17) (v := .bool true) rfl (by kernel_rfl) (by kernel_rfl) (by kernel_rfl) (fun _ _ _ h => h) (.inl ⟨by kernel_rfl, ?_⟩) hS28 ?_
  · rintro w ⟨h1, h2, h3⟩; go_simp
  refine plist #[true, true, true, true, true, true, true, true, true, true, true, true, true, true, true, true, true, true, false, false, false, false, false, false, false, false, false, false, false, false, false, false, false, false, false, false, false, false, false, false, false, false, false, false, false, false, false] (by kernel_rfl) ?_
  refine wpAnyH_take (i := 18) (v := .agg #[.slice qx_ nx_ cx_]) rfl (by kernel_rfl) (by kernel_rfl) (by kernel_rfl) (fun _ _ _ h => h) (.inl ⟨by kernel_rfl, ?_⟩) hS28 ?_
  · rintro w ⟨h1, h2, h3⟩; go_simp
  refine plist #[true, true, true, true, true, true, true, true, true, true, true, true, true, true, true, true, true, true, true, false, false, false, false, false, false, false, false, false, false, false, false, false, false, false, false, false, false, false, false, false, false, false, false, false, false, false, false] (by kernel_rfl) ?_
  refine wpAnyH_take (i := 19) (v := .agg #[.slice qx_ nx_ cx_]) rfl (by kernel_rfl) (by kernel_rfl) (by kernel_rfl) (fun _ _ _ h => h) (.inl ⟨by kernel_rfl, ?_⟩) hS28 ?_
  · rintro w ⟨h1, h2, h3⟩; go_simp
  refine plist #[true, true, true, true, true, true, true, true, true, true, true, true, true, true, true, true, true, true, true, true, false, false, false, false, false, false, false, false, false, false, false, false, false, false, false, false, false, false, false, false, false, false, false, false, false, false, false] (by kernel_rfl) ?_
  refine wpAnyH_take (i := 20) (v := .agg #[.slice qy_ ny_ cy_]) rfl (by kernel_rfl) (by kernel_rfl) (by kernel_rfl) (fun _ _ _ h => h) (.inl ⟨by kernel_rfl, ?_⟩) hS28 ?_
  · rintro w ⟨h1, h2, h3⟩; go_simp
  refine plist #[true, true, true, true, true, true, true, true, true, true, true, true, true, true, true, true, true, true, true, true, true, false, false, false, false, false, false, false, false, false, false, false, false, false, false, false, false, false, false, false, false, false, false, false, false, false, false] (by kernel_rfl) ?_
  refine pone 21 (by kernel_rfl) rfl fun K hK => ?_
  go_simp
  refine (Join_any _ _ (x) (y) u28 hsx28 hsy28 (by omega) (by omega)).mono ?_
  rintro e u29 ⟨vj2, rfl, sj2, hB⟩
  have hsx29 := hsx28.below hB
  have hsy29 := hsy28.below hB
  have hsz29 := hsz28.below hB
  have bx29 := (Keep.of_below hB).boxed bx28 bx28.lt
  have by29 := (Keep.of_below hB).boxed by28 by28.lt
  have bz29 := (Keep.of_below hB).boxed bz28 bz28.lt
  have hB29 := hB28.trans (hB.mono hB28.size)
  have hS29 : (fun X : World => X.cell? ⟨w4.heap.size, 0, none⟩ = some (.slice qx_ nx_ cx_) ∧ X.cell? ⟨w4.heap.size + 1, 0, none⟩ = some (.slice qy_ ny_ cy_) ∧ X.cell? ⟨w4.heap.size + 1 + 1, 0, none⟩ = some (.slice qz_ nz_ cz_)) u29 := ⟨bx29.cell, by29.cell, bz29.cell⟩
  clear hB hsx28 hsy28 hsz28 bx28 by28 bz28 hB28 hS28
  have hj229 := sj2
  clear sj2
  refine hK _ _ hS29 ?_
  clear hK K
  refine plist #[true, true, true, true, true, true, true, true, true, true, true, true, true, true, true, true, true, true, true, true, true, true, false, false, false, false, false, false, false, false, false, false, false, false, false, false, false, false, false, false, false, false, false, false, false, false, false] (by kernel_rfl) ?_
  refine pone 22 (by kernel_rfl) rfl fun K hK => ?_
  go_simp
  have con := Sub_any _ _ x (pickL [1, 2, 3] x y) u29 hsx29 hj229 (by omega) (by omega)
  rw [L7.out] at con
  refine con.mono ?_
  clear con
  rintro e u30 ⟨rfl, hB⟩
  have hsx30 := hsx29.below hB
  have hsy30 := hsy29.below hB
  have hsz30 := hsz29.below hB
  have hj230 := hj229.below hB
  have bx30 := (Keep.of_below hB).boxed bx29 bx29.lt
  have by30 := (Keep.of_below hB).boxed by29 by29.lt
  have bz30 := (Keep.of_below hB).boxed bz29 bz29.lt
  have hB30 := hB29.trans (hB.mono hB29.size)
  have hS30 : (fun X : World => X.cell? ⟨w4.heap.size, 0, none⟩ = some (.slice qx_ nx_ cx_) ∧ X.cell? ⟨w4.heap.size + 1, 0, none⟩ = some (.slice qy_ ny_ cy_) ∧ X.cell? ⟨w4.heap.size + 1 + 1, 0, none⟩ = some (.slice qz_ nz_ cz_)) u30 := ⟨bx30.cell, by30.cell, bz30.cell⟩
  clear hB hsx29 hsy29 hsz29 hj229 bx29 by29 bz29 hB29 hS29
  refine hK _ _ hS30 ?_
  clear hK K
  clear hj230
  refine plist #[true, true, true, true, true, true, true, true, true, true, true, true, true, true, true, true, true, true, true, true, true, true, true, false, false, false, false, false, false, false, false, false, false, false, false, false, false, false, false, false, false, false, false, false, false, false, false] (by kernel_rfl) ?_
  refine wpAnyH_take (i := 23) (v := .bool true) rfl (by kernel_rfl) (by kernel_rfl) (by kernel_rfl) (fun _ _ _ h => h) (.inl ⟨by kernel_rfl, ?_⟩) hS30 ?_
  · rintro w ⟨h1, h2, h3⟩; go_simp
  refine plist #[true, true, true, true, true, true, true, true, true, true, true, true, true, true, true, true, true, true, true, true, true, true, true, true, false, false, false, false, false, false, false, false, false, false, false, false, false, false, false, false, false, false, false, false, false, false, false] (by kernel_rfl) ?_
  refine wpAnyH_take (i := 24) (v := .bool true) rfl (by kernel_rfl) (by kernel_rfl) (by kernel_rfl) (fun _ _ _ h => h) (.inl ⟨by kernel_rfl, ?_⟩) hS30 ?_
  · rintro w ⟨h1, h2, h3⟩; go_simp
  refine plist #[true, true, true, true, true, true, true, true, true, true, true, true, true, true, true, true, true, true, true, true, true, true, true, true, true, false, false, false, false, false, false, false, false, false, false, false, false, false, false, false, false, false, false, false, false, false, false] (by kernel_rfl) ?_
  refine wpAnyH_take (i := 25) (v := .agg #[.slice qx_ nx_ cx_]) rfl (by kernel_rfl) (by kernel_rfl) (by kernel_rfl) (fun _ _ _ h => h) (.inl ⟨by kernel_rfl, ?_⟩) hS30 ?_
  · rintro w ⟨h1, h2, h3⟩; go_simp
  refine plist #[true, true, true, true, true, true, true, true, true, true, true, true, true, true, true, true, true, true, true, true, true, true, true, true, true, true, false, false, false, false, false, false, false, false, false, false, false, false, false, false, false, false, false, false, false, false, false] (by kernel_rfl) ?_
  refine wpAnyH_take (i := 26) (v := .agg #[.slice qy_ ny_ cy_]) rfl (by kernel_rfl) (by kernel_rfl) (by kernel_rfl) (fun _ _ _ h => h) (.inl ⟨by kernel_rfl, ?_⟩) hS30 ?_
  · rintro w ⟨h1, h2, h3⟩; go_simp
  refine plist #[true, true, true, true, true, true, true, true, true, true, true, true, true, true, true, true, true, true, true, true, true, true, true, true, true, true, true, false, false, false, false, false, false, false, false, false, false, false, false, false, false, false, false, false, false, false, false] (by kernel_rfl) ?_
  refine wpAnyH_take (i := 28) (v := .agg #[.slice qx_ nx_ cx_]) rfl (by kernel_rfl) (by kernel_rfl) (by kernel_rfl) (fun _ _ _ h => h) (.inl ⟨by kernel_rfl, ?_⟩) hS30 ?_
  · rintro w ⟨h1, h2, h3⟩; go_simp
  refine plist #[true, true, true, true, true, true, true, true, true, true, true, true, true, true, true, true, true, true, true, true, true, true, true, true, true, true, true, false, true, false, false, false, false, false, false, false, false, false, false, false, false, false, false, false, false, false, false] (by kernel_rfl) ?_
  refine wpAnyH_take (i := 29) (v := .agg #[.slice qy_ ny_ cy_]) rfl (by kernel_rfl) (by kernel_rfl) (by kernel_rfl) (fun _ _ _ h => h) (.inl ⟨by kernel_rfl, ?_⟩) hS30 ?_
  · rintro w ⟨h1, h2, h3⟩; go_simp
  refine plist #[true, true, true, true, true, true, true, true, true, true, true, true, true, true, true, true, true, true, true, true, true, true, true, true, true, true, true, false, true, true, false, false, false, false, false, false, false, false, false, false, false, false, false, false, false, false, false] (by kernel_rfl) ?_
  refine wpAnyH_take (i := 31) (v := .agg #[.slice qy_ ny_ cy_]) rfl (by kernel_rfl) (by kernel_rfl) (by kernel_rfl) (fun _ _ _ h => h) (.inl ⟨by kernel_rfl, ?_⟩) hS30 ?_
  · rintro w ⟨h1, h2, h3⟩; go_simp
  refine plist #[true, true, true, true, true, true, true, true, true, true, true, true, true, true, true, true, true, true, true, true, true, true, true, true, true, true, true, false, true, true, false, true, false, false, false, false, false, false, false, false, false, false, false, false, false, false, false] (by kernel_rfl) ?_
  refine pone 27 (by kernel_rfl) rfl fun K hK => ?_
  go_simp
  have con := Sub_any _ _ x y u30 hsx30 hsy30 (by omega) (by omega)
  rw [HU.out] at con
  refine con.mono ?_
  clear con
  rintro e u31 ⟨rfl, hB⟩
  have hsx31 := hsx30.below hB
  have hsy31 := hsy30.below hB
  have hsz31 := hsz30.below hB
  have bx31 := (Keep.of_below hB).boxed bx30 bx30.lt
  have by31 := (Keep.of_below hB).boxed by30 by30.lt
  have bz31 := (Keep.of_below hB).boxed bz30 bz30.lt
  have hB31 := hB30.trans (hB.mono hB30.size)
  have hS31 : (fun X : World => X.cell? ⟨w4.heap.size, 0, none⟩ = some (.slice qx_ nx_ cx_) ∧ X.cell? ⟨w4.heap.size + 1, 0, none⟩ = some (.slice qy_ ny_ cy_) ∧ X.cell? ⟨w4.heap.size + 1 + 1, 0, none⟩ = some (.slice qz_ nz_ cz_)) u31 := ⟨bx31.cell, by31.cell, bz31.cell⟩
  clear hB hsx30 hsy30 hsz30 bx30 by30 bz30 hB30 hS30
  refine hK _ _ hS31 ?_
  clear hK K
  refine plist #[true, true, true, true, true, true, true, true, true, true, true, true, true, true, true, true, true, true, true, true, true, true, true, true, true, true, true, true, true, true, false, true, false, false, false, false, false, false, false, false, false, false, false, false, false, false, false] (by kernel_rfl) ?_
  refine pone 30 (by kernel_rfl) rfl fun K hK => ?_
  go_simp
  refine (Join_any _ _ (x) (y) u31 hsx31 hsy31 (by omega) (by omega)).mono ?_
  rintro e u32 ⟨vj3, rfl, sj3, hB⟩
  have hsx32 := hsx31.below hB
  have hsy32 := hsy31.below hB
  have hsz32 := hsz31.below hB
  have bx32 := (Keep.of_below hB).boxed bx31 bx31.lt
  have by32 := (Keep.of_below hB).boxed by31 by31.lt
  have bz32 := (Keep.of_below hB).boxed bz31 bz31.lt
  have hB32 := hB31.trans (hB.mono hB31.size)
  have hS32 : (fun X : World => X.cell? ⟨w4.heap.size, 0, none⟩ = some (.slice qx_ nx_ cx_) ∧ X.cell? ⟨w4.heap.size + 1, 0, none⟩ = some (.slice qy_ ny_ cy_) ∧ X.cell? ⟨w4.heap.size + 1 + 1, 0, none⟩ = some (.slice qz_ nz_ cz_)) u32 := ⟨bx32.cell, by32.cell, bz32.cell⟩
  clear hB hsx31 hsy31 hsz31 bx31 by31 bz31 hB31 hS31
  have hj332 := sj3
  clear sj3
  refine hK _ _ hS32 ?_
  clear hK K
  refine plist #[true, true, true, true, true, true, true, true, true, true, true, true, true, true, true, true, true, true, true, true, true, true, true, true, true, true, true, true, true, true, true, true, false, false, false, false, false, false, false, false, false, false, false, false, false, false, false] (by kernel_rfl) ?_
  refine pone 32 (by kernel_rfl) rfl fun K hK => ?_
  go_simp
  have con := Cmp_any _ _ (pickL [1, 2, 3] x y) (y) u32 hj332 hsy32
  rw [HM.out] at con
  refine con.mono ?_
  clear con
  rintro e u33 ⟨rfl, hB⟩
  have hsx33 := hsx32.below hB
  have hsy33 := hsy32.below hB
  have hsz33 := hsz32.below hB
  have hj333 := hj332.below hB
  have bx33 := (Keep.of_below hB).boxed bx32 bx32.lt
  have by33 := (Keep.of_below hB).boxed by32 by32.lt
  have bz33 := (Keep.of_below hB).boxed bz32 bz32.lt
  have hB33 := hB32.trans (hB.mono hB32.size)
  have hS33 : (fun X : World => X.cell? ⟨w4.heap.size, 0, none⟩ = some (.slice qx_ nx_ cx_) ∧ X.cell? ⟨w4.heap.size + 1, 0, none⟩ = some (.slice qy_ ny_ cy_) ∧ X.cell? ⟨w4.heap.size + 1 + 1, 0, none⟩ = some (.slice qz_ nz_ cz_)) u33 := ⟨bx33.cell, by33.cell, bz33.cell⟩
  clear hB hsx32 hsy32 hsz32 hj332 bx32 by32 bz32 hB32 hS32
  refine hK _ _ hS33 ?_
  clear hK K
  clear hj333
  refine plist #[true, true, true, true, true, true, true, true, true, true, true, true, true, true, true, true, true, true, true, true, true, true, true, true, true, true, true, true, true, true, true, true, true, false, false, false, false, false, false, false, false, false, false, false, false, false, false] (by kernel_rfl) ?_
  refine wpAnyH_take (i := 33) (v := .bool (mm == 0)) rfl (by kernel_rfl) (by kernel_rfl) (by kernel_rfl) (fun _ _ _ h => h) (.inl ⟨by kernel_rfl, ?_⟩) hS33 ?_
  · rintro w ⟨h1, h2, h3⟩; go_simp
  refine plist #[true, true, true, true, true, true, true, true, true, true, true, true, true, true, true, true, true, true, true, true, true, true, true, true, true, true, true, true, true, true, true, true, true, true, false, false, false, false, false, false, false, false, false, false, false, false, false] (by kernel_rfl) ?_
  refine wpAnyH_take (i := 34) (v := .bool true) rfl (by kernel_rfl) (by kernel_rfl) (by kernel_rfl) (fun _ _ _ h => h) (.inl ⟨by kernel_rfl, ?_⟩) hS33 ?_
  · rintro w ⟨h1, h2, h3⟩; go_simp; exact beq_iff_eq.1 L8.out
  refine plist #[true, true, true, true, true, true, true, true, true, true, true, true, true, true, true, true, true, true, true, true, true, true, true, true, true, true, true, true, true, true, true, true, true, true, true, false, false, false, false, false, false, false, false, false, false, false, false] (by kernel_rfl) ?_
  refine wpAnyH_take (i := 35) (v := .bool true) rfl (by kernel_rfl) (by kernel_rfl) (by kernel_rfl) (fun _ _ _ h => h) (.inl ⟨by kernel_rfl, ?_⟩) hS33 ?_
  · rintro w ⟨h1, h2, h3⟩; go_simp
  refine plist #[true, true, true, true, true, true, true, true, true, true, true, true, true, true, true, true, true, true, true, true, true, true, true, true, true, true, true, true, true, true, true, true, true, true, true, true, false, false, false, false, false, false, false, false, false, false, false] (by kernel_rfl) ?_
  refine wpAnyH_take (i := 36) (v := .bool true) rfl (by kernel_rfl) (by kernel_rfl) (by kernel_rfl) (fun _ _ _ h => h) (.inl ⟨by kernel_rfl, ?_⟩) hS33 ?_
  · rintro w ⟨h1, h2, h3⟩; go_simp
  refine plist #[true, true, true, true, true, true, true, true, true, true, true, true, true, true, true, true, true, true, true, true, true, true, true, true, true, true, true, true, true, true, true, true, true, true, true, true, true, false, false, false, false, false, false, false, false, false, false] (by kernel_rfl) ?_
  refine wpAnyH_take (i := 37) (v := .agg #[.slice qx_ nx_ cx_]) rfl (by kernel_rfl) (by kernel_rfl) (by kernel_rfl) (fun _ _ _ h => h) (.inl ⟨by kernel_rfl, ?_⟩) hS33 ?_
  · rintro w ⟨h1, h2, h3⟩; go_simp
  refine plist #[true, true, true, true, true, true, true, true, true, true, true, true, true, true, true, true, true, true, true, true, true, true, true, true, true, true, true, true, true, true, true, true, true, true, true, true, true, true, false, false, false, false, false, false, false, false, false] (by kernel_rfl) ?_
  refine wpAnyH_take (i := 38) (v := .agg #[.slice qy_ ny_ cy_]) rfl (by kernel_rfl) (by kernel_rfl) (by kernel_rfl) (fun _ _ _ h => h) (.inl ⟨by kernel_rfl, ?_⟩) hS33 ?_
  · rintro w ⟨h1, h2, h3⟩; go_simp
  refine plist #[true, true, true, true, true, true, true, true, true, true, true, true, true, true, true, true, true, true, true, true, true, true, true, true, true, true, true, true, true, true, true, true, true, true, true, true, true, true, true, false, false, false, false, false, false, false, false] (by kernel_rfl) ?_
  refine wpAnyH_take (i := 40) (v := .agg #[.slice qy_ ny_ cy_]) rfl (by kernel_rfl) (by kernel_rfl) (by kernel_rfl) (fun _ _ _ h => h) (.inl ⟨by kernel_rfl, ?_⟩) hS33 ?_
  · rintro w ⟨h1, h2, h3⟩; go_simp
  refine plist #[true, true, true, true, true, true, true, true, true, true, true, true, true, true, true, true, true, true, true, true, true, true, true, true, true, true, true, true, true, true, true, true, true, true, true, true, true, true, true, false, true, false, false, false, false, false, false] (by kernel_rfl) ?_
  refine wpAnyH_take (i := 41) (v := .agg #[.slice qx_ nx_ cx_]) rfl (by kernel_rfl) (by kernel_rfl) (by kernel_rfl) (fun _ _ _ h => h) (.inl ⟨by kernel_rfl, ?_⟩) hS33 ?_
  · rintro w ⟨h1, h2, h3⟩; go_simp
  refine plist #[true, true, true, true, true, true, true, true, true, true, true, true, true, true, true, true, true, true, true, true, true, true, true, true, true, true, true, true, true, true, true, true, true, true, true, true, true, true, true, false, true, true, false, false, false, false, false] (by kernel_rfl) ?_
  refine pone 39 (by kernel_rfl) rfl fun K hK => ?_
  go_simp
  have con := Cmp_any _ _ (x) (y) u33 hsx33 hsy33
  rw [L9.out] at con
  refine con.mono ?_
  clear con
  rintro e u34 ⟨rfl, hB⟩
  have hsx34 := hsx33.below hB
  have hsy34 := hsy33.below hB
  have hsz34 := hsz33.below hB
  have bx34 := (Keep.of_below hB).boxed bx33 bx33.lt
  have by34 := (Keep.of_below hB).boxed by33 by33.lt
  have bz34 := (Keep.of_below hB).boxed bz33 bz33.lt
  have hB34 := hB33.trans (hB.mono hB33.size)
  have hS34 : (fun X : World => X.cell? ⟨w4.heap.size, 0, none⟩ = some (.slice qx_ nx_ cx_) ∧ X.cell? ⟨w4.heap.size + 1, 0, none⟩ = some (.slice qy_ ny_ cy_) ∧ X.cell? ⟨w4.heap.size + 1 + 1, 0, none⟩ = some (.slice qz_ nz_ cz_)) u34 := ⟨bx34.cell, by34.cell, bz34.cell⟩
  clear hB hsx33 hsy33 hsz33 bx33 by33 bz33 hB33 hS33
  refine hK _ _ hS34 ?_
  clear hK K
  refine plist #[true, true, true, true, true, true, true, true, true, true, true, true, true, true, true, true, true, true, true, true, true, true, true, true, true, true, true, true, true, true, true, true, true, true, true, true, true, true, true, true, true, true, false, false, false, false, false] (by kernel_rfl) ?_
  refine pone 42 (by kernel_rfl) rfl fun K hK => ?_
  go_simp
  have con := Cmp_any _ _ (y) (x) u34 hsy34 hsx34
  rw [L9c.out] at con
  refine con.mono ?_
  clear con
  rintro e u35 ⟨rfl, hB⟩
  have hsx35 := hsx34.below hB
  have hsy35 := hsy34.below hB
  have hsz35 := hsz34.below hB
  have bx35 := (Keep.of_below hB).boxed bx34 bx34.lt
  have by35 := (Keep.of_below hB).boxed by34 by34.lt
  have bz35 := (Keep.of_below hB).boxed bz34 bz34.lt
  have hB35 := hB34.trans (hB.mono hB34.size)
  have hS35 : (fun X : World => X.cell? ⟨w4.heap.size, 0, none⟩ = some (.slice qx_ nx_ cx_) ∧ X.cell? ⟨w4.heap.size + 1, 0, none⟩ = some (.slice qy_ ny_ cy_) ∧ X.cell? ⟨w4.heap.size + 1 + 1, 0, none⟩ = some (.slice qz_ nz_ cz_)) u35 := ⟨bx35.cell, by35.cell, bz35.cell⟩
  clear hB hsx34 hsy34 hsz34 bx34 by34 bz34 hB34 hS34
  refine hK _ _ hS35 ?_
  clear hK K
  refine plist #[true, true, true, true, true, true, true, true, true, true, true, true, true, true, true, true, true, true, true, true, true, true, true, true, true, true, true, true, true, true, true, true, true, true, true, true, true, true, true, true, true, true, true, false, false, false, false] (by kernel_rfl) ?_
  refine pone 43 (by kernel_rfl) rfl fun K hK => ?_
  go_simp
  refine hK _ _ hS35 ?_
  clear hK K
  refine plist #[true, true, true, true, true, true, true, true, true, true, true, true, true, true, true, true, true, true, true, true, true, true, true, true, true, true, true, true, true, true, true, true, true, true, true, true, true, true, true, true, true, true, true, true, false, false, false] (by kernel_rfl) ?_
  refine pone 44 (by kernel_rfl) rfl fun K hK => ?_
  go_simp
  refine hK _ _ hS35 ?_
  clear hK K
  refine plist #[true, true, true, true, true, true, true, true, true, true, true, true, true, true, true, true, true, true, true, true, true, true, true, true, true, true, true, true, true, true, true, true, true, true, true, true, true, true, true, true, true, true, true, true, true, false, false] (by kernel_rfl) ?_
  refine pone 45 (by kernel_rfl) rfl fun K hK => ?_
  go_simp
  refine hK _ _ hS35 ?_
  clear hK K
  refine plist #[true, true, true, true, true, true, true, true, true, true, true, true, true, true, true, true, true, true, true, true, true, true, true, true, true, true, true, true, true, true, true, true, true, true, true, true, true, true, true, true, true, true, true, true, true, true, false] (by kernel_rfl) ?_
  refine pone 46 (by kernel_rfl) rfl fun K hK => ?_
  go_simp
  refine hK _ _ hS35 ?_
  clear hK K
  refine pdone (by kernel_rfl) ?_ _
  clear hS35
  have HWr := Lib.hid (IntWalk.i64_in (-my) (by omega))
  go_wp2
  go_ret
  refine ⟨?_, hB35⟩
  show Ending.returned (.bool (-my == IntKind.i64.wrap (-my))) = _
  rw [HWr.out]
  simp

set_option maxRecDepth 100000 in
theorem lifted (os : Os) (started : os.Started) (H : Type) (enc : TypeId × Value → H) :
    ReturnsInHanded {} Try.checked os 5 .any (Rows.sortedRulesSpec.pre6 enc Try.prog Try.f5 Rows.sortedRulesRow.domain false) (Rows.sortedRulesSpec.post enc Try.prog Try.f5 false true false false) := by
  refine returnsInHanded_of_change (C := Try.checked) own started (by kernel_rfl) Try.func5
    (ChangeSpec.witness6 (enc := enc) (C := Try.checked) false ⟨#[], #[.slice none 0 0, .slice none 0 0, .slice none 0 0], []⟩ 8 (by kernel_rfl) (by kernel_rfl) (by kernel_rfl) (by kernel_rfl)) ?_
  intro W base args ds gs before hval0 hW hcnd _
  have hval : ∀ (j : Nat) t v, Try.f5.params[j]? = some t → args[j]? = some v → Value.okWide Try.prog W .any base t v := hval0
  have hW' := hW
  obtain ⟨p, q, hA0, hV, rfl, hfz, hnd⟩ := hW
  have hA : DataW.TrodAll enc Try.prog W 0 (fun _ => true) true Try.f5.params.toList args.toList ds p := hA0
  rw [Try.params5] at hA hval
  obtain ⟨v0, vs0, d0, ds0, p0, q0, hargs, rfl, rfl, h0, r0⟩ := trodAll_cons hA
  obtain ⟨v1, vs1, d1, ds1, p1, q1, rfl, rfl, rfl, h1, r1⟩ := trodAll_cons r0
  obtain ⟨v2, vs2, d2, ds2, p2, q2, rfl, rfl, rfl, h2, r2⟩ := trodAll_cons r1
  obtain ⟨rfl, rfl, rfl⟩ := trodAll_nil r2
  obtain rfl : args = #[v0, v1, v2] := by cases args; simp_all
  obtain ⟨rfl, rfl⟩ := trodVars_none hV
  obtain ⟨a0, len0, cap0, rfl⟩ := okWide_slice Try.underlying22 (hval 0 22 v0 rfl rfl)
  have k0 := h0
  have lt0 : ∀ x ∈ p0, x.block < W.heap.size := by obtain ⟨m, hm⟩ := k0; exact DataW.trod_lt m _ _ _ hm
  obtain ⟨z0, w0⟩ : ∃ zs, IsRow .i64 W a0 len0 cap0 zs := by
    obtain ⟨fuel, hf⟩ := h0
    rcases open_ints Try.underlying22 Try.underlying3 (by kernel_rfl) hf with ⟨hcs, _⟩ | ⟨x, l, c, zs, hcs, _, hl, hm, hz, _, hcell, hwz⟩
    · simp [Value.cells] at hcs
      obtain ⟨rfl, rfl, rfl⟩ := hcs
      exact ⟨[], .inl ⟨rfl, rfl, rfl, rfl⟩⟩
    · simp [Value.cells] at hcs
      obtain ⟨rfl, rfl, rfl⟩ := hcs
      exact ⟨zs, .inr ⟨_, rfl, hl, hm, by simpa using hz, hcell, hwz⟩⟩
  obtain ⟨a1, len1, cap1, rfl⟩ := okWide_slice Try.underlying22 (hval 1 22 v1 rfl rfl)
  have k1 := h1
  have lt1 : ∀ x ∈ p1, x.block < W.heap.size := by obtain ⟨m, hm⟩ := k1; exact DataW.trod_lt m _ _ _ hm
  obtain ⟨z1, w1⟩ : ∃ zs, IsRow .i64 W a1 len1 cap1 zs := by
    obtain ⟨fuel, hf⟩ := h1
    rcases open_ints Try.underlying22 Try.underlying3 (by kernel_rfl) hf with ⟨hcs, _⟩ | ⟨x, l, c, zs, hcs, _, hl, hm, hz, _, hcell, hwz⟩
    · simp [Value.cells] at hcs
      obtain ⟨rfl, rfl, rfl⟩ := hcs
      exact ⟨[], .inl ⟨rfl, rfl, rfl, rfl⟩⟩
    · simp [Value.cells] at hcs
      obtain ⟨rfl, rfl, rfl⟩ := hcs
      exact ⟨zs, .inr ⟨_, rfl, hl, hm, by simpa using hz, hcell, hwz⟩⟩
  obtain ⟨a2, len2, cap2, rfl⟩ := okWide_slice Try.underlying22 (hval 2 22 v2 rfl rfl)
  have k2 := h2
  have lt2 : ∀ x ∈ p2, x.block < W.heap.size := by obtain ⟨m, hm⟩ := k2; exact DataW.trod_lt m _ _ _ hm
  obtain ⟨z2, w2⟩ : ∃ zs, IsRow .i64 W a2 len2 cap2 zs := by
    obtain ⟨fuel, hf⟩ := h2
    rcases open_ints Try.underlying22 Try.underlying3 (by kernel_rfl) hf with ⟨hcs, _⟩ | ⟨x, l, c, zs, hcs, _, hl, hm, hz, _, hcell, hwz⟩
    · simp [Value.cells] at hcs
      obtain ⟨rfl, rfl, rfl⟩ := hcs
      exact ⟨[], .inl ⟨rfl, rfl, rfl, rfl⟩⟩
    · simp [Value.cells] at hcs
      obtain ⟨rfl, rfl, rfl⟩ := hcs
      exact ⟨zs, .inr ⟨_, rfl, hl, hm, by simpa using hz, hcell, hwz⟩⟩
  clear hA0 hval0
  refine (walk a0 len0 cap0 z0 a1 len1 cap1 z1 a2 len2 cap2 z2 W w0 w1 w2).mono fun e W' ⟨he, bel⟩ => ?_
  subst he
  exact ⟨_, rfl, _, _, _, [], _, [], hW', trodAll_mk1 (shut_bool Try.underlying4 _), (trodAll_cons_mk (Below.trod laidOut (by kernel_rfl) (of_decide_eq_true (by kernel_rfl)) k0 bel lt0) (trodAll_cons_mk (Below.trod laidOut (by kernel_rfl) (of_decide_eq_true (by kernel_rfl)) k1 bel lt1) (trodAll_cons_mk (Below.trod laidOut (by kernel_rfl) (of_decide_eq_true (by kernel_rfl)) k2 bel lt2) trodAll_mk0))), rfl, bel.frame _, fun h => by cases h⟩

theorem over : Rows.sortedRulesRow.holds Try.pinned (OpenSpec.ofChange Rows.sortedRulesSpec) :=
  OpenClaim.holds_of_wide 5 Try.f5 rfl rfl rfl rfl rfl rfl rfl ⟨rfl, rfl, rfl, rfl, rfl⟩ rfl rfl rfl rfl rfl (by kernel_rfl) Try.func5 (by kernel_rfl)
    (of_decide_eq_true (by kernel_rfl)) (by unfold Func.isWrapper; first | (rw [if_pos (by decide +kernel)]; kernel_rfl) | (rw [if_neg (by decide +kernel)]; exact ⟨rfl, rfl⟩))
    (fun os started H enc _ => lifted os started H enc)

theorem proved : Rows.SortedRulesSaid := over
end Go.Proofs.Ythfclmnmnmeldaa.sortedRules
