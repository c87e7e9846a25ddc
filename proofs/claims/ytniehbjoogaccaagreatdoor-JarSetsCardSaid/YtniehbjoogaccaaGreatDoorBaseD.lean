/- The texts that these laws rest on, put together, part 4. Conditions: as each says. -/
import Derived.Test.YtniehbjoogaccaaGreatDoorBaseC
import Derived.Laws.StructEq
import Derived.Deep.DeepCutAuto
namespace Go.Proofs.YtniehbjoogaccaaGreatDoor.Jar
open Go.RowKit Go.Shelf Url
attribute [local go_sem] Oper.semAt_some
set_option linter.unusedVariables false
theorem eq_org4 (a0 b0 a1 b1 : List UInt8) (a2 b2 a3 b3 : Int) (w : World) : (Op.equalIn 10000 62 (.agg #[.string ⟨a0.toArray⟩, .string ⟨a1.toArray⟩, .int .i64 a2, .int .i64 a3]) (.agg #[.string ⟨b0.toArray⟩, .string ⟨b1.toArray⟩, .int .i64 b2, .int .i64 b3])).run Tryz.prog w = .ok (decide (a0 = b0) && decide (a1 = b1) && a2 == b2 && a3 == b3) w := by
  have u3 := Tryz.underlying3
  have a3' := Tryz.isAgg3
  have u9 := Tryz.underlying9
  have a9 := Tryz.isAgg9
  have hS : Tryz.prog.underlying 62 = some (.struct (Tryz.prog.fieldsOf 62)) := by kernel_rfl
  have hp : Tryz.prog.stoodInHeld 62 = false := by kernel_rfl
  rw [show (10000 : Nat) = 9999 + 1 from rfl, run_equalIn_struct w 9999 62 _ _ hS hp]
  simp only [Program.fieldsOf, Tryz.underlying62]
  go_simp
  by_cases h1 : a0 = b0 <;> by_cases h2 : a1 = b1 <;> by_cases h3 : a2 = b2 <;> by_cases h4 : a3 = b3 <;> simp [h1, h2, h3, h4]
end Go.Proofs.YtniehbjoogaccaaGreatDoor.Jar
namespace Go.Proofs.YtniehbjoogaccaaGreatDoor.Url
open Go.RowKit Go.Shelf
attribute [local go_sem] Oper.semAt_some
theorem nbzL : ∀ (j : Nat) (x : Value), zeroU[j]? = some x → ∀ z : Int, x ≠ .int .u8 z := nb8 ⟨_, _, _, rfl⟩ ⟨_, _, _, rfl⟩ ⟨_, _, _, rfl⟩ ⟨_, _, _, rfl⟩ ⟨_, _, _, rfl⟩
theorem By.awayL {B : Nat} {cs : Array Value} {X Y : World} {v : Value} {l : List UInt8} (h : By X v l) (hU : UB B cs X) (hcs : ∀ (j : Nat) (x : Value), cs[j]? = some x → ∀ z : Int, x ≠ .int .u8 z) (hk : ∀ S : Nat → Prop, ¬ S B → Keep S X Y) : By Y v l := by
  obtain ⟨q, c, rfl, h2, h3, h4, h5⟩ := h
  refine ⟨q, c, rfl, h2, h3, h4, fun h0 => ?_⟩
  obtain ⟨b, o, he, hc⟩ := h5 h0
  refine ⟨b, o, he, fun j hj => ?_⟩
  have hne : b ≠ B := fun e => by
    subst e
    have h1 := hc j hj
    simp only [World.cell?, show X.heap[b]? = _ from hU] at h1
    exact hcs _ _ h1 _ rfl
  exact (World.cell?_of_block ((hk (fun k => k ≠ B) (fun h => h rfl)).block b (World.block_lt_of_cell? X _ (hc j hj)) hne)).trans (hc j hj)
def CanonOk : Prop := ∀ (q : Option Addr) (n c : Nat) (t : List UInt8) (w : World), By w (.slice q n c) t → n ≤ 4096 → Gl w → Calls Tryz.prog 35 #[.slice q n c] w fun e w' => CanonOut (canonU t) w e w'
set_option maxRecDepth 100000 in
set_option maxHeartbeats 8000000 in
theorem Parse_of (hcan : CanonOk) (q : Option Addr) (n c : Nat) (t : List UInt8) (w : World) (hby : By w (.slice q n c) t) (hn : n ≤ 4096) (hG : Gl w) (hT : ∀ u, canonU t = .inr u → (textU u).length ≤ 4096) :
    Calls Tryz.prog 10 #[.slice q n c] w fun e w' => CanonOut (canonU t) w e w' := by
  have d0 : decide ((4096 : Int) < (n : Int)) = false := by simp; omega
  obtain ⟨X0, hX0⟩ : ∃ X0, w.alloc (.cells #[.slice none 0 0, .slice none 0 0, .int .i64 0, .slice none 0 0, .slice none 0 0, .slice none 0 0, .bool false, .bool false] 33) = X0 := ⟨_, rfl⟩
  have B_0 : Below w.heap.size w X0 := by rw [← hX0]; exact (Below.refl _ w).alloc (Nat.le_refl _) _
  have U_0 : UB w.heap.size zeroU X0 := by rw [← hX0]; exact UB.new w zeroU
  have con := hcan q n c t X0 (hby.on B_0) hn (hG.on B_0)
  have hok : ∀ u, canonU t = .inr u → Ok u := fun u h => parse_ok t u (by rw [parse_canon t (by rw [hby.at.1]; exact hn)]; exact h)
  have HX0 := Lib.hid hX0
  have HG := Lib.hid hG
  clear hX0 hby hG
  cases hc : canonU t with
  | inl m =>
    rw [hc] at con
    clear hc hok hT
    go_enter Tryz.func10, Tryz.ntmps10
    go_wp2_with fail
    rw [HX0.out]
    refine con.mono ?_
    rintro e X1 ⟨hm, rfl, hb⟩
    have U_1 := U_0.on hb
    have B_1 := B_0.trans (hb.mono B_0.size)
    clear con hb U_0 B_0 HX0
    have e1 : ((m : Int) != 0) = true := by rw [bne_iff_ne]; exact hm
    have HM := Lib.hid hm
    clear hm
    unfold zeroU
    have zc : ∀ o, UB w.heap.size zeroU (X1.alloc o) := fun o => U_1.on ((Below.refl _ _).alloc (Nat.le_refl _) _)
    have zc0 := fun o => (zc o).box 0 _ rfl
    have zc1 := fun o => (zc o).box 1 _ rfl
    have zc2 := fun o => (zc o).box 2 _ rfl
    have zc3 := fun o => (zc o).box 3 _ rfl
    have zc4 := fun o => (zc o).box 4 _ rfl
    have zc5 := fun o => (zc o).box 5 _ rfl
    have zc6 := fun o => (zc o).box 6 _ rfl
    have zc7 := fun o => (zc o).box 7 _ rfl
    have zf0 := fun o => (zc o).frozen 0
    have zf1 := fun o => (zc o).frozen 1
    have zf2 := fun o => (zc o).frozen 2
    have zf3 := fun o => (zc o).frozen 3
    have zf4 := fun o => (zc o).frozen 4
    have zf5 := fun o => (zc o).frozen 5
    have zf6 := fun o => (zc o).frozen 6
    have zf7 := fun o => (zc o).frozen 7
    clear zc
    go_wp2
    have U_2 := U_1.on ((Below.refl X1.heap.size X1).alloc (Nat.le_refl _) (.cells #[.slice none 0 0, .slice none 0 0, .int .i64 0, .slice none 0 0, .slice none 0 0, .slice none 0 0, .bool false, .bool false] 33))
    have B_2 := B_1.alloc B_1.size (.cells #[.slice none 0 0, .slice none 0 0, .int .i64 0, .slice none 0 0, .slice none 0 0, .slice none 0 0, .bool false, .bool false] 33)
    obtain ⟨Y, hY, hU, hkY, hbY⟩ := UB.put (show UB w.heap.size #[.slice none 0 0, .slice none 0 0, .int .i64 0, .slice none 0 0, .slice none 0 0, .slice none 0 0, .bool false, .bool false] _ from U_2) (.slice none 0 0) (.slice none 0 0) (.int .i64 0) (.slice none 0 0) (.slice none 0 0) (.slice none 0 0) (.bool false) (.bool false)
    rw [hY]
    (try simp only [Exit.inBlock, Exit.then])
    refine bodyPost_ret (ret_url2 rfl _ _ w.heap.size _ rfl hU rfl) rfl ?_
    exact ⟨HM.out, rfl, B_2.trans (hbY _ (Nat.le_refl _))⟩
  | inr u =>
    rw [hc] at con
    have HO := Lib.hid (hok u hc)
    have HT := Lib.hid (hT u hc)
    clear hc hok hT
    go_enter Tryz.func10, Tryz.ntmps10
    go_wp2_with fail
    rw [HX0.out]
    refine con.mono ?_
    rintro e X1 ⟨v, rfl, hin, hb⟩
    have U_1 := U_0.on hb
    have B_1 := B_0.trans (hb.mono B_0.size)
    clear con hb U_0 B_0 HX0
    obtain ⟨q0, n0, c0, q1, n1, c1, q3, n3, c3, q4, n4, c4, q5, n5, c5, rfl, i0, i1, i3, i4, i5⟩ := id hin
    obtain ⟨X2, hX2⟩ : ∃ X2, X1.alloc (.cells #[.slice q0 n0 c0, .slice q1 n1 c1, .int .i64 u.port, .slice q3 n3 c3, .slice q4 n4 c4, .slice q5 n5 c5, .bool u.hq, .bool u.hf] 33) = X2 := ⟨_, rfl⟩
    have hb : Below X1.heap.size X1 X2 := by rw [← hX2]; exact (Below.refl _ _).alloc (Nat.le_refl _) _
    obtain ⟨b4, hb4⟩ : ∃ b, X1.heap.size = b := ⟨_, rfl⟩
    have W_2 : UB b4 #[.slice q0 n0 c0, .slice q1 n1 c1, .int .i64 u.port, .slice q3 n3 c3, .slice q4 n4 c4, .slice q5 n5 c5, .bool u.hq, .bool u.hf] X2 := by rw [← hX2, ← hb4]; exact UB.new X1 _
    have hne : ¬ w.heap.size = b4 := by have := U_1.lt; omega
    have hne' : ¬ b4 = w.heap.size := fun h => hne h.symm
    have U_2 := U_1.on hb
    have B_2 := B_1.trans (hb.mono B_1.size)
    have HX2 := Lib.hid hX2
    have HB4 := Lib.hid hb4
    have con := Text_any u _ X2 (hin.on hb) HO.out (HG.out.on B_2) (by have := HT.out; omega)
    have j0 := i0.on hb
    have j1 := i1.on hb
    have j3 := i3.on hb
    have j4 := i4.on hb
    have j5 := i5.on hb
    obtain ⟨L, hL⟩ : ∃ L, (textU u).length = L := ⟨_, rfl⟩
    have d1 : decide ((4096 : Int) < (L : Int)) = false := by have := HT.out; simp; omega
    rw [hL] at con
    clear hX2 hb4 U_1 B_1 hin i0 i1 i3 i4 i5 hb hL
    go_wp2_with fail
    rw [HB4.out, HX2.out]
    refine con.mono ?_
    rintro e X3 ⟨v3, rfl, hr, hb⟩
    obtain ⟨qt, ct, rfl, _, _, _, _, _⟩ := row_open hr
    have U_3 := U_2.on hb
    have W_3 := W_2.on hb
    have B_3 := B_2.trans (hb.mono B_2.size)
    have k0 := j0.on hb
    have k1 := j1.on hb
    have k3 := j3.on hb
    have k4 := j4.on hb
    have k5 := j5.on hb
    clear con hr hb U_2 W_2 B_2 j0 j1 j3 j4 j5 HX2 HB4
    have yb := W_3.box
    have yc0 := yb 0 _ rfl
    have yf0 := W_3.frozen 0
    have yc1 := yb 1 _ rfl
    have yf1 := W_3.frozen 1
    have yc2 := yb 2 _ rfl
    have yf2 := W_3.frozen 2
    have yc3 := yb 3 _ rfl
    have yf3 := W_3.frozen 3
    have yc4 := yb 4 _ rfl
    have yf4 := W_3.frozen 4
    have yc5 := yb 5 _ rfl
    have yf5 := W_3.frozen 5
    have yc6 := yb 6 _ rfl
    have yf6 := W_3.frozen 6
    have yc7 := yb 7 _ rfl
    have yf7 := W_3.frozen 7
    clear yb
    have zb := U_3.box
    have zc0 := zb 0 _ rfl
    have zf0 := U_3.frozen 0
    have zc1 := zb 1 _ rfl
    have zf1 := U_3.frozen 1
    have zc2 := zb 2 _ rfl
    have zf2 := U_3.frozen 2
    have zc3 := zb 3 _ rfl
    have zf3 := U_3.frozen 3
    have zc4 := zb 4 _ rfl
    have zf4 := U_3.frozen 4
    have zc5 := zb 5 _ rfl
    have zf5 := U_3.frozen 5
    have zc6 := zb 6 _ rfl
    have zf6 := U_3.frozen 6
    have zc7 := zb 7 _ rfl
    have zf7 := U_3.frozen 7
    clear zb
    go_wp2
    obtain ⟨Y, hY, hU, hkY, hbY⟩ := UB.put (show UB w.heap.size #[.slice none 0 0, .slice none 0 0, .int .i64 0, .slice none 0 0, .slice none 0 0, .slice none 0 0, .bool false, .bool false] _ from U_3) (.slice q0 n0 c0) (.slice q1 n1 c1) (.int .i64 u.port) (.slice q3 n3 c3) (.slice q4 n4 c4) (.slice q5 n5 c5) (.bool u.hq) (.bool u.hf)
    rw [hY]
    (try simp only [Exit.inBlock, Exit.then])
    refine bodyPost_ret (ret_url2 rfl _ _ w.heap.size _ rfl hU rfl) rfl ?_
    exact ⟨_, rfl, ⟨q0, n0, c0, q1, n1, c1, q3, n3, c3, q4, n4, c4, q5, n5, c5, rfl, k0.awayL U_3 nbzL hkY, k1.awayL U_3 nbzL hkY, k3.awayL U_3 nbzL hkY, k4.awayL U_3 nbzL hkY, k5.awayL U_3 nbzL hkY⟩, B_3.trans (hbY _ (Nat.le_refl _))⟩
end Go.Proofs.YtniehbjoogaccaaGreatDoor.Url
namespace Go.Proofs.YtniehbjoogaccaaGreatDoor.Url
open Go.RowKit Go.Shelf
attribute [local go_sem] Oper.semAt_some
theorem nbz : ∀ (j : Nat) (x : Value), zeroU[j]? = some x → ∀ z : Int, x ≠ .int .u8 z := nb8 ⟨_, _, _, rfl⟩ ⟨_, _, _, rfl⟩ ⟨_, _, _, rfl⟩ ⟨_, _, _, rfl⟩ ⟨_, _, _, rfl⟩
theorem By.away {B : Nat} {cs : Array Value} {X Y : World} {v : Value} {l : List UInt8} (h : By X v l) (hU : UB B cs X) (hcs : ∀ (j : Nat) (x : Value), cs[j]? = some x → ∀ z : Int, x ≠ .int .u8 z) (hk : ∀ S : Nat → Prop, ¬ S B → Keep S X Y) : By Y v l := by
  obtain ⟨q, c, rfl, h2, h3, h4, h5⟩ := h
  refine ⟨q, c, rfl, h2, h3, h4, fun h0 => ?_⟩
  obtain ⟨b, o, he, hc⟩ := h5 h0
  refine ⟨b, o, he, fun j hj => ?_⟩
  have hne : b ≠ B := fun e => by
    subst e
    have h1 := hc j hj
    simp only [World.cell?, show X.heap[b]? = _ from hU] at h1
    exact hcs _ _ h1 _ rfl
  exact (World.cell?_of_block ((hk (fun k => k ≠ B) (fun h => h rfl)).block b (World.block_lt_of_cell? X _ (hc j hj)) hne)).trans (hc j hj)
theorem UB.set8 {B : Nat} {X : World} {a0 a1 a2 a3 a4 a5 a6 a7 : Value} (h : UB B #[a0, a1, a2, a3, a4, a5, a6, a7] X) (v : Value) :
    UB B #[a0, a1, v, a3, a4, a5, a6, a7] (X.setCell ⟨B, 2, none⟩ v) ∧ UB B #[a0, a1, a2, v, a4, a5, a6, a7] (X.setCell ⟨B, 3, none⟩ v) ∧ UB B #[a0, a1, a2, a3, v, a5, a6, a7] (X.setCell ⟨B, 4, none⟩ v) ∧ UB B #[a0, a1, a2, a3, a4, v, a6, a7] (X.setCell ⟨B, 5, none⟩ v) := by
  have h2 := h.set 2 v; have h3 := h.set 3 v; have h4 := h.set 4 v; have h5 := h.set 5 v
  simp only [List.setIfInBounds_toArray, List.set_cons_zero, List.set_cons_succ] at h2 h3 h4 h5
  exact ⟨h2, h3, h4, h5⟩
set_option maxRecDepth 100000 in
set_option maxHeartbeats 16000000 in
theorem canonOf_any (q : Option Addr) (n c : Nat) (t : List UInt8) (w : World) (hby : By w (.slice q n c) t) (hn : n ≤ 4096) (hG : Gl w) :
    Calls Tryz.prog 35 #[.slice q n c] w fun e w' => CanonOut (canonU t) w e w' := by
  have kc := fun (w : World) (C : Array Value) (n c : Nat) => Lib.run_convert_bytes_const (P := Tryz.prog) w 29 5 C n c Tryz.underlying29 Tryz.underlying5
  obtain ⟨X0, hX0⟩ : ∃ X0, (w.alloc (.cells #[.slice none 0 0, .slice none 0 0, .int .i64 0, .slice none 0 0, .slice none 0 0, .slice none 0 0, .bool false, .bool false] 33)).alloc (.cells #[.int .u8 58, .int .u8 47, .int .u8 47] 5 (3, 4)) = X0 := ⟨_, rfl⟩
  have hBz := (Below.refl _ w).alloc (Nat.le_refl _) (.cells #[.slice none 0 0, .slice none 0 0, .int .i64 0, .slice none 0 0, .slice none 0 0, .slice none 0 0, .bool false, .bool false] 33)
  have B_0 : Below w.heap.size w X0 := by rw [← hX0]; exact hBz.alloc hBz.size _
  have U_0 : UB w.heap.size zeroU X0 := by rw [← hX0]; exact (UB.new w zeroU).on ((Below.refl _ _).alloc (Nat.le_refl _) _)
  have hsep : Lib.BytesIn X0 (some ⟨w.heap.size + 1, 0, none⟩) 3 (Lib.numsL sepS) := by
    have := bytes_lit (w := w.alloc (.cells #[.slice none 0 0, .slice none 0 0, .int .i64 0, .slice none 0 0, .slice none 0 0, .slice none 0 0, .bool false, .bool false] 33)) #[.int .u8 58, .int .u8 47, .int .u8 47] sepS (3, 4) rfl
    rw [World.size_alloc] at this
    rw [← hX0]; exact this
  have kc1 := kc (w.alloc (.cells #[.slice none 0 0, .slice none 0 0, .int .i64 0, .slice none 0 0, .slice none 0 0, .slice none 0 0, .bool false, .bool false] 33)) #[.int .u8 58, .int .u8 47, .int .u8 47] 3 3
  rw [World.size_alloc] at kc1
  have con := Cut_any q (some ⟨w.heap.size + 1, 0, none⟩) n c 3 t X0 (hby.on B_0) (by omega) (hG.on B_0) hsep
  have HX0 := Lib.hid hX0
  have T_0 := hby.on B_0
  have hTl := hby.at.1
  clear hX0 hBz hsep hby hG
  rcases sep_cases t with ⟨hk, hsp⟩ | ⟨k, hk, hkl, hsp⟩
  · rw [cut_none hk] at con
    have HC := Lib.hid (canon_none t hsp)
    clear hsp hk T_0
    go_enter Tryz.func35, Tryz.ntmps35
    go_wp2_with fail
    rw [HX0.out]
    refine con.mono ?_
    rintro e X1 ⟨rfl, m, hm⟩
    have hb : Below X0.heap.size X0 X1 := by rw [hm]; exact below_drewN _ _
    clear con hm kc1 HX0
    have B_1 := B_0.trans (hb.mono B_0.size)
    have U_1 := U_0.on hb
    clear U_0 B_0 hb
    have zb := U_1.box
    have zc0 := zb 0 _ rfl
    have zf0 := U_1.frozen 0
    have zc1 := zb 1 _ rfl
    have zf1 := U_1.frozen 1
    have zc2 := zb 2 _ rfl
    have zf2 := U_1.frozen 2
    have zc3 := zb 3 _ rfl
    have zf3 := U_1.frozen 3
    have zc4 := zb 4 _ rfl
    have zf4 := U_1.frozen 4
    have zc5 := zb 5 _ rfl
    have zf5 := U_1.frozen 5
    have zc6 := zb 6 _ rfl
    have zf6 := U_1.frozen 6
    have zc7 := zb 7 _ rfl
    have zf7 := U_1.frozen 7
    clear zb
    go_wp2
    obtain ⟨Y, hY, hU, hkY, hbY⟩ := UB.put (show UB w.heap.size #[.slice none 0 0, .slice none 0 0, .int .i64 0, .slice none 0 0, .slice none 0 0, .slice none 0 0, .bool false, .bool false] _ from U_1) (.slice none 0 0) (.slice none 0 0) (.int .i64 0) (.slice none 0 0) (.slice none 0 0) (.slice none 0 0) (.bool false) (.bool false)
    rw [hY]
    (try simp only [Exit.inBlock, Exit.then])
    refine bodyPost_ret (ret_url2 rfl _ _ w.heap.size _ rfl hU rfl) rfl ?_
    rw [HC.out]
    exact ⟨by decide, rfl, B_1.trans (hbY _ (Nat.le_refl _))⟩
  · rw [cut_some hk] at con
    have S_0 := T_0.take (show k ≤ n by omega)
    have R_0 := T_0.drop (show k + 3 ≤ n by omega)
    have hnr : n - (k + 3) ≤ 4096 := by omega
    have hkn : k ≤ 4096 := by omega
    generalize t.take k = s at *
    generalize t.drop (k + 3) = r at *
    generalize hqR : subA q c (k + 3) = qR at *
    generalize hnR : n - (k + 3) = nR at *
    generalize hcR : c - (k + 3) = cR at *
    have HSP := Lib.hid hsp
    clear hsp hk T_0 hkl hTl hqR hnR hcR
    obtain ⟨own, hown⟩ : ∃ o, ownP (Ref.lowL s) = o := ⟨_, rfl⟩
    have HOW := Lib.hid hown
    clear hown
    go_enter Tryz.func35, Tryz.ntmps35
    go_wp2_with fail
    rw [HX0.out]
    refine con.mono ?_
    rintro e X1 ⟨rfl, m, hm⟩
    have hb : Below X0.heap.size X0 X1 := by rw [hm]; exact below_drewN _ _
    clear con hm kc1 HX0
    have B_1 := B_0.trans (hb.mono B_0.size)
    have U_1 := U_0.on hb
    have S_1 := S_0.on hb
    have R_1 := R_0.on hb
    clear R_0 S_0 U_0 B_0 hb
    have con := Own_any q k c s X1 S_1.at.1 (by omega) S_1.at.2.2.2.2
    rw [HOW.out] at con
    by_cases ho : own = 0
    · have e0 : ((own : Int) == 0) = true := by rw [ho]; rfl
      have HC := Lib.hid (canon_other t s r HSP.out (by rw [HOW.out]; exact ho))
      clear ho
      go_wp2_with fail
      refine con.mono ?_
      rintro e X2 ⟨rfl, hb⟩
      clear con
      have B_2 := B_1.trans (hb.mono B_1.size)
      have U_2 := U_1.on hb
      have S_2 := S_1.on hb
      have R_2 := R_1.on hb
      clear R_1 S_1 U_1 B_1 hb
      have zb := U_2.box
      have zc0 := zb 0 _ rfl
      have zf0 := U_2.frozen 0
      have zc1 := zb 1 _ rfl
      have zf1 := U_2.frozen 1
      have zc2 := zb 2 _ rfl
      have zf2 := U_2.frozen 2
      have zc3 := zb 3 _ rfl
      have zf3 := U_2.frozen 3
      have zc4 := zb 4 _ rfl
      have zf4 := U_2.frozen 4
      have zc5 := zb 5 _ rfl
      have zf5 := U_2.frozen 5
      have zc6 := zb 6 _ rfl
      have zf6 := U_2.frozen 6
      have zc7 := zb 7 _ rfl
      have zf7 := U_2.frozen 7
      clear zb
      go_wp2
      obtain ⟨Y, hY, hU, hkY, hbY⟩ := UB.put (show UB w.heap.size #[.slice none 0 0, .slice none 0 0, .int .i64 0, .slice none 0 0, .slice none 0 0, .slice none 0 0, .bool false, .bool false] _ from U_2) (.slice none 0 0) (.slice none 0 0) (.int .i64 0) (.slice none 0 0) (.slice none 0 0) (.slice none 0 0) (.bool false) (.bool false)
      rw [hY]
      (try simp only [Exit.inBlock, Exit.then])
      refine bodyPost_ret (ret_url2 rfl _ _ w.heap.size _ rfl hU rfl) rfl ?_
      rw [HC.out]
      exact ⟨by decide, rfl, B_2.trans (hbY _ (Nat.le_refl _))⟩
    have e0 : ((own : Int) == 0) = false := by rw [beq_eq_false_iff_ne]; omega
    have hs0 : Ref.lowL s = httpS ∨ Ref.lowL s = httpsS := Decidable.not_not.1 fun h => ho (by rw [← HOW.out]; exact (own_zero _).2 h)
    have HS := Lib.hid hs0
    have HC := Lib.hid (canon_rest t s r HSP.out (by rw [HOW.out]; exact ho))
    clear ho HSP hs0
    go_wp2_with fail
    refine con.mono ?_
    rintro e X2 ⟨rfl, hb⟩
    clear con
    have B_2 := B_1.trans (hb.mono B_1.size)
    have U_2 := U_1.on hb
    have S_2 := S_1.on hb
    have R_2 := R_1.on hb
    clear R_1 S_1 U_1 B_1 hb
    obtain ⟨bf, hbf⟩ : ∃ b, atOk 35 (r) = b := ⟨_, rfl⟩
    have con := At_any qR nR cR (r) 35 X2 R_2.at.1 (by have := R_2.at.1; omega) R_2.at.2.1 R_2.at.2.2.2.1 R_2.at.2.2.2.2
    rw [hbf] at con
    have Hbf := Lib.hid hbf
    clear hbf
    go_wp2_with fail
    refine con.mono ?_
    rintro e X3 ⟨v1, v2, rfl, hr1, hr2, hb⟩
    clear con
    obtain ⟨nA, hnA⟩ : ∃ n, (atFst 35 (r)).length = n := ⟨_, rfl⟩
    rw [hnA] at hr1
    obtain ⟨qA, cA, rfl, _, _, _, _, _⟩ := row_open hr1
    have A_3 := By.row hr1
    have hmA : nA ≤ 4096 := by have h1 := at_len 35 (r); have h2 := R_2.at.1; omega
    clear hr1 hnA
    obtain ⟨nF, hnF⟩ : ∃ n, (atSnd 35 (r)).length = n := ⟨_, rfl⟩
    rw [hnF] at hr2
    obtain ⟨qF, cF, rfl, _, _, _, _, _⟩ := row_open hr2
    have F_3 := By.row hr2
    have hmF : nF ≤ 4096 := by have h1 := at_len 35 (r); have h2 := R_2.at.1; omega
    clear hr2 hnF
    have B_3 := B_2.trans (hb.mono B_2.size)
    have U_3 := U_2.on hb
    have S_3 := S_2.on hb
    have R_3 := R_2.on hb
    clear R_2 S_2 U_2 B_2 hb
    clear e0
    clear R_3
    obtain ⟨bq, hbq⟩ : ∃ b, atOk 63 (atFst 35 r) = b := ⟨_, rfl⟩
    have con := At_any qA nA cA (atFst 35 r) 63 X3 A_3.at.1 (by have := A_3.at.1; omega) A_3.at.2.1 A_3.at.2.2.2.1 A_3.at.2.2.2.2
    rw [hbq] at con
    have Hbq := Lib.hid hbq
    clear hbq
    go_wp2_with fail
    refine con.mono ?_
    rintro e X4 ⟨v1, v2, rfl, hr1, hr2, hb⟩
    clear con
    obtain ⟨nE, hnE⟩ : ∃ n, (atFst 63 (atFst 35 r)).length = n := ⟨_, rfl⟩
    rw [hnE] at hr1
    obtain ⟨qE, cE, rfl, _, _, _, _, _⟩ := row_open hr1
    have E_4 := By.row hr1
    have hmE : nE ≤ 4096 := by have h1 := at_len 63 (atFst 35 r); have h2 := A_3.at.1; omega
    clear hr1 hnE
    obtain ⟨nQ, hnQ⟩ : ∃ n, (atSnd 63 (atFst 35 r)).length = n := ⟨_, rfl⟩
    rw [hnQ] at hr2
    obtain ⟨qQ, cQ, rfl, _, _, _, _, _⟩ := row_open hr2
    have Q_4 := By.row hr2
    have hmQ : nQ ≤ 4096 := by have h1 := at_len 63 (atFst 35 r); have h2 := A_3.at.1; omega
    clear hr2 hnQ
    have B_4 := B_3.trans (hb.mono B_3.size)
    have U_4 := U_3.on hb
    have S_4 := S_3.on hb
    have A_4 := A_3.on hb
    have F_4 := F_3.on hb
    clear F_3 A_3 S_3 U_3 B_3 hb
    clear A_4
    have con := atSlash_any qE nE cE (atFst 63 (atFst 35 r)) X4 E_4
    go_wp2_with fail
    refine con.mono ?_
    rintro e X5 ⟨v1, v2, rfl, V_4, P_4, hb, -⟩
    have V_5 := V_4.on hb
    have P_5 := P_4.on hb
    clear con V_4 P_4
    obtain ⟨qV, cV, rfl, _⟩ := id V_5
    obtain ⟨qP, cP, rfl, _⟩ := id P_5
    have hP5 := ahead_drop 47 (atFst 63 (atFst 35 r))
    have hVl := ahead_len 47 (atFst 63 (atFst 35 r))
    have hEl := E_4.at.1
    replace V_5 : By X5 (.slice qV (srvL r).length cV) (srvL r) := V_5
    replace P_5 : By X5 (.slice qP (pthL r).length cP) (pthL r) := P_5
    have HPF := Lib.hid (show pthL r = [] ∨ ∃ x, pthL r = 47 :: x from hP5)
    have hPl : (pthL r).length ≤ 4096 := by
      have : (pthL r).length ≤ (atFst 63 (atFst 35 r)).length := by unfold pthL; rw [List.length_drop]; omega
      omega
    have hVl' : (srvL r).length ≤ 4096 := by have : (srvL r).length ≤ (atFst 63 (atFst 35 r)).length := hVl; omega
    change By X5 (.slice qV (aheadL 47 (atFst 63 (atFst 35 r))).length cV) (srvL r) at V_5
    change By X5 (.slice qP ((atFst 63 (atFst 35 r)).drop (aheadL 47 (atFst 63 (atFst 35 r))).length).length cP) (pthL r) at P_5
    obtain ⟨nV, hnV⟩ : ∃ n, (aheadL 47 (atFst 63 (atFst 35 r))).length = n := ⟨_, rfl⟩
    obtain ⟨nP, hnP⟩ : ∃ n, ((atFst 63 (atFst 35 r)).drop (aheadL 47 (atFst 63 (atFst 35 r))).length).length = n := ⟨_, rfl⟩
    rw [hnP] at P_5 ⊢
    rw [hnV] at V_5 ⊢
    have hmV : nV ≤ 4096 := by rw [← hnV]; exact hVl'
    have hmP : nP ≤ 4096 := by rw [← hnP]; exact hPl
    clear hP5 hVl hEl hPl hVl' hnV hnP
    have B_5 := B_4.trans (hb.mono B_4.size)
    have U_5 := U_4.on hb
    have S_5 := S_4.on hb
    have F_5 := F_4.on hb
    have E_5 := E_4.on hb
    have Q_5 := Q_4.on hb
    clear Q_4 E_4 F_4 S_4 U_4 B_4 hb
    clear E_5
    obtain ⟨bp, hbp⟩ : ∃ b, atOk 58 (srvL r) = b := ⟨_, rfl⟩
    have con := At_any qV nV cV (srvL r) 58 X5 V_5.at.1 (by have := V_5.at.1; omega) V_5.at.2.1 V_5.at.2.2.2.1 V_5.at.2.2.2.2
    rw [hbp] at con
    have Hbp := Lib.hid hbp
    clear hbp
    go_wp2_with fail
    refine con.mono ?_
    rintro e X6 ⟨v1, v2, rfl, hr1, hr2, hb⟩
    clear con
    obtain ⟨nN, hnN⟩ : ∃ n, (atFst 58 (srvL r)).length = n := ⟨_, rfl⟩
    rw [hnN] at hr1
    obtain ⟨qN, cN, rfl, _, _, _, _, _⟩ := row_open hr1
    have N_6 := By.row hr1
    have hmN : nN ≤ 4096 := by have h1 := at_len 58 (srvL r); have h2 := V_5.at.1; omega
    clear hr1 hnN
    obtain ⟨nD, hnD⟩ : ∃ n, (atSnd 58 (srvL r)).length = n := ⟨_, rfl⟩
    rw [hnD] at hr2
    obtain ⟨qD, cD, rfl, _, _, _, _, _⟩ := row_open hr2
    have D_6 := By.row hr2
    have hmD : nD ≤ 4096 := by have h1 := at_len 58 (srvL r); have h2 := V_5.at.1; omega
    clear hr2 hnD
    have B_6 := B_5.trans (hb.mono B_5.size)
    have U_6 := U_5.on hb
    have S_6 := S_5.on hb
    have F_6 := F_5.on hb
    have Q_6 := Q_5.on hb
    have V_6 := V_5.on hb
    have P_6 := P_5.on hb
    clear P_5 V_5 Q_5 F_5 S_5 U_5 B_5 hb
    clear V_6
    have con := Host.Parse_any qN nN cN (atFst 58 (srvL r)) X6 N_6.at.1 (by omega) N_6.at.2.2.2.2
    obtain ⟨pe, hpe⟩ : ∃ pe, Host.parseE (atFst 58 (srvL r)) = pe := ⟨_, rfl⟩
    have HPE := Lib.hid hpe
    clear hpe
    go_wp2_with fail
    refine con.mono ?_
    rintro e X7 ⟨vH, rfl, hrH, hb⟩
    rw [HPE.out]
    obtain ⟨nH, hnH⟩ : ∃ n, (Host.canL (atFst 58 (srvL r))).length = n := ⟨_, rfl⟩
    rw [hnH] at hrH
    obtain ⟨qH, cH, rfl, _, _, _, _, _⟩ := row_open hrH
    have H_7 := By.row hrH
    clear con hrH hnH
    have B_7 := B_6.trans (hb.mono B_6.size)
    have U_7 := U_6.on hb
    have S_7 := S_6.on hb
    have F_7 := F_6.on hb
    have Q_7 := Q_6.on hb
    have P_7 := P_6.on hb
    have N_7 := N_6.on hb
    have D_7 := D_6.on hb
    clear D_6 N_6 P_6 Q_6 F_6 S_6 U_6 B_6 hb
    clear N_7
    by_cases hp7 : pe = 0
    case neg =>
      have e7 : ((pe : Int) != 0) = true := by rw [bne_iff_ne]; exact hp7
      have HE := Lib.hid (show canonU t = .inl pe by rw [HC.out, rest_host _ r HS.out (by rw [HPE.out]; exact hp7), HPE.out])
      have hp8 := Lib.hid hp7
      clear HC hp7
      have zb := U_7.box
      have zc0 := zb 0 _ rfl
      have zf0 := U_7.frozen 0
      have zc1 := zb 1 _ rfl
      have zf1 := U_7.frozen 1
      have zc2 := zb 2 _ rfl
      have zf2 := U_7.frozen 2
      have zc3 := zb 3 _ rfl
      have zf3 := U_7.frozen 3
      have zc4 := zb 4 _ rfl
      have zf4 := U_7.frozen 4
      have zc5 := zb 5 _ rfl
      have zf5 := U_7.frozen 5
      have zc6 := zb 6 _ rfl
      have zf6 := U_7.frozen 6
      have zc7 := zb 7 _ rfl
      have zf7 := U_7.frozen 7
      clear zb
      go_wp2
      obtain ⟨Y, hY, hU, hkY, hbY⟩ := UB.put (show UB w.heap.size #[.slice none 0 0, .slice none 0 0, .int .i64 0, .slice none 0 0, .slice none 0 0, .slice none 0 0, .bool false, .bool false] _ from U_7) (.slice none 0 0) (.slice none 0 0) (.int .i64 0) (.slice none 0 0) (.slice none 0 0) (.slice none 0 0) (.bool false) (.bool false)
      rw [hY]
      (try simp only [Exit.inBlock, Exit.then])
      refine bodyPost_ret (ret_url2 rfl _ _ w.heap.size _ rfl hU rfl) rfl ?_
      rw [HE.out]
      exact ⟨hp8.out, rfl, B_7.trans (hbY _ (Nat.le_refl _))⟩
    subst hp7
    have HCL := Lib.hid (show Host.canL (atFst 58 (srvL r)) = Ref.lowL (atFst 58 (srvL r)) by unfold Host.canL; rw [if_pos HPE.out])
    rw [HCL.out] at H_7
    have con := Lower_any q k c s X7 S_7.at.1 (by omega) S_7.at.2.2.2.2
    go_wp2_with fail
    refine con.mono ?_
    rintro e X8 ⟨vL, rfl, hrL, hb⟩
    obtain ⟨qL, cL, rfl, _, _, _, _, _⟩ := row_open hrL
    have L_8 : By X8 (.slice qL k cL) (Ref.lowL s) := By.row hrL
    clear con hrL HCL
    have B_8 := B_7.trans (hb.mono B_7.size)
    have U_8 := U_7.on hb
    have S_8 := S_7.on hb
    have F_8 := F_7.on hb
    have Q_8 := Q_7.on hb
    have P_8 := P_7.on hb
    have D_8 := D_7.on hb
    have H_8 := H_7.on hb
    clear H_7 D_7 P_7 Q_7 F_7 S_7 U_7 B_7 hb
    have con := Own_any q k c s X8 S_8.at.1 (by omega) S_8.at.2.2.2.2
    rw [HOW.out] at con
    go_wp2_with fail
    refine con.mono ?_
    rintro e X9 ⟨rfl, hb⟩
    clear con
    have B_9 := B_8.trans (hb.mono B_8.size)
    have U_9 := U_8.on hb
    have S_9 := S_8.on hb
    have F_9 := F_8.on hb
    have Q_9 := Q_8.on hb
    have P_9 := P_8.on hb
    have D_9 := D_8.on hb
    have H_9 := H_8.on hb
    have L_9 := L_8.on hb
    clear L_8 H_8 D_8 P_8 Q_8 F_8 S_8 U_8 B_8 hb
    clear S_9
    obtain ⟨XA, hXA⟩ : ∃ XA, X9.alloc (.cells #[.slice qL k cL, .slice qH nH cH, .int .i64 own, .slice none 0 0, .slice none 0 0, .slice none 0 0, .bool bq, .bool bf] 33) = XA := ⟨_, rfl⟩
    obtain ⟨b18, hb18⟩ : ∃ b, X9.heap.size = b := ⟨_, rfl⟩
    have W_A : UB b18 #[.slice qL k cL, .slice qH nH cH, .int .i64 own, .slice none 0 0, .slice none 0 0, .slice none 0 0, .bool bq, .bool bf] XA := by rw [← hXA, ← hb18]; exact UB.new X9 _
    have hb : Below X9.heap.size X9 XA := by rw [← hXA]; exact (Below.refl _ _).alloc (Nat.le_refl _) _
    have hne : ¬ w.heap.size = b18 := by have := U_9.lt; omega
    have hne' : ¬ b18 = w.heap.size := fun h => hne h.symm
    have hle : w.heap.size ≤ b18 := by have := U_9.lt; omega
    have HXA := Lib.hid hXA
    have HB18 := Lib.hid hb18
    clear hXA hb18
    have B_A := B_9.trans (hb.mono B_9.size)
    have U_A := U_9.on hb
    have F_A := F_9.on hb
    have Q_A := Q_9.on hb
    have P_A := P_9.on hb
    have D_A := D_9.on hb
    have H_A := H_9.on hb
    have L_A := L_9.on hb
    clear L_9 H_9 D_9 P_9 Q_9 F_9 U_9 B_9 hb
    cases bp with
    | false =>
      clear D_A
      have HPO := Lib.hid (show portC (Ref.lowL s) (atSnd 58 (srvL r)) (atOk 58 (srvL r)) = (own : Int) by rw [Hbp.out]; unfold portC; rw [if_neg (by decide), HOW.out])
      go_wp2_with fail
      rw [HB18.out, HXA.out]
      have con := canonOfPath_any qP nP cP (pthL r) XA P_A (by omega) HPF.out
      refine con.mono ?_
      rintro e XC ⟨vW, ep, rfl, hep, hr, hb⟩
      have HEP : Hid (ep = if (pathL (pthL r)).isSome then 0 else 2) := hep
      replace hr : XC.ownsRow XA.heap.size 5 1 vW ((pathL (pthL r)).getD []).length (byV ((pathL (pthL r)).getD [])) := hr
      obtain ⟨nW, hnW⟩ : ∃ n, ((pathL (pthL r)).getD []).length = n := ⟨_, rfl⟩
      rw [hnW] at hr
      obtain ⟨qW, cW, rfl, _, _, _, _, _⟩ := row_open hr
      have GP_C := By.row hr
      clear con hr hnW hep
      have B_C := B_A.trans (hb.mono B_A.size)
      have U_C := U_A.on hb
      have F_C := F_A.on hb
      have Q_C := Q_A.on hb
      have P_C := P_A.on hb
      have H_C := H_A.on hb
      have L_C := L_A.on hb
      have W_C := W_A.on hb
      clear W_A L_A H_A P_A Q_A F_A U_A B_A hb
      clear P_C
      cases bq with
      | false =>
        clear Q_C
        cases bf with
        | false =>
          clear F_C
          have yb := W_C.box
          have yc0 := yb 0 _ rfl
          have yf0 := W_C.frozen 0
          have yc1 := yb 1 _ rfl
          have yf1 := W_C.frozen 1
          have yc2 := yb 2 _ rfl
          have yf2 := W_C.frozen 2
          have yc3 := yb 3 _ rfl
          have yf3 := W_C.frozen 3
          have yc4 := yb 4 _ rfl
          have yf4 := W_C.frozen 4
          have yc5 := yb 5 _ rfl
          have yf5 := W_C.frozen 5
          have yc6 := yb 6 _ rfl
          have yf6 := W_C.frozen 6
          have yc7 := yb 7 _ rfl
          have yf7 := W_C.frozen 7
          clear yb
          have zb := U_C.box
          have zc0 := zb 0 _ rfl
          have zf0 := U_C.frozen 0
          have zc1 := zb 1 _ rfl
          have zf1 := U_C.frozen 1
          have zc2 := zb 2 _ rfl
          have zf2 := U_C.frozen 2
          have zc3 := zb 3 _ rfl
          have zf3 := U_C.frozen 3
          have zc4 := zb 4 _ rfl
          have zf4 := U_C.frozen 4
          have zc5 := zb 5 _ rfl
          have zf5 := U_C.frozen 5
          have zc6 := zb 6 _ rfl
          have zf6 := U_C.frozen 6
          have zc7 := zb 7 _ rfl
          have zf7 := U_C.frozen 7
          clear zb
          obtain ⟨XZ, hXZ⟩ : ∃ Z, XC.setCell ⟨b18, 3, none⟩ (.slice qW nW cW) = Z := ⟨_, rfl⟩
          have B_Z : Below w.heap.size w XZ := by rw [← hXZ]; exact B_C.setCell (p := ⟨b18, 3, none⟩) hle _
          have U_Z : UB w.heap.size zeroU XZ := by rw [← hXZ]; exact U_C.other hne _
          have H_Z := By.set (i := 3) (u := .slice qW nW cW) H_C W_C (nb8 ⟨_, _, _, rfl⟩ ⟨_, _, _, rfl⟩ ⟨_, _, _, rfl⟩ ⟨_, _, _, rfl⟩ ⟨_, _, _, rfl⟩)
          rw [hXZ] at H_Z
          have L_Z := By.set (i := 3) (u := .slice qW nW cW) L_C W_C (nb8 ⟨_, _, _, rfl⟩ ⟨_, _, _, rfl⟩ ⟨_, _, _, rfl⟩ ⟨_, _, _, rfl⟩ ⟨_, _, _, rfl⟩)
          rw [hXZ] at L_Z
          have GP_Z := By.set (i := 3) (u := .slice qW nW cW) GP_C W_C (nb8 ⟨_, _, _, rfl⟩ ⟨_, _, _, rfl⟩ ⟨_, _, _, rfl⟩ ⟨_, _, _, rfl⟩ ⟨_, _, _, rfl⟩)
          rw [hXZ] at GP_Z
          have W_Z : UB b18 #[.slice qL k cL, .slice qH nH cH, .int .i64 own, .slice qW nW cW, .slice none 0 0, .slice none 0 0, .bool false, .bool false] XZ := by rw [← hXZ]; exact (W_C.set8 (.slice qW nW cW)).2.1
          clear GP_C W_C L_C H_C U_C B_C
          have HXZ := Lib.hid hXZ
          clear hXZ
          by_cases hp0 : (own : Int) = 0
          case pos =>
            have e0 : (((own : Int)) == 0) = true := by rw [beq_iff_eq]; exact hp0
            have hpo := HPO.out
            rw [hp0] at hpo
            clear hp0
            have HE := Lib.hid (show canonU t = .inl 2 by rw [HC.out]; exact rest_port _ r HS.out HPE.out hpo)
            go_wp2
            rw [HXZ.out]
            obtain ⟨Y, hY, hU, hkY, hbY⟩ := UB.put (show UB w.heap.size #[.slice none 0 0, .slice none 0 0, .int .i64 0, .slice none 0 0, .slice none 0 0, .slice none 0 0, .bool false, .bool false] _ from U_Z) (.slice none 0 0) (.slice none 0 0) (.int .i64 0) (.slice none 0 0) (.slice none 0 0) (.slice none 0 0) (.bool false) (.bool false)
            rw [hY]
            (try simp only [Exit.inBlock, Exit.then])
            refine bodyPost_ret (ret_url2 rfl _ _ w.heap.size _ rfl hU rfl) rfl ?_
            rw [HE.out]
            exact ⟨by decide, rfl, B_Z.trans (hbY _ (Nat.le_refl _))⟩
          have e0 : (((own : Int)) == 0) = false := by rw [beq_eq_false_iff_ne]; exact hp0
          have hpo : portC (Ref.lowL s) (atSnd 58 (srvL r)) (atOk 58 (srvL r)) ≠ 0 := by rw [HPO.out]; exact hp0
          cases hpp : pathL (pthL r) with
          | none =>
            obtain rfl : ep = 2 := by have := HEP.out; rw [hpp] at this; exact this
            have hpp2 := Lib.hid hpp
            clear hpp
            have HE := Lib.hid (show canonU t = .inl 2 by rw [HC.out]; exact rest_path _ r HS.out HPE.out hpp2.out)
            go_wp2
            rw [HXZ.out]
            obtain ⟨Y, hY, hU, hkY, hbY⟩ := UB.put (show UB w.heap.size #[.slice none 0 0, .slice none 0 0, .int .i64 0, .slice none 0 0, .slice none 0 0, .slice none 0 0, .bool false, .bool false] _ from U_Z) (.slice none 0 0) (.slice none 0 0) (.int .i64 0) (.slice none 0 0) (.slice none 0 0) (.slice none 0 0) (.bool false) (.bool false)
            rw [hY]
            (try simp only [Exit.inBlock, Exit.then])
            refine bodyPost_ret (ret_url2 rfl _ _ w.heap.size _ rfl hU rfl) rfl ?_
            rw [HE.out]
            exact ⟨by decide, rfl, B_Z.trans (hbY _ (Nat.le_refl _))⟩
          | some pp =>
            obtain rfl : ep = 0 := by have := HEP.out; rw [hpp] at this; exact this
            have h3 : optC (atOk 63 (atFst 35 r)) (atSnd 63 (atFst 35 r)) = some [] := by rw [Hbq.out]; rfl
            have h4 : optC (atOk 35 r) (atSnd 35 r) = some [] := by rw [Hbf.out]; rfl
            obtain ⟨pn, hpn, hrg⟩ := rest_good _ r HS.out HPE.out pp [] [] hpo hpp h3 h4
            rw [Hbq.out, Hbf.out] at hrg
            have hpn2 : (own : Int) = (pn : Int) := by rw [← HPO.out]; exact hpn
            have HE := Lib.hid (HC.out.trans hrg)
            have HPN := Lib.hid hpn2
            rw [hpp] at GP_Z
            clear hpo hrg hpn hpn2 h3 h4 hpp  hp0
            go_wp2
            rw [HXZ.out]
            obtain ⟨Y, hY, hU, hkY, hbY⟩ := UB.put (show UB w.heap.size #[.slice none 0 0, .slice none 0 0, .int .i64 0, .slice none 0 0, .slice none 0 0, .slice none 0 0, .bool false, .bool false] _ from U_Z) (.slice qL k cL) (.slice qH nH cH) (.int .i64 own) (.slice qW nW cW) (.slice none 0 0) (.slice none 0 0) (.bool false) (.bool false)
            rw [hY]
            (try simp only [Exit.inBlock, Exit.then])
            refine bodyPost_ret (ret_url2 rfl _ _ w.heap.size _ rfl hU rfl) rfl ?_
            rw [HE.out]
            refine ⟨_, rfl, ⟨qL, k, cL, qH, nH, cH, qW, nW, cW, none, 0, 0, none, 0, 0, by rw [HPN.out], L_Z.away U_Z nbz hkY, H_Z.away U_Z nbz hkY, GP_Z.away U_Z nbz hkY, by_nil _, by_nil _⟩, B_Z.trans (hbY _ (Nat.le_refl _))⟩
        | true =>
          have yb := W_C.box
          have yc3 := yb 3 _ rfl
          have yf3 := W_C.frozen 3
          clear yb
          go_wp2_with fail
          clear yc3 yf3
          obtain ⟨XF, hXF⟩ : ∃ Z, XC.setCell ⟨b18, 3, none⟩ (.slice qW nW cW) = Z := ⟨_, rfl⟩
          rw [hXF]
          have B_F : Below w.heap.size w XF := by rw [← hXF]; exact B_C.setCell (p := ⟨b18, 3, none⟩) hle _
          have U_F : UB w.heap.size zeroU XF := by rw [← hXF]; exact U_C.other hne _
          have F_F := By.set (i := 3) (u := .slice qW nW cW) F_C W_C (nb8 ⟨_, _, _, rfl⟩ ⟨_, _, _, rfl⟩ ⟨_, _, _, rfl⟩ ⟨_, _, _, rfl⟩ ⟨_, _, _, rfl⟩)
          rw [hXF] at F_F
          have H_F := By.set (i := 3) (u := .slice qW nW cW) H_C W_C (nb8 ⟨_, _, _, rfl⟩ ⟨_, _, _, rfl⟩ ⟨_, _, _, rfl⟩ ⟨_, _, _, rfl⟩ ⟨_, _, _, rfl⟩)
          rw [hXF] at H_F
          have L_F := By.set (i := 3) (u := .slice qW nW cW) L_C W_C (nb8 ⟨_, _, _, rfl⟩ ⟨_, _, _, rfl⟩ ⟨_, _, _, rfl⟩ ⟨_, _, _, rfl⟩ ⟨_, _, _, rfl⟩)
          rw [hXF] at L_F
          have GP_F := By.set (i := 3) (u := .slice qW nW cW) GP_C W_C (nb8 ⟨_, _, _, rfl⟩ ⟨_, _, _, rfl⟩ ⟨_, _, _, rfl⟩ ⟨_, _, _, rfl⟩ ⟨_, _, _, rfl⟩)
          rw [hXF] at GP_F
          have W_F : UB b18 #[.slice qL k cL, .slice qH nH cH, .int .i64 own, .slice qW nW cW, .slice none 0 0, .slice none 0 0, .bool false, .bool true] XF := by rw [← hXF]; exact (W_C.set8 (.slice qW nW cW)).2.1
          clear GP_C W_C L_C H_C F_C U_C B_C
          clear hXF
          have con := Pct.Canon_any qF nF cF (atSnd 35 r) 2 XF F_F.at.1 (by omega) F_F.at.2.2.2.2
          refine con.mono ?_
          rintro e XG ⟨vZ, ef, rfl, hef, hr, hb⟩
          have HEF : Hid (ef = if (formL 2 (atSnd 35 r)).isSome then 0 else 2) := hef
          replace hr : XG.ownsRow XF.heap.size 5 1 vZ ((formL 2 (atSnd 35 r)).getD []).length (byV ((formL 2 (atSnd 35 r)).getD [])) := hr
          obtain ⟨nZ, hnZ⟩ : ∃ n, ((formL 2 (atSnd 35 r)).getD []).length = n := ⟨_, rfl⟩
          rw [hnZ] at hr
          obtain ⟨qZ, cZ, rfl, _, _, _, _, _⟩ := row_open hr
          have GF_G := By.row hr
          clear con hr hnZ hef
          have B_G := B_F.trans (hb.mono B_F.size)
          have U_G := U_F.on hb
          have F_G := F_F.on hb
          have H_G := H_F.on hb
          have L_G := L_F.on hb
          have W_G := W_F.on hb
          have GP_G := GP_F.on hb
          clear GP_F W_F L_F H_F F_F U_F B_F hb
          clear F_G
          have yb := W_G.box
          have yc0 := yb 0 _ rfl
          have yf0 := W_G.frozen 0
          have yc1 := yb 1 _ rfl
          have yf1 := W_G.frozen 1
          have yc2 := yb 2 _ rfl
          have yf2 := W_G.frozen 2
          have yc3 := yb 3 _ rfl
          have yf3 := W_G.frozen 3
          have yc4 := yb 4 _ rfl
          have yf4 := W_G.frozen 4
          have yc5 := yb 5 _ rfl
          have yf5 := W_G.frozen 5
          have yc6 := yb 6 _ rfl
          have yf6 := W_G.frozen 6
          have yc7 := yb 7 _ rfl
          have yf7 := W_G.frozen 7
          clear yb
          have zb := U_G.box
          have zc0 := zb 0 _ rfl
          have zf0 := U_G.frozen 0
          have zc1 := zb 1 _ rfl
          have zf1 := U_G.frozen 1
          have zc2 := zb 2 _ rfl
          have zf2 := U_G.frozen 2
          have zc3 := zb 3 _ rfl
          have zf3 := U_G.frozen 3
          have zc4 := zb 4 _ rfl
          have zf4 := U_G.frozen 4
          have zc5 := zb 5 _ rfl
          have zf5 := U_G.frozen 5
          have zc6 := zb 6 _ rfl
          have zf6 := U_G.frozen 6
          have zc7 := zb 7 _ rfl
          have zf7 := U_G.frozen 7
          clear zb
          obtain ⟨XZ, hXZ⟩ : ∃ Z, XG.setCell ⟨b18, 5, none⟩ (.slice qZ nZ cZ) = Z := ⟨_, rfl⟩
          have B_Z : Below w.heap.size w XZ := by rw [← hXZ]; exact B_G.setCell (p := ⟨b18, 5, none⟩) hle _
          have U_Z : UB w.heap.size zeroU XZ := by rw [← hXZ]; exact U_G.other hne _
          have H_Z := By.set (i := 5) (u := .slice qZ nZ cZ) H_G W_G (nb8 ⟨_, _, _, rfl⟩ ⟨_, _, _, rfl⟩ ⟨_, _, _, rfl⟩ ⟨_, _, _, rfl⟩ ⟨_, _, _, rfl⟩)
          rw [hXZ] at H_Z
          have L_Z := By.set (i := 5) (u := .slice qZ nZ cZ) L_G W_G (nb8 ⟨_, _, _, rfl⟩ ⟨_, _, _, rfl⟩ ⟨_, _, _, rfl⟩ ⟨_, _, _, rfl⟩ ⟨_, _, _, rfl⟩)
          rw [hXZ] at L_Z
          have GP_Z := By.set (i := 5) (u := .slice qZ nZ cZ) GP_G W_G (nb8 ⟨_, _, _, rfl⟩ ⟨_, _, _, rfl⟩ ⟨_, _, _, rfl⟩ ⟨_, _, _, rfl⟩ ⟨_, _, _, rfl⟩)
          rw [hXZ] at GP_Z
          have GF_Z := By.set (i := 5) (u := .slice qZ nZ cZ) GF_G W_G (nb8 ⟨_, _, _, rfl⟩ ⟨_, _, _, rfl⟩ ⟨_, _, _, rfl⟩ ⟨_, _, _, rfl⟩ ⟨_, _, _, rfl⟩)
          rw [hXZ] at GF_Z
          have W_Z : UB b18 #[.slice qL k cL, .slice qH nH cH, .int .i64 own, .slice qW nW cW, .slice none 0 0, .slice qZ nZ cZ, .bool false, .bool true] XZ := by rw [← hXZ]; exact (W_G.set8 (.slice qZ nZ cZ)).2.2.2
          clear GF_G GP_G W_G L_G H_G U_G B_G
          have HXZ := Lib.hid hXZ
          clear hXZ
          by_cases hp0 : (own : Int) = 0
          case pos =>
            have e0 : (((own : Int)) == 0) = true := by rw [beq_iff_eq]; exact hp0
            have hpo := HPO.out
            rw [hp0] at hpo
            clear hp0
            have HE := Lib.hid (show canonU t = .inl 2 by rw [HC.out]; exact rest_port _ r HS.out HPE.out hpo)
            go_wp2
            rw [HXZ.out]
            obtain ⟨Y, hY, hU, hkY, hbY⟩ := UB.put (show UB w.heap.size #[.slice none 0 0, .slice none 0 0, .int .i64 0, .slice none 0 0, .slice none 0 0, .slice none 0 0, .bool false, .bool false] _ from U_Z) (.slice none 0 0) (.slice none 0 0) (.int .i64 0) (.slice none 0 0) (.slice none 0 0) (.slice none 0 0) (.bool false) (.bool false)
            rw [hY]
            (try simp only [Exit.inBlock, Exit.then])
            refine bodyPost_ret (ret_url2 rfl _ _ w.heap.size _ rfl hU rfl) rfl ?_
            rw [HE.out]
            exact ⟨by decide, rfl, B_Z.trans (hbY _ (Nat.le_refl _))⟩
          have e0 : (((own : Int)) == 0) = false := by rw [beq_eq_false_iff_ne]; exact hp0
          have hpo : portC (Ref.lowL s) (atSnd 58 (srvL r)) (atOk 58 (srvL r)) ≠ 0 := by rw [HPO.out]; exact hp0
          cases hpp : pathL (pthL r) with
          | none =>
            obtain rfl : ep = 2 := by have := HEP.out; rw [hpp] at this; exact this
            have hpp2 := Lib.hid hpp
            clear hpp
            have HE := Lib.hid (show canonU t = .inl 2 by rw [HC.out]; exact rest_path _ r HS.out HPE.out hpp2.out)
            go_wp2
            rw [HXZ.out]
            obtain ⟨Y, hY, hU, hkY, hbY⟩ := UB.put (show UB w.heap.size #[.slice none 0 0, .slice none 0 0, .int .i64 0, .slice none 0 0, .slice none 0 0, .slice none 0 0, .bool false, .bool false] _ from U_Z) (.slice none 0 0) (.slice none 0 0) (.int .i64 0) (.slice none 0 0) (.slice none 0 0) (.slice none 0 0) (.bool false) (.bool false)
            rw [hY]
            (try simp only [Exit.inBlock, Exit.then])
            refine bodyPost_ret (ret_url2 rfl _ _ w.heap.size _ rfl hU rfl) rfl ?_
            rw [HE.out]
            exact ⟨by decide, rfl, B_Z.trans (hbY _ (Nat.le_refl _))⟩
          | some pp =>
            obtain rfl : ep = 0 := by have := HEP.out; rw [hpp] at this; exact this
            cases hff : formL 2 (atSnd 35 r) with
            | none =>
              obtain rfl : ef = 2 := by have := HEF.out; rw [hff] at this; exact this
              have h4 := Lib.hid (show optC (atOk 35 r) (atSnd 35 r) = none by rw [Hbf.out]; exact hff)
              clear hff hpp
              have HE := Lib.hid (show canonU t = .inl 2 by rw [HC.out]; exact rest_frag _ r HS.out HPE.out h4.out)
              go_wp2
              rw [HXZ.out]
              obtain ⟨Y, hY, hU, hkY, hbY⟩ := UB.put (show UB w.heap.size #[.slice none 0 0, .slice none 0 0, .int .i64 0, .slice none 0 0, .slice none 0 0, .slice none 0 0, .bool false, .bool false] _ from U_Z) (.slice none 0 0) (.slice none 0 0) (.int .i64 0) (.slice none 0 0) (.slice none 0 0) (.slice none 0 0) (.bool false) (.bool false)
              rw [hY]
              (try simp only [Exit.inBlock, Exit.then])
              refine bodyPost_ret (ret_url2 rfl _ _ w.heap.size _ rfl hU rfl) rfl ?_
              rw [HE.out]
              exact ⟨by decide, rfl, B_Z.trans (hbY _ (Nat.le_refl _))⟩
            | some ff =>
              obtain rfl : ef = 0 := by have := HEF.out; rw [hff] at this; exact this
              have h3 : optC (atOk 63 (atFst 35 r)) (atSnd 63 (atFst 35 r)) = some [] := by rw [Hbq.out]; rfl
              have h4 : optC (atOk 35 r) (atSnd 35 r) = some ff := by rw [Hbf.out]; exact hff
              obtain ⟨pn, hpn, hrg⟩ := rest_good _ r HS.out HPE.out pp [] ff hpo hpp h3 h4
              rw [Hbq.out, Hbf.out] at hrg
              have hpn2 : (own : Int) = (pn : Int) := by rw [← HPO.out]; exact hpn
              have HE := Lib.hid (HC.out.trans hrg)
              have HPN := Lib.hid hpn2
              rw [hpp] at GP_Z
              rw [hff] at GF_Z
              clear hpo hrg hpn hpn2 h3 h4 hpp hff hp0
              go_wp2
              rw [HXZ.out]
              obtain ⟨Y, hY, hU, hkY, hbY⟩ := UB.put (show UB w.heap.size #[.slice none 0 0, .slice none 0 0, .int .i64 0, .slice none 0 0, .slice none 0 0, .slice none 0 0, .bool false, .bool false] _ from U_Z) (.slice qL k cL) (.slice qH nH cH) (.int .i64 own) (.slice qW nW cW) (.slice none 0 0) (.slice qZ nZ cZ) (.bool false) (.bool true)
              rw [hY]
              (try simp only [Exit.inBlock, Exit.then])
              refine bodyPost_ret (ret_url2 rfl _ _ w.heap.size _ rfl hU rfl) rfl ?_
              rw [HE.out]
              refine ⟨_, rfl, ⟨qL, k, cL, qH, nH, cH, qW, nW, cW, none, 0, 0, qZ, nZ, cZ, by rw [HPN.out], L_Z.away U_Z nbz hkY, H_Z.away U_Z nbz hkY, GP_Z.away U_Z nbz hkY, by_nil _, GF_Z.away U_Z nbz hkY⟩, B_Z.trans (hbY _ (Nat.le_refl _))⟩
      | true =>
        have yb := W_C.box
        have yc3 := yb 3 _ rfl
        have yf3 := W_C.frozen 3
        clear yb
        go_wp2_with fail
        clear yc3 yf3
        obtain ⟨XD, hXD⟩ : ∃ Z, XC.setCell ⟨b18, 3, none⟩ (.slice qW nW cW) = Z := ⟨_, rfl⟩
        rw [hXD]
        have B_D : Below w.heap.size w XD := by rw [← hXD]; exact B_C.setCell (p := ⟨b18, 3, none⟩) hle _
        have U_D : UB w.heap.size zeroU XD := by rw [← hXD]; exact U_C.other hne _
        have F_D := By.set (i := 3) (u := .slice qW nW cW) F_C W_C (nb8 ⟨_, _, _, rfl⟩ ⟨_, _, _, rfl⟩ ⟨_, _, _, rfl⟩ ⟨_, _, _, rfl⟩ ⟨_, _, _, rfl⟩)
        rw [hXD] at F_D
        have Q_D := By.set (i := 3) (u := .slice qW nW cW) Q_C W_C (nb8 ⟨_, _, _, rfl⟩ ⟨_, _, _, rfl⟩ ⟨_, _, _, rfl⟩ ⟨_, _, _, rfl⟩ ⟨_, _, _, rfl⟩)
        rw [hXD] at Q_D
        have H_D := By.set (i := 3) (u := .slice qW nW cW) H_C W_C (nb8 ⟨_, _, _, rfl⟩ ⟨_, _, _, rfl⟩ ⟨_, _, _, rfl⟩ ⟨_, _, _, rfl⟩ ⟨_, _, _, rfl⟩)
        rw [hXD] at H_D
        have L_D := By.set (i := 3) (u := .slice qW nW cW) L_C W_C (nb8 ⟨_, _, _, rfl⟩ ⟨_, _, _, rfl⟩ ⟨_, _, _, rfl⟩ ⟨_, _, _, rfl⟩ ⟨_, _, _, rfl⟩)
        rw [hXD] at L_D
        have GP_D := By.set (i := 3) (u := .slice qW nW cW) GP_C W_C (nb8 ⟨_, _, _, rfl⟩ ⟨_, _, _, rfl⟩ ⟨_, _, _, rfl⟩ ⟨_, _, _, rfl⟩ ⟨_, _, _, rfl⟩)
        rw [hXD] at GP_D
        have W_D : UB b18 #[.slice qL k cL, .slice qH nH cH, .int .i64 own, .slice qW nW cW, .slice none 0 0, .slice none 0 0, .bool true, .bool bf] XD := by rw [← hXD]; exact (W_C.set8 (.slice qW nW cW)).2.1
        clear GP_C W_C L_C H_C Q_C F_C U_C B_C
        clear hXD
        have con := Pct.Canon_any qQ nQ cQ (atSnd 63 (atFst 35 r)) 2 XD Q_D.at.1 (by omega) Q_D.at.2.2.2.2
        refine con.mono ?_
        rintro e XE ⟨vY, eq, rfl, heq, hr, hb⟩
        have HEQ : Hid (eq = if (formL 2 (atSnd 63 (atFst 35 r))).isSome then 0 else 2) := heq
        replace hr : XE.ownsRow XD.heap.size 5 1 vY ((formL 2 (atSnd 63 (atFst 35 r))).getD []).length (byV ((formL 2 (atSnd 63 (atFst 35 r))).getD [])) := hr
        obtain ⟨nY, hnY⟩ : ∃ n, ((formL 2 (atSnd 63 (atFst 35 r))).getD []).length = n := ⟨_, rfl⟩
        rw [hnY] at hr
        obtain ⟨qY, cY, rfl, _, _, _, _, _⟩ := row_open hr
        have GQ_E := By.row hr
        clear con hr hnY heq
        have B_E := B_D.trans (hb.mono B_D.size)
        have U_E := U_D.on hb
        have F_E := F_D.on hb
        have Q_E := Q_D.on hb
        have H_E := H_D.on hb
        have L_E := L_D.on hb
        have W_E := W_D.on hb
        have GP_E := GP_D.on hb
        clear GP_D W_D L_D H_D Q_D F_D U_D B_D hb
        clear Q_E
        cases bf with
        | false =>
          clear F_E
          have yb := W_E.box
          have yc0 := yb 0 _ rfl
          have yf0 := W_E.frozen 0
          have yc1 := yb 1 _ rfl
          have yf1 := W_E.frozen 1
          have yc2 := yb 2 _ rfl
          have yf2 := W_E.frozen 2
          have yc3 := yb 3 _ rfl
          have yf3 := W_E.frozen 3
          have yc4 := yb 4 _ rfl
          have yf4 := W_E.frozen 4
          have yc5 := yb 5 _ rfl
          have yf5 := W_E.frozen 5
          have yc6 := yb 6 _ rfl
          have yf6 := W_E.frozen 6
          have yc7 := yb 7 _ rfl
          have yf7 := W_E.frozen 7
          clear yb
          have zb := U_E.box
          have zc0 := zb 0 _ rfl
          have zf0 := U_E.frozen 0
          have zc1 := zb 1 _ rfl
          have zf1 := U_E.frozen 1
          have zc2 := zb 2 _ rfl
          have zf2 := U_E.frozen 2
          have zc3 := zb 3 _ rfl
          have zf3 := U_E.frozen 3
          have zc4 := zb 4 _ rfl
          have zf4 := U_E.frozen 4
          have zc5 := zb 5 _ rfl
          have zf5 := U_E.frozen 5
          have zc6 := zb 6 _ rfl
          have zf6 := U_E.frozen 6
          have zc7 := zb 7 _ rfl
          have zf7 := U_E.frozen 7
          clear zb
          obtain ⟨XZ, hXZ⟩ : ∃ Z, XE.setCell ⟨b18, 4, none⟩ (.slice qY nY cY) = Z := ⟨_, rfl⟩
          have B_Z : Below w.heap.size w XZ := by rw [← hXZ]; exact B_E.setCell (p := ⟨b18, 4, none⟩) hle _
          have U_Z : UB w.heap.size zeroU XZ := by rw [← hXZ]; exact U_E.other hne _
          have H_Z := By.set (i := 4) (u := .slice qY nY cY) H_E W_E (nb8 ⟨_, _, _, rfl⟩ ⟨_, _, _, rfl⟩ ⟨_, _, _, rfl⟩ ⟨_, _, _, rfl⟩ ⟨_, _, _, rfl⟩)
          rw [hXZ] at H_Z
          have L_Z := By.set (i := 4) (u := .slice qY nY cY) L_E W_E (nb8 ⟨_, _, _, rfl⟩ ⟨_, _, _, rfl⟩ ⟨_, _, _, rfl⟩ ⟨_, _, _, rfl⟩ ⟨_, _, _, rfl⟩)
          rw [hXZ] at L_Z
          have GP_Z := By.set (i := 4) (u := .slice qY nY cY) GP_E W_E (nb8 ⟨_, _, _, rfl⟩ ⟨_, _, _, rfl⟩ ⟨_, _, _, rfl⟩ ⟨_, _, _, rfl⟩ ⟨_, _, _, rfl⟩)
          rw [hXZ] at GP_Z
          have GQ_Z := By.set (i := 4) (u := .slice qY nY cY) GQ_E W_E (nb8 ⟨_, _, _, rfl⟩ ⟨_, _, _, rfl⟩ ⟨_, _, _, rfl⟩ ⟨_, _, _, rfl⟩ ⟨_, _, _, rfl⟩)
          rw [hXZ] at GQ_Z
          have W_Z : UB b18 #[.slice qL k cL, .slice qH nH cH, .int .i64 own, .slice qW nW cW, .slice qY nY cY, .slice none 0 0, .bool true, .bool false] XZ := by rw [← hXZ]; exact (W_E.set8 (.slice qY nY cY)).2.2.1
          clear GQ_E GP_E W_E L_E H_E U_E B_E
          have HXZ := Lib.hid hXZ
          clear hXZ
          by_cases hp0 : (own : Int) = 0
          case pos =>
            have e0 : (((own : Int)) == 0) = true := by rw [beq_iff_eq]; exact hp0
            have hpo := HPO.out
            rw [hp0] at hpo
            clear hp0
            have HE := Lib.hid (show canonU t = .inl 2 by rw [HC.out]; exact rest_port _ r HS.out HPE.out hpo)
            go_wp2
            rw [HXZ.out]
            obtain ⟨Y, hY, hU, hkY, hbY⟩ := UB.put (show UB w.heap.size #[.slice none 0 0, .slice none 0 0, .int .i64 0, .slice none 0 0, .slice none 0 0, .slice none 0 0, .bool false, .bool false] _ from U_Z) (.slice none 0 0) (.slice none 0 0) (.int .i64 0) (.slice none 0 0) (.slice none 0 0) (.slice none 0 0) (.bool false) (.bool false)
            rw [hY]
            (try simp only [Exit.inBlock, Exit.then])
            refine bodyPost_ret (ret_url2 rfl _ _ w.heap.size _ rfl hU rfl) rfl ?_
            rw [HE.out]
            exact ⟨by decide, rfl, B_Z.trans (hbY _ (Nat.le_refl _))⟩
          have e0 : (((own : Int)) == 0) = false := by rw [beq_eq_false_iff_ne]; exact hp0
          have hpo : portC (Ref.lowL s) (atSnd 58 (srvL r)) (atOk 58 (srvL r)) ≠ 0 := by rw [HPO.out]; exact hp0
          cases hpp : pathL (pthL r) with
          | none =>
            obtain rfl : ep = 2 := by have := HEP.out; rw [hpp] at this; exact this
            have hpp2 := Lib.hid hpp
            clear hpp
            have HE := Lib.hid (show canonU t = .inl 2 by rw [HC.out]; exact rest_path _ r HS.out HPE.out hpp2.out)
            go_wp2
            rw [HXZ.out]
            obtain ⟨Y, hY, hU, hkY, hbY⟩ := UB.put (show UB w.heap.size #[.slice none 0 0, .slice none 0 0, .int .i64 0, .slice none 0 0, .slice none 0 0, .slice none 0 0, .bool false, .bool false] _ from U_Z) (.slice none 0 0) (.slice none 0 0) (.int .i64 0) (.slice none 0 0) (.slice none 0 0) (.slice none 0 0) (.bool false) (.bool false)
            rw [hY]
            (try simp only [Exit.inBlock, Exit.then])
            refine bodyPost_ret (ret_url2 rfl _ _ w.heap.size _ rfl hU rfl) rfl ?_
            rw [HE.out]
            exact ⟨by decide, rfl, B_Z.trans (hbY _ (Nat.le_refl _))⟩
          | some pp =>
            obtain rfl : ep = 0 := by have := HEP.out; rw [hpp] at this; exact this
            cases hqq : formL 2 (atSnd 63 (atFst 35 r)) with
            | none =>
              obtain rfl : eq = 2 := by have := HEQ.out; rw [hqq] at this; exact this
              have h3 := Lib.hid (show optC (atOk 63 (atFst 35 r)) (atSnd 63 (atFst 35 r)) = none by rw [Hbq.out]; exact hqq)
              clear hqq hpp
              have HE := Lib.hid (show canonU t = .inl 2 by rw [HC.out]; exact rest_query _ r HS.out HPE.out h3.out)
              go_wp2
              rw [HXZ.out]
              obtain ⟨Y, hY, hU, hkY, hbY⟩ := UB.put (show UB w.heap.size #[.slice none 0 0, .slice none 0 0, .int .i64 0, .slice none 0 0, .slice none 0 0, .slice none 0 0, .bool false, .bool false] _ from U_Z) (.slice none 0 0) (.slice none 0 0) (.int .i64 0) (.slice none 0 0) (.slice none 0 0) (.slice none 0 0) (.bool false) (.bool false)
              rw [hY]
              (try simp only [Exit.inBlock, Exit.then])
              refine bodyPost_ret (ret_url2 rfl _ _ w.heap.size _ rfl hU rfl) rfl ?_
              rw [HE.out]
              exact ⟨by decide, rfl, B_Z.trans (hbY _ (Nat.le_refl _))⟩
            | some qq =>
              obtain rfl : eq = 0 := by have := HEQ.out; rw [hqq] at this; exact this
              have h3 : optC (atOk 63 (atFst 35 r)) (atSnd 63 (atFst 35 r)) = some qq := by rw [Hbq.out]; exact hqq
              have h4 : optC (atOk 35 r) (atSnd 35 r) = some [] := by rw [Hbf.out]; rfl
              obtain ⟨pn, hpn, hrg⟩ := rest_good _ r HS.out HPE.out pp qq [] hpo hpp h3 h4
              rw [Hbq.out, Hbf.out] at hrg
              have hpn2 : (own : Int) = (pn : Int) := by rw [← HPO.out]; exact hpn
              have HE := Lib.hid (HC.out.trans hrg)
              have HPN := Lib.hid hpn2
              rw [hpp] at GP_Z
              rw [hqq] at GQ_Z
              clear hpo hrg hpn hpn2 h3 h4 hpp hqq  hp0
              go_wp2
              rw [HXZ.out]
              obtain ⟨Y, hY, hU, hkY, hbY⟩ := UB.put (show UB w.heap.size #[.slice none 0 0, .slice none 0 0, .int .i64 0, .slice none 0 0, .slice none 0 0, .slice none 0 0, .bool false, .bool false] _ from U_Z) (.slice qL k cL) (.slice qH nH cH) (.int .i64 own) (.slice qW nW cW) (.slice qY nY cY) (.slice none 0 0) (.bool true) (.bool false)
              rw [hY]
              (try simp only [Exit.inBlock, Exit.then])
              refine bodyPost_ret (ret_url2 rfl _ _ w.heap.size _ rfl hU rfl) rfl ?_
              rw [HE.out]
              refine ⟨_, rfl, ⟨qL, k, cL, qH, nH, cH, qW, nW, cW, qY, nY, cY, none, 0, 0, by rw [HPN.out], L_Z.away U_Z nbz hkY, H_Z.away U_Z nbz hkY, GP_Z.away U_Z nbz hkY, GQ_Z.away U_Z nbz hkY, by_nil _⟩, B_Z.trans (hbY _ (Nat.le_refl _))⟩
        | true =>
          have yb := W_E.box
          have yc4 := yb 4 _ rfl
          have yf4 := W_E.frozen 4
          clear yb
          go_wp2_with fail
          clear yc4 yf4
          obtain ⟨XF, hXF⟩ : ∃ Z, XE.setCell ⟨b18, 4, none⟩ (.slice qY nY cY) = Z := ⟨_, rfl⟩
          rw [hXF]
          have B_F : Below w.heap.size w XF := by rw [← hXF]; exact B_E.setCell (p := ⟨b18, 4, none⟩) hle _
          have U_F : UB w.heap.size zeroU XF := by rw [← hXF]; exact U_E.other hne _
          have F_F := By.set (i := 4) (u := .slice qY nY cY) F_E W_E (nb8 ⟨_, _, _, rfl⟩ ⟨_, _, _, rfl⟩ ⟨_, _, _, rfl⟩ ⟨_, _, _, rfl⟩ ⟨_, _, _, rfl⟩)
          rw [hXF] at F_F
          have H_F := By.set (i := 4) (u := .slice qY nY cY) H_E W_E (nb8 ⟨_, _, _, rfl⟩ ⟨_, _, _, rfl⟩ ⟨_, _, _, rfl⟩ ⟨_, _, _, rfl⟩ ⟨_, _, _, rfl⟩)
          rw [hXF] at H_F
          have L_F := By.set (i := 4) (u := .slice qY nY cY) L_E W_E (nb8 ⟨_, _, _, rfl⟩ ⟨_, _, _, rfl⟩ ⟨_, _, _, rfl⟩ ⟨_, _, _, rfl⟩ ⟨_, _, _, rfl⟩)
          rw [hXF] at L_F
          have GP_F := By.set (i := 4) (u := .slice qY nY cY) GP_E W_E (nb8 ⟨_, _, _, rfl⟩ ⟨_, _, _, rfl⟩ ⟨_, _, _, rfl⟩ ⟨_, _, _, rfl⟩ ⟨_, _, _, rfl⟩)
          rw [hXF] at GP_F
          have GQ_F := By.set (i := 4) (u := .slice qY nY cY) GQ_E W_E (nb8 ⟨_, _, _, rfl⟩ ⟨_, _, _, rfl⟩ ⟨_, _, _, rfl⟩ ⟨_, _, _, rfl⟩ ⟨_, _, _, rfl⟩)
          rw [hXF] at GQ_F
          have W_F : UB b18 #[.slice qL k cL, .slice qH nH cH, .int .i64 own, .slice qW nW cW, .slice qY nY cY, .slice none 0 0, .bool true, .bool true] XF := by rw [← hXF]; exact (W_E.set8 (.slice qY nY cY)).2.2.1
          clear GQ_E GP_E W_E L_E H_E F_E U_E B_E
          clear hXF
          have con := Pct.Canon_any qF nF cF (atSnd 35 r) 2 XF F_F.at.1 (by omega) F_F.at.2.2.2.2
          refine con.mono ?_
          rintro e XG ⟨vZ, ef, rfl, hef, hr, hb⟩
          have HEF : Hid (ef = if (formL 2 (atSnd 35 r)).isSome then 0 else 2) := hef
          replace hr : XG.ownsRow XF.heap.size 5 1 vZ ((formL 2 (atSnd 35 r)).getD []).length (byV ((formL 2 (atSnd 35 r)).getD [])) := hr
          obtain ⟨nZ, hnZ⟩ : ∃ n, ((formL 2 (atSnd 35 r)).getD []).length = n := ⟨_, rfl⟩
          rw [hnZ] at hr
          obtain ⟨qZ, cZ, rfl, _, _, _, _, _⟩ := row_open hr
          have GF_G := By.row hr
          clear con hr hnZ hef
          have B_G := B_F.trans (hb.mono B_F.size)
          have U_G := U_F.on hb
          have F_G := F_F.on hb
          have H_G := H_F.on hb
          have L_G := L_F.on hb
          have W_G := W_F.on hb
          have GP_G := GP_F.on hb
          have GQ_G := GQ_F.on hb
          clear GQ_F GP_F W_F L_F H_F F_F U_F B_F hb
          clear F_G
          have yb := W_G.box
          have yc0 := yb 0 _ rfl
          have yf0 := W_G.frozen 0
          have yc1 := yb 1 _ rfl
          have yf1 := W_G.frozen 1
          have yc2 := yb 2 _ rfl
          have yf2 := W_G.frozen 2
          have yc3 := yb 3 _ rfl
          have yf3 := W_G.frozen 3
          have yc4 := yb 4 _ rfl
          have yf4 := W_G.frozen 4
          have yc5 := yb 5 _ rfl
          have yf5 := W_G.frozen 5
          have yc6 := yb 6 _ rfl
          have yf6 := W_G.frozen 6
          have yc7 := yb 7 _ rfl
          have yf7 := W_G.frozen 7
          clear yb
          have zb := U_G.box
          have zc0 := zb 0 _ rfl
          have zf0 := U_G.frozen 0
          have zc1 := zb 1 _ rfl
          have zf1 := U_G.frozen 1
          have zc2 := zb 2 _ rfl
          have zf2 := U_G.frozen 2
          have zc3 := zb 3 _ rfl
          have zf3 := U_G.frozen 3
          have zc4 := zb 4 _ rfl
          have zf4 := U_G.frozen 4
          have zc5 := zb 5 _ rfl
          have zf5 := U_G.frozen 5
          have zc6 := zb 6 _ rfl
          have zf6 := U_G.frozen 6
          have zc7 := zb 7 _ rfl
          have zf7 := U_G.frozen 7
          clear zb
          obtain ⟨XZ, hXZ⟩ : ∃ Z, XG.setCell ⟨b18, 5, none⟩ (.slice qZ nZ cZ) = Z := ⟨_, rfl⟩
          have B_Z : Below w.heap.size w XZ := by rw [← hXZ]; exact B_G.setCell (p := ⟨b18, 5, none⟩) hle _
          have U_Z : UB w.heap.size zeroU XZ := by rw [← hXZ]; exact U_G.other hne _
          have H_Z := By.set (i := 5) (u := .slice qZ nZ cZ) H_G W_G (nb8 ⟨_, _, _, rfl⟩ ⟨_, _, _, rfl⟩ ⟨_, _, _, rfl⟩ ⟨_, _, _, rfl⟩ ⟨_, _, _, rfl⟩)
          rw [hXZ] at H_Z
          have L_Z := By.set (i := 5) (u := .slice qZ nZ cZ) L_G W_G (nb8 ⟨_, _, _, rfl⟩ ⟨_, _, _, rfl⟩ ⟨_, _, _, rfl⟩ ⟨_, _, _, rfl⟩ ⟨_, _, _, rfl⟩)
          rw [hXZ] at L_Z
          have GP_Z := By.set (i := 5) (u := .slice qZ nZ cZ) GP_G W_G (nb8 ⟨_, _, _, rfl⟩ ⟨_, _, _, rfl⟩ ⟨_, _, _, rfl⟩ ⟨_, _, _, rfl⟩ ⟨_, _, _, rfl⟩)
          rw [hXZ] at GP_Z
          have GQ_Z := By.set (i := 5) (u := .slice qZ nZ cZ) GQ_G W_G (nb8 ⟨_, _, _, rfl⟩ ⟨_, _, _, rfl⟩ ⟨_, _, _, rfl⟩ ⟨_, _, _, rfl⟩ ⟨_, _, _, rfl⟩)
          rw [hXZ] at GQ_Z
          have GF_Z := By.set (i := 5) (u := .slice qZ nZ cZ) GF_G W_G (nb8 ⟨_, _, _, rfl⟩ ⟨_, _, _, rfl⟩ ⟨_, _, _, rfl⟩ ⟨_, _, _, rfl⟩ ⟨_, _, _, rfl⟩)
          rw [hXZ] at GF_Z
          have W_Z : UB b18 #[.slice qL k cL, .slice qH nH cH, .int .i64 own, .slice qW nW cW, .slice qY nY cY, .slice qZ nZ cZ, .bool true, .bool true] XZ := by rw [← hXZ]; exact (W_G.set8 (.slice qZ nZ cZ)).2.2.2
          clear GF_G GQ_G GP_G W_G L_G H_G U_G B_G
          have HXZ := Lib.hid hXZ
          clear hXZ
          by_cases hp0 : (own : Int) = 0
          case pos =>
            have e0 : (((own : Int)) == 0) = true := by rw [beq_iff_eq]; exact hp0
            have hpo := HPO.out
            rw [hp0] at hpo
            clear hp0
            have HE := Lib.hid (show canonU t = .inl 2 by rw [HC.out]; exact rest_port _ r HS.out HPE.out hpo)
            go_wp2
            rw [HXZ.out]
            obtain ⟨Y, hY, hU, hkY, hbY⟩ := UB.put (show UB w.heap.size #[.slice none 0 0, .slice none 0 0, .int .i64 0, .slice none 0 0, .slice none 0 0, .slice none 0 0, .bool false, .bool false] _ from U_Z) (.slice none 0 0) (.slice none 0 0) (.int .i64 0) (.slice none 0 0) (.slice none 0 0) (.slice none 0 0) (.bool false) (.bool false)
            rw [hY]
            (try simp only [Exit.inBlock, Exit.then])
            refine bodyPost_ret (ret_url2 rfl _ _ w.heap.size _ rfl hU rfl) rfl ?_
            rw [HE.out]
            exact ⟨by decide, rfl, B_Z.trans (hbY _ (Nat.le_refl _))⟩
          have e0 : (((own : Int)) == 0) = false := by rw [beq_eq_false_iff_ne]; exact hp0
          have hpo : portC (Ref.lowL s) (atSnd 58 (srvL r)) (atOk 58 (srvL r)) ≠ 0 := by rw [HPO.out]; exact hp0
          cases hpp : pathL (pthL r) with
          | none =>
            obtain rfl : ep = 2 := by have := HEP.out; rw [hpp] at this; exact this
            have hpp2 := Lib.hid hpp
            clear hpp
            have HE := Lib.hid (show canonU t = .inl 2 by rw [HC.out]; exact rest_path _ r HS.out HPE.out hpp2.out)
            go_wp2
            rw [HXZ.out]
            obtain ⟨Y, hY, hU, hkY, hbY⟩ := UB.put (show UB w.heap.size #[.slice none 0 0, .slice none 0 0, .int .i64 0, .slice none 0 0, .slice none 0 0, .slice none 0 0, .bool false, .bool false] _ from U_Z) (.slice none 0 0) (.slice none 0 0) (.int .i64 0) (.slice none 0 0) (.slice none 0 0) (.slice none 0 0) (.bool false) (.bool false)
            rw [hY]
            (try simp only [Exit.inBlock, Exit.then])
            refine bodyPost_ret (ret_url2 rfl _ _ w.heap.size _ rfl hU rfl) rfl ?_
            rw [HE.out]
            exact ⟨by decide, rfl, B_Z.trans (hbY _ (Nat.le_refl _))⟩
          | some pp =>
            obtain rfl : ep = 0 := by have := HEP.out; rw [hpp] at this; exact this
            cases hqq : formL 2 (atSnd 63 (atFst 35 r)) with
            | none =>
              obtain rfl : eq = 2 := by have := HEQ.out; rw [hqq] at this; exact this
              have h3 := Lib.hid (show optC (atOk 63 (atFst 35 r)) (atSnd 63 (atFst 35 r)) = none by rw [Hbq.out]; exact hqq)
              clear hqq hpp
              have HE := Lib.hid (show canonU t = .inl 2 by rw [HC.out]; exact rest_query _ r HS.out HPE.out h3.out)
              go_wp2
              rw [HXZ.out]
              obtain ⟨Y, hY, hU, hkY, hbY⟩ := UB.put (show UB w.heap.size #[.slice none 0 0, .slice none 0 0, .int .i64 0, .slice none 0 0, .slice none 0 0, .slice none 0 0, .bool false, .bool false] _ from U_Z) (.slice none 0 0) (.slice none 0 0) (.int .i64 0) (.slice none 0 0) (.slice none 0 0) (.slice none 0 0) (.bool false) (.bool false)
              rw [hY]
              (try simp only [Exit.inBlock, Exit.then])
              refine bodyPost_ret (ret_url2 rfl _ _ w.heap.size _ rfl hU rfl) rfl ?_
              rw [HE.out]
              exact ⟨by decide, rfl, B_Z.trans (hbY _ (Nat.le_refl _))⟩
            | some qq =>
              obtain rfl : eq = 0 := by have := HEQ.out; rw [hqq] at this; exact this
              cases hff : formL 2 (atSnd 35 r) with
              | none =>
                obtain rfl : ef = 2 := by have := HEF.out; rw [hff] at this; exact this
                have h4 := Lib.hid (show optC (atOk 35 r) (atSnd 35 r) = none by rw [Hbf.out]; exact hff)
                clear hff hpp
                have HE := Lib.hid (show canonU t = .inl 2 by rw [HC.out]; exact rest_frag _ r HS.out HPE.out h4.out)
                go_wp2
                rw [HXZ.out]
                obtain ⟨Y, hY, hU, hkY, hbY⟩ := UB.put (show UB w.heap.size #[.slice none 0 0, .slice none 0 0, .int .i64 0, .slice none 0 0, .slice none 0 0, .slice none 0 0, .bool false, .bool false] _ from U_Z) (.slice none 0 0) (.slice none 0 0) (.int .i64 0) (.slice none 0 0) (.slice none 0 0) (.slice none 0 0) (.bool false) (.bool false)
                rw [hY]
                (try simp only [Exit.inBlock, Exit.then])
                refine bodyPost_ret (ret_url2 rfl _ _ w.heap.size _ rfl hU rfl) rfl ?_
                rw [HE.out]
                exact ⟨by decide, rfl, B_Z.trans (hbY _ (Nat.le_refl _))⟩
              | some ff =>
                obtain rfl : ef = 0 := by have := HEF.out; rw [hff] at this; exact this
                have h3 : optC (atOk 63 (atFst 35 r)) (atSnd 63 (atFst 35 r)) = some qq := by rw [Hbq.out]; exact hqq
                have h4 : optC (atOk 35 r) (atSnd 35 r) = some ff := by rw [Hbf.out]; exact hff
                obtain ⟨pn, hpn, hrg⟩ := rest_good _ r HS.out HPE.out pp qq ff hpo hpp h3 h4
                rw [Hbq.out, Hbf.out] at hrg
                have hpn2 : (own : Int) = (pn : Int) := by rw [← HPO.out]; exact hpn
                have HE := Lib.hid (HC.out.trans hrg)
                have HPN := Lib.hid hpn2
                rw [hpp] at GP_Z
                rw [hqq] at GQ_Z
                rw [hff] at GF_Z
                clear hpo hrg hpn hpn2 h3 h4 hpp hqq hff hp0
                go_wp2
                rw [HXZ.out]
                obtain ⟨Y, hY, hU, hkY, hbY⟩ := UB.put (show UB w.heap.size #[.slice none 0 0, .slice none 0 0, .int .i64 0, .slice none 0 0, .slice none 0 0, .slice none 0 0, .bool false, .bool false] _ from U_Z) (.slice qL k cL) (.slice qH nH cH) (.int .i64 own) (.slice qW nW cW) (.slice qY nY cY) (.slice qZ nZ cZ) (.bool true) (.bool true)
                rw [hY]
                (try simp only [Exit.inBlock, Exit.then])
                refine bodyPost_ret (ret_url2 rfl _ _ w.heap.size _ rfl hU rfl) rfl ?_
                rw [HE.out]
                refine ⟨_, rfl, ⟨qL, k, cL, qH, nH, cH, qW, nW, cW, qY, nY, cY, qZ, nZ, cZ, by rw [HPN.out], L_Z.away U_Z nbz hkY, H_Z.away U_Z nbz hkY, GP_Z.away U_Z nbz hkY, GQ_Z.away U_Z nbz hkY, GF_Z.away U_Z nbz hkY⟩, B_Z.trans (hbY _ (Nat.le_refl _))⟩
    | true =>
      have con := Number_any qD nD cD (atSnd 58 (srvL r)) 65535 XA D_A.at.1 (by omega) D_A.at.2.2.2.2 (by decide) (by decide)
      obtain ⟨pv, hpv⟩ : ∃ p, (numOf 65535 (atSnd 58 (srvL r))).getD 0 = p := ⟨_, rfl⟩
      have HPO := Lib.hid (show portC (Ref.lowL s) (atSnd 58 (srvL r)) (atOk 58 (srvL r)) = pv by rw [Hbp.out, ← hpv]; rfl)
      unfold numV at con
      rw [hpv] at con
      generalize (numOf 65535 (atSnd 58 (srvL r))).isSome = ps at con
      clear hpv
      go_wp2_with fail
      rw [HB18.out, HXA.out]
      refine con.mono ?_
      rintro e XB ⟨rfl, rfl⟩
      clear con
      clear D_A
      have yb := W_A.box
      have yc2 := yb 2 _ rfl
      have yf2 := W_A.frozen 2
      clear yb
      go_wp2_with fail
      clear yc2 yf2
      obtain ⟨XB, hXB⟩ : ∃ Z, XA.setCell ⟨b18, 2, none⟩ (.int .i64 pv) = Z := ⟨_, rfl⟩
      rw [hXB]
      have B_B : Below w.heap.size w XB := by rw [← hXB]; exact B_A.setCell (p := ⟨b18, 2, none⟩) hle _
      have U_B : UB w.heap.size zeroU XB := by rw [← hXB]; exact U_A.other hne _
      have F_B := By.set (i := 2) (u := .int .i64 pv) F_A W_A (nb8 ⟨_, _, _, rfl⟩ ⟨_, _, _, rfl⟩ ⟨_, _, _, rfl⟩ ⟨_, _, _, rfl⟩ ⟨_, _, _, rfl⟩)
      rw [hXB] at F_B
      have Q_B := By.set (i := 2) (u := .int .i64 pv) Q_A W_A (nb8 ⟨_, _, _, rfl⟩ ⟨_, _, _, rfl⟩ ⟨_, _, _, rfl⟩ ⟨_, _, _, rfl⟩ ⟨_, _, _, rfl⟩)
      rw [hXB] at Q_B
      have P_B := By.set (i := 2) (u := .int .i64 pv) P_A W_A (nb8 ⟨_, _, _, rfl⟩ ⟨_, _, _, rfl⟩ ⟨_, _, _, rfl⟩ ⟨_, _, _, rfl⟩ ⟨_, _, _, rfl⟩)
      rw [hXB] at P_B
      have H_B := By.set (i := 2) (u := .int .i64 pv) H_A W_A (nb8 ⟨_, _, _, rfl⟩ ⟨_, _, _, rfl⟩ ⟨_, _, _, rfl⟩ ⟨_, _, _, rfl⟩ ⟨_, _, _, rfl⟩)
      rw [hXB] at H_B
      have L_B := By.set (i := 2) (u := .int .i64 pv) L_A W_A (nb8 ⟨_, _, _, rfl⟩ ⟨_, _, _, rfl⟩ ⟨_, _, _, rfl⟩ ⟨_, _, _, rfl⟩ ⟨_, _, _, rfl⟩)
      rw [hXB] at L_B
      have W_B : UB b18 #[.slice qL k cL, .slice qH nH cH, .int .i64 pv, .slice none 0 0, .slice none 0 0, .slice none 0 0, .bool bq, .bool bf] XB := by rw [← hXB]; exact (W_A.set8 (.int .i64 pv)).1
      clear W_A L_A H_A P_A Q_A F_A U_A B_A
      clear hXB
      have con := canonOfPath_any qP nP cP (pthL r) XB P_B (by omega) HPF.out
      refine con.mono ?_
      rintro e XC ⟨vW, ep, rfl, hep, hr, hb⟩
      have HEP : Hid (ep = if (pathL (pthL r)).isSome then 0 else 2) := hep
      replace hr : XC.ownsRow XB.heap.size 5 1 vW ((pathL (pthL r)).getD []).length (byV ((pathL (pthL r)).getD [])) := hr
      obtain ⟨nW, hnW⟩ : ∃ n, ((pathL (pthL r)).getD []).length = n := ⟨_, rfl⟩
      rw [hnW] at hr
      obtain ⟨qW, cW, rfl, _, _, _, _, _⟩ := row_open hr
      have GP_C := By.row hr
      clear con hr hnW hep
      have B_C := B_B.trans (hb.mono B_B.size)
      have U_C := U_B.on hb
      have F_C := F_B.on hb
      have Q_C := Q_B.on hb
      have P_C := P_B.on hb
      have H_C := H_B.on hb
      have L_C := L_B.on hb
      have W_C := W_B.on hb
      clear W_B L_B H_B P_B Q_B F_B U_B B_B hb
      clear P_C
      cases bq with
      | false =>
        clear Q_C
        cases bf with
        | false =>
          clear F_C
          have yb := W_C.box
          have yc0 := yb 0 _ rfl
          have yf0 := W_C.frozen 0
          have yc1 := yb 1 _ rfl
          have yf1 := W_C.frozen 1
          have yc2 := yb 2 _ rfl
          have yf2 := W_C.frozen 2
          have yc3 := yb 3 _ rfl
          have yf3 := W_C.frozen 3
          have yc4 := yb 4 _ rfl
          have yf4 := W_C.frozen 4
          have yc5 := yb 5 _ rfl
          have yf5 := W_C.frozen 5
          have yc6 := yb 6 _ rfl
          have yf6 := W_C.frozen 6
          have yc7 := yb 7 _ rfl
          have yf7 := W_C.frozen 7
          clear yb
          have zb := U_C.box
          have zc0 := zb 0 _ rfl
          have zf0 := U_C.frozen 0
          have zc1 := zb 1 _ rfl
          have zf1 := U_C.frozen 1
          have zc2 := zb 2 _ rfl
          have zf2 := U_C.frozen 2
          have zc3 := zb 3 _ rfl
          have zf3 := U_C.frozen 3
          have zc4 := zb 4 _ rfl
          have zf4 := U_C.frozen 4
          have zc5 := zb 5 _ rfl
          have zf5 := U_C.frozen 5
          have zc6 := zb 6 _ rfl
          have zf6 := U_C.frozen 6
          have zc7 := zb 7 _ rfl
          have zf7 := U_C.frozen 7
          clear zb
          obtain ⟨XZ, hXZ⟩ : ∃ Z, XC.setCell ⟨b18, 3, none⟩ (.slice qW nW cW) = Z := ⟨_, rfl⟩
          have B_Z : Below w.heap.size w XZ := by rw [← hXZ]; exact B_C.setCell (p := ⟨b18, 3, none⟩) hle _
          have U_Z : UB w.heap.size zeroU XZ := by rw [← hXZ]; exact U_C.other hne _
          have H_Z := By.set (i := 3) (u := .slice qW nW cW) H_C W_C (nb8 ⟨_, _, _, rfl⟩ ⟨_, _, _, rfl⟩ ⟨_, _, _, rfl⟩ ⟨_, _, _, rfl⟩ ⟨_, _, _, rfl⟩)
          rw [hXZ] at H_Z
          have L_Z := By.set (i := 3) (u := .slice qW nW cW) L_C W_C (nb8 ⟨_, _, _, rfl⟩ ⟨_, _, _, rfl⟩ ⟨_, _, _, rfl⟩ ⟨_, _, _, rfl⟩ ⟨_, _, _, rfl⟩)
          rw [hXZ] at L_Z
          have GP_Z := By.set (i := 3) (u := .slice qW nW cW) GP_C W_C (nb8 ⟨_, _, _, rfl⟩ ⟨_, _, _, rfl⟩ ⟨_, _, _, rfl⟩ ⟨_, _, _, rfl⟩ ⟨_, _, _, rfl⟩)
          rw [hXZ] at GP_Z
          have W_Z : UB b18 #[.slice qL k cL, .slice qH nH cH, .int .i64 pv, .slice qW nW cW, .slice none 0 0, .slice none 0 0, .bool false, .bool false] XZ := by rw [← hXZ]; exact (W_C.set8 (.slice qW nW cW)).2.1
          clear GP_C W_C L_C H_C U_C B_C
          have HXZ := Lib.hid hXZ
          clear hXZ
          by_cases hp0 : (pv : Int) = 0
          case pos =>
            have e0 : (((pv : Int)) == 0) = true := by rw [beq_iff_eq]; exact hp0
            have hpo := HPO.out
            rw [hp0] at hpo
            clear hp0
            have HE := Lib.hid (show canonU t = .inl 2 by rw [HC.out]; exact rest_port _ r HS.out HPE.out hpo)
            go_wp2
            rw [HXZ.out]
            obtain ⟨Y, hY, hU, hkY, hbY⟩ := UB.put (show UB w.heap.size #[.slice none 0 0, .slice none 0 0, .int .i64 0, .slice none 0 0, .slice none 0 0, .slice none 0 0, .bool false, .bool false] _ from U_Z) (.slice none 0 0) (.slice none 0 0) (.int .i64 0) (.slice none 0 0) (.slice none 0 0) (.slice none 0 0) (.bool false) (.bool false)
            rw [hY]
            (try simp only [Exit.inBlock, Exit.then])
            refine bodyPost_ret (ret_url2 rfl _ _ w.heap.size _ rfl hU rfl) rfl ?_
            rw [HE.out]
            exact ⟨by decide, rfl, B_Z.trans (hbY _ (Nat.le_refl _))⟩
          have e0 : (((pv : Int)) == 0) = false := by rw [beq_eq_false_iff_ne]; exact hp0
          have hpo : portC (Ref.lowL s) (atSnd 58 (srvL r)) (atOk 58 (srvL r)) ≠ 0 := by rw [HPO.out]; exact hp0
          cases hpp : pathL (pthL r) with
          | none =>
            obtain rfl : ep = 2 := by have := HEP.out; rw [hpp] at this; exact this
            have hpp2 := Lib.hid hpp
            clear hpp
            have HE := Lib.hid (show canonU t = .inl 2 by rw [HC.out]; exact rest_path _ r HS.out HPE.out hpp2.out)
            go_wp2
            rw [HXZ.out]
            obtain ⟨Y, hY, hU, hkY, hbY⟩ := UB.put (show UB w.heap.size #[.slice none 0 0, .slice none 0 0, .int .i64 0, .slice none 0 0, .slice none 0 0, .slice none 0 0, .bool false, .bool false] _ from U_Z) (.slice none 0 0) (.slice none 0 0) (.int .i64 0) (.slice none 0 0) (.slice none 0 0) (.slice none 0 0) (.bool false) (.bool false)
            rw [hY]
            (try simp only [Exit.inBlock, Exit.then])
            refine bodyPost_ret (ret_url2 rfl _ _ w.heap.size _ rfl hU rfl) rfl ?_
            rw [HE.out]
            exact ⟨by decide, rfl, B_Z.trans (hbY _ (Nat.le_refl _))⟩
          | some pp =>
            obtain rfl : ep = 0 := by have := HEP.out; rw [hpp] at this; exact this
            have h3 : optC (atOk 63 (atFst 35 r)) (atSnd 63 (atFst 35 r)) = some [] := by rw [Hbq.out]; rfl
            have h4 : optC (atOk 35 r) (atSnd 35 r) = some [] := by rw [Hbf.out]; rfl
            obtain ⟨pn, hpn, hrg⟩ := rest_good _ r HS.out HPE.out pp [] [] hpo hpp h3 h4
            rw [Hbq.out, Hbf.out] at hrg
            have hpn2 : (pv : Int) = (pn : Int) := by rw [← HPO.out]; exact hpn
            have HE := Lib.hid (HC.out.trans hrg)
            have HPN := Lib.hid hpn2
            rw [hpp] at GP_Z
            clear hpo hrg hpn hpn2 h3 h4 hpp  hp0
            go_wp2
            rw [HXZ.out]
            obtain ⟨Y, hY, hU, hkY, hbY⟩ := UB.put (show UB w.heap.size #[.slice none 0 0, .slice none 0 0, .int .i64 0, .slice none 0 0, .slice none 0 0, .slice none 0 0, .bool false, .bool false] _ from U_Z) (.slice qL k cL) (.slice qH nH cH) (.int .i64 pv) (.slice qW nW cW) (.slice none 0 0) (.slice none 0 0) (.bool false) (.bool false)
            rw [hY]
            (try simp only [Exit.inBlock, Exit.then])
            refine bodyPost_ret (ret_url2 rfl _ _ w.heap.size _ rfl hU rfl) rfl ?_
            rw [HE.out]
            refine ⟨_, rfl, ⟨qL, k, cL, qH, nH, cH, qW, nW, cW, none, 0, 0, none, 0, 0, by rw [HPN.out], L_Z.away U_Z nbz hkY, H_Z.away U_Z nbz hkY, GP_Z.away U_Z nbz hkY, by_nil _, by_nil _⟩, B_Z.trans (hbY _ (Nat.le_refl _))⟩
        | true =>
          have yb := W_C.box
          have yc3 := yb 3 _ rfl
          have yf3 := W_C.frozen 3
          clear yb
          go_wp2_with fail
          clear yc3 yf3
          obtain ⟨XF, hXF⟩ : ∃ Z, XC.setCell ⟨b18, 3, none⟩ (.slice qW nW cW) = Z := ⟨_, rfl⟩
          rw [hXF]
          have B_F : Below w.heap.size w XF := by rw [← hXF]; exact B_C.setCell (p := ⟨b18, 3, none⟩) hle _
          have U_F : UB w.heap.size zeroU XF := by rw [← hXF]; exact U_C.other hne _
          have F_F := By.set (i := 3) (u := .slice qW nW cW) F_C W_C (nb8 ⟨_, _, _, rfl⟩ ⟨_, _, _, rfl⟩ ⟨_, _, _, rfl⟩ ⟨_, _, _, rfl⟩ ⟨_, _, _, rfl⟩)
          rw [hXF] at F_F
          have H_F := By.set (i := 3) (u := .slice qW nW cW) H_C W_C (nb8 ⟨_, _, _, rfl⟩ ⟨_, _, _, rfl⟩ ⟨_, _, _, rfl⟩ ⟨_, _, _, rfl⟩ ⟨_, _, _, rfl⟩)
          rw [hXF] at H_F
          have L_F := By.set (i := 3) (u := .slice qW nW cW) L_C W_C (nb8 ⟨_, _, _, rfl⟩ ⟨_, _, _, rfl⟩ ⟨_, _, _, rfl⟩ ⟨_, _, _, rfl⟩ ⟨_, _, _, rfl⟩)
          rw [hXF] at L_F
          have GP_F := By.set (i := 3) (u := .slice qW nW cW) GP_C W_C (nb8 ⟨_, _, _, rfl⟩ ⟨_, _, _, rfl⟩ ⟨_, _, _, rfl⟩ ⟨_, _, _, rfl⟩ ⟨_, _, _, rfl⟩)
          rw [hXF] at GP_F
          have W_F : UB b18 #[.slice qL k cL, .slice qH nH cH, .int .i64 pv, .slice qW nW cW, .slice none 0 0, .slice none 0 0, .bool false, .bool true] XF := by rw [← hXF]; exact (W_C.set8 (.slice qW nW cW)).2.1
          clear GP_C W_C L_C H_C F_C U_C B_C
          clear hXF
          have con := Pct.Canon_any qF nF cF (atSnd 35 r) 2 XF F_F.at.1 (by omega) F_F.at.2.2.2.2
          refine con.mono ?_
          rintro e XG ⟨vZ, ef, rfl, hef, hr, hb⟩
          have HEF : Hid (ef = if (formL 2 (atSnd 35 r)).isSome then 0 else 2) := hef
          replace hr : XG.ownsRow XF.heap.size 5 1 vZ ((formL 2 (atSnd 35 r)).getD []).length (byV ((formL 2 (atSnd 35 r)).getD [])) := hr
          obtain ⟨nZ, hnZ⟩ : ∃ n, ((formL 2 (atSnd 35 r)).getD []).length = n := ⟨_, rfl⟩
          rw [hnZ] at hr
          obtain ⟨qZ, cZ, rfl, _, _, _, _, _⟩ := row_open hr
          have GF_G := By.row hr
          clear con hr hnZ hef
          have B_G := B_F.trans (hb.mono B_F.size)
          have U_G := U_F.on hb
          have F_G := F_F.on hb
          have H_G := H_F.on hb
          have L_G := L_F.on hb
          have W_G := W_F.on hb
          have GP_G := GP_F.on hb
          clear GP_F W_F L_F H_F F_F U_F B_F hb
          clear F_G
          have yb := W_G.box
          have yc0 := yb 0 _ rfl
          have yf0 := W_G.frozen 0
          have yc1 := yb 1 _ rfl
          have yf1 := W_G.frozen 1
          have yc2 := yb 2 _ rfl
          have yf2 := W_G.frozen 2
          have yc3 := yb 3 _ rfl
          have yf3 := W_G.frozen 3
          have yc4 := yb 4 _ rfl
          have yf4 := W_G.frozen 4
          have yc5 := yb 5 _ rfl
          have yf5 := W_G.frozen 5
          have yc6 := yb 6 _ rfl
          have yf6 := W_G.frozen 6
          have yc7 := yb 7 _ rfl
          have yf7 := W_G.frozen 7
          clear yb
          have zb := U_G.box
          have zc0 := zb 0 _ rfl
          have zf0 := U_G.frozen 0
          have zc1 := zb 1 _ rfl
          have zf1 := U_G.frozen 1
          have zc2 := zb 2 _ rfl
          have zf2 := U_G.frozen 2
          have zc3 := zb 3 _ rfl
          have zf3 := U_G.frozen 3
          have zc4 := zb 4 _ rfl
          have zf4 := U_G.frozen 4
          have zc5 := zb 5 _ rfl
          have zf5 := U_G.frozen 5
          have zc6 := zb 6 _ rfl
          have zf6 := U_G.frozen 6
          have zc7 := zb 7 _ rfl
          have zf7 := U_G.frozen 7
          clear zb
          obtain ⟨XZ, hXZ⟩ : ∃ Z, XG.setCell ⟨b18, 5, none⟩ (.slice qZ nZ cZ) = Z := ⟨_, rfl⟩
          have B_Z : Below w.heap.size w XZ := by rw [← hXZ]; exact B_G.setCell (p := ⟨b18, 5, none⟩) hle _
          have U_Z : UB w.heap.size zeroU XZ := by rw [← hXZ]; exact U_G.other hne _
          have H_Z := By.set (i := 5) (u := .slice qZ nZ cZ) H_G W_G (nb8 ⟨_, _, _, rfl⟩ ⟨_, _, _, rfl⟩ ⟨_, _, _, rfl⟩ ⟨_, _, _, rfl⟩ ⟨_, _, _, rfl⟩)
          rw [hXZ] at H_Z
          have L_Z := By.set (i := 5) (u := .slice qZ nZ cZ) L_G W_G (nb8 ⟨_, _, _, rfl⟩ ⟨_, _, _, rfl⟩ ⟨_, _, _, rfl⟩ ⟨_, _, _, rfl⟩ ⟨_, _, _, rfl⟩)
          rw [hXZ] at L_Z
          have GP_Z := By.set (i := 5) (u := .slice qZ nZ cZ) GP_G W_G (nb8 ⟨_, _, _, rfl⟩ ⟨_, _, _, rfl⟩ ⟨_, _, _, rfl⟩ ⟨_, _, _, rfl⟩ ⟨_, _, _, rfl⟩)
          rw [hXZ] at GP_Z
          have GF_Z := By.set (i := 5) (u := .slice qZ nZ cZ) GF_G W_G (nb8 ⟨_, _, _, rfl⟩ ⟨_, _, _, rfl⟩ ⟨_, _, _, rfl⟩ ⟨_, _, _, rfl⟩ ⟨_, _, _, rfl⟩)
          rw [hXZ] at GF_Z
          have W_Z : UB b18 #[.slice qL k cL, .slice qH nH cH, .int .i64 pv, .slice qW nW cW, .slice none 0 0, .slice qZ nZ cZ, .bool false, .bool true] XZ := by rw [← hXZ]; exact (W_G.set8 (.slice qZ nZ cZ)).2.2.2
          clear GF_G GP_G W_G L_G H_G U_G B_G
          have HXZ := Lib.hid hXZ
          clear hXZ
          by_cases hp0 : (pv : Int) = 0
          case pos =>
            have e0 : (((pv : Int)) == 0) = true := by rw [beq_iff_eq]; exact hp0
            have hpo := HPO.out
            rw [hp0] at hpo
            clear hp0
            have HE := Lib.hid (show canonU t = .inl 2 by rw [HC.out]; exact rest_port _ r HS.out HPE.out hpo)
            go_wp2
            rw [HXZ.out]
            obtain ⟨Y, hY, hU, hkY, hbY⟩ := UB.put (show UB w.heap.size #[.slice none 0 0, .slice none 0 0, .int .i64 0, .slice none 0 0, .slice none 0 0, .slice none 0 0, .bool false, .bool false] _ from U_Z) (.slice none 0 0) (.slice none 0 0) (.int .i64 0) (.slice none 0 0) (.slice none 0 0) (.slice none 0 0) (.bool false) (.bool false)
            rw [hY]
            (try simp only [Exit.inBlock, Exit.then])
            refine bodyPost_ret (ret_url2 rfl _ _ w.heap.size _ rfl hU rfl) rfl ?_
            rw [HE.out]
            exact ⟨by decide, rfl, B_Z.trans (hbY _ (Nat.le_refl _))⟩
          have e0 : (((pv : Int)) == 0) = false := by rw [beq_eq_false_iff_ne]; exact hp0
          have hpo : portC (Ref.lowL s) (atSnd 58 (srvL r)) (atOk 58 (srvL r)) ≠ 0 := by rw [HPO.out]; exact hp0
          cases hpp : pathL (pthL r) with
          | none =>
            obtain rfl : ep = 2 := by have := HEP.out; rw [hpp] at this; exact this
            have hpp2 := Lib.hid hpp
            clear hpp
            have HE := Lib.hid (show canonU t = .inl 2 by rw [HC.out]; exact rest_path _ r HS.out HPE.out hpp2.out)
            go_wp2
            rw [HXZ.out]
            obtain ⟨Y, hY, hU, hkY, hbY⟩ := UB.put (show UB w.heap.size #[.slice none 0 0, .slice none 0 0, .int .i64 0, .slice none 0 0, .slice none 0 0, .slice none 0 0, .bool false, .bool false] _ from U_Z) (.slice none 0 0) (.slice none 0 0) (.int .i64 0) (.slice none 0 0) (.slice none 0 0) (.slice none 0 0) (.bool false) (.bool false)
            rw [hY]
            (try simp only [Exit.inBlock, Exit.then])
            refine bodyPost_ret (ret_url2 rfl _ _ w.heap.size _ rfl hU rfl) rfl ?_
            rw [HE.out]
            exact ⟨by decide, rfl, B_Z.trans (hbY _ (Nat.le_refl _))⟩
          | some pp =>
            obtain rfl : ep = 0 := by have := HEP.out; rw [hpp] at this; exact this
            cases hff : formL 2 (atSnd 35 r) with
            | none =>
              obtain rfl : ef = 2 := by have := HEF.out; rw [hff] at this; exact this
              have h4 := Lib.hid (show optC (atOk 35 r) (atSnd 35 r) = none by rw [Hbf.out]; exact hff)
              clear hff hpp
              have HE := Lib.hid (show canonU t = .inl 2 by rw [HC.out]; exact rest_frag _ r HS.out HPE.out h4.out)
              go_wp2
              rw [HXZ.out]
              obtain ⟨Y, hY, hU, hkY, hbY⟩ := UB.put (show UB w.heap.size #[.slice none 0 0, .slice none 0 0, .int .i64 0, .slice none 0 0, .slice none 0 0, .slice none 0 0, .bool false, .bool false] _ from U_Z) (.slice none 0 0) (.slice none 0 0) (.int .i64 0) (.slice none 0 0) (.slice none 0 0) (.slice none 0 0) (.bool false) (.bool false)
              rw [hY]
              (try simp only [Exit.inBlock, Exit.then])
              refine bodyPost_ret (ret_url2 rfl _ _ w.heap.size _ rfl hU rfl) rfl ?_
              rw [HE.out]
              exact ⟨by decide, rfl, B_Z.trans (hbY _ (Nat.le_refl _))⟩
            | some ff =>
              obtain rfl : ef = 0 := by have := HEF.out; rw [hff] at this; exact this
              have h3 : optC (atOk 63 (atFst 35 r)) (atSnd 63 (atFst 35 r)) = some [] := by rw [Hbq.out]; rfl
              have h4 : optC (atOk 35 r) (atSnd 35 r) = some ff := by rw [Hbf.out]; exact hff
              obtain ⟨pn, hpn, hrg⟩ := rest_good _ r HS.out HPE.out pp [] ff hpo hpp h3 h4
              rw [Hbq.out, Hbf.out] at hrg
              have hpn2 : (pv : Int) = (pn : Int) := by rw [← HPO.out]; exact hpn
              have HE := Lib.hid (HC.out.trans hrg)
              have HPN := Lib.hid hpn2
              rw [hpp] at GP_Z
              rw [hff] at GF_Z
              clear hpo hrg hpn hpn2 h3 h4 hpp hff hp0
              go_wp2
              rw [HXZ.out]
              obtain ⟨Y, hY, hU, hkY, hbY⟩ := UB.put (show UB w.heap.size #[.slice none 0 0, .slice none 0 0, .int .i64 0, .slice none 0 0, .slice none 0 0, .slice none 0 0, .bool false, .bool false] _ from U_Z) (.slice qL k cL) (.slice qH nH cH) (.int .i64 pv) (.slice qW nW cW) (.slice none 0 0) (.slice qZ nZ cZ) (.bool false) (.bool true)
              rw [hY]
              (try simp only [Exit.inBlock, Exit.then])
              refine bodyPost_ret (ret_url2 rfl _ _ w.heap.size _ rfl hU rfl) rfl ?_
              rw [HE.out]
              refine ⟨_, rfl, ⟨qL, k, cL, qH, nH, cH, qW, nW, cW, none, 0, 0, qZ, nZ, cZ, by rw [HPN.out], L_Z.away U_Z nbz hkY, H_Z.away U_Z nbz hkY, GP_Z.away U_Z nbz hkY, by_nil _, GF_Z.away U_Z nbz hkY⟩, B_Z.trans (hbY _ (Nat.le_refl _))⟩
      | true =>
        have yb := W_C.box
        have yc3 := yb 3 _ rfl
        have yf3 := W_C.frozen 3
        clear yb
        go_wp2_with fail
        clear yc3 yf3
        obtain ⟨XD, hXD⟩ : ∃ Z, XC.setCell ⟨b18, 3, none⟩ (.slice qW nW cW) = Z := ⟨_, rfl⟩
        rw [hXD]
        have B_D : Below w.heap.size w XD := by rw [← hXD]; exact B_C.setCell (p := ⟨b18, 3, none⟩) hle _
        have U_D : UB w.heap.size zeroU XD := by rw [← hXD]; exact U_C.other hne _
        have F_D := By.set (i := 3) (u := .slice qW nW cW) F_C W_C (nb8 ⟨_, _, _, rfl⟩ ⟨_, _, _, rfl⟩ ⟨_, _, _, rfl⟩ ⟨_, _, _, rfl⟩ ⟨_, _, _, rfl⟩)
        rw [hXD] at F_D
        have Q_D := By.set (i := 3) (u := .slice qW nW cW) Q_C W_C (nb8 ⟨_, _, _, rfl⟩ ⟨_, _, _, rfl⟩ ⟨_, _, _, rfl⟩ ⟨_, _, _, rfl⟩ ⟨_, _, _, rfl⟩)
        rw [hXD] at Q_D
        have H_D := By.set (i := 3) (u := .slice qW nW cW) H_C W_C (nb8 ⟨_, _, _, rfl⟩ ⟨_, _, _, rfl⟩ ⟨_, _, _, rfl⟩ ⟨_, _, _, rfl⟩ ⟨_, _, _, rfl⟩)
        rw [hXD] at H_D
        have L_D := By.set (i := 3) (u := .slice qW nW cW) L_C W_C (nb8 ⟨_, _, _, rfl⟩ ⟨_, _, _, rfl⟩ ⟨_, _, _, rfl⟩ ⟨_, _, _, rfl⟩ ⟨_, _, _, rfl⟩)
        rw [hXD] at L_D
        have GP_D := By.set (i := 3) (u := .slice qW nW cW) GP_C W_C (nb8 ⟨_, _, _, rfl⟩ ⟨_, _, _, rfl⟩ ⟨_, _, _, rfl⟩ ⟨_, _, _, rfl⟩ ⟨_, _, _, rfl⟩)
        rw [hXD] at GP_D
        have W_D : UB b18 #[.slice qL k cL, .slice qH nH cH, .int .i64 pv, .slice qW nW cW, .slice none 0 0, .slice none 0 0, .bool true, .bool bf] XD := by rw [← hXD]; exact (W_C.set8 (.slice qW nW cW)).2.1
        clear GP_C W_C L_C H_C Q_C F_C U_C B_C
        clear hXD
        have con := Pct.Canon_any qQ nQ cQ (atSnd 63 (atFst 35 r)) 2 XD Q_D.at.1 (by omega) Q_D.at.2.2.2.2
        refine con.mono ?_
        rintro e XE ⟨vY, eq, rfl, heq, hr, hb⟩
        have HEQ : Hid (eq = if (formL 2 (atSnd 63 (atFst 35 r))).isSome then 0 else 2) := heq
        replace hr : XE.ownsRow XD.heap.size 5 1 vY ((formL 2 (atSnd 63 (atFst 35 r))).getD []).length (byV ((formL 2 (atSnd 63 (atFst 35 r))).getD [])) := hr
        obtain ⟨nY, hnY⟩ : ∃ n, ((formL 2 (atSnd 63 (atFst 35 r))).getD []).length = n := ⟨_, rfl⟩
        rw [hnY] at hr
        obtain ⟨qY, cY, rfl, _, _, _, _, _⟩ := row_open hr
        have GQ_E := By.row hr
        clear con hr hnY heq
        have B_E := B_D.trans (hb.mono B_D.size)
        have U_E := U_D.on hb
        have F_E := F_D.on hb
        have Q_E := Q_D.on hb
        have H_E := H_D.on hb
        have L_E := L_D.on hb
        have W_E := W_D.on hb
        have GP_E := GP_D.on hb
        clear GP_D W_D L_D H_D Q_D F_D U_D B_D hb
        clear Q_E
        cases bf with
        | false =>
          clear F_E
          have yb := W_E.box
          have yc0 := yb 0 _ rfl
          have yf0 := W_E.frozen 0
          have yc1 := yb 1 _ rfl
          have yf1 := W_E.frozen 1
          have yc2 := yb 2 _ rfl
          have yf2 := W_E.frozen 2
          have yc3 := yb 3 _ rfl
          have yf3 := W_E.frozen 3
          have yc4 := yb 4 _ rfl
          have yf4 := W_E.frozen 4
          have yc5 := yb 5 _ rfl
          have yf5 := W_E.frozen 5
          have yc6 := yb 6 _ rfl
          have yf6 := W_E.frozen 6
          have yc7 := yb 7 _ rfl
          have yf7 := W_E.frozen 7
          clear yb
          have zb := U_E.box
          have zc0 := zb 0 _ rfl
          have zf0 := U_E.frozen 0
          have zc1 := zb 1 _ rfl
          have zf1 := U_E.frozen 1
          have zc2 := zb 2 _ rfl
          have zf2 := U_E.frozen 2
          have zc3 := zb 3 _ rfl
          have zf3 := U_E.frozen 3
          have zc4 := zb 4 _ rfl
          have zf4 := U_E.frozen 4
          have zc5 := zb 5 _ rfl
          have zf5 := U_E.frozen 5
          have zc6 := zb 6 _ rfl
          have zf6 := U_E.frozen 6
          have zc7 := zb 7 _ rfl
          have zf7 := U_E.frozen 7
          clear zb
          obtain ⟨XZ, hXZ⟩ : ∃ Z, XE.setCell ⟨b18, 4, none⟩ (.slice qY nY cY) = Z := ⟨_, rfl⟩
          have B_Z : Below w.heap.size w XZ := by rw [← hXZ]; exact B_E.setCell (p := ⟨b18, 4, none⟩) hle _
          have U_Z : UB w.heap.size zeroU XZ := by rw [← hXZ]; exact U_E.other hne _
          have H_Z := By.set (i := 4) (u := .slice qY nY cY) H_E W_E (nb8 ⟨_, _, _, rfl⟩ ⟨_, _, _, rfl⟩ ⟨_, _, _, rfl⟩ ⟨_, _, _, rfl⟩ ⟨_, _, _, rfl⟩)
          rw [hXZ] at H_Z
          have L_Z := By.set (i := 4) (u := .slice qY nY cY) L_E W_E (nb8 ⟨_, _, _, rfl⟩ ⟨_, _, _, rfl⟩ ⟨_, _, _, rfl⟩ ⟨_, _, _, rfl⟩ ⟨_, _, _, rfl⟩)
          rw [hXZ] at L_Z
          have GP_Z := By.set (i := 4) (u := .slice qY nY cY) GP_E W_E (nb8 ⟨_, _, _, rfl⟩ ⟨_, _, _, rfl⟩ ⟨_, _, _, rfl⟩ ⟨_, _, _, rfl⟩ ⟨_, _, _, rfl⟩)
          rw [hXZ] at GP_Z
          have GQ_Z := By.set (i := 4) (u := .slice qY nY cY) GQ_E W_E (nb8 ⟨_, _, _, rfl⟩ ⟨_, _, _, rfl⟩ ⟨_, _, _, rfl⟩ ⟨_, _, _, rfl⟩ ⟨_, _, _, rfl⟩)
          rw [hXZ] at GQ_Z
          have W_Z : UB b18 #[.slice qL k cL, .slice qH nH cH, .int .i64 pv, .slice qW nW cW, .slice qY nY cY, .slice none 0 0, .bool true, .bool false] XZ := by rw [← hXZ]; exact (W_E.set8 (.slice qY nY cY)).2.2.1
          clear GQ_E GP_E W_E L_E H_E U_E B_E
          have HXZ := Lib.hid hXZ
          clear hXZ
          by_cases hp0 : (pv : Int) = 0
          case pos =>
            have e0 : (((pv : Int)) == 0) = true := by rw [beq_iff_eq]; exact hp0
            have hpo := HPO.out
            rw [hp0] at hpo
            clear hp0
            have HE := Lib.hid (show canonU t = .inl 2 by rw [HC.out]; exact rest_port _ r HS.out HPE.out hpo)
            go_wp2
            rw [HXZ.out]
            obtain ⟨Y, hY, hU, hkY, hbY⟩ := UB.put (show UB w.heap.size #[.slice none 0 0, .slice none 0 0, .int .i64 0, .slice none 0 0, .slice none 0 0, .slice none 0 0, .bool false, .bool false] _ from U_Z) (.slice none 0 0) (.slice none 0 0) (.int .i64 0) (.slice none 0 0) (.slice none 0 0) (.slice none 0 0) (.bool false) (.bool false)
            rw [hY]
            (try simp only [Exit.inBlock, Exit.then])
            refine bodyPost_ret (ret_url2 rfl _ _ w.heap.size _ rfl hU rfl) rfl ?_
            rw [HE.out]
            exact ⟨by decide, rfl, B_Z.trans (hbY _ (Nat.le_refl _))⟩
          have e0 : (((pv : Int)) == 0) = false := by rw [beq_eq_false_iff_ne]; exact hp0
          have hpo : portC (Ref.lowL s) (atSnd 58 (srvL r)) (atOk 58 (srvL r)) ≠ 0 := by rw [HPO.out]; exact hp0
          cases hpp : pathL (pthL r) with
          | none =>
            obtain rfl : ep = 2 := by have := HEP.out; rw [hpp] at this; exact this
            have hpp2 := Lib.hid hpp
            clear hpp
            have HE := Lib.hid (show canonU t = .inl 2 by rw [HC.out]; exact rest_path _ r HS.out HPE.out hpp2.out)
            go_wp2
            rw [HXZ.out]
            obtain ⟨Y, hY, hU, hkY, hbY⟩ := UB.put (show UB w.heap.size #[.slice none 0 0, .slice none 0 0, .int .i64 0, .slice none 0 0, .slice none 0 0, .slice none 0 0, .bool false, .bool false] _ from U_Z) (.slice none 0 0) (.slice none 0 0) (.int .i64 0) (.slice none 0 0) (.slice none 0 0) (.slice none 0 0) (.bool false) (.bool false)
            rw [hY]
            (try simp only [Exit.inBlock, Exit.then])
            refine bodyPost_ret (ret_url2 rfl _ _ w.heap.size _ rfl hU rfl) rfl ?_
            rw [HE.out]
            exact ⟨by decide, rfl, B_Z.trans (hbY _ (Nat.le_refl _))⟩
          | some pp =>
            obtain rfl : ep = 0 := by have := HEP.out; rw [hpp] at this; exact this
            cases hqq : formL 2 (atSnd 63 (atFst 35 r)) with
            | none =>
              obtain rfl : eq = 2 := by have := HEQ.out; rw [hqq] at this; exact this
              have h3 := Lib.hid (show optC (atOk 63 (atFst 35 r)) (atSnd 63 (atFst 35 r)) = none by rw [Hbq.out]; exact hqq)
              clear hqq hpp
              have HE := Lib.hid (show canonU t = .inl 2 by rw [HC.out]; exact rest_query _ r HS.out HPE.out h3.out)
              go_wp2
              rw [HXZ.out]
              obtain ⟨Y, hY, hU, hkY, hbY⟩ := UB.put (show UB w.heap.size #[.slice none 0 0, .slice none 0 0, .int .i64 0, .slice none 0 0, .slice none 0 0, .slice none 0 0, .bool false, .bool false] _ from U_Z) (.slice none 0 0) (.slice none 0 0) (.int .i64 0) (.slice none 0 0) (.slice none 0 0) (.slice none 0 0) (.bool false) (.bool false)
              rw [hY]
              (try simp only [Exit.inBlock, Exit.then])
              refine bodyPost_ret (ret_url2 rfl _ _ w.heap.size _ rfl hU rfl) rfl ?_
              rw [HE.out]
              exact ⟨by decide, rfl, B_Z.trans (hbY _ (Nat.le_refl _))⟩
            | some qq =>
              obtain rfl : eq = 0 := by have := HEQ.out; rw [hqq] at this; exact this
              have h3 : optC (atOk 63 (atFst 35 r)) (atSnd 63 (atFst 35 r)) = some qq := by rw [Hbq.out]; exact hqq
              have h4 : optC (atOk 35 r) (atSnd 35 r) = some [] := by rw [Hbf.out]; rfl
              obtain ⟨pn, hpn, hrg⟩ := rest_good _ r HS.out HPE.out pp qq [] hpo hpp h3 h4
              rw [Hbq.out, Hbf.out] at hrg
              have hpn2 : (pv : Int) = (pn : Int) := by rw [← HPO.out]; exact hpn
              have HE := Lib.hid (HC.out.trans hrg)
              have HPN := Lib.hid hpn2
              rw [hpp] at GP_Z
              rw [hqq] at GQ_Z
              clear hpo hrg hpn hpn2 h3 h4 hpp hqq  hp0
              go_wp2
              rw [HXZ.out]
              obtain ⟨Y, hY, hU, hkY, hbY⟩ := UB.put (show UB w.heap.size #[.slice none 0 0, .slice none 0 0, .int .i64 0, .slice none 0 0, .slice none 0 0, .slice none 0 0, .bool false, .bool false] _ from U_Z) (.slice qL k cL) (.slice qH nH cH) (.int .i64 pv) (.slice qW nW cW) (.slice qY nY cY) (.slice none 0 0) (.bool true) (.bool false)
              rw [hY]
              (try simp only [Exit.inBlock, Exit.then])
              refine bodyPost_ret (ret_url2 rfl _ _ w.heap.size _ rfl hU rfl) rfl ?_
              rw [HE.out]
              refine ⟨_, rfl, ⟨qL, k, cL, qH, nH, cH, qW, nW, cW, qY, nY, cY, none, 0, 0, by rw [HPN.out], L_Z.away U_Z nbz hkY, H_Z.away U_Z nbz hkY, GP_Z.away U_Z nbz hkY, GQ_Z.away U_Z nbz hkY, by_nil _⟩, B_Z.trans (hbY _ (Nat.le_refl _))⟩
        | true =>
          have yb := W_E.box
          have yc4 := yb 4 _ rfl
          have yf4 := W_E.frozen 4
          clear yb
          go_wp2_with fail
          clear yc4 yf4
          obtain ⟨XF, hXF⟩ : ∃ Z, XE.setCell ⟨b18, 4, none⟩ (.slice qY nY cY) = Z := ⟨_, rfl⟩
          rw [hXF]
          have B_F : Below w.heap.size w XF := by rw [← hXF]; exact B_E.setCell (p := ⟨b18, 4, none⟩) hle _
          have U_F : UB w.heap.size zeroU XF := by rw [← hXF]; exact U_E.other hne _
          have F_F := By.set (i := 4) (u := .slice qY nY cY) F_E W_E (nb8 ⟨_, _, _, rfl⟩ ⟨_, _, _, rfl⟩ ⟨_, _, _, rfl⟩ ⟨_, _, _, rfl⟩ ⟨_, _, _, rfl⟩)
          rw [hXF] at F_F
          have H_F := By.set (i := 4) (u := .slice qY nY cY) H_E W_E (nb8 ⟨_, _, _, rfl⟩ ⟨_, _, _, rfl⟩ ⟨_, _, _, rfl⟩ ⟨_, _, _, rfl⟩ ⟨_, _, _, rfl⟩)
          rw [hXF] at H_F
          have L_F := By.set (i := 4) (u := .slice qY nY cY) L_E W_E (nb8 ⟨_, _, _, rfl⟩ ⟨_, _, _, rfl⟩ ⟨_, _, _, rfl⟩ ⟨_, _, _, rfl⟩ ⟨_, _, _, rfl⟩)
          rw [hXF] at L_F
          have GP_F := By.set (i := 4) (u := .slice qY nY cY) GP_E W_E (nb8 ⟨_, _, _, rfl⟩ ⟨_, _, _, rfl⟩ ⟨_, _, _, rfl⟩ ⟨_, _, _, rfl⟩ ⟨_, _, _, rfl⟩)
          rw [hXF] at GP_F
          have GQ_F := By.set (i := 4) (u := .slice qY nY cY) GQ_E W_E (nb8 ⟨_, _, _, rfl⟩ ⟨_, _, _, rfl⟩ ⟨_, _, _, rfl⟩ ⟨_, _, _, rfl⟩ ⟨_, _, _, rfl⟩)
          rw [hXF] at GQ_F
          have W_F : UB b18 #[.slice qL k cL, .slice qH nH cH, .int .i64 pv, .slice qW nW cW, .slice qY nY cY, .slice none 0 0, .bool true, .bool true] XF := by rw [← hXF]; exact (W_E.set8 (.slice qY nY cY)).2.2.1
          clear GQ_E GP_E W_E L_E H_E F_E U_E B_E
          clear hXF
          have con := Pct.Canon_any qF nF cF (atSnd 35 r) 2 XF F_F.at.1 (by omega) F_F.at.2.2.2.2
          refine con.mono ?_
          rintro e XG ⟨vZ, ef, rfl, hef, hr, hb⟩
          have HEF : Hid (ef = if (formL 2 (atSnd 35 r)).isSome then 0 else 2) := hef
          replace hr : XG.ownsRow XF.heap.size 5 1 vZ ((formL 2 (atSnd 35 r)).getD []).length (byV ((formL 2 (atSnd 35 r)).getD [])) := hr
          obtain ⟨nZ, hnZ⟩ : ∃ n, ((formL 2 (atSnd 35 r)).getD []).length = n := ⟨_, rfl⟩
          rw [hnZ] at hr
          obtain ⟨qZ, cZ, rfl, _, _, _, _, _⟩ := row_open hr
          have GF_G := By.row hr
          clear con hr hnZ hef
          have B_G := B_F.trans (hb.mono B_F.size)
          have U_G := U_F.on hb
          have F_G := F_F.on hb
          have H_G := H_F.on hb
          have L_G := L_F.on hb
          have W_G := W_F.on hb
          have GP_G := GP_F.on hb
          have GQ_G := GQ_F.on hb
          clear GQ_F GP_F W_F L_F H_F F_F U_F B_F hb
          clear F_G
          have yb := W_G.box
          have yc0 := yb 0 _ rfl
          have yf0 := W_G.frozen 0
          have yc1 := yb 1 _ rfl
          have yf1 := W_G.frozen 1
          have yc2 := yb 2 _ rfl
          have yf2 := W_G.frozen 2
          have yc3 := yb 3 _ rfl
          have yf3 := W_G.frozen 3
          have yc4 := yb 4 _ rfl
          have yf4 := W_G.frozen 4
          have yc5 := yb 5 _ rfl
          have yf5 := W_G.frozen 5
          have yc6 := yb 6 _ rfl
          have yf6 := W_G.frozen 6
          have yc7 := yb 7 _ rfl
          have yf7 := W_G.frozen 7
          clear yb
          have zb := U_G.box
          have zc0 := zb 0 _ rfl
          have zf0 := U_G.frozen 0
          have zc1 := zb 1 _ rfl
          have zf1 := U_G.frozen 1
          have zc2 := zb 2 _ rfl
          have zf2 := U_G.frozen 2
          have zc3 := zb 3 _ rfl
          have zf3 := U_G.frozen 3
          have zc4 := zb 4 _ rfl
          have zf4 := U_G.frozen 4
          have zc5 := zb 5 _ rfl
          have zf5 := U_G.frozen 5
          have zc6 := zb 6 _ rfl
          have zf6 := U_G.frozen 6
          have zc7 := zb 7 _ rfl
          have zf7 := U_G.frozen 7
          clear zb
          obtain ⟨XZ, hXZ⟩ : ∃ Z, XG.setCell ⟨b18, 5, none⟩ (.slice qZ nZ cZ) = Z := ⟨_, rfl⟩
          have B_Z : Below w.heap.size w XZ := by rw [← hXZ]; exact B_G.setCell (p := ⟨b18, 5, none⟩) hle _
          have U_Z : UB w.heap.size zeroU XZ := by rw [← hXZ]; exact U_G.other hne _
          have H_Z := By.set (i := 5) (u := .slice qZ nZ cZ) H_G W_G (nb8 ⟨_, _, _, rfl⟩ ⟨_, _, _, rfl⟩ ⟨_, _, _, rfl⟩ ⟨_, _, _, rfl⟩ ⟨_, _, _, rfl⟩)
          rw [hXZ] at H_Z
          have L_Z := By.set (i := 5) (u := .slice qZ nZ cZ) L_G W_G (nb8 ⟨_, _, _, rfl⟩ ⟨_, _, _, rfl⟩ ⟨_, _, _, rfl⟩ ⟨_, _, _, rfl⟩ ⟨_, _, _, rfl⟩)
          rw [hXZ] at L_Z
          have GP_Z := By.set (i := 5) (u := .slice qZ nZ cZ) GP_G W_G (nb8 ⟨_, _, _, rfl⟩ ⟨_, _, _, rfl⟩ ⟨_, _, _, rfl⟩ ⟨_, _, _, rfl⟩ ⟨_, _, _, rfl⟩)
          rw [hXZ] at GP_Z
          have GQ_Z := By.set (i := 5) (u := .slice qZ nZ cZ) GQ_G W_G (nb8 ⟨_, _, _, rfl⟩ ⟨_, _, _, rfl⟩ ⟨_, _, _, rfl⟩ ⟨_, _, _, rfl⟩ ⟨_, _, _, rfl⟩)
          rw [hXZ] at GQ_Z
          have GF_Z := By.set (i := 5) (u := .slice qZ nZ cZ) GF_G W_G (nb8 ⟨_, _, _, rfl⟩ ⟨_, _, _, rfl⟩ ⟨_, _, _, rfl⟩ ⟨_, _, _, rfl⟩ ⟨_, _, _, rfl⟩)
          rw [hXZ] at GF_Z
          have W_Z : UB b18 #[.slice qL k cL, .slice qH nH cH, .int .i64 pv, .slice qW nW cW, .slice qY nY cY, .slice qZ nZ cZ, .bool true, .bool true] XZ := by rw [← hXZ]; exact (W_G.set8 (.slice qZ nZ cZ)).2.2.2
          clear GF_G GQ_G GP_G W_G L_G H_G U_G B_G
          have HXZ := Lib.hid hXZ
          clear hXZ
          by_cases hp0 : (pv : Int) = 0
          case pos =>
            have e0 : (((pv : Int)) == 0) = true := by rw [beq_iff_eq]; exact hp0
            have hpo := HPO.out
            rw [hp0] at hpo
            clear hp0
            have HE := Lib.hid (show canonU t = .inl 2 by rw [HC.out]; exact rest_port _ r HS.out HPE.out hpo)
            go_wp2
            rw [HXZ.out]
            obtain ⟨Y, hY, hU, hkY, hbY⟩ := UB.put (show UB w.heap.size #[.slice none 0 0, .slice none 0 0, .int .i64 0, .slice none 0 0, .slice none 0 0, .slice none 0 0, .bool false, .bool false] _ from U_Z) (.slice none 0 0) (.slice none 0 0) (.int .i64 0) (.slice none 0 0) (.slice none 0 0) (.slice none 0 0) (.bool false) (.bool false)
            rw [hY]
            (try simp only [Exit.inBlock, Exit.then])
            refine bodyPost_ret (ret_url2 rfl _ _ w.heap.size _ rfl hU rfl) rfl ?_
            rw [HE.out]
            exact ⟨by decide, rfl, B_Z.trans (hbY _ (Nat.le_refl _))⟩
          have e0 : (((pv : Int)) == 0) = false := by rw [beq_eq_false_iff_ne]; exact hp0
          have hpo : portC (Ref.lowL s) (atSnd 58 (srvL r)) (atOk 58 (srvL r)) ≠ 0 := by rw [HPO.out]; exact hp0
          cases hpp : pathL (pthL r) with
          | none =>
            obtain rfl : ep = 2 := by have := HEP.out; rw [hpp] at this; exact this
            have hpp2 := Lib.hid hpp
            clear hpp
            have HE := Lib.hid (show canonU t = .inl 2 by rw [HC.out]; exact rest_path _ r HS.out HPE.out hpp2.out)
            go_wp2
            rw [HXZ.out]
            obtain ⟨Y, hY, hU, hkY, hbY⟩ := UB.put (show UB w.heap.size #[.slice none 0 0, .slice none 0 0, .int .i64 0, .slice none 0 0, .slice none 0 0, .slice none 0 0, .bool false, .bool false] _ from U_Z) (.slice none 0 0) (.slice none 0 0) (.int .i64 0) (.slice none 0 0) (.slice none 0 0) (.slice none 0 0) (.bool false) (.bool false)
            rw [hY]
            (try simp only [Exit.inBlock, Exit.then])
            refine bodyPost_ret (ret_url2 rfl _ _ w.heap.size _ rfl hU rfl) rfl ?_
            rw [HE.out]
            exact ⟨by decide, rfl, B_Z.trans (hbY _ (Nat.le_refl _))⟩
          | some pp =>
            obtain rfl : ep = 0 := by have := HEP.out; rw [hpp] at this; exact this
            cases hqq : formL 2 (atSnd 63 (atFst 35 r)) with
            | none =>
              obtain rfl : eq = 2 := by have := HEQ.out; rw [hqq] at this; exact this
              have h3 := Lib.hid (show optC (atOk 63 (atFst 35 r)) (atSnd 63 (atFst 35 r)) = none by rw [Hbq.out]; exact hqq)
              clear hqq hpp
              have HE := Lib.hid (show canonU t = .inl 2 by rw [HC.out]; exact rest_query _ r HS.out HPE.out h3.out)
              go_wp2
              rw [HXZ.out]
              obtain ⟨Y, hY, hU, hkY, hbY⟩ := UB.put (show UB w.heap.size #[.slice none 0 0, .slice none 0 0, .int .i64 0, .slice none 0 0, .slice none 0 0, .slice none 0 0, .bool false, .bool false] _ from U_Z) (.slice none 0 0) (.slice none 0 0) (.int .i64 0) (.slice none 0 0) (.slice none 0 0) (.slice none 0 0) (.bool false) (.bool false)
              rw [hY]
              (try simp only [Exit.inBlock, Exit.then])
              refine bodyPost_ret (ret_url2 rfl _ _ w.heap.size _ rfl hU rfl) rfl ?_
              rw [HE.out]
              exact ⟨by decide, rfl, B_Z.trans (hbY _ (Nat.le_refl _))⟩
            | some qq =>
              obtain rfl : eq = 0 := by have := HEQ.out; rw [hqq] at this; exact this
              cases hff : formL 2 (atSnd 35 r) with
              | none =>
                obtain rfl : ef = 2 := by have := HEF.out; rw [hff] at this; exact this
                have h4 := Lib.hid (show optC (atOk 35 r) (atSnd 35 r) = none by rw [Hbf.out]; exact hff)
                clear hff hpp
                have HE := Lib.hid (show canonU t = .inl 2 by rw [HC.out]; exact rest_frag _ r HS.out HPE.out h4.out)
                go_wp2
                rw [HXZ.out]
                obtain ⟨Y, hY, hU, hkY, hbY⟩ := UB.put (show UB w.heap.size #[.slice none 0 0, .slice none 0 0, .int .i64 0, .slice none 0 0, .slice none 0 0, .slice none 0 0, .bool false, .bool false] _ from U_Z) (.slice none 0 0) (.slice none 0 0) (.int .i64 0) (.slice none 0 0) (.slice none 0 0) (.slice none 0 0) (.bool false) (.bool false)
                rw [hY]
                (try simp only [Exit.inBlock, Exit.then])
                refine bodyPost_ret (ret_url2 rfl _ _ w.heap.size _ rfl hU rfl) rfl ?_
                rw [HE.out]
                exact ⟨by decide, rfl, B_Z.trans (hbY _ (Nat.le_refl _))⟩
              | some ff =>
                obtain rfl : ef = 0 := by have := HEF.out; rw [hff] at this; exact this
                have h3 : optC (atOk 63 (atFst 35 r)) (atSnd 63 (atFst 35 r)) = some qq := by rw [Hbq.out]; exact hqq
                have h4 : optC (atOk 35 r) (atSnd 35 r) = some ff := by rw [Hbf.out]; exact hff
                obtain ⟨pn, hpn, hrg⟩ := rest_good _ r HS.out HPE.out pp qq ff hpo hpp h3 h4
                rw [Hbq.out, Hbf.out] at hrg
                have hpn2 : (pv : Int) = (pn : Int) := by rw [← HPO.out]; exact hpn
                have HE := Lib.hid (HC.out.trans hrg)
                have HPN := Lib.hid hpn2
                rw [hpp] at GP_Z
                rw [hqq] at GQ_Z
                rw [hff] at GF_Z
                clear hpo hrg hpn hpn2 h3 h4 hpp hqq hff hp0
                go_wp2
                rw [HXZ.out]
                obtain ⟨Y, hY, hU, hkY, hbY⟩ := UB.put (show UB w.heap.size #[.slice none 0 0, .slice none 0 0, .int .i64 0, .slice none 0 0, .slice none 0 0, .slice none 0 0, .bool false, .bool false] _ from U_Z) (.slice qL k cL) (.slice qH nH cH) (.int .i64 pv) (.slice qW nW cW) (.slice qY nY cY) (.slice qZ nZ cZ) (.bool true) (.bool true)
                rw [hY]
                (try simp only [Exit.inBlock, Exit.then])
                refine bodyPost_ret (ret_url2 rfl _ _ w.heap.size _ rfl hU rfl) rfl ?_
                rw [HE.out]
                refine ⟨_, rfl, ⟨qL, k, cL, qH, nH, cH, qW, nW, cW, qY, nY, cY, qZ, nZ, cZ, by rw [HPN.out], L_Z.away U_Z nbz hkY, H_Z.away U_Z nbz hkY, GP_Z.away U_Z nbz hkY, GQ_Z.away U_Z nbz hkY, GF_Z.away U_Z nbz hkY⟩, B_Z.trans (hbY _ (Nat.le_refl _))⟩
end Go.Proofs.YtniehbjoogaccaaGreatDoor.Url
namespace Go.Proofs.YtniehbjoogaccaaGreatDoor.Ck
open Go.RowKit Go.Shelf Url
set_option linter.unusedVariables false
theorem below_alloc {w : World} (o : Obj) : Below w.heap.size w (w.alloc o) := (Below.refl _ w).alloc (Nat.le_refl _) o
def CkIs (w : World) (v : Value) (c : Ck) : Prop := ∃ (q1 : Option Addr) (n1 c1 : Nat) (q2 : Option Addr) (n2 c2 : Nat) (q3 : Option Addr) (n3 c3 : Nat),
  v = .agg #[.slice q1 n1 c1, .slice q2 n2 c2, .slice q3 n3 c3, .string ⟨c.dom.toArray⟩, .int .i64 c.age, .bool c.secure] ∧ By w (.slice q1 n1 c1) c.name ∧ By w (.slice q2 n2 c2) c.value ∧ By w (.slice q3 n3 c3) c.path
theorem CkIs.on {w w' : World} {v : Value} {c : Ck} (h : CkIs w v c) (hb : Below w.heap.size w w') : CkIs w' v c := by
  obtain ⟨q1, n1, c1, q2, n2, c2, q3, n3, c3, rfl, h1, h2, h3⟩ := h
  exact ⟨q1, n1, c1, q2, n2, c2, q3, n3, c3, rfl, h1.on hb, h2.on hb, h3.on hb⟩
def CB (b : Nat) (cs : Array Value) (X : World) : Prop := X.heap[b]? = some (.cells cs 42 (0, 0))
theorem CB.box {b : Nat} {cs : Array Value} {X : World} (h : CB b cs X) : Box b cs X := fun i x hx => by
  simp only [World.cell?, show X.heap[b]? = _ from h]; exact hx
theorem CB.frozen {b : Nat} {cs : Array Value} {X : World} (h : CB b cs X) (i : Nat) : X.frozen? ⟨b, i, none⟩ = false := by
  simp [World.frozen?, show X.heap[b]? = _ from h]
theorem CB.on {b : Nat} {cs : Array Value} {X Y : World} (h : CB b cs X) (hk : Below X.heap.size X Y) : CB b cs Y := (hk.block b (Array.getElem?_eq_some_iff.1 h).1).trans h
theorem CB.lt {b : Nat} {cs : Array Value} {X : World} (h : CB b cs X) : b < X.heap.size := (Array.getElem?_eq_some_iff.1 h).1
theorem CB.new (w : World) (cs : Array Value) : CB w.heap.size cs (w.alloc (.cells cs 42)) := World.alloc_heap_new w _
def CX (b : Nat) (q1 : Option Addr) (n1 c1 : Nat) (q2 : Option Addr) (n2 c2 : Nat) (q3 : Option Addr) (n3 c3 : Nat) (c : Ck) (X : World) : Prop :=
  CB b #[.slice q1 n1 c1, .slice q2 n2 c2, .slice q3 n3 c3, .string ⟨c.dom.toArray⟩, .int .i64 c.age, .bool c.secure] X ∧ CkIs X (.agg #[.slice q1 n1 c1, .slice q2 n2 c2, .slice q3 n3 c3, .string ⟨c.dom.toArray⟩, .int .i64 c.age, .bool c.secure]) c
theorem CX.on {b : Nat} {q1 : Option Addr} {n1 c1 : Nat} {q2 : Option Addr} {n2 c2 : Nat} {q3 : Option Addr} {n3 c3 : Nat} {c : Ck} {X Y : World} (h : CX b q1 n1 c1 q2 n2 c2 q3 n3 c3 c X) (hb : Below X.heap.size X Y) : CX b q1 n1 c1 q2 n2 c2 q3 n3 c3 c Y := ⟨h.1.on hb, h.2.on hb⟩
theorem CX.new {q1 : Option Addr} {n1 c1 : Nat} {q2 : Option Addr} {n2 c2 : Nat} {q3 : Option Addr} {n3 c3 : Nat} {c : Ck} {X : World} (h : CkIs X (.agg #[.slice q1 n1 c1, .slice q2 n2 c2, .slice q3 n3 c3, .string ⟨c.dom.toArray⟩, .int .i64 c.age, .bool c.secure]) c) :
    CX X.heap.size q1 n1 c1 q2 n2 c2 q3 n3 c3 c (X.alloc (.cells #[.slice q1 n1 c1, .slice q2 n2 c2, .slice q3 n3 c3, .string ⟨c.dom.toArray⟩, .int .i64 c.age, .bool c.secure] 42)) := ⟨CB.new X _, h.on (below_alloc _)⟩
def zeroC : Ck := ⟨[], [], [], [], 0, false⟩
def ckE (r : Sum Int Ck) : Int := match r with | .inl e => e | .inr _ => 0
def ckV (r : Sum Int Ck) : Ck := match r with | .inl _ => zeroC | .inr c => c
def PkOut (r : Sum Int Ck) (w : World) (e : Ending) (w' : World) : Prop := ∃ v, e = .returned (.tuple #[v, .int .i64 (ckE r)]) ∧ CkIs w' v (ckV r) ∧ Below w.heap.size w w'
def BysOut (l : List UInt8) (w : World) (e : Ending) (w' : World) : Prop := ∃ (q : Option Addr) (n c : Nat), e = .returned (.slice q n c) ∧ By w' (.slice q n c) l ∧ Below w.heap.size w w'
end Go.Proofs.YtniehbjoogaccaaGreatDoor.Ck
namespace Go.Proofs.YtniehbjoogaccaaGreatDoor.Jar
open Go.RowKit Go.Shelf Url Ck
set_option linter.unusedVariables false
def setN (l : List En) (u : U) (c : Ck) (now : Int) : List En := if 0 ≤ now ∧ now ≤ 1099511627776 then setJ l u c now else l
def setE (u : U) (c : Ck) (now : Int) : Int := if 0 ≤ now ∧ now ≤ 1099511627776 then (if mayB c u.host u.scheme = true then 0 else 17) else 13
def lineL : List En → List UInt8
  | [] => []
  | [e] => e.c.name ++ 61 :: e.c.value
  | e :: f :: r => e.c.name ++ 61 :: e.c.value ++ 59 :: 32 :: lineL (f :: r)
def Soft (w w' : World) : Prop := (∀ v l, By w v l → By w' v l) ∧ ∀ b i q n c, w.cell? ⟨b, i, none⟩ = some (.slice q n c) → w'.heap[b]? = w.heap[b]?
theorem Soft.of_below {w w' : World} (hb : Below w.heap.size w w') : Soft w w' := ⟨fun v l h => h.on hb, fun b i q n c h => hb.block b (World.block_lt_of_cell? w ⟨b, i, none⟩ h)⟩
theorem Soft.url {w w' : World} {v : Value} {u : U} (h : Soft w w') (k : UrlIn w v u) : UrlIn w' v u := by
  obtain ⟨q0, n0, c0, q1, n1, c1, q3, n3, c3, q4, n4, c4, q5, n5, c5, hv, h0, h1, h3, h4, h5⟩ := k
  exact ⟨q0, n0, c0, q1, n1, c1, q3, n3, c3, q4, n4, c4, q5, n5, c5, hv, h.1 _ _ h0, h.1 _ _ h1, h.1 _ _ h3, h.1 _ _ h4, h.1 _ _ h5⟩
theorem Soft.ck {w w' : World} {v : Value} {c : Ck} (h : Soft w w') (k : CkIs w v c) : CkIs w' v c := by
  obtain ⟨q1, n1, c1, q2, n2, c2, q3, n3, c3, hv, h1, h2, h3⟩ := k
  exact ⟨q1, n1, c1, q2, n2, c2, q3, n3, c3, hv, h.1 _ _ h1, h.1 _ _ h2, h.1 _ _ h3⟩
def Off (M : Nat → Prop) (w : World) : Prop := ∀ b, M b → b < w.heap.size ∧ (∀ i z, w.cell? ⟨b, i, none⟩ ≠ some (.int .u8 z)) ∧ ∀ i q n c, w.cell? ⟨b, i, none⟩ ≠ some (.slice q n c)
theorem by_off {M : Nat → Prop} {w w' : World} (h : ∀ b, M b → ∀ i z, w.cell? ⟨b, i, none⟩ ≠ some (.int .u8 z)) (hk : Keep (fun b => ¬ M b) w w') (v : Value) (l : List UInt8) (hv : By w v l) : By w' v l := by
  obtain ⟨q, c, rfl, h2, h3, h4, h5⟩ := id hv
  refine ⟨q, c, rfl, h2, h3, h4, bytes_keep h5 hk fun a ha h0 hM => ?_⟩
  obtain ⟨b, o, rfl, hc⟩ := h5.at h0
  cases ha
  exact h b hM (o + 0) _ (hc 0 h0)
theorem Off.soft {M : Nat → Prop} {w w' : World} (h : Off M w) (hk : Keep (fun b => ¬ M b) w w') : Soft w w' :=
  ⟨by_off (fun b hb => (h b hb).2.1) hk, fun b i q n c hc => hk.block b (World.block_lt_of_cell? w ⟨b, i, none⟩ hc) (fun hM => (h b hM).2.2 i q n c hc)⟩
def GlB (B : Nat) (w : World) : Prop := ∀ w', Below B w w' → Gl w'
theorem GlB.gl {B : Nat} {w : World} (h : GlB B w) : Gl w := h w (Below.refl _ _)
theorem GlB.on {B : Nat} {w w' : World} (h : GlB B w) (hb : Below B w w') : GlB B w' := fun w2 h2 => h w2 (hb.trans h2)
theorem Gl.glb {w : World} (h : Gl w) : GlB w.heap.size w := fun w' hb => h.on hb
end Go.Proofs.YtniehbjoogaccaaGreatDoor.Jar
namespace Go.Proofs.YtniehbjoogaccaaGreatDoor.Jar
open Go.RowKit Go.Shelf Url Ck
attribute [local go_sem] Oper.semAt_some
set_option linter.unusedVariables false
abbrev C3 := Option Addr × Nat × Nat
def vC (z : C3) : Value := .slice z.1 z.2.1 z.2.2
def blk (z : C3) (b : Nat) : Prop := ∃ a, z.1 = some a ∧ 0 < z.2.1 ∧ a.block = b
theorem by_keepB {w w' : World} {z : C3} {l : List UInt8} {S : Nat → Prop} (h : By w (vC z) l) (hk : Keep S w w') (hS : ∀ b, blk z b → S b) : By w' (vC z) l := by
  obtain ⟨q, n, c⟩ := z
  obtain ⟨h1, h2, h3, h4, h5⟩ := h.at
  exact By.of h1 h2 h3 (fun hq => (h4 hq).2) (bytes_keep h5 hk fun a ha h0 => hS _ ⟨a, ha, h0, rfl⟩)
theorem by_ltB {w : World} {z : C3} {l : List UInt8} (h : By w (vC z) l) : ∀ b, blk z b → b < w.heap.size := by
  rintro b ⟨a, ha, h0, rfl⟩
  obtain ⟨q, n, c⟩ := z
  exact bytes_lt h.at.2.2.2.2 a ha h0
abbrev CZ := ((C3 × C3) × C3) × Ck
def ckRow (z : CZ) : List Value := [vC z.1.1.1, vC z.1.1.2, vC z.1.2, .string ⟨z.2.dom.toArray⟩, .int .i64 z.2.age, .bool z.2.secure]
def CAt (w : World) (z : CZ) : Prop := By w (vC z.1.1.1) z.2.name ∧ By w (vC z.1.1.2) z.2.value ∧ By w (vC z.1.2) z.2.path
def blkZ (z : CZ) (b : Nat) : Prop := blk z.1.1.1 b ∨ blk z.1.1.2 b ∨ blk z.1.2 b
theorem CAt.keep {w w' : World} {z : CZ} {S : Nat → Prop} (h : CAt w z) (hk : Keep S w w') (hS : ∀ b, blkZ z b → S b) : CAt w' z :=
  ⟨by_keepB h.1 hk fun b hb => hS b (.inl hb), by_keepB h.2.1 hk fun b hb => hS b (.inr (.inl hb)), by_keepB h.2.2 hk fun b hb => hS b (.inr (.inr hb))⟩
theorem CAt.lt {w : World} {z : CZ} (h : CAt w z) : ∀ b, blkZ z b → b < w.heap.size := fun b hb => by
  rcases hb with hb | hb | hb
  · exact by_ltB h.1 b hb
  · exact by_ltB h.2.1 b hb
  · exact by_ltB h.2.2 b hb
theorem CAt.is {w : World} {z : CZ} (h : CAt w z) : CkIs w (.agg (ckRow z).toArray) z.2 := ⟨_, _, _, _, _, _, _, _, _, rfl, h⟩
def CkArg (RB : Nat → Prop) (x : Ck) (args : Array Value) (G : Nat → Prop) (W : World) : Prop := ∃ z : CZ, z.2 = x ∧ args = #[.agg (ckRow z).toArray] ∧ CAt W z ∧ ∀ b, blkZ z b → G b ∨ RB b
end Go.Proofs.YtniehbjoogaccaaGreatDoor.Jar
namespace Go.Proofs.YtniehbjoogaccaaGreatDoor.Ck
open Go.RowKit Go.Shelf Url Hdr
attribute [local go_sem] Oper.semAt_some
set_option linter.unusedVariables false
theorem by_form {w : World} {v : Value} {l : List UInt8} (h : By w v l) : ∃ q c, v = .slice q l.length c := by
  obtain ⟨q, c, rfl, _⟩ := h
  exact ⟨q, c, rfl⟩
def ByN (B : Nat) (w : World) (q : Option Addr) (n c : Nat) (l : List UInt8) : Prop := By w (.slice q n c) l ∧ ∀ a, q = some a → B ≤ a.block
theorem byN_row {B n : Nat} {w : World} {v : Value} {l : List UInt8} (h : w.ownsRow B 5 1 v n ((Lib.numsL l).map (Value.int .u8))) : ∃ q c, v = .slice q l.length c ∧ ByN B w q l.length c l := by
  obtain ⟨q, c, rfl, hl, h1, h2, h3, h4⟩ := row_open h
  have hq : q = none → c = 0 := fun e => by
    subst e
    rcases h.2 with ⟨he, _⟩ | ⟨g, cap, cur, he, _⟩
    · cases he; rfl
    · cases he
  subst hl
  exact ⟨q, c, rfl, By.of rfl h1 h2 hq h3, fun a ha => (h4 a ha).2.1⟩
theorem ByN.on {B : Nat} {w w' : World} {q : Option Addr} {n c : Nat} {l : List UInt8} (h : ByN B w q n c l) (hb : Below w.heap.size w w') : ByN B w' q n c l := ⟨h.1.on hb, h.2⟩
theorem conv_by {W : World} {q : Option Addr} {n c : Nat} {l : List UInt8} (h : By W (.slice q n c) l) : (convert 29 9 (.slice q n c)).run Tryz.prog W = .ok (.string ⟨l.toArray⟩) W := conv_bytes h.at.2.2.2.2 h.at.1
theorem conv_back (w : World) (s : ByteArray) : (convert 9 29 (.string s)).run Tryz.prog w = .ok (.slice (some ⟨w.heap.size, 0, none⟩) s.size (grownCap w s.size 0 5)) (Lib.bytesWorld w 5 s) :=
  Lib.run_convert_string_bytes w 9 29 5 s Tryz.underlying9 Tryz.underlying29 Tryz.underlying5
theorem conv_str (w : World) (s : ByteArray) (l : List UInt8) (he : s = ⟨l.toArray⟩) (hl : l.length ≤ 1099511627776) : ∃ q c W, (convert 9 29 (.string s)).run Tryz.prog w = .ok (.slice q l.length c) W ∧
    By W (.slice q l.length c) l ∧ Below w.heap.size w W := by
  subst he
  refine ⟨_, _, _, conv_back w ⟨l.toArray⟩, ?_, ⟨rfl, rfl, rfl, by rw [Lib.bytesWorld_size]; omega, fun k hk => Lib.bytesWorld_at_old w _ _ k hk⟩⟩
  refine By.of rfl (grownCap_ge w _ _ _) (grownCap_le_maxLen w _ 0 _ (by unfold maxLen; show l.length ≤ _; omega)) (fun h => by cases h) ?_
  exact fun _ => ⟨w.heap.size, 0, rfl, fun i hi => by
    rw [numsL_getD _ i hi, Nat.zero_add]
    exact Lib.bytesWorld_cell w _ ⟨l.toArray⟩ i hi⟩
theorem Trim_by (q : Option Addr) (n c : Nat) (l : List UInt8) (w : World) (h : By w (.slice q n c) l) (hn : n ≤ 1099511627775) :
    Calls Tryz.prog 143 #[.slice q n c] w fun e w' => ∃ q' n' c', e = .returned (.slice q' n' c') ∧ ByN w.heap.size w' q' n' c' (trimB l) ∧ Below w.heap.size w w' := by
  obtain ⟨h1, h2, h3, h4, h5⟩ := h.at
  obtain ⟨f, e, ht⟩ := trims l
  refine (cutTrim_any q n c f e l w h1 hn h2 h5 ht).mono ?_
  rintro e' w' ⟨v', rfl, hr, hb⟩
  rw [← trim_sub l f e ht] at hr
  obtain ⟨q', c', rfl, hby⟩ := byN_row hr
  exact ⟨q', _, c', rfl, hby, hb⟩
theorem At_by (q : Option Addr) (n c : Nat) (l : List UInt8) (b : UInt8) (w : World) (h : By w (.slice q n c) l) (hn : n ≤ 1099511627775) :
    Calls Tryz.prog 85 #[.slice q n c, .int .u8 (b.toNat : Int)] w fun e w' => ∃ q1 n1 c1 q2 n2 c2, e = .returned (.tuple #[.slice q1 n1 c1, .slice q2 n2 c2, .bool (atOk b l)]) ∧
      ByN w.heap.size w' q1 n1 c1 (atFst b l) ∧ ByN w.heap.size w' q2 n2 c2 (atSnd b l) ∧ Below w.heap.size w w' := by
  obtain ⟨h1, h2, h3, h4, h5⟩ := h.at
  refine (At_any q n c l b w h1 hn h2 h4 h5).mono ?_
  rintro e' w' ⟨v1, v2, rfl, r1, r2, hb⟩
  obtain ⟨q1, c1, rfl, y1⟩ := byN_row r1
  obtain ⟨q2, c2, rfl, y2⟩ := byN_row r2
  exact ⟨q1, _, c1, q2, _, c2, rfl, y1, y2, hb⟩
theorem at_lens (b : UInt8) (l : List UInt8) : (atFst b l).length ≤ l.length ∧ (atSnd b l).length ≤ l.length := by
  unfold atFst atSnd
  constructor
  · split <;> simp
    omega
  · split <;> simp
set_option maxRecDepth 100000 in
set_option maxHeartbeats 4000000 in
theorem pair_any (q : Option Addr) (n c : Nat) (l : List UInt8) (w : World) (h : By w (.slice q n c) l) (hn : n ≤ 1099511627775) :
    Calls Tryz.prog 100 #[.slice q n c] w fun e w' => ∃ q1 n1 c1 q2 n2 c2, e = .returned (.tuple #[.slice q1 n1 c1, .slice q2 n2 c2, .bool (atOk 61 l)]) ∧
      ByN w.heap.size w' q1 n1 c1 (trimB (atFst 61 l)) ∧ ByN w.heap.size w' q2 n2 c2 (trimB (atSnd 61 l)) ∧ Below w.heap.size w w' := by
  have con := At_by q n c l 61 w h hn
  have hl := h.at.1
  obtain ⟨k1, k2⟩ := at_lens 61 l
  have HK := Lib.hid (show (atFst 61 l).length ≤ 1099511627775 ∧ (atSnd 61 l).length ≤ 1099511627775 by omega)
  generalize atFst 61 l = x1 at *
  generalize atSnd 61 l = x2 at *
  generalize atOk 61 l = ok at *
  clear h hl k1 k2 hn
  go_enter Tryz.func100, Tryz.ntmps100
  go_wp2_with fail
  refine con.mono ?_
  rintro e w1 ⟨q1, n1, c1, q2, n2, c2, rfl, y1, y2, hb1⟩
  have con := Trim_by q1 n1 c1 x1 w1 y1.1 (by have := y1.1.at.1; have := HK.out.1; omega)
  clear y1
  go_wp2_with fail
  refine con.mono ?_
  rintro e w2 ⟨q3, n3, c3, rfl, z1, hb2⟩
  replace y2 := y2.on hb2
  have con := Trim_by q2 n2 c2 x2 w2 y2.1 (by have := y2.1.at.1; have := HK.out.2; omega)
  have A2 := hb1.trans (hb2.mono hb1.size)
  have HS := Lib.hid (show w.heap.size ≤ w1.heap.size ∧ w.heap.size ≤ w2.heap.size from ⟨hb1.size, A2.size⟩)
  clear y2 hb1 hb2
  go_wp2_with fail
  refine con.mono ?_
  rintro e w3 ⟨q4, n4, c4, rfl, z2, hb3⟩
  go_wp2
  go_ret3
  exact ⟨q3, n3, c3, q4, n4, c4, rfl, ⟨z1.1.on hb3, fun a ha => Nat.le_trans HS.out.1 (z1.2 a ha)⟩, ⟨z2.1, fun a ha => Nat.le_trans HS.out.2 (z2.2 a ha)⟩, A2.trans (hb3.mono A2.size)⟩
def badS : List UInt8 := [34, 44, 59, 92]
theorem val_mid (b : UInt8) (h1 : 33 ≤ b.toNat) (h2 : b.toNat ≤ 126) : valB b = !decide (0 ≤ Lib.indexByte badS b) := by
  have h : ∀ b : UInt8, (33 ≤ b.toNat ∧ b.toNat ≤ 126) → valB b = !decide (0 ≤ Lib.indexByte badS b) := fun b => Ref.all_u8 (p := fun b => (33 ≤ b.toNat ∧ b.toNat ≤ 126) → valB b = !decide (0 ≤ Lib.indexByte badS b)) (by decide +kernel) b
  exact h b ⟨h1, h2⟩
theorem val_low (b : UInt8) (h : b.toNat < 33) : valB b = false := by
  unfold valB
  rw [decide_eq_false (by omega)]
  rfl
theorem val_high (b : UInt8) (h : 126 < b.toNat) : valB b = false := by
  unfold valB
  rw [decide_eq_false (by omega)]
  rfl
theorem all_drop (l : List UInt8) (k : Nat) (h : k < l.length) : (l.drop k).all valB = (valB (l.getD k 0) && (l.drop (k + 1)).all valB) := by
  rw [drop_cons l k h, List.all_cons]
set_option maxRecDepth 100000 in
set_option maxHeartbeats 4000000 in
theorem isValue_any (p : Option Addr) (n c : Nat) (bs : List UInt8) (w : World) (hx : bs.length = n) (hn : n ≤ 140737488355328) (hb : Lib.BytesIn w p n (Lib.numsL bs)) :
    Calls Tryz.prog 102 #[.slice p n c] w fun e w' => e = .returned (.bool (bs.all valB)) ∧ w = w' := by
  go_enter Tryz.func102, Tryz.ntmps102
  go_wp2
  go_loop [7] (fun i => ∃ k : Nat, k ≤ n ∧ i = .int .i64 k ∧ Hid (bs.all valB = (bs.drop k).all valB)) (fun i => n - (intOf i).toNat)
  case atStart => exact ⟨0, Nat.zero_le _, rfl, rfl⟩
  case round =>
    obtain ⟨k, hk, rfl, HR⟩ := hrel
    by_cases hlt : k < n
    · obtain ⟨b, o, rfl, hc⟩ := hb.at (by omega)
      have hck : w.cell? ⟨b, o + k, none⟩ = some (.int .u8 ((bs.getD k 0).toNat : Int)) := by
        rw [← numsL_getD bs k (by omega)]
        exact hc k hlt
      have hd := HR.out.trans (all_drop bs k (by omega))
      clear hc HR hb
      generalize bs.getD k 0 = bk at *
      have hsi := Tryz.strings_IndexByte ⟨#[34, 44, 59, 92]⟩ (bk.toNat : Int) w
      rw [show (bk.toNat : Int).toNat.toUInt8 = bk from by simp] at hsi
      have hsi2 : Calls Tryz.prog 145 #[.string ⟨#[34, 44, 59, 92]⟩, .int .u8 (bk.toNat : Int)] w fun e w' => e = .returned (.int .i64 (Lib.indexByte badS bk)) ∧ w' = w := hsi
      have hb256 : bk.toNat < 256 := UInt8.toNat_lt _
      clear hsi
      by_cases h1 : bk.toNat < 33
      · have d1 : decide ((bk.toNat : Int) < 33) = true := by simp; omega
        have H := Lib.hid (show bs.all valB = false by rw [hd, val_low bk h1]; rfl)
        clear hd hsi2 h1
        go_wp2
        go_ret
        exact ⟨(by rw [H.out]; try rfl), rfl⟩
      have d1 : decide ((bk.toNat : Int) < 33) = false := by simp; omega
      by_cases h2 : 126 < bk.toNat
      · have d2 : decide ((126 : Int) < (bk.toNat : Int)) = true := by simp; omega
        have H := Lib.hid (show bs.all valB = false by rw [hd, val_high bk h2]; rfl)
        clear hd hsi2 h1 h2
        go_wp2
        go_ret
        exact ⟨(by rw [H.out]; try rfl), rfl⟩
      have d2 : decide ((126 : Int) < (bk.toNat : Int)) = false := by simp; omega
      have hv := val_mid bk (by omega) (by omega)
      generalize Lib.indexByte badS bk = ix at *
      by_cases h3 : 0 ≤ ix
      · have d3 : decide ((0 : Int) ≤ ix) = true := decide_eq_true h3
        have H := Lib.hid (show bs.all valB = false by rw [hd, hv, d3]; rfl)
        clear hd h1 h2 h3 hv
        go_wp2_with (go_at_call 145; refine hsi2.mono ?_; rintro e w' ⟨rfl, hw⟩; subst hw)
        go_ret
        exact ⟨(by rw [H.out]; try rfl), rfl⟩
      · have d3 : decide ((0 : Int) ≤ ix) = false := decide_eq_false h3
        have H := Lib.hid (show bs.all valB = (bs.drop (k + 1)).all valB by rw [hd, hv, d3]; rfl)
        clear hd h1 h2 h3 hv
        go_wp2_with (go_at_call 145; refine hsi2.mono ?_; rintro e w' ⟨rfl, hw⟩; subst hw)
        go_round
        case rel => exact ⟨k + 1, by omega, by go_num, H⟩
        case measure => simp [intOf]; omega
    · obtain rfl : k = n := by omega
      have H := Lib.hid (show bs.all valB = true by rw [HR.out, List.drop_of_length_le (by omega)]; rfl)
      clear hb HR
      go_wp2
      go_ret
      exact ⟨(by rw [H.out]; try rfl), rfl⟩
theorem two_box (w : World) (cs us : Array Value) : ∃ W, (w.alloc (.cells cs 42)).alloc (.cells us 33) = W ∧ CB w.heap.size cs W ∧ UB (w.heap.size + 1) us W ∧ Below w.heap.size w W := by
  refine ⟨_, rfl, (CB.new w cs).on (below_alloc _), ?_, ((Below.refl _ w).alloc (Nat.le_refl _) _).alloc (by simp) _⟩
  have := UB.new (w.alloc (.cells cs 42)) us
  rw [World.size_alloc] at this
  exact this
set_option maxRecDepth 100000 in
set_option maxHeartbeats 4000000 in
theorem covers_any (v a : Value) (c : Ck) (u : U) (w : World) (h : CkIs w v c) (hs : c.dom.length ≤ 1099511627775) (ha : UrlIn w a u) (hl : u.host.length ≤ 1099511627775) :
    Calls Tryz.prog 107 #[v, a] w fun e w' => e = .returned (.bool (Host.withinB u.host c.dom)) ∧ Below w.heap.size w w' := by
  obtain ⟨q1, n1, c1, q2, n2, c2, q3, n3, c3, rfl, h1, h2, h3⟩ := h
  obtain ⟨p0, m0, d0, p1, m1, d1, p3, m3, d3, p4, m4, d4, p5, m5, d5, rfl, g0, g1, g3, g4, g5⟩ := ha
  obtain ⟨W, hW, bC, bU, A1⟩ := two_box w #[.slice q1 n1 c1, .slice q2 n2 c2, .slice q3 n3 c3, .string ⟨c.dom.toArray⟩, .int .i64 c.age, .bool c.secure] #[.slice p0 m0 d0, .slice p1 m1 d1, .int .i64 u.port, .slice p3 m3 d3, .slice p4 m4 d4, .slice p5 m5 d5, .bool u.hq, .bool u.hf]
  have x3 := bC.box 3 _ rfl
  have y1 := bU.box 1 _ rfl
  obtain ⟨qc, cc, W2, k1, hd, hb2⟩ := conv_str W ⟨c.dom.toArray⟩ c.dom rfl (by omega)
  have A2 := A1.trans (hb2.mono A1.size)
  have gh := g1.on A2
  have con := Host.Within_any p1 qc m1 d1 c.dom.length cc u.host c.dom W2 gh.at.1 rfl (by have := gh.at.1; omega) gh.at.2.2.2.2 hd.at.2.2.2.2
  have HW := Lib.hid hW
  generalize Host.withinB u.host c.dom = wb at *
  clear bC bU hW h1 h2 h3 g0 g1 g3 g4 g5 gh hd hb2 A1 hs hl
  go_enter Tryz.func107, Tryz.ntmps107
  go_wp2_with fail
  rw [HW.out]
  go_wp2_with fail
  (try rw [k1])
  go_wp2_with fail
  refine con.mono ?_
  rintro e W3 ⟨rfl, hb⟩
  go_wp2
  go_ret
  exact ⟨rfl, A2.trans (hb.mono A2.size)⟩
def safeB (c : Ck) (scheme : List UInt8) : Bool := !c.secure || decide (scheme = httpsS)
set_option maxRecDepth 100000 in
set_option maxHeartbeats 4000000 in
theorem safe_any (v a : Value) (c : Ck) (u : U) (w : World) (h : CkIs w v c) (ha : UrlIn w a u) :
    Calls Tryz.prog 108 #[v, a] w fun e w' => e = .returned (.bool (safeB c u.scheme)) ∧ Below w.heap.size w w' := by
  obtain ⟨q1, n1, c1, q2, n2, c2, q3, n3, c3, rfl, h1, h2, h3⟩ := h
  obtain ⟨p0, m0, d0, p1, m1, d1, p3, m3, d3, p4, m4, d4, p5, m5, d5, rfl, g0, g1, g3, g4, g5⟩ := ha
  obtain ⟨W, hW, bC, bU, A1⟩ := two_box w #[.slice q1 n1 c1, .slice q2 n2 c2, .slice q3 n3 c3, .string ⟨c.dom.toArray⟩, .int .i64 c.age, .bool c.secure] #[.slice p0 m0 d0, .slice p1 m1 d1, .int .i64 u.port, .slice p3 m3 d3, .slice p4 m4 d4, .slice p5 m5 d5, .bool u.hq, .bool u.hf]
  have x5 := bC.box 5 _ rfl
  have y0 := bU.box 0 _ rfl
  have kc := conv_by (g0.on A1)
  have ks : (u.scheme == [104, 116, 116, 112, 115]) = decide (u.scheme = httpsS) := by rw [Bool.eq_iff_iff, beq_iff_eq, decide_eq_true_iff]; rfl
  have HS := Lib.hid (show safeB c u.scheme = (!c.secure || decide (u.scheme = httpsS)) from rfl)
  have HW := Lib.hid hW
  generalize safeB c u.scheme = sb at *
  clear bC bU hW h1 h2 h3 g0 g1 g3 g4 g5
  cases hse : c.secure with
  | true =>
    rw [hse] at x5 HS HW
    have HS2 := Lib.hid (show sb = decide (u.scheme = httpsS) by rw [HS.out]; rfl)
    clear HS hse
    go_enter Tryz.func108, Tryz.ntmps108
    go_wp2_with fail
    rw [HW.out]
    go_wp2_with fail
    (try rw [kc])
    go_wp2
    go_ret
    exact ⟨(by rw [HS2.out]; try rfl), A1⟩
  | false =>
    rw [hse] at x5 HS HW
    have HS2 := Lib.hid (show sb = true by rw [HS.out]; rfl)
    clear HS hse
    go_enter Tryz.func108, Tryz.ntmps108
    go_wp2_with fail
    rw [HW.out]
    go_wp2
    go_ret
    exact ⟨(by rw [HS2.out]; try rfl), A1⟩
end Go.Proofs.YtniehbjoogaccaaGreatDoor.Ck
namespace Go.Proofs.YtniehbjoogaccaaGreatDoor.Ck
open Go.RowKit Go.Shelf Url Hdr
attribute [local go_sem] Oper.semAt_some
set_option linter.unusedVariables false
theorem str_byV (x : List UInt8) : Lib.strCells ⟨x.toArray⟩ = byV x := by
  unfold Lib.strCells byV Lib.numsL
  rw [List.map_map]
  rfl
theorem run_append_str (ty : TypeId) (base : Nat) (v : Value) (n : Nat) (xs : List Value) (w : World) (hown : w.ownsRow base 5 1 v n xs) (l : List UInt8) (h47 : n + l.length ≤ 140737488355328) (hbase : base ≤ w.heap.size) :
    ∃ v' w', (Builtin.append_ #[29, 9] ty #[v, .string ⟨l.toArray⟩]).run Tryz.prog w = .ok v' w' ∧ w'.ownsRow base 5 1 v' (n + l.length) (xs ++ byV l) ∧ w.grownBy w' v.ownBlock := by
  obtain ⟨i0, hi0, hz0, hz1, hz2⟩ := info_parts info_u8
  obtain ⟨v', w', hr, h2, h3, _⟩ := Lib.run_append_own_string (P := Tryz.prog) w base 29 9 ty 5 i0 Tryz.underlying29 Tryz.underlying9 hi0 hz0 hz1 hz2 v n xs hown ⟨l.toArray⟩ (by unfold maxLen; show n + l.length ≤ _; omega) (by show n + l.length ≤ _; omega) hbase
  rw [str_byV] at h2
  exact ⟨v', w', hr, h2, h3⟩
theorem wp_append_str {o : Oper} {a : Act} {w : World} {K : Act → World → Prop} {Q : Exit → Act → World → Prop} (s x : Operand)
    (ho : o.op = .call { callee := .builtin .append, args := #[s, x], argTypes := #[29, 9] })
    (base : Nat) (v : Value) (n : Nat) (xs : List Value) (hs : a.eval s = v) (hown : w.ownsRow base 5 1 v n xs) (l : List UInt8) (hx : a.eval x = .string ⟨l.toArray⟩) (h47 : n + l.length ≤ 140737488355328) (hbase : base ≤ w.heap.size)
    (h : ∀ v' w', w'.ownsRow base 5 1 v' (n + l.length) (xs ++ byV l) → w.grownBy w' v.ownBlock → K (a.put o.dst v') w') : o.wp Tryz.prog a w K Q := by
  obtain ⟨v', w', hr, h1, h2⟩ := run_append_str o.type base v n xs w hown l h47 hbase
  exact Lib.wp_append_run (P := Tryz.prog) w s x 29 9 ho v _ hs hx v' w' hr (h v' w' h1 h2)
theorem wpList_append_str {ops : Array Oper} {rest : List Oper} {o : Oper} {a : Act} {w : World} {Q : Exit → Act → World → Prop} (hgd : o.guard = none) (s x : Operand)
    (ho : o.op = .call { callee := .builtin .append, args := #[s, x], argTypes := #[29, 9] })
    (base : Nat) (v : Value) (n : Nat) (xs : List Value) (hs : a.eval s = v) (hown : w.ownsRow base 5 1 v n xs) (l : List UInt8) (hx : a.eval x = .string ⟨l.toArray⟩) (h47 : n + l.length ≤ 140737488355328) (hbase : base ≤ w.heap.size)
    (h : ∀ v' w', w'.ownsRow base 5 1 v' (n + l.length) (xs ++ byV l) → w.grownBy w' v.ownBlock → wpList Tryz.prog ops Q rest (a.put o.dst v') w') : wpList Tryz.prog ops Q (o :: rest) a w := by
  obtain ⟨v', w', hr, h1, h2⟩ := run_append_str o.type base v n xs w hown l h47 hbase
  exact Lib.wpList_append_run (P := Tryz.prog) w hgd s x 29 9 ho v _ hs hx v' w' hr (h v' w' h1 h2)
theorem AppendAge_any (B n p : Nat) (v : Value) (xs : List Value) (w : World) (hown : w.ownsRow B 5 1 v n xs) (hp : p ≤ 1073741824) (hB : B ≤ w.heap.size) (hn : n ≤ 1048577) (ht : Lib.TabBelow Tryz.prog B w "internal/strconv.uint64pow10" .u64 Lib.pow10Tab) :
    Calls Tryz.prog 81 #[v, .int .i64 (p : Int), .int .i64 10] w fun e w' => ∃ v', e = .returned v' ∧ w'.ownsRow B 5 1 v' (n + (digL p).length) (xs ++ byV (digL p)) ∧ Below B w w' := by
  refine (Tryz.strconv_AppendInt_10 B n p (by omega) (by omega) v xs w hown hB (by omega) ht).mono ?_
  rintro e w' ⟨v', he, hr, hb, _⟩
  rw [(itoa_dig p).1, (itoa_dig p).2] at hr
  exact ⟨v', he, hr, hb⟩
structure TxI (w : World) (cs : Array Value) (T : List UInt8) (s : Value) (X : World) : Prop where
  row : X.ownsRow (w.heap.size + 1) 5 1 s T.length (byV T)
  box : CB w.heap.size cs X
  bel : Below w.heap.size w X
  big : w.heap.size + 1 ≤ X.heap.size
theorem TxI.grow {w : World} {cs : Array Value} {T l : List UInt8} {s v' : Value} {X Y Z : World} (h : TxI w cs T s X) (hXY : Below (w.heap.size + 1) X Y) (hown : Y.ownsRow (w.heap.size + 1) 5 1 s T.length (byV T)) (hr : Z.ownsRow (w.heap.size + 1) 5 1 v' (T.length + l.length) (byV T ++ byV l)) (hg : Y.grownBy Z s.ownBlock) : TxI w cs (T ++ l) v' Z := by
  have hb : Below (w.heap.size + 1) X Z := hXY.trans (grown_below hown hg (Nat.le_trans h.big hXY.size))
  refine ⟨by rw [List.length_append, byV_app]; exact hr, (hb.block _ (Nat.lt_succ_self _)).trans h.box, h.bel.trans (hb.mono (Nat.le_succ _)), Nat.le_trans h.big hb.size⟩
theorem TxI.below {w : World} {cs : Array Value} {T l : List UInt8} {s v' : Value} {X Z : World} (h : TxI w cs T s X) (hb : Below (w.heap.size + 1) X Z) (hr : Z.ownsRow (w.heap.size + 1) 5 1 v' (T.length + l.length) (byV T ++ byV l)) : TxI w cs (T ++ l) v' Z := by
  refine ⟨by rw [List.length_append, byV_app]; exact hr, (hb.block _ (Nat.lt_succ_self _)).trans h.box, h.bel.trans (hb.mono (Nat.le_succ _)), Nat.le_trans h.big hb.size⟩
theorem TxI.drew {w : World} {cs : Array Value} {T : List UInt8} {s : Value} {X : World} (h : TxI w cs T s X) : TxI w cs T s X.drew := ⟨h.row, h.box, h.bel.drew, h.big⟩
theorem TxI.nil {w : World} {cs : Array Value} {T : List UInt8} {s : Value} {X : World} (h : TxI w cs T s X) : TxI w cs (T ++ []) s X := by rw [List.append_nil]; exact h
set_option maxRecDepth 100000 in
set_option maxHeartbeats 16000000 in
theorem Text_any (v : Value) (c : Ck) (w : World) (h : CkIs w v c) (ho : Ok c) (hs : Small 4096 c) (hG : Gl w) :
    Calls Tryz.prog 33 #[v] w (BysOut (textC c) w) := by
  obtain ⟨q1, n1, c1, q2, n2, c2, q3, n3, c3, rfl, h1, h2, h3⟩ := h
  obtain ⟨sA, sB, sC, sD⟩ := hs
  have a1 := ho.age1
  have a2 := ho.age2
  have HT := Lib.hid (text_is c)
  obtain ⟨cs, hcs⟩ : ∃ cs : Array Value, #[.slice q1 n1 c1, .slice q2 n2 c2, .slice q3 n3 c3, .string ⟨c.dom.toArray⟩, .int .i64 c.age, .bool c.secure] = cs := ⟨_, rfl⟩
  obtain ⟨W, hW⟩ : ∃ W, w.alloc (.cells #[.slice q1 n1 c1, .slice q2 n2 c2, .slice q3 n3 c3, .string ⟨c.dom.toArray⟩, .int .i64 c.age, .bool c.secure] 42) = W := ⟨_, rfl⟩
  have hz : W.heap.size = w.heap.size + 1 := by rw [← hW]; simp
  have A1 : Below w.heap.size w W := hW ▸ below_alloc _
  have bC : CB w.heap.size cs W := hW ▸ hcs ▸ CB.new w _
  have g1 := h1.on A1
  have k0 : cs[0]? = some (.slice q1 n1 c1) := by rw [← hcs]; rfl
  have k1 : cs[1]? = some (.slice q2 n2 c2) := by rw [← hcs]; rfl
  have k2 : cs[2]? = some (.slice q3 n3 c3) := by rw [← hcs]; rfl
  have k3 : cs[3]? = some (.string ⟨c.dom.toArray⟩) := by rw [← hcs]; rfl
  have k4 : cs[4]? = some (.int .i64 c.age) := by rw [← hcs]; rfl
  have k5 : cs[5]? = some (.bool c.secure) := by rw [← hcs]; rfl
  have x0 := bC.box 0 _ k0
  have con := Clone_any q1 n1 c1 c.name W g1.at.1 (by have := g1.at.1; omega) g1.at.2.2.2.2
  have HW := Lib.hid hW
  have HG := Lib.hid hG
  have H2 := Lib.hid h2
  have H3 := Lib.hid h3
  have HN1 := Lib.hid h1.at.1
  have l3 := h3.at.1
  rw [hz] at con
  clear hW hcs hG h1 h2 h3 g1 ho
  go_enter Tryz.func33, Tryz.ntmps33
  go_wp2_with fail
  rw [HW.out]
  go_wp2_with fail
  refine con.mono ?_
  rintro e W1 ⟨v1, rfl, r1, hb1⟩
  have t1 : TxI w cs c.name v1 W1 := ⟨by have := HN1.out; rw [this]; exact r1, (hb1.block _ (by omega)).trans bC, A1.trans (hb1.mono (Nat.le_succ _)), by have := hb1.size; omega⟩
  have hbl := (Below.refl W1.heap.size W1).alloc (Nat.le_refl _) (.cells #[.int .u8 61] 5)
  have t1g := t1.big
  have x1 := (t1.box.on hbl).box 1 _ k1
  clear con x0 bC r1 hb1 A1
  go_upto_if 16 with (first
    | (at_builtin; refine wpList_append_by (w := W1.alloc (.cells #[.int .u8 61] 5)) rfl _ _ rfl (w.heap.size + 1) v1 c.name.length (byV c.name) rfl (t1.row.alloc _) _ [61] rfl (by_lit W1 #[.int .u8 61] [61] (0, 0) 1 rfl rfl (by decide)) (by simp; omega) (by simp; omega) ?_; intro v2 W2 r2 gr2; have t2 := t1.grow (hbl.mono t1g) (t1.row.alloc _) r2 gr2; have y1 := t2.box.box 1 _ k1; have t2g := t2.big)
    | (at_builtin; refine wpList_append_by (w := W2) rfl _ _ rfl (w.heap.size + 1) v2 (c.name ++ [61]).length (byV (c.name ++ [61])) rfl t2.row _ c.value rfl (H2.out.on t2.bel) (by simp; omega) t2g ?_; intro v3 W3 r3 gr3; have t3 := t2.grow (Below.refl _ _) t2.row r3 gr3; have y2 := t3.box.box 2 _ k2))
  clear x1 y1 t1 t2 hbl r2 gr2 r3 gr3 t1g t2g
  obtain ⟨T3, hT3⟩ : ∃ T, (c.name ++ [61]) ++ c.value = T := ⟨_, rfl⟩
  have b3 : T3.length ≤ 8193 := by rw [← hT3]; simp; omega
  rw [hT3] at t3 HT
  clear hT3 y2
  obtain ⟨pb, hpb⟩ : ∃ b, decide (0 < n3) = b := ⟨_, rfl⟩
  rw [hpb]
  go_cut [3] from 16 to 21 (fun s3 X => TxI w cs (T3 ++ pathT c) s3 X)
  case first =>
    cases pb with
    | false =>
      have hz : c.path = [] := List.eq_nil_of_length_eq_zero (by have := of_decide_eq_false hpb; omega)
      have HP := Lib.hid (show pathT c = [] by unfold pathT; rw [if_pos hz])
      clear hz hpb
      go_wp2_with fail
      go_meet
      rw [HP.out]
      exact t3.nil
    | true =>
      have hz : ¬ c.path = [] := fun e => by have := of_decide_eq_true hpb; rw [e] at l3; simp at l3; omega
      have HP := Lib.hid (show T3 ++ pathT c = T3 ++ [59, 32, 80, 97, 116, 104, 61] ++ c.path by unfold pathT; rw [if_neg hz, List.append_assoc])
      clear hz hpb
      go_wp2_with fail
      refine pregion_any (fun X => CB w.heap.size cs X) (by kernel_rfl) ?_
      have t4 := t3.drew
      clear t3
      generalize W3.drew = X4 at *
      refine wpAnyH_take (i := 0) (v := (v3)) rfl (by kernel_rfl) (by kernel_rfl) (by kernel_rfl) (fun _ _ _ h => h) (.inl ⟨by kernel_rfl, ?_⟩) t4.box ?_
      · rintro w h; go_simp <;> omega
      refine plist #[true, false, false, false, false, false] (by kernel_rfl) ?_
      refine wpAnyH_take (i := 2) (v := (.pointer (some ⟨w.heap.size, 2, none⟩))) rfl (by kernel_rfl) (by kernel_rfl) (by kernel_rfl) (fun _ _ _ h => h) (.inl ⟨by kernel_rfl, ?_⟩) t4.box ?_
      · rintro w h; go_simp <;> omega
      refine plist #[true, false, true, false, false, false] (by kernel_rfl) ?_
      refine wpAnyH_take (i := 3) (v := (.slice q3 n3 c3)) rfl (by kernel_rfl) (by kernel_rfl) (by kernel_rfl) (fun _ _ _ h => h) (.inl ⟨by kernel_rfl, ?_⟩) t4.box ?_
      · rintro w h; have x2 := h.box 2 _ k2; go_simp <;> omega
      refine plist #[true, false, true, true, false, false] (by kernel_rfl) ?_
      refine pone 1 (by kernel_rfl) rfl fun K hK => ?_
      refine wp_append_str (Operand.tmp 17) _ rfl (w.heap.size + 1) v3 T3.length (byV T3) rfl t4.row [59, 32, 80, 97, 116, 104, 61] rfl (by simp; omega) t4.big ?_
      intro v5 W5 r5 gr5
      have t5 := t4.grow (Below.refl _ _) t4.row r5 gr5
      clear r5 gr5 t4
      refine hK _ _ t5.box ?_
      clear hK K
      refine plist #[true, true, true, true, false, false] (by kernel_rfl) ?_
      refine pone 4 (by kernel_rfl) rfl fun K hK => ?_
      refine wp_append_by (Operand.tmp 18) (Operand.tmp 20) rfl (w.heap.size + 1) v5 _ _ rfl t5.row _ c.path rfl (H3.out.on t5.bel) (by simp; omega) t5.big ?_
      intro v6 W6 r6 gr6
      have t6 := t5.grow (Below.refl _ _) t5.row r6 gr6
      clear r6 gr6 t5
      refine hK _ _ t6.box ?_
      clear hK K
      refine plist #[true, true, true, true, true, false] (by kernel_rfl) ?_
      refine pone 5 (by kernel_rfl) rfl fun K hK => ?_
      go_simp
      refine hK _ _ t6.box ?_
      clear hK K
      refine pdone (by kernel_rfl) ?_ _
      go_wp2_with fail
      go_meet
      rw [HP.out]
      exact t6
  case rest =>
    have t4 := hcut
    clear hcut t3 l3 hpb
    obtain ⟨T4, hT4⟩ : ∃ T, T3 ++ pathT c = T := ⟨_, rfl⟩
    have b4 : T4.length ≤ 12296 := by
      rw [← hT4, List.length_append]
      have : (pathT c).length ≤ 4103 := by
        unfold pathT
        split
        · simp
        · simp; omega
      omega
    rw [hT4] at t4 HT
    clear hT4 b3
    generalize wc = X4 at *
    generalize u3 = v4 at *
    have x3 := t4.box.box 3 _ k3
    go_upto_if 24 with fail
    clear x3
    obtain ⟨pd, hpd⟩ : ∃ b, (!c.dom.isEmpty) = b := ⟨_, rfl⟩
    rw [hpd]
    go_cut [3] from 24 to 29 (fun s3 X => TxI w cs (T4 ++ domT c) s3 X)
    case first =>
      cases pd with
      | false =>
        have hz : c.dom = [] := by simpa using hpd
        have HP := Lib.hid (show domT c = [] by unfold domT; rw [if_pos hz])
        clear hz hpd
        go_wp2_with fail
        go_meet
        rw [HP.out]
        exact t4.nil
      | true =>
        have hz : ¬ c.dom = [] := by simpa using hpd
        have HP := Lib.hid (show T4 ++ domT c = T4 ++ [59, 32, 68, 111, 109, 97, 105, 110, 61] ++ c.dom by unfold domT; rw [if_neg hz, List.append_assoc])
        clear hz hpd
        go_wp2_with fail
        refine pregion_any (fun X => CB w.heap.size cs X) (by kernel_rfl) ?_
        have t5 := t4.drew
        clear t4
        generalize X4.drew = X5 at *
        refine wpAnyH_take (i := 0) (v := (v4)) rfl (by kernel_rfl) (by kernel_rfl) (by kernel_rfl) (fun _ _ _ h => h) (.inl ⟨by kernel_rfl, ?_⟩) t5.box ?_
        · rintro w h; go_simp <;> omega
        refine plist #[true, false, false, false, false, false] (by kernel_rfl) ?_
        refine wpAnyH_take (i := 2) (v := (.pointer (some ⟨w.heap.size, 3, none⟩))) rfl (by kernel_rfl) (by kernel_rfl) (by kernel_rfl) (fun _ _ _ h => h) (.inl ⟨by kernel_rfl, ?_⟩) t5.box ?_
        · rintro w h; go_simp <;> omega
        refine plist #[true, false, true, false, false, false] (by kernel_rfl) ?_
        refine wpAnyH_take (i := 3) (v := (.string ⟨c.dom.toArray⟩)) rfl (by kernel_rfl) (by kernel_rfl) (by kernel_rfl) (fun _ _ _ h => h) (.inl ⟨by kernel_rfl, ?_⟩) t5.box ?_
        · rintro w h; have x3 := h.box 3 _ k3; go_simp <;> omega
        refine plist #[true, false, true, true, false, false] (by kernel_rfl) ?_
        refine pone 1 (by kernel_rfl) rfl fun K hK => ?_
        refine wp_append_str (Operand.tmp 25) _ rfl (w.heap.size + 1) v4 T4.length (byV T4) rfl t5.row [59, 32, 68, 111, 109, 97, 105, 110, 61] rfl (by simp; omega) t5.big ?_
        intro v6 W6 r6 gr6
        have t6 := t5.grow (Below.refl _ _) t5.row r6 gr6
        clear r6 gr6 t5
        refine hK _ _ t6.box ?_
        clear hK K
        refine plist #[true, true, true, true, false, false] (by kernel_rfl) ?_
        refine pone 4 (by kernel_rfl) rfl fun K hK => ?_
        refine wp_append_str (Operand.tmp 26) (Operand.tmp 28) rfl (w.heap.size + 1) v6 _ _ rfl t6.row c.dom rfl (by simp; omega) t6.big ?_
        intro v7 W7 r7 gr7
        have t7 := t6.grow (Below.refl _ _) t6.row r7 gr7
        clear r7 gr7 t6
        refine hK _ _ t7.box ?_
        clear hK K
        refine plist #[true, true, true, true, true, false] (by kernel_rfl) ?_
        refine pone 5 (by kernel_rfl) rfl fun K hK => ?_
        go_simp
        refine hK _ _ t7.box ?_
        clear hK K
        refine pdone (by kernel_rfl) ?_ _
        go_wp2_with fail
        go_meet
        rw [HP.out]
        exact t7
    case rest =>
      have t5 := hcut
      clear hcut t4 hpd
      obtain ⟨T5, hT5⟩ : ∃ T, T4 ++ domT c = T := ⟨_, rfl⟩
      have b5 : T5.length ≤ 16401 := by
        rw [← hT5, List.length_append]
        have : (domT c).length ≤ 4105 := by
          unfold domT
          split
          · simp
          · simp; omega
        omega
      rw [hT5] at t5 HT
      clear hT5 b4
      generalize wc = X5 at *
      generalize u3 = v5 at *
      have x4 := t5.box.box 4 _ k4
      go_upto_if 32 with fail
      clear x4
      obtain ⟨pa, hpa⟩ : ∃ b, decide (0 ≤ c.age) = b := ⟨_, rfl⟩
      rw [hpa]
      go_cut [3] from 32 to 37 (fun s3 X => TxI w cs (T5 ++ ageT c) s3 X)
      case first =>
        cases pa with
        | false =>
          have hz : c.age < 0 := by have := of_decide_eq_false hpa; omega
          have HP := Lib.hid (show ageT c = [] by unfold ageT; rw [if_pos hz])
          clear hz hpa a1 a2
          go_wp2_with fail
          go_meet
          rw [HP.out]
          exact t5.nil
        | true =>
          have hz : ¬ c.age < 0 := by have := of_decide_eq_true hpa; omega
          obtain ⟨m, hm⟩ : ∃ m : Nat, c.age = (m : Int) := ⟨c.age.toNat, by omega⟩
          have HP := Lib.hid (show T5 ++ ageT c = T5 ++ [59, 32, 77, 97, 120, 45, 65, 103, 101, 61] ++ digL m by unfold ageT; rw [if_neg hz, hm, List.append_assoc]; rfl)
          have hm2 : m ≤ 1073741824 := by omega
          have k4' : cs[4]? = some (.int .i64 (m : Int)) := by rw [k4, hm]
          clear hz hpa a1 a2 hm
          go_wp2_with fail
          refine pregion_any (fun X => CB w.heap.size cs X) (by kernel_rfl) ?_
          have t6 := t5.drew
          clear t5
          generalize X5.drew = X6 at *
          refine wpAnyH_take (i := 0) (v := (v5)) rfl (by kernel_rfl) (by kernel_rfl) (by kernel_rfl) (fun _ _ _ h => h) (.inl ⟨by kernel_rfl, ?_⟩) t6.box ?_
          · rintro w h; go_simp <;> omega
          refine plist #[true, false, false, false, false, false] (by kernel_rfl) ?_
          refine wpAnyH_take (i := 2) (v := (.pointer (some ⟨w.heap.size, 4, none⟩))) rfl (by kernel_rfl) (by kernel_rfl) (by kernel_rfl) (fun _ _ _ h => h) (.inl ⟨by kernel_rfl, ?_⟩) t6.box ?_
          · rintro w h; go_simp <;> omega
          refine plist #[true, false, true, false, false, false] (by kernel_rfl) ?_
          refine wpAnyH_take (i := 3) (v := (.int .i64 (m : Int))) rfl (by kernel_rfl) (by kernel_rfl) (by kernel_rfl) (fun _ _ _ h => h) (.inl ⟨by kernel_rfl, ?_⟩) t6.box ?_
          · rintro w h; have x4 := h.box 4 _ k4'; go_simp <;> omega
          refine plist #[true, false, true, true, false, false] (by kernel_rfl) ?_
          refine pone 1 (by kernel_rfl) rfl fun K hK => ?_
          refine wp_append_str (Operand.tmp 33) _ rfl (w.heap.size + 1) v5 T5.length (byV T5) rfl t6.row [59, 32, 77, 97, 120, 45, 65, 103, 101, 61] rfl (by simp; omega) t6.big ?_
          intro v7 W7 r7 gr7
          have t7 := t6.grow (Below.refl _ _) t6.row r7 gr7
          clear r7 gr7 t6
          refine hK _ _ t7.box ?_
          clear hK K
          refine plist #[true, true, true, true, false, false] (by kernel_rfl) ?_
          refine pone 4 (by kernel_rfl) rfl fun K hK => ?_
          go_simp
          refine (AppendAge_any (w.heap.size + 1) _ m v7 _ W7 t7.row hm2 t7.big (by simp; omega) (Gl.tab HG.out t7.bel (Nat.le_succ _))).mono ?_
          rintro e W8 ⟨v8, rfl, r8, hb8⟩
          have t8 := t7.below hb8 r8
          clear r8 hb8 t7
          refine hK _ _ t8.box ?_
          clear hK K
          refine plist #[true, true, true, true, true, false] (by kernel_rfl) ?_
          refine pone 5 (by kernel_rfl) rfl fun K hK => ?_
          go_simp
          refine hK _ _ t8.box ?_
          clear hK K
          refine pdone (by kernel_rfl) ?_ _
          go_wp2_with fail
          go_meet
          rw [HP.out]
          exact t8
      case rest =>
        have t6 := hcut
        clear hcut t5 hpa
        obtain ⟨T6, hT6⟩ : ∃ T, T5 ++ ageT c = T := ⟨_, rfl⟩
        have b6 : T6.length ≤ 16421 := by
          rw [← hT6, List.length_append]
          have : (ageT c).length ≤ 20 := by
            unfold ageT
            split
            · simp
            · have := dig_short 10 c.age.toNat (by omega) (by omega)
              simp; omega
          omega
        rw [hT6] at t6 HT
        clear hT6 b5
        generalize wc = X6 at *
        generalize u3 = v6 at *
        have x5 := t6.box.box 5 _ k5
        cases hse : c.secure with
        | false =>
          rw [hse] at x5
          have HE := Lib.hid (show textC c = T6 by rw [HT.out]; unfold secT; rw [hse]; simp)
          clear hse
          go_wp2
          go_ret
          have hr := By.row t6.row
          obtain ⟨q, cc, rfl⟩ := by_form hr
          rw [HE.out]
          exact ⟨q, _, cc, rfl, hr, t6.bel⟩
        | true =>
          rw [hse] at x5
          have HE := Lib.hid (show textC c = T6 ++ [59, 32, 83, 101, 99, 117, 114, 101] by rw [HT.out]; unfold secT; rw [hse]; simp)
          clear hse
          go_wp2_with (at_builtin; refine wpList_append_str (w := X6) rfl _ _ rfl (w.heap.size + 1) v6 T6.length (byV T6) rfl t6.row [59, 32, 83, 101, 99, 117, 114, 101] rfl (by simp; omega) t6.big ?_; intro v7 W7 r7 gr7)
          have t7 := t6.grow (Below.refl _ _) t6.row r7 gr7
          go_ret
          have hr := By.row t7.row
          obtain ⟨q, cc, rfl⟩ := by_form hr
          rw [HE.out]
          exact ⟨q, _, cc, rfl, hr, t7.bel⟩
end Go.Proofs.YtniehbjoogaccaaGreatDoor.Ck
namespace Go.Proofs.YtniehbjoogaccaaGreatDoor.Ck
open Go.RowKit Go.Shelf Url Hdr
attribute [local go_sem] Oper.semAt_some
set_option linter.unusedVariables false
def attrK (c : Ck) (k x : List UInt8) : Option Ck :=
  if k = pathS then some { c with path := if x.head? = some 47 then x else [] }
  else if k = domS then (if Host.parseE x = 0 then some { c with dom := Ref.lowL x } else none)
  else if k = ageS then (match Ref.numOf 1073741824 x with | some n => some { c with age := n } | none => none)
  else if k = secS then some { c with secure := true } else some c
theorem attr_is (c : Ck) (p : List UInt8) : attr c p = attrK c (keyL p) (txtL p) := rfl
theorem by_keep {S : Nat → Prop} {w w' : World} {q : Option Addr} {n c : Nat} {l : List UInt8} (h : By w (.slice q n c) l) (hk : Keep S w w') (hS : ∀ a, q = some a → 0 < n → S a.block) : By w' (.slice q n c) l := by
  obtain ⟨h1, h2, h3, h4, h5⟩ := h.at
  exact By.of h1 h2 h3 (fun hq => (h4 hq).2) (bytes_keep h5 hk hS)
theorem by_off {w : World} {b : Nat} {q1 q2 q3 : Option Addr} {n1 c1 n2 c2 n3 c3 : Nat} {s : ByteArray} {i : Int} {z : Bool} (hX : CB b #[.slice q1 n1 c1, .slice q2 n2 c2, .slice q3 n3 c3, .string s, .int .i64 i, .bool z] w)
    {q : Option Addr} {n c : Nat} {l : List UInt8} (h : By w (.slice q n c) l) : ∀ a, q = some a → 0 < n → a.block ≠ b := by
  intro a ha h0 e
  obtain ⟨b', o, he, hc⟩ := h.at.2.2.2.2.at h0
  rw [ha] at he
  cases he
  have e : b' = b := e
  subst e
  have h1 := hc 0 h0
  simp only [World.cell?, show w.heap[b']? = _ from hX] at h1
  rcases o with _ | _ | _ | _ | _ | _ | o
  all_goals simp at h1
theorem CB.set {b : Nat} {cs : Array Value} {X : World} (h : CB b cs X) (i : Nat) (v : Value) : CB b (cs.setIfInBounds i v) (X.setCell ⟨b, i, none⟩ v) := by
  obtain ⟨hlt, hk⟩ := Array.getElem?_eq_some_iff.1 h
  show (X.heap.modify b _)[b]? = _
  rw [Array.getElem?_eq_getElem (by rw [Array.size_modify]; exact hlt), Array.getElem_modify_self, hk]
  rfl
theorem head47 (l : List UInt8) : Lib.hasPrefix l [47] = decide (l.head? = some 47) := by
  show List.isPrefixOf [47] l = _
  cases l with
  | nil => rfl
  | cons x r =>
    show ((47 : UInt8) == x && true) = decide (some x = some 47)
    by_cases h : x = 47
    · subst h; rfl
    · rw [decide_eq_false (fun e => h (Option.some.inj e)), beq_eq_false_iff_ne.2 (fun e => h e.symm)]
      rfl
theorem list_eq (k m : List UInt8) : (k == m) = decide (k = m) := by
  rw [Bool.eq_iff_iff, beq_iff_eq, decide_eq_true_iff]
def TakeOut (b : Nat) (q1 : Option Addr) (n1 c1 : Nat) (q2 : Option Addr) (n2 c2 : Nat) (q3 : Option Addr) (n3 : Nat) (qt : Option Addr) (nt : Nat) (r : Option Ck) (w : World) (e : Ending) (w' : World) : Prop :=
  ∃ ok : Bool, e = .returned (.bool ok) ∧ Keep (fun k => k ≠ b) w w' ∧ ((ok = false ∧ r = none) ∨ (ok = true ∧ ∃ (q : Option Addr) (n cc : Nat) (d : Ck), r = some d ∧ CX b q1 n1 c1 q2 n2 c2 q n cc d w' ∧
    ∀ P : Nat → Prop, (∀ a, q3 = some a → 0 < n3 → P a.block) → (∀ a, qt = some a → 0 < nt → P a.block) → ∀ a, q = some a → 0 < n → P a.block))
set_option maxRecDepth 100000 in
set_option maxHeartbeats 8000000 in
theorem take_any (b : Nat) (q1 : Option Addr) (n1 c1 : Nat) (q2 : Option Addr) (n2 c2 : Nat) (q3 : Option Addr) (n3 c3 : Nat) (c : Ck) (qa : Option Addr) (na ca : Nat) (nm : List UInt8) (qt : Option Addr) (nt ct : Nat) (tx : List UInt8) (w : World)
    (hX : CX b q1 n1 c1 q2 n2 c2 q3 n3 c3 c w) (hN : By w (.slice qa na ca) nm) (hT : By w (.slice qt nt ct) tx) (hn : na ≤ 1048576) (hm : nt ≤ 1048576) :
    Calls Tryz.prog 104 #[.pointer (some ⟨b, 0, none⟩), .slice qa na ca, .slice qt nt ct] w fun e w' => TakeOut b q1 n1 c1 q2 n2 c2 q3 n3 qt nt (attrK c (Ref.lowL nm) tx) w e w' := by
  have con := Lower_any qa na ca nm w hN.at.1 (by omega) hN.at.2.2.2.2
  obtain ⟨R, hR⟩ : ∃ R, attrK c (Ref.lowL nm) tx = R := ⟨_, rfl⟩
  rw [hR]
  have HX := Lib.hid hX
  have HT := Lib.hid hT
  have HL := Lib.hid hT.at.1
  clear hX hN hT hn
  go_enter Tryz.func104, Tryz.ntmps104
  go_wp2_with fail
  refine con.mono ?_
  rintro e w1 ⟨v, rfl, hr, hb⟩
  obtain ⟨qk, ck, rfl, hk⟩ := byN_row hr
  have hcv := conv_by hk.1
  rw [show lowL nm = Ref.lowL nm from rfl] at hcv ⊢
  obtain ⟨K, hK⟩ : ∃ K, Ref.lowL nm = K := ⟨_, rfl⟩
  rw [hK] at hcv hR ⊢
  obtain ⟨kl, hkl⟩ : ∃ m, K.length = m := ⟨_, rfl⟩
  rw [hkl] at hcv ⊢
  have X1 := HX.out.on hb
  have T1 := HT.out.on hb
  have kw := (Keep.of_below hb).mono (T := fun k => k ≠ b ∧ k < w.heap.size) (fun k _ h => h.2)
  have KW := Lib.hid (fun (Z : World) (h : Keep (fun k => k ≠ b) w1 Z) => (show Keep (fun k => k ≠ b) w Z from ((Keep.of_below hb).mono (T := fun k => k ≠ b) (fun k h _ => h)).trans h))
  have e1 : (K == [112, 97, 116, 104]) = decide (K = pathS) := list_eq K pathS
  have e2 : (K == [100, 111, 109, 97, 105, 110]) = decide (K = domS) := list_eq K domS
  have e3 : (K == [109, 97, 120, 45, 97, 103, 101]) = decide (K = ageS) := list_eq K ageS
  have e4 : (K == [115, 101, 99, 117, 114, 101]) = decide (K = secS) := list_eq K secS
  have HR := Lib.hid hR
  clear con hr hk hb kw HX HT hK hkl hR
  by_cases hp : K = pathS
  · have HR2 := Lib.hid (show R = some { c with path := if tx.head? = some 47 then tx else [] } by rw [← HR.out]; unfold attrK; rw [if_pos hp])
    rw [decide_eq_true hp] at e1
    clear hp e2 e3 e4 HR
    have z2 := X1.1.box 2 _ rfl
    have f2 := X1.1.frozen 2
    obtain ⟨Y, hY⟩ : ∃ Y, w1.setCell ⟨b, 2, none⟩ (.slice none 0 0) = Y := ⟨_, rfl⟩
    have kY : Keep (fun k => k ≠ b) w1 Y := hY ▸ Keep.setCell _ _ _ (by simp)
    have cY : CB b #[.slice q1 n1 c1, .slice q2 n2 c2, .slice none 0 0, .string ⟨c.dom.toArray⟩, .int .i64 c.age, .bool c.secure] Y := by
      have h := X1.1.set 2 (.slice none 0 0)
      simp only [List.setIfInBounds_toArray, List.set_cons_zero, List.set_cons_succ] at h
      exact hY ▸ h
    have tY := by_keep T1 kY (by_off X1.1 T1)
    obtain ⟨_, _, _, _, _, _, _, _, _, hv, i1, i2, i3⟩ := id X1.2
    cases hv
    have j1 := by_keep i1 kY (by_off X1.1 i1)
    have j2 := by_keep i2 kY (by_off X1.1 i2)
    have hbl : Below Y.heap.size Y (Y.alloc (.cells #[.int .u8 47] 5)) := below_alloc _
    have tA := tY.on hbl
    have con := Tryz.bytes_HasPrefix_all qt (some ⟨Y.heap.size, 0, none⟩) nt ct 1 1 (Lib.numsL tx) (Lib.numsL [47]) (Y.alloc (.cells #[.int .u8 47] 5)) (by rw [Lib.numsL_length]; exact HL.out) rfl tA.at.2.1 tA.at.2.2.2.2 (by_lit Y #[.int .u8 47] [47] (0, 0) 1 rfl rfl (by decide)).at.2.2.2.2
    rw [bytesOf_numsL, bytesOf_numsL, head47] at con
    have kA : Keep (fun k => k ≠ b) w1 (Y.alloc (.cells #[.int .u8 47] 5)) := kY.trans (Keep.alloc _ _ _)
    have cA := cY.on hbl
    have HY := Lib.hid hY
    clear hY i1 i2 i3 X1 T1 kY cY
    go_upto_region 4 with fail
    rw [HY.out]
    clear z2 f2 HY
    by_cases hh : tx.head? = some 47
    · have HR3 := Lib.hid (show R = some { c with path := tx } by rw [HR2.out, if_pos hh])
      rw [decide_eq_true hh] at con
      have y2 := cA.box 2 _ rfl
      have g2 := cA.frozen 2
      obtain ⟨Z, hZ⟩ : ∃ Z, (Y.alloc (.cells #[.int .u8 47] 5)).setCell ⟨b, 2, none⟩ (.slice qt nt ct) = Z := ⟨_, rfl⟩
      have kZ : Keep (fun k => k ≠ b) (Y.alloc (.cells #[.int .u8 47] 5)) Z := hZ ▸ Keep.setCell _ _ _ (by simp)
      have cZ : CB b #[.slice q1 n1 c1, .slice q2 n2 c2, .slice qt nt ct, .string ⟨c.dom.toArray⟩, .int .i64 c.age, .bool c.secure] Z := by
        have h := cA.set 2 (.slice qt nt ct)
        simp only [List.setIfInBounds_toArray, List.set_cons_zero, List.set_cons_succ] at h
        exact hZ ▸ h
      have m1 := by_keep (j1.on hbl) kZ (by_off cA (j1.on hbl))
      have m2 := by_keep (j2.on hbl) kZ (by_off cA (j2.on hbl))
      have m3 := by_keep tA kZ (by_off cA tA)
      have HZ := Lib.hid hZ
      clear hZ hh cA tA tY j1 j2 hbl
      go_wp2_with fail
      refine con.mono ?_
      rintro e w3 ⟨rfl, rfl⟩
      go_wp2
      rw [HZ.out]
      go_ret
      exact ⟨true, rfl, KW.out _ (kA.trans kZ), .inr ⟨rfl, qt, nt, ct, _, HR3.out, ⟨cZ, _, _, _, _, _, _, _, _, _, rfl, m1, m2, m3⟩, fun P _ h => h⟩⟩
    · have HR3 := Lib.hid (show R = some { c with path := [] } by rw [HR2.out, if_neg hh])
      rw [decide_eq_false hh] at con
      have m1 := j1.on hbl
      have m2 := j2.on hbl
      clear hh tA tY j1 j2 hbl
      go_wp2_with fail
      refine con.mono ?_
      rintro e w3 ⟨rfl, rfl⟩
      go_wp2
      go_ret
      exact ⟨true, rfl, KW.out _ kA, .inr ⟨rfl, none, 0, 0, _, HR3.out, ⟨cA, _, _, _, _, _, _, _, _, _, rfl, m1, m2, by_nil _⟩, fun P _ _ a ha => by cases ha⟩⟩
  rw [decide_eq_false hp] at e1
  by_cases hd : K = domS
  · have HR2 := Lib.hid (show R = if Host.parseE tx = 0 then some { c with dom := Ref.lowL tx } else none by rw [← HR.out]; unfold attrK; rw [if_neg hp, if_pos hd])
    rw [decide_eq_true hd] at e2
    clear hp hd e3 e4 HR
    have con := Host.Parse_any qt nt ct tx w1 HL.out (by omega) T1.at.2.2.2.2
    go_wp2_with fail
    refine con.mono ?_
    rintro e w2 ⟨v2, rfl, hr2, hb2⟩
    obtain ⟨qc, cc, rfl, hc⟩ := byN_row hr2
    have hcv2 := conv_by hc.1
    have X2 := X1.on hb2
    have HP := Lib.hid (show (Host.parseE tx = 0 → Host.canL tx = Ref.lowL tx) from fun h => by unfold Host.canL; rw [if_pos h])
    obtain ⟨D, hD⟩ : ∃ D, Host.canL tx = D := ⟨_, rfl⟩
    rw [hD] at hcv2 HP ⊢
    obtain ⟨dl, hdl⟩ : ∃ m, D.length = m := ⟨_, rfl⟩
    rw [hdl] at hcv2 ⊢
    obtain ⟨pe, hpe⟩ : ∃ m, Host.parseE tx = m := ⟨_, rfl⟩
    rw [hpe] at HR2 HP ⊢
    have z3 := X2.1.box 3 _ rfl
    have f3 := X2.1.frozen 3
    obtain ⟨Z, hZ⟩ : ∃ Z, w2.setCell ⟨b, 3, none⟩ (.string ⟨D.toArray⟩) = Z := ⟨_, rfl⟩
    have kZ : Keep (fun k => k ≠ b) w1 Z := ((Keep.of_below hb2).mono (T := fun k => k ≠ b) (fun k h _ => h)).trans (hZ ▸ Keep.setCell _ _ _ (by simp))
    have kZ2 : Keep (fun k => k ≠ b) w2 Z := hZ ▸ Keep.setCell _ _ _ (by simp)
    have cZ : CB b #[.slice q1 n1 c1, .slice q2 n2 c2, .slice q3 n3 c3, .string ⟨D.toArray⟩, .int .i64 c.age, .bool c.secure] Z := by
      have h := X2.1.set 3 (.string ⟨D.toArray⟩)
      simp only [List.setIfInBounds_toArray, List.set_cons_zero, List.set_cons_succ] at h
      exact hZ ▸ h
    obtain ⟨_, _, _, _, _, _, _, _, _, hv, i1, i2, i3⟩ := id X2.2
    cases hv
    have m1 := by_keep i1 kZ2 (by_off X2.1 i1)
    have m2 := by_keep i2 kZ2 (by_off X2.1 i2)
    have m3 := by_keep i3 kZ2 (by_off X2.1 i3)
    have HZ := Lib.hid hZ
    clear con hr2 hc hb2 hD hdl hpe hZ X1 X2 T1 i1 i2 i3 kZ2
    by_cases h0 : pe = 0
    · have HD := Lib.hid (HP.out h0)
      have HR3 := Lib.hid (show R = some { c with dom := D } by rw [HR2.out, if_pos h0, HD.out])
      have e5 : (pe == 0) = true := by rw [beq_iff_eq]; exact h0
      clear h0 HR2 HP
      go_wp2
      rw [HZ.out]
      go_ret
      exact ⟨true, rfl, KW.out _ kZ, .inr ⟨rfl, q3, n3, c3, _, HR3.out, ⟨cZ, _, _, _, _, _, _, _, _, _, rfl, m1, m2, m3⟩, fun P h _ => h⟩⟩
    · have HR3 := Lib.hid (show R = none by rw [HR2.out, if_neg h0])
      have e5 : (pe == 0) = false := by rw [beq_eq_false_iff_ne]; exact h0
      clear h0 HR2 HP
      go_wp2
      rw [HZ.out]
      go_ret
      exact ⟨false, rfl, KW.out _ kZ, .inl ⟨rfl, HR3.out⟩⟩
  rw [decide_eq_false hd] at e2
  by_cases ha : K = ageS
  · have HR2 := Lib.hid (show R = (match Ref.numOf 1073741824 tx with | some n => some { c with age := n } | none => none) by rw [← HR.out]; unfold attrK; rw [if_neg hp, if_neg hd, if_pos ha])
    rw [decide_eq_true ha] at e3
    clear hp hd ha e4 HR
    have con := Number_any qt nt ct tx 1073741824 w1 HL.out (by omega) T1.at.2.2.2.2 (by decide) (by decide)
    rw [numOf_ref] at con
    unfold numV at con
    have z4 := X1.1.box 4 _ rfl
    have f4 := X1.1.frozen 4
    obtain ⟨_, _, _, _, _, _, _, _, _, hv, i1, i2, i3⟩ := id X1.2
    cases hv
    cases hno : Ref.numOf 1073741824 tx with
    | none =>
      rw [hno] at HR2 con
      have HR3 := Lib.hid (show R = none from HR2.out)
      clear hno HR2
      simp only [Option.getD_none, Option.isSome_none] at con
      obtain ⟨Z, hZ⟩ : ∃ Z, w1.setCell ⟨b, 4, none⟩ (.int .i64 0) = Z := ⟨_, rfl⟩
      have kZ : Keep (fun k => k ≠ b) w1 Z := hZ ▸ Keep.setCell _ _ _ (by simp)
      have HZ := Lib.hid hZ
      clear hZ X1 T1 i1 i2 i3
      go_wp2_with fail
      refine con.mono ?_
      rintro e w3 ⟨rfl, rfl⟩
      go_wp2
      rw [HZ.out]
      go_ret
      exact ⟨false, rfl, KW.out _ kZ, .inl ⟨rfl, HR3.out⟩⟩
    | some m =>
      rw [hno] at HR2 con
      have HR3 := Lib.hid (show R = some { c with age := m } from HR2.out)
      clear hno HR2
      simp only [Option.getD_some, Option.isSome_some] at con
      obtain ⟨Z, hZ⟩ : ∃ Z, w1.setCell ⟨b, 4, none⟩ (.int .i64 m) = Z := ⟨_, rfl⟩
      have kZ : Keep (fun k => k ≠ b) w1 Z := hZ ▸ Keep.setCell _ _ _ (by simp)
      have cZ : CB b #[.slice q1 n1 c1, .slice q2 n2 c2, .slice q3 n3 c3, .string ⟨c.dom.toArray⟩, .int .i64 m, .bool c.secure] Z := by
        have h := X1.1.set 4 (.int .i64 m)
        simp only [List.setIfInBounds_toArray, List.set_cons_zero, List.set_cons_succ] at h
        exact hZ ▸ h
      have m1 := by_keep i1 kZ (by_off X1.1 i1)
      have m2 := by_keep i2 kZ (by_off X1.1 i2)
      have m3 := by_keep i3 kZ (by_off X1.1 i3)
      have HZ := Lib.hid hZ
      clear hZ X1 T1 i1 i2 i3
      go_wp2_with fail
      refine con.mono ?_
      rintro e w3 ⟨rfl, rfl⟩
      go_wp2
      rw [HZ.out]
      go_ret
      exact ⟨true, rfl, KW.out _ kZ, .inr ⟨rfl, q3, n3, c3, _, HR3.out, ⟨cZ, _, _, _, _, _, _, _, _, _, rfl, m1, m2, m3⟩, fun P h _ => h⟩⟩
  rw [decide_eq_false ha] at e3
  by_cases hs : K = secS
  · have HR2 := Lib.hid (show R = some { c with secure := true } by rw [← HR.out]; unfold attrK; rw [if_neg hp, if_neg hd, if_neg ha, if_pos hs])
    rw [decide_eq_true hs] at e4
    clear hp hd ha hs HR
    have z5 := X1.1.box 5 _ rfl
    have f5 := X1.1.frozen 5
    obtain ⟨_, _, _, _, _, _, _, _, _, hv, i1, i2, i3⟩ := id X1.2
    cases hv
    obtain ⟨Z, hZ⟩ : ∃ Z, w1.setCell ⟨b, 5, none⟩ (.bool true) = Z := ⟨_, rfl⟩
    have kZ : Keep (fun k => k ≠ b) w1 Z := hZ ▸ Keep.setCell _ _ _ (by simp)
    have cZ : CB b #[.slice q1 n1 c1, .slice q2 n2 c2, .slice q3 n3 c3, .string ⟨c.dom.toArray⟩, .int .i64 c.age, .bool true] Z := by
      have h := X1.1.set 5 (.bool true)
      simp only [List.setIfInBounds_toArray, List.set_cons_zero, List.set_cons_succ] at h
      exact hZ ▸ h
    have m1 := by_keep i1 kZ (by_off X1.1 i1)
    have m2 := by_keep i2 kZ (by_off X1.1 i2)
    have m3 := by_keep i3 kZ (by_off X1.1 i3)
    have HZ := Lib.hid hZ
    clear hZ X1 T1 i1 i2 i3
    go_wp2
    rw [HZ.out]
    go_ret
    exact ⟨true, rfl, KW.out _ kZ, .inr ⟨rfl, q3, n3, c3, _, HR2.out, ⟨cZ, _, _, _, _, _, _, _, _, _, rfl, m1, m2, m3⟩, fun P h _ => h⟩⟩
  · have HR2 := Lib.hid (show R = some c by rw [← HR.out]; unfold attrK; rw [if_neg hp, if_neg hd, if_neg ha, if_neg hs])
    rw [decide_eq_false hs] at e4
    clear hp hd ha hs HR T1
    have kZ : Keep (fun k => k ≠ b) w1 w1 := Keep.refl _ _
    go_wp2
    go_ret
    exact ⟨true, rfl, KW.out _ kZ, .inr ⟨rfl, q3, n3, c3, _, HR2.out, X1, fun P h _ => h⟩⟩
end Go.Proofs.YtniehbjoogaccaaGreatDoor.Ck
namespace Go.Proofs.YtniehbjoogaccaaGreatDoor.Ck
open Go.RowKit Go.Shelf Url Hdr
attribute [local go_sem] Oper.semAt_some
set_option linter.unusedVariables false
def LastOf (l : List UInt8) (b : UInt8) (r : Int) : Prop := (r = -1 ∧ ∀ j, j < l.length → l.getD j 0 ≠ b) ∨ ∃ k : Nat, r = (k : Int) ∧ k < l.length ∧ l.getD k 0 = b ∧ ∀ j, k < j → j < l.length → l.getD j 0 ≠ b
set_option maxRecDepth 100000 in
set_option maxHeartbeats 4000000 in
theorem lastB_any (q : Option Addr) (n c : Nat) (l : List UInt8) (b : UInt8) (w : World) (h : By w (.slice q n c) l) :
    Calls Tryz.prog 188 #[.slice q n c, .int .u8 (b.toNat : Int)] w fun e w' => (∃ r : Int, e = .returned (.int .i64 r) ∧ LastOf l b r) ∧ w = w' := by
  obtain ⟨hl, hnc, hcm, hq, hb⟩ := h.at
  unfold maxLen at hcm
  have hn : (n : Int) - 1 ≤ 9223372036854775807 := by omega
  have HL := Lib.hid hl
  clear h hq hl
  go_enter Tryz.func188, Tryz.ntmps188
  go_wp2
  go_loop [5] (fun i => ∃ (k : Nat) (t : Int), k ≤ n ∧ t = (k : Int) - 1 ∧ i = .int .i64 t ∧ Hid (∀ j, k ≤ j → j < n → l.getD j 0 ≠ b)) (fun i => (intOf i + 1).toNat)
  case atStart => exact ⟨n, (n : Int) - 1, Nat.le_refl _, rfl, by go_num, Lib.hid (fun j h1 h2 => by omega)⟩
  case round =>
    obtain ⟨k, t, hk, ht, rfl, HR⟩ := hrel
    by_cases h0 : 0 < k
    · obtain ⟨m, rfl⟩ : ∃ m, k = m + 1 := ⟨k - 1, by omega⟩
      obtain rfl : t = (m : Int) := by omega
      obtain ⟨b', o, rfl, hc⟩ := hb.at (by omega)
      have hck : w.cell? ⟨b', o + m, none⟩ = some (.int .u8 ((l.getD m 0).toNat : Int)) := by
        rw [← numsL_getD l m (by have := HL.out; omega)]
        exact hc m (by omega)
      have hmn : m < n := by omega
      clear ht h0 hc
      by_cases he : l.getD m 0 = b
      · have H := Lib.hid (show LastOf l b (m : Int) from .inr ⟨m, rfl, by have := HL.out; omega, he, fun j h1 h2 => HR.out j (by omega) (by have := HL.out; omega)⟩)
        rw [he] at hck
        clear HR he hb
        go_wp2
        go_ret
        exact ⟨⟨_, rfl, H.out⟩, rfl⟩
      · have H := Lib.hid (show ∀ j, m ≤ j → j < n → l.getD j 0 ≠ b from fun j h1 h2 => by
          by_cases hj : j = m
          · subst hj; exact he
          · exact HR.out j (by omega) h2)
        have hne : (((l.getD m 0).toNat : Int) == (b.toNat : Int)) = false := by
          rw [beq_eq_false_iff_ne]
          intro h
          exact he (UInt8.toNat_inj.1 (by omega))
        clear HR he
        generalize l.getD m 0 = x at hck hne
        go_wp2
        go_round
        case rel => exact ⟨m, (m : Int) - 1, by omega, rfl, by go_num, H⟩
        case measure => simp [intOf]
    · obtain rfl : k = 0 := by omega
      have d0 : decide ((0 : Int) ≤ t) = false := by simp; omega
      have H := Lib.hid (show LastOf l b (-1) from .inl ⟨rfl, fun j h => HR.out j (by omega) (by have := HL.out; omega)⟩)
      clear HR hb ht
      go_wp2
      go_ret
      exact ⟨⟨_, rfl, H.out⟩, rfl⟩
theorem last_any (q : Option Addr) (n c : Nat) (l : List UInt8) (b : UInt8) (w : World) (h : By w (.slice q n c) l) :
    Calls Tryz.prog 155 #[.slice q n c, .int .u8 (b.toNat : Int)] w fun e w' => (∃ r : Int, e = .returned (.int .i64 r) ∧ LastOf l b r) ∧ w = w' := by
  have con := lastB_any q n c l b w h
  go_enter Tryz.func155, Tryz.ntmps155
  go_wp2_with fail
  refine con.mono ?_
  rintro e w' ⟨⟨r, rfl, hr⟩, rfl⟩
  go_wp2
  go_ret
  exact ⟨⟨r, rfl, hr⟩, rfl⟩
set_option maxRecDepth 100000 in
set_option maxHeartbeats 4000000 in
theorem Home_by (v a : Value) (c : Ck) (u : U) (w : World) (h : CkIs w v c) (ha : UrlIn w a u) (hs : c.path.length ≤ 1099511627775) (hl : u.path.length ≤ 1099511627775) :
    Calls Tryz.prog 116 #[v, a] w (BysOut (homeL c u.path) w) := by
  obtain ⟨q1, n1, c1, q2, n2, c2, q3, n3, c3, rfl, h1, h2, h3⟩ := h
  obtain ⟨p0, pm0, pd0, p1, pm1, pd1, p3, pm3, pd3, p4, pm4, pd4, p5, pm5, pd5, rfl, g0, g1, g3, g4, g5⟩ := ha
  obtain ⟨W, hW, bC, bU, A1⟩ := two_box w #[.slice q1 n1 c1, .slice q2 n2 c2, .slice q3 n3 c3, .string ⟨c.dom.toArray⟩, .int .i64 c.age, .bool c.secure] #[.slice p0 pm0 pd0, .slice p1 pm1 pd1, .int .i64 u.port, .slice p3 pm3 pd3, .slice p4 pm4 pd4, .slice p5 pm5 pd5, .bool u.hq, .bool u.hf]
  have x2 := bC.box 2 _ rfl
  have y3 := bU.box 3 _ rfl
  have k3 := h3.on A1
  have j3 := g3.on A1
  have l3 := k3.at.1
  have HW := Lib.hid hW
  clear bC bU hW h1 h2 h3 g0 g1 g3 g4 g5
  by_cases hp : c.path = []
  · have hz : n3 = 0 := by rw [← l3, hp]; rfl
    subst hz
    have con := last_any p3 pm3 pd3 u.path 47 W j3
    have HL := Lib.hid hl
    have HJ := Lib.hid j3.at.1
    have HH1 := Lib.hid (fun k h1 h2 h3 => home_at c u.path k hp h1 h2 h3)
    have HH2 := Lib.hid (fun h => home_none c u.path hp h)
    clear k3 l3 hp hs hl
    go_enter Tryz.func116, Tryz.ntmps116
    go_wp2_with fail
    rw [HW.out]
    go_wp2_with fail
    refine con.mono ?_
    rintro e w' ⟨⟨r, rfl, hr⟩, rfl⟩
    rcases hr with ⟨rfl, hr⟩ | ⟨k, rfl, hk, h1, h2⟩
    · have HE := Lib.hid (HH2.out hr)
      clear con hr
      go_wp2
      go_ret
      rw [HE.out]
      exact ⟨none, 0, 0, rfl, by_nil _, A1⟩
    · have HE := Lib.hid (HH1.out k hk h1 h2)
      have hkn : k < pm3 := by have := HJ.out; omega
      have d1 : decide ((k : Int) < 0) = false := by simp
      clear con h1 h2 HH1 HH2
      by_cases hk0 : k = 0
      · subst hk0
        have hsl : (Instr.slice 29 (.slice p3 pm3 pd3) none (some (.int .i64 1)) none).run Tryz.prog W = .ok (.slice (subA p3 pd3 0) 1 pd3) W := run_slice_to p3 pm3 pd3 1 W (by have := j3.at.2.1; omega)
        rw [subA_zero] at hsl
        have hmx : max (0 : Int) 1 = 1 := by decide
        have jt := j3.take (k := 1) (by omega)
        have con := Clone_any p3 1 pd3 (u.path.take 1) W jt.at.1 (by omega) jt.at.2.2.2.2
        clear jt hk
        go_wp2_with fail
        refine con.mono ?_
        rintro e w' ⟨v, rfl, hr, hb⟩
        go_wp2
        go_ret
        rw [HE.out]
        have hy := By.row hr
        obtain ⟨q, cc, rfl⟩ := by_form hy
        exact ⟨q, _, cc, rfl, hy, A1.trans (hb.mono A1.size)⟩
      · have hsl := run_slice_to p3 pm3 pd3 k W (by have := j3.at.2.1; omega)
        rw [subA_zero] at hsl
        have jt := j3.take (k := k) (by omega)
        have con := Clone_any p3 k pd3 (u.path.take k) W jt.at.1 (by have := HL.out; have := HJ.out; omega) jt.at.2.2.2.2
        have hmx : max (k : Int) 1 = (k : Int) := by omega
        have hmn : max k 1 = k := by omega
        rw [hmn] at HE
        clear jt hk hmn
        go_wp2_with fail
        refine con.mono ?_
        rintro e w' ⟨v, rfl, hr, hb⟩
        go_wp2
        go_ret
        rw [HE.out]
        have hy := By.row hr
        obtain ⟨q, cc, rfl⟩ := by_form hy
        exact ⟨q, _, cc, rfl, hy, A1.trans (hb.mono A1.size)⟩
  · have hl3 : 0 < n3 := by rw [← l3]; exact List.length_pos_iff.2 hp
    have hn3 : ¬ n3 = 0 := by omega
    have d1 : decide ((0 : Int) < (n3 : Int)) = true := by simp; omega
    have con := Clone_any q3 n3 c3 c.path W l3 (by omega) k3.at.2.2.2.2
    have HE := Lib.hid (home_own c u.path hp)
    clear k3 l3 hp hs hl j3
    go_enter Tryz.func116, Tryz.ntmps116
    go_wp2_with fail
    rw [HW.out]
    go_wp2_with fail
    refine con.mono ?_
    rintro e w' ⟨v, rfl, hr, hb⟩
    go_wp2
    go_ret
    rw [HE.out]
    have hy := By.row hr
    obtain ⟨q, cc, rfl⟩ := by_form hy
    exact ⟨q, _, cc, rfl, hy, A1.trans (hb.mono A1.size)⟩
theorem by_dropC {w : World} {q : Option Addr} {n c k : Nat} {l : List UInt8} (h : By w (.slice q n c) l) (hk : k ≤ n) : By w (.slice (subA q c k) (n - k) (c - k)) (l.drop k) := by
  obtain ⟨h1, _⟩ := h.at
  have := h.sub hk (Nat.le_refl n)
  rw [← h1, sub_from, h1] at this
  exact this
theorem trim_yes {q : Option Addr} {n c : Nat} {t p : List UInt8} {w : World} (hby : By w (.slice q n c) t) (h : p.isPrefixOf t = true) :
    p.length ≤ n ∧ Lib.trimPrefixV q n c (Lib.numsL t) (Lib.numsL p) = .slice (subA q c p.length) (n - p.length) (c - p.length) := by
  obtain ⟨h1, h2, h3, h4, h5⟩ := hby.at
  have h7 : p.length ≤ n := by
    have := (List.isPrefixOf_iff_prefix.1 h).length_le
    rw [h1] at this; exact this
  refine ⟨h7, ?_⟩
  have hx : Lib.hasPrefix (Lib.bytesOf (Lib.numsL t)) (Lib.bytesOf (Lib.numsL p)) = true := by rw [bytesOf_numsL, bytesOf_numsL]; exact h
  cases p with
  | nil =>
    rw [List.length_nil, subA_zero]
    unfold Lib.trimPrefixV
    split
    · rename_i heq
      cases heq
    · rfl
  | cons y p =>
    obtain ⟨b, o, rfl, _⟩ := h5.at (by simp at h7; omega)
    show Lib.bytesTrimPrefix b o n c (Lib.numsL t) (Lib.numsL (y :: p)) = _
    unfold Lib.bytesTrimPrefix Lib.sliceFrom subA
    rw [hx, if_pos rfl, Lib.numsL_length]
    split
    · rfl
    · show _ = Value.slice (some ((⟨b, o, none⟩ : Addr).add (y :: p).length)) _ _
      rw [Go.WideShapes.add_plain]
theorem trim_no {q : Option Addr} {n c : Nat} {t p : List UInt8} {w : World} (hby : By w (.slice q n c) t) (h : p.isPrefixOf t = false) :
    Lib.trimPrefixV q n c (Lib.numsL t) (Lib.numsL p) = .slice q n c := by
  have hx : Lib.hasPrefix (Lib.bytesOf (Lib.numsL t)) (Lib.bytesOf (Lib.numsL p)) = false := by rw [bytesOf_numsL, bytesOf_numsL]; exact h
  unfold Lib.trimPrefixV
  split
  · unfold Lib.bytesTrimPrefix
    rw [hx, if_neg (by simp)]
  · rfl
theorem cutPre_any (q qp : Option Addr) (n c m d : Nat) (t p : List UInt8) (w : World) (ht : By w (.slice q n c) t) (hp : By w (.slice qp m d) p) :
    Calls Tryz.prog 153 #[.slice q n c, .slice qp m d] w fun e w' => (∃ qr nr cr, e = .returned (.tuple #[.slice qr nr cr, .bool (p.isPrefixOf t)]) ∧ By w (.slice qr nr cr) (if p.isPrefixOf t = true then t.drop p.length else t)) ∧ w = w' := by
  obtain ⟨h1, h2, h3, h4, h5⟩ := ht.at
  obtain ⟨g1, g2, g3, g4, g5⟩ := hp.at
  refine (Tryz.bytes_CutPrefix_all q qp n c m d (Lib.numsL t) (Lib.numsL p) w (by rw [Lib.numsL_length, h1]) (by rw [Lib.numsL_length, g1]) h2 h5 g5).mono ?_
  rintro e w' ⟨rfl, rfl⟩
  have hx : Lib.hasPrefix (Lib.bytesOf (Lib.numsL t)) (Lib.bytesOf (Lib.numsL p)) = p.isPrefixOf t := by rw [bytesOf_numsL, bytesOf_numsL]; rfl
  rw [hx]
  cases hc : p.isPrefixOf t with
  | true =>
    obtain ⟨e1, e2⟩ := trim_yes ht hc
    exact ⟨⟨_, _, _, by rw [e2], by rw [if_pos rfl]; exact by_dropC ht e1⟩, rfl⟩
  | false => exact ⟨⟨_, _, _, by rw [trim_no ht hc], by rw [if_neg (by simp)]; exact ht⟩, rfl⟩
theorem suffix47 (l : List UInt8) : Lib.hasSuffix l [47] = decide (l.getLast? = some 47) := by
  rw [Bool.eq_iff_iff, decide_eq_true_iff]
  show List.isSuffixOf [47] l = true ↔ _
  rw [List.isSuffixOf_iff_suffix]
  refine ⟨fun ⟨t, ht⟩ => by rw [← ht]; simp, fun h => ?_⟩
  obtain ⟨ys, rfl⟩ := List.getLast?_eq_some_iff.1 h
  exact ⟨ys, rfl⟩
set_option maxRecDepth 100000 in
set_option maxHeartbeats 4000000 in
theorem goesOn_any (q qp : Option Addr) (n c m d : Nat) (t p : List UInt8) (w : World) (ht : By w (.slice q n c) t) (hp : By w (.slice qp m d) p) :
    Calls Tryz.prog 115 #[.slice q n c, .slice qp m d] w fun e w' => e = .returned (.bool (hereB p t)) ∧ Below w.heap.size w w' := by
  have con := cutPre_any q qp n c m d t p w ht hp
  have HG := Lib.hid (show hereB p t = (p.isPrefixOf t && (decide ((t.drop p.length).length = 0) || decide ((t.drop p.length).head? = some 47) || decide (p.getLast? = some 47))) from (goes_here p t).symm)
  generalize hereB p t = gb at *
  obtain ⟨g1, g2, g3, g4, g5⟩ := hp.at
  have hm : m ≤ 9223372036854775807 := by unfold maxLen at g3; omega
  have HP := Lib.hid hp
  cases hpre : p.isPrefixOf t with
  | false =>
    rw [hpre] at con HG
    have HE := Lib.hid (show gb = false by rw [HG.out]; rfl)
    clear hpre HG ht hp g1 g2 g3 g4 g5
    go_enter Tryz.func115, Tryz.ntmps115
    go_wp2_with fail
    refine con.mono ?_
    rintro e w' ⟨⟨qr, nr, cr, rfl, hr⟩, rfl⟩
    clear hr con
    go_wp2
    go_ret
    exact ⟨(by rw [HE.out]; try rfl), Below.refl _ _⟩
  | true =>
    rw [hpre] at con HG
    simp only [if_true] at con
    generalize t.drop p.length = r at *
    clear hpre ht hp
    go_enter Tryz.func115, Tryz.ntmps115
    go_wp2_with fail
    refine con.mono ?_
    rintro e w' ⟨⟨qr, nr, cr, rfl, hr⟩, rfl⟩
    have hrl := hr.at.1
    clear con
    by_cases h0 : nr = 0
    · have HE := Lib.hid (show gb = true by rw [HG.out, decide_eq_true (show r.length = 0 by omega)]; rfl)
      subst h0
      clear HG hr hrl g1 g2 g3 g4 g5
      go_wp2
      go_ret
      exact ⟨(by rw [HE.out]; try rfl), Below.refl _ _⟩
    · obtain ⟨b, o, rfl, hc⟩ := hr.at.2.2.2.2.at (by omega)
      have hc0 := hc 0 (by omega)
      rw [numsL_getD r 0 (by omega), Nat.add_zero] at hc0
      have hpos : 0 < nr := by omega
      have e0 : ((nr : Int) == 0) = false := by rw [beq_eq_false_iff_ne]; omega
      have hhd : r.head? = some (r.getD 0 0) := by
        cases r with
        | nil => simp at hrl; omega
        | cons x s => rfl
      have HL0 := Lib.hid (show decide (r.length = 0) = false from decide_eq_false (by omega))
      by_cases h47 : r.getD 0 0 = 47
      · rw [h47] at hc0
        have HE := Lib.hid (show gb = true by rw [HG.out, HL0.out, hhd, h47]; rfl)
        clear HG hr hrl g1 g2 g3 g4 g5 hc hhd h47 HL0
        go_wp2
        go_ret
        exact ⟨(by rw [HE.out]; try rfl), Below.refl _ _⟩
      · have HE := Lib.hid (show gb = decide (p.getLast? = some 47) by
          rw [HG.out, HL0.out, hhd, decide_eq_false (show ¬ some (r.getD 0 0) = some 47 from fun h => h47 (Option.some.inj h))]
          simp)
        have e47 : (((r.getD 0 0).toNat : Int) == 47) = false := by
          rw [beq_eq_false_iff_ne]
          intro h
          exact h47 (UInt8.toNat_inj.1 (show (r.getD 0 0).toNat = 47 by omega))
        have hbl : Below w.heap.size w (w.alloc (.cells #[.int .u8 47] 5)) := below_alloc _
        have con := Tryz.bytes_HasSuffix_all qp (some ⟨w.heap.size, 0, none⟩) m d 1 1 (Lib.numsL p) (Lib.numsL [47]) (w.alloc (.cells #[.int .u8 47] 5)) (by rw [Lib.numsL_length]; exact g1) rfl g2 hm (HP.out.on hbl).at.2.2.2.2 (by_lit w #[.int .u8 47] [47] (0, 0) 1 rfl rfl (by decide)).at.2.2.2.2
        rw [bytesOf_numsL, bytesOf_numsL, suffix47] at con
        generalize r.getD 0 0 = x at *
        generalize decide (p.getLast? = some 47) = sx at *
        clear HG hr hrl g1 g2 g3 g4 g5 hc hhd h47 HL0
        go_wp2_with fail
        refine con.mono ?_
        rintro e w' ⟨rfl, rfl⟩
        go_wp2
        go_ret
        exact ⟨(by rw [HE.out]; try rfl), hbl⟩
theorem may_is (c : Ck) (host scheme : List UInt8) : mayB c host scheme = ((decide (c.dom = []) || Host.withinB host c.dom) && safeB c scheme) := rfl
set_option maxRecDepth 100000 in
set_option maxHeartbeats 8000000 in
theorem May_by (v a : Value) (c : Ck) (u : U) (w : World) (h : CkIs w v c) (hs : c.dom.length ≤ 1099511627775) (ha : UrlIn w a u) (hl : u.host.length ≤ 1099511627775) :
    Calls Tryz.prog 50 #[v, a] w fun e w' => e = .returned (.int .i64 (if mayB c u.host u.scheme = true then 0 else 17)) ∧ Below w.heap.size w w' := by
  obtain ⟨q1, n1, c1, q2, n2, c2, q3, n3, c3, rfl, h1, h2, h3⟩ := h
  obtain ⟨p0, pm0, pd0, p1, pm1, pd1, p3, pm3, pd3, p4, pm4, pd4, p5, pm5, pd5, rfl, g0, g1, g3, g4, g5⟩ := ha
  obtain ⟨W, hW, bC, bU, A1⟩ := two_box w #[.slice q1 n1 c1, .slice q2 n2 c2, .slice q3 n3 c3, .string ⟨c.dom.toArray⟩, .int .i64 c.age, .bool c.secure] #[.slice p0 pm0 pd0, .slice p1 pm1 pd1, .int .i64 u.port, .slice p3 pm3 pd3, .slice p4 pm4 pd4, .slice p5 pm5 pd5, .bool u.hq, .bool u.hf]
  have hC : CkIs W (.agg #[.slice q1 n1 c1, .slice q2 n2 c2, .slice q3 n3 c3, .string ⟨c.dom.toArray⟩, .int .i64 c.age, .bool c.secure]) c := ⟨_, _, _, _, _, _, _, _, _, rfl, h1.on A1, h2.on A1, h3.on A1⟩
  have hU : UrlIn W (.agg #[.slice p0 pm0 pd0, .slice p1 pm1 pd1, .int .i64 u.port, .slice p3 pm3 pd3, .slice p4 pm4 pd4, .slice p5 pm5 pd5, .bool u.hq, .bool u.hf]) u := ⟨_, _, _, _, _, _, _, _, _, _, _, _, _, _, _, rfl, g0.on A1, g1.on A1, g3.on A1, g4.on A1, g5.on A1⟩
  have conC := covers_any _ _ c u W hC hs hU hl
  have HS := Lib.hid (fun W2 (hb : Below W.heap.size W W2) => safe_any _ _ c u W2 (hC.on hb) (hU.on hb))
  have BC := Lib.hid bC
  have BU := Lib.hid bU
  have x0 := bC.box 0 _ rfl
  have x1 := bC.box 1 _ rfl
  have x2 := bC.box 2 _ rfl
  have x3 := bC.box 3 _ rfl
  have x4 := bC.box 4 _ rfl
  have x5 := bC.box 5 _ rfl
  have y0 := bU.box 0 _ rfl
  have y1 := bU.box 1 _ rfl
  have y2 := bU.box 2 _ rfl
  have y3 := bU.box 3 _ rfl
  have y4 := bU.box 4 _ rfl
  have y5 := bU.box 5 _ rfl
  have y6 := bU.box 6 _ rfl
  have y7 := bU.box 7 _ rfl
  have HW := Lib.hid hW
  have HM := Lib.hid (may_is c u.host u.scheme)
  generalize mayB c u.host u.scheme = mb at *
  generalize safeB c u.scheme = sb at *
  generalize Host.withinB u.host c.dom = wb at *
  clear h1 h2 h3 g0 g1 g3 g4 g5 hC hU bC bU hW hs hl
  obtain ⟨dm, hdm⟩ : ∃ d, c.dom = d := ⟨_, rfl⟩
  rw [hdm] at HW HM x3 conC HS BC ⊢
  clear hdm
  obtain ⟨rv, hrv⟩ : ∃ r : Int, (if mb = true then 0 else 17) = r := ⟨_, rfl⟩
  rw [hrv]
  by_cases hd : dm = []
  · rw [decide_eq_true hd] at HM
    subst hd
    have HM2 := Lib.hid (show rv = if sb = true then 0 else 17 by rw [← hrv, HM.out]; simp)
    have con := HS.out W (Below.refl _ _)
    clear conC HS HM hrv
    go_enter Tryz.func50, Tryz.ntmps50
    go_wp2_with fail
    rw [HW.out]
    go_wp2_with fail
    refine con.mono ?_
    rintro e W2 ⟨rfl, hb⟩
    cases sb with
    | true =>
      go_wp2
      go_ret
      rw [HM2.out]
      exact ⟨rfl, A1.trans (hb.mono A1.size)⟩
    | false =>
      go_wp2
      go_ret
      rw [HM2.out]
      exact ⟨rfl, A1.trans (hb.mono A1.size)⟩
  · rw [decide_eq_false hd] at HM
    have e1 : (dm == []) = false := by rw [beq_eq_false_iff_ne]; exact hd
    have e2 : (dm != []) = true := by simp [hd]
    have e3 : dm.isEmpty = false := by cases dm with
      | nil => exact absurd rfl hd
      | cons _ _ => rfl
    cases wb with
    | false =>
      have HM2 := Lib.hid (show rv = 17 by rw [← hrv, HM.out]; rfl)
      clear HS HM hrv
      go_enter Tryz.func50, Tryz.ntmps50
      go_wp2_with fail
      rw [HW.out]
      go_wp2_with fail
      refine conC.mono ?_
      rintro e W2 ⟨rfl, hb⟩
      go_wp2
      go_ret
      rw [HM2.out]
      exact ⟨rfl, A1.trans (hb.mono A1.size)⟩
    | true =>
      have HM2 := Lib.hid (show rv = if sb = true then 0 else 17 by rw [← hrv, HM.out]; simp)
      clear HM hrv
      go_enter Tryz.func50, Tryz.ntmps50
      go_wp2_with fail
      rw [HW.out]
      go_wp2_with fail
      refine conC.mono ?_
      rintro e W2 ⟨rfl, hb⟩
      have con := HS.out W2 hb
      have bC2 := BC.out.on hb
      have bU2 := BU.out.on hb
      have A2 := A1.trans (hb.mono A1.size)
      have xx0 := bC2.box 0 _ rfl
      have xx1 := bC2.box 1 _ rfl
      have xx2 := bC2.box 2 _ rfl
      have xx3 := bC2.box 3 _ rfl
      have xx4 := bC2.box 4 _ rfl
      have xx5 := bC2.box 5 _ rfl
      have yy0 := bU2.box 0 _ rfl
      have yy1 := bU2.box 1 _ rfl
      have yy2 := bU2.box 2 _ rfl
      have yy3 := bU2.box 3 _ rfl
      have yy4 := bU2.box 4 _ rfl
      have yy5 := bU2.box 5 _ rfl
      have yy6 := bU2.box 6 _ rfl
      have yy7 := bU2.box 7 _ rfl
      clear conC HS hb bC2 bU2 x0 x1 x2 x3 x4 x5 y0 y1 y2 y3 y4 y5 y6 y7
      go_wp2_with fail
      refine con.mono ?_
      rintro e W3 ⟨rfl, hb⟩
      cases sb with
      | true =>
        go_wp2
        go_ret
        rw [HM2.out]
        exact ⟨rfl, A2.trans (hb.mono A2.size)⟩
      | false =>
        go_wp2
        go_ret
        rw [HM2.out]
        exact ⟨rfl, A2.trans (hb.mono A2.size)⟩
theorem list_eqD (k m : List UInt8) : (k == m) = decide (k = m) := by
  rw [Bool.eq_iff_iff, beq_iff_eq, decide_eq_true_iff]
theorem three_box (w : World) (cs us vs : Array Value) : ∃ W, ((w.alloc (.cells cs 42)).alloc (.cells us 33)).alloc (.cells vs 33) = W ∧ CB w.heap.size cs W ∧ UB (w.heap.size + 1) us W ∧ UB (w.heap.size + 2) vs W ∧ Below w.heap.size w W := by
  refine ⟨_, rfl, ((CB.new w cs).on (below_alloc _)).on (below_alloc _), ?_, ?_, (((Below.refl _ w).alloc (Nat.le_refl _) _).alloc (by simp) _).alloc (by simp; omega) _⟩
  · have := (UB.new (w.alloc (.cells cs 42)) us).on (below_alloc (.cells vs 33))
    rw [World.size_alloc] at this
    exact this
  · have := UB.new ((w.alloc (.cells cs 42)).alloc (.cells us 33)) vs
    rw [World.size_alloc, World.size_alloc] at this
    exact this
theorem meant_is (c : Ck) (h1 p1 h2 p2 s2 : List UInt8) : meantB c h1 p1 h2 p2 s2 = ((decide (h2 = h1) || Host.withinB h2 c.dom) && (hereB (homeL c p1) p2 && safeB c s2)) := by
  unfold meantB safeB
  generalize hereB (homeL c p1) p2 = x
  generalize (!c.secure || decide (s2 = httpsS)) = y
  generalize (decide (h2 = h1) || Host.withinB h2 c.dom) = z
  cases x <;> cases y <;> cases z <;> rfl
set_option maxRecDepth 100000 in
set_option maxHeartbeats 16000000 in
theorem Meant_by (v a b : Value) (c : Ck) (u x : U) (w : World) (h : CkIs w v c) (hs : c.dom.length ≤ 1099511627775 ∧ c.path.length ≤ 1099511627775) (ha : UrlIn w a u) (hl : u.path.length ≤ 1099511627775) (hb : UrlIn w b x) (hx : x.host.length ≤ 1099511627775) :
    Calls Tryz.prog 68 #[v, a, b] w fun e w' => e = .returned (.bool (meantB c u.host u.path x.host x.path x.scheme)) ∧ Below w.heap.size w w' := by
  obtain ⟨q1, n1, c1, q2, n2, c2, q3, n3, c3, rfl, h1, h2, h3⟩ := h
  obtain ⟨p0, pm0, pd0, p1, pm1, pd1, p3, pm3, pd3, p4, pm4, pd4, p5, pm5, pd5, rfl, g0, g1, g3, g4, g5⟩ := ha
  obtain ⟨r0, rm0, rd0, r1, rm1, rd1, r3, rm3, rd3, r4, rm4, rd4, r5, rm5, rd5, rfl, i0, i1, i3, i4, i5⟩ := hb
  obtain ⟨W, hW, bC, bU, bX, A1⟩ := three_box w #[.slice q1 n1 c1, .slice q2 n2 c2, .slice q3 n3 c3, .string ⟨c.dom.toArray⟩, .int .i64 c.age, .bool c.secure] #[.slice p0 pm0 pd0, .slice p1 pm1 pd1, .int .i64 u.port, .slice p3 pm3 pd3, .slice p4 pm4 pd4, .slice p5 pm5 pd5, .bool u.hq, .bool u.hf] #[.slice r0 rm0 rd0, .slice r1 rm1 rd1, .int .i64 x.port, .slice r3 rm3 rd3, .slice r4 rm4 rd4, .slice r5 rm5 rd5, .bool x.hq, .bool x.hf]
  have hC : CkIs W (.agg #[.slice q1 n1 c1, .slice q2 n2 c2, .slice q3 n3 c3, .string ⟨c.dom.toArray⟩, .int .i64 c.age, .bool c.secure]) c := ⟨_, _, _, _, _, _, _, _, _, rfl, h1.on A1, h2.on A1, h3.on A1⟩
  have hU : UrlIn W (.agg #[.slice p0 pm0 pd0, .slice p1 pm1 pd1, .int .i64 u.port, .slice p3 pm3 pd3, .slice p4 pm4 pd4, .slice p5 pm5 pd5, .bool u.hq, .bool u.hf]) u := ⟨_, _, _, _, _, _, _, _, _, _, _, _, _, _, _, rfl, g0.on A1, g1.on A1, g3.on A1, g4.on A1, g5.on A1⟩
  have hX : UrlIn W (.agg #[.slice r0 rm0 rd0, .slice r1 rm1 rd1, .int .i64 x.port, .slice r3 rm3 rd3, .slice r4 rm4 rd4, .slice r5 rm5 rd5, .bool x.hq, .bool x.hf]) x := ⟨_, _, _, _, _, _, _, _, _, _, _, _, _, _, _, rfl, i0.on A1, i1.on A1, i3.on A1, i4.on A1, i5.on A1⟩
  have hxp := i3.on A1
  have gh := g1.on A1
  have ih := i1.on A1
  have conE := Tryz.bytes_Equal_all r1 p1 rm1 rd1 pm1 pd1 (Lib.numsL x.host) (Lib.numsL u.host) W (by rw [Lib.numsL_length]; exact ih.at.1) (by rw [Lib.numsL_length]; exact gh.at.1) ih.at.2.2.2.2 gh.at.2.2.2.2
  rw [bytesOf_numsL, bytesOf_numsL, list_eqD] at conE
  have conC := covers_any _ _ c x W hC hs.1 hX hx
  have HS := Lib.hid (fun W2 (hb : Below W.heap.size W W2) => safe_any _ _ c x W2 (hC.on hb) (hX.on hb))
  have HH := Lib.hid (fun W2 (hb : Below W.heap.size W W2) => Home_by _ _ c u W2 (hC.on hb) (hU.on hb) hs.2 hl)
  have HP := Lib.hid hxp
  have BC := Lib.hid bC
  have BU := Lib.hid bU
  have BX := Lib.hid bX
  have HM := Lib.hid (meant_is c u.host u.path x.host x.path x.scheme)
  have x0 := bC.box 0 _ rfl
  have x1 := bC.box 1 _ rfl
  have x2 := bC.box 2 _ rfl
  have x3 := bC.box 3 _ rfl
  have x4 := bC.box 4 _ rfl
  have x5 := bC.box 5 _ rfl
  have z0 := bX.box 0 _ rfl
  have z1 := bX.box 1 _ rfl
  have z2 := bX.box 2 _ rfl
  have z3 := bX.box 3 _ rfl
  have z4 := bX.box 4 _ rfl
  have z5 := bX.box 5 _ rfl
  have z6 := bX.box 6 _ rfl
  have z7 := bX.box 7 _ rfl
  have y1 := bU.box 1 _ rfl
  have HW := Lib.hid hW
  generalize meantB c u.host u.path x.host x.path x.scheme = mb at *
  generalize safeB c x.scheme = sb at *
  generalize Host.withinB x.host c.dom = wb at *
  generalize decide (x.host = u.host) = eb at *
  clear h1 h2 h3 g0 g1 g3 g4 g5 i0 i1 i3 i4 i5 hC hU hX bC bU bX hW hs hl hx gh ih hxp
  go_enter Tryz.func68, Tryz.ntmps68
  go_upto_region 1 with fail
  rw [HW.out]
  go_cut [7] (fun s7 X => s7 = .bool (eb || wb) ∧ Below W.heap.size W X)
  case first =>
    cases eb with
    | true =>
      go_wp2_with fail
      refine conE.mono ?_
      rintro e w' ⟨rfl, rfl⟩
      go_wp2_with fail
      go_meet
      exact ⟨rfl, Below.refl _ _⟩
    | false =>
      go_wp2_with fail
      refine conE.mono ?_
      rintro e w' ⟨rfl, rfl⟩
      go_wp2_with fail
      refine conC.mono ?_
      rintro e w' ⟨rfl, hb⟩
      go_wp2_with fail
      go_meet
      exact ⟨rfl, hb⟩
  case rest =>
    obtain ⟨rfl, hb⟩ := hcut
    generalize wc = X1 at *
    have A2 := A1.trans (hb.mono A1.size)
    have bC2 := BC.out.on hb
    have bU2 := BU.out.on hb
    have bX2 := BX.out.on hb
    have bp := HP.out.on hb
    clear conE conC x0 x1 x2 x3 x4 x5 z0 z1 z2 z3 z4 z5 z6 z7 y1
    cases hnear : (eb || wb) with
    | false =>
      rw [hnear] at HM
      have HE := Lib.hid (show mb = false by rw [HM.out]; rfl)
      have A3 := A2.drew
      clear hnear HS HH HM HP BC BU BX bC2 bU2 bX2 bp A2
      go_wp2_with fail
      refine pregion_any (fun _ => True) (by kernel_rfl) ?_
      generalize X1.drew = X2 at *
      refine wpAnyH_take (i := 0) (v := (.bool false)) rfl (by kernel_rfl) (by kernel_rfl) (by kernel_rfl) (fun _ _ _ h => h) (.inl ⟨by kernel_rfl, ?_⟩) trivial ?_
      · rintro w _; go_simp <;> omega
      refine plist #[true, false, false, false, false, false, false, false, false, false, false, false, false, false, false] (by kernel_rfl) ?_
      refine wpAnyH_take (i := 1) (v := (.bool false)) rfl (by kernel_rfl) (by kernel_rfl) (by kernel_rfl) (fun _ _ _ h => h) (.inl ⟨by kernel_rfl, ?_⟩) trivial ?_
      · rintro w _; go_simp <;> omega
      refine plist #[true, true, false, false, false, false, false, false, false, false, false, false, false, false, false] (by kernel_rfl) ?_
      refine wpAnyH_take (i := 2) (v := (undef)) rfl (by kernel_rfl) (by kernel_rfl) (by kernel_rfl) (fun _ _ _ h => h) (.inr ⟨by kernel_rfl, rfl⟩) trivial ?_
      refine plist #[true, true, true, false, false, false, false, false, false, false, false, false, false, false, false] (by kernel_rfl) ?_
      refine wpAnyH_take (i := 3) (v := (undef)) rfl (by kernel_rfl) (by kernel_rfl) (by kernel_rfl) (fun _ _ _ h => h) (.inr ⟨by kernel_rfl, rfl⟩) trivial ?_
      refine plist #[true, true, true, true, false, false, false, false, false, false, false, false, false, false, false] (by kernel_rfl) ?_
      refine wpAnyH_take (i := 4) (v := (undef)) rfl (by kernel_rfl) (by kernel_rfl) (by kernel_rfl) (fun _ _ _ h => h) (.inr ⟨by kernel_rfl, rfl⟩) trivial ?_
      refine plist #[true, true, true, true, true, false, false, false, false, false, false, false, false, false, false] (by kernel_rfl) ?_
      refine wpAnyH_take (i := 5) (v := (undef)) rfl (by kernel_rfl) (by kernel_rfl) (by kernel_rfl) (fun _ _ _ h => h) (.inr ⟨by kernel_rfl, rfl⟩) trivial ?_
      refine plist #[true, true, true, true, true, true, false, false, false, false, false, false, false, false, false] (by kernel_rfl) ?_
      refine wpAnyH_take (i := 6) (v := (undef)) rfl (by kernel_rfl) (by kernel_rfl) (by kernel_rfl) (fun _ _ _ h => h) (.inr ⟨by kernel_rfl, rfl⟩) trivial ?_
      refine plist #[true, true, true, true, true, true, true, false, false, false, false, false, false, false, false] (by kernel_rfl) ?_
      refine wpAnyH_take (i := 7) (v := (undef)) rfl (by kernel_rfl) (by kernel_rfl) (by kernel_rfl) (fun _ _ _ h => h) (.inr ⟨by kernel_rfl, rfl⟩) trivial ?_
      refine plist #[true, true, true, true, true, true, true, true, false, false, false, false, false, false, false] (by kernel_rfl) ?_
      refine wpAnyH_take (i := 8) (v := (.bool false)) rfl (by kernel_rfl) (by kernel_rfl) (by kernel_rfl) (fun _ _ _ h => h) (.inl ⟨by kernel_rfl, ?_⟩) trivial ?_
      · rintro w _; go_simp <;> omega
      refine plist #[true, true, true, true, true, true, true, true, true, false, false, false, false, false, false] (by kernel_rfl) ?_
      refine wpAnyH_take (i := 9) (v := (.bool false)) rfl (by kernel_rfl) (by kernel_rfl) (by kernel_rfl) (fun _ _ _ h => h) (.inl ⟨by kernel_rfl, ?_⟩) trivial ?_
      · rintro w _; go_simp <;> omega
      refine plist #[true, true, true, true, true, true, true, true, true, true, false, false, false, false, false] (by kernel_rfl) ?_
      refine wpAnyH_take (i := 10) (v := (undef)) rfl (by kernel_rfl) (by kernel_rfl) (by kernel_rfl) (fun _ _ _ h => h) (.inr ⟨by kernel_rfl, rfl⟩) trivial ?_
      refine plist #[true, true, true, true, true, true, true, true, true, true, true, false, false, false, false] (by kernel_rfl) ?_
      refine wpAnyH_take (i := 11) (v := (undef)) rfl (by kernel_rfl) (by kernel_rfl) (by kernel_rfl) (fun _ _ _ h => h) (.inr ⟨by kernel_rfl, rfl⟩) trivial ?_
      refine plist #[true, true, true, true, true, true, true, true, true, true, true, true, false, false, false] (by kernel_rfl) ?_
      refine wpAnyH_take (i := 12) (v := (undef)) rfl (by kernel_rfl) (by kernel_rfl) (by kernel_rfl) (fun _ _ _ h => h) (.inr ⟨by kernel_rfl, rfl⟩) trivial ?_
      refine plist #[true, true, true, true, true, true, true, true, true, true, true, true, true, false, false] (by kernel_rfl) ?_
      refine pone 13 (by kernel_rfl) rfl fun K hK => ?_
      go_simp
      refine hK _ _ trivial ?_
      clear hK K
      refine plist #[true, true, true, true, true, true, true, true, true, true, true, true, true, true, false] (by kernel_rfl) ?_
      refine pone 14 (by kernel_rfl) rfl fun K hK => ?_
      go_simp
      refine hK _ _ trivial ?_
      clear hK K
      refine pdone (by kernel_rfl) ?_ _
      go_wp2
      go_ret
      exact ⟨(by rw [HE.out]; try rfl), A3⟩
    | true =>
      rw [hnear] at HM
      have HE := Lib.hid (show mb = (hereB (homeL c u.path) x.path && sb) by rw [HM.out]; rfl)
      obtain ⟨wd, hwd⟩ : ∃ Z, X1.drew = Z := ⟨_, rfl⟩
      have D0 : Below X1.heap.size X1 wd := hwd ▸ ⟨rfl, rfl, rfl, Nat.le_refl _, fun _ _ => rfl⟩
      have B2 := hb.trans (D0.mono hb.size)
      replace A2 := A2.trans (D0.mono A2.size)
      replace bC2 := bC2.on D0
      replace bU2 := bU2.on D0
      replace bX2 := bX2.on D0
      replace bp := bp.on D0
      have HWD := Lib.hid hwd
      clear hnear HM hwd hb D0
      go_wp2_with fail
      refine pregion_any (fun X => CB w.heap.size #[.slice q1 n1 c1, .slice q2 n2 c2, .slice q3 n3 c3, .string ⟨c.dom.toArray⟩, .int .i64 c.age, .bool c.secure] X ∧ UB (w.heap.size + 1) #[.slice p0 pm0 pd0, .slice p1 pm1 pd1, .int .i64 u.port, .slice p3 pm3 pd3, .slice p4 pm4 pd4, .slice p5 pm5 pd5, .bool u.hq, .bool u.hf] X ∧ UB (w.heap.size + 2) #[.slice r0 rm0 rd0, .slice r1 rm1 rd1, .int .i64 x.port, .slice r3 rm3 rd3, .slice r4 rm4 rd4, .slice r5 rm5 rd5, .bool x.hq, .bool x.hf] X) (by kernel_rfl) ?_
      rw [HWD.out]
      refine wpAnyH_take (i := 0) (v := (.bool true)) rfl (by kernel_rfl) (by kernel_rfl) (by kernel_rfl) (fun _ _ _ h => h) (.inl ⟨by kernel_rfl, ?_⟩) ⟨bC2, bU2, bX2⟩ ?_
      · rintro w ⟨h1, h2, h3⟩; go_simp <;> omega
      refine plist #[true, false, false, false, false, false, false, false, false, false, false, false, false, false, false] (by kernel_rfl) ?_
      refine wpAnyH_take (i := 1) (v := (.bool true)) rfl (by kernel_rfl) (by kernel_rfl) (by kernel_rfl) (fun _ _ _ h => h) (.inl ⟨by kernel_rfl, ?_⟩) ⟨bC2, bU2, bX2⟩ ?_
      · rintro w ⟨h1, h2, h3⟩; go_simp <;> omega
      refine plist #[true, true, false, false, false, false, false, false, false, false, false, false, false, false, false] (by kernel_rfl) ?_
      refine wpAnyH_take (i := 2) (v := (.pointer (some ⟨w.heap.size + 2, 3, none⟩))) rfl (by kernel_rfl) (by kernel_rfl) (by kernel_rfl) (fun _ _ _ h => h) (.inl ⟨by kernel_rfl, ?_⟩) ⟨bC2, bU2, bX2⟩ ?_
      · rintro w ⟨h1, h2, h3⟩; go_simp <;> omega
      refine plist #[true, true, true, false, false, false, false, false, false, false, false, false, false, false, false] (by kernel_rfl) ?_
      refine wpAnyH_take (i := 3) (v := (.slice r3 rm3 rd3)) rfl (by kernel_rfl) (by kernel_rfl) (by kernel_rfl) (fun _ _ _ h => h) (.inl ⟨by kernel_rfl, ?_⟩) ⟨bC2, bU2, bX2⟩ ?_
      · rintro w ⟨h1, h2, h3⟩; have z3 := h3.box 3 _ rfl; go_simp <;> omega
      refine plist #[true, true, true, true, false, false, false, false, false, false, false, false, false, false, false] (by kernel_rfl) ?_
      refine wpAnyH_take (i := 4) (v := (.agg #[.slice q1 n1 c1, .slice q2 n2 c2, .slice q3 n3 c3, .string ⟨c.dom.toArray⟩, .int .i64 c.age, .bool c.secure])) rfl (by kernel_rfl) (by kernel_rfl) (by kernel_rfl) (fun _ _ _ h => h) (.inl ⟨by kernel_rfl, ?_⟩) ⟨bC2, bU2, bX2⟩ ?_
      · rintro w ⟨h1, h2, h3⟩; have x0 := h1.box 0 _ rfl; have x1 := h1.box 1 _ rfl; have x2 := h1.box 2 _ rfl; have x3 := h1.box 3 _ rfl; have x4 := h1.box 4 _ rfl; have x5 := h1.box 5 _ rfl; go_simp <;> omega
      refine plist #[true, true, true, true, true, false, false, false, false, false, false, false, false, false, false] (by kernel_rfl) ?_
      refine wpAnyH_take (i := 5) (v := (.agg #[.slice p0 pm0 pd0, .slice p1 pm1 pd1, .int .i64 u.port, .slice p3 pm3 pd3, .slice p4 pm4 pd4, .slice p5 pm5 pd5, .bool u.hq, .bool u.hf])) rfl (by kernel_rfl) (by kernel_rfl) (by kernel_rfl) (fun _ _ _ h => h) (.inl ⟨by kernel_rfl, ?_⟩) ⟨bC2, bU2, bX2⟩ ?_
      · rintro w ⟨h1, h2, h3⟩; have y0 := h2.box 0 _ rfl; have y1 := h2.box 1 _ rfl; have y2 := h2.box 2 _ rfl; have y3 := h2.box 3 _ rfl; have y4 := h2.box 4 _ rfl; have y5 := h2.box 5 _ rfl; have y6 := h2.box 6 _ rfl; have y7 := h2.box 7 _ rfl; go_simp <;> omega
      refine plist #[true, true, true, true, true, true, false, false, false, false, false, false, false, false, false] (by kernel_rfl) ?_
      have con := HH.out wd B2
      refine pone 6 (by kernel_rfl) rfl fun K hK => ?_
      go_simp
      refine con.mono ?_
      rintro e W3 ⟨qh, nh, ch, rfl, hh, hb⟩
      replace B2 := B2.trans (hb.mono B2.size)
      replace A2 := A2.trans (hb.mono A2.size)
      replace bC2 := bC2.on hb
      replace bU2 := bU2.on hb
      replace bX2 := bX2.on hb
      replace bp := bp.on hb
      clear con hb HH
      refine hK _ _ ⟨bC2, bU2, bX2⟩ ?_
      clear hK K
      refine plist #[true, true, true, true, true, true, true, false, false, false, false, false, false, false, false] (by kernel_rfl) ?_
      have con := goesOn_any _ _ _ _ _ _ x.path (homeL c u.path) W3 bp hh
      refine pone 7 (by kernel_rfl) rfl fun K hK => ?_
      go_simp
      refine con.mono ?_
      rintro e W4 ⟨rfl, hb⟩
      replace B2 := B2.trans (hb.mono B2.size)
      replace A2 := A2.trans (hb.mono A2.size)
      replace bC2 := bC2.on hb
      replace bU2 := bU2.on hb
      replace bX2 := bX2.on hb
      clear con hb bp hh
      refine hK _ _ ⟨bC2, bU2, bX2⟩ ?_
      clear hK K
      cases hg : hereB (homeL c u.path) x.path with
      | false =>
        rw [hg] at HE
        clear hg
        have HE2 := Lib.hid (show mb = false by rw [HE.out]; rfl)
        clear HE HS
        refine plist #[true, true, true, true, true, true, true, true, false, false, false, false, false, false, false] (by kernel_rfl) ?_
        refine wpAnyH_take (i := 8) (v := (.bool false)) rfl (by kernel_rfl) (by kernel_rfl) (by kernel_rfl) (fun _ _ _ h => h) (.inl ⟨by kernel_rfl, ?_⟩) ⟨bC2, bU2, bX2⟩ ?_
        · rintro w ⟨h1, h2, h3⟩; go_simp <;> omega
        refine plist #[true, true, true, true, true, true, true, true, true, false, false, false, false, false, false] (by kernel_rfl) ?_
        refine wpAnyH_take (i := 9) (v := (.bool false)) rfl (by kernel_rfl) (by kernel_rfl) (by kernel_rfl) (fun _ _ _ h => h) (.inl ⟨by kernel_rfl, ?_⟩) ⟨bC2, bU2, bX2⟩ ?_
        · rintro w ⟨h1, h2, h3⟩; go_simp <;> omega
        refine plist #[true, true, true, true, true, true, true, true, true, true, false, false, false, false, false] (by kernel_rfl) ?_
        refine wpAnyH_take (i := 10) (v := (undef)) rfl (by kernel_rfl) (by kernel_rfl) (by kernel_rfl) (fun _ _ _ h => h) (.inr ⟨by kernel_rfl, rfl⟩) ⟨bC2, bU2, bX2⟩ ?_
        refine plist #[true, true, true, true, true, true, true, true, true, true, true, false, false, false, false] (by kernel_rfl) ?_
        refine wpAnyH_take (i := 11) (v := (undef)) rfl (by kernel_rfl) (by kernel_rfl) (by kernel_rfl) (fun _ _ _ h => h) (.inr ⟨by kernel_rfl, rfl⟩) ⟨bC2, bU2, bX2⟩ ?_
        refine plist #[true, true, true, true, true, true, true, true, true, true, true, true, false, false, false] (by kernel_rfl) ?_
        refine wpAnyH_take (i := 12) (v := (undef)) rfl (by kernel_rfl) (by kernel_rfl) (by kernel_rfl) (fun _ _ _ h => h) (.inr ⟨by kernel_rfl, rfl⟩) ⟨bC2, bU2, bX2⟩ ?_
        refine plist #[true, true, true, true, true, true, true, true, true, true, true, true, true, false, false] (by kernel_rfl) ?_
        refine pone 13 (by kernel_rfl) rfl fun K hK => ?_
        go_simp
        refine hK _ _ ⟨bC2, bU2, bX2⟩ ?_
        clear hK K
        refine plist #[true, true, true, true, true, true, true, true, true, true, true, true, true, true, false] (by kernel_rfl) ?_
        refine pone 14 (by kernel_rfl) rfl fun K hK => ?_
        go_simp
        refine hK _ _ ⟨bC2, bU2, bX2⟩ ?_
        clear hK K
        refine pdone (by kernel_rfl) ?_ _
        go_wp2
        go_ret
        exact ⟨(by rw [HE2.out]; try rfl), A2⟩
      | true =>
        rw [hg] at HE
        clear hg
        have HE2 := Lib.hid (show mb = sb by rw [HE.out]; rfl)
        clear HE
        refine plist #[true, true, true, true, true, true, true, true, false, false, false, false, false, false, false] (by kernel_rfl) ?_
        refine wpAnyH_take (i := 8) (v := (.bool true)) rfl (by kernel_rfl) (by kernel_rfl) (by kernel_rfl) (fun _ _ _ h => h) (.inl ⟨by kernel_rfl, ?_⟩) ⟨bC2, bU2, bX2⟩ ?_
        · rintro w ⟨h1, h2, h3⟩; go_simp <;> omega
        refine plist #[true, true, true, true, true, true, true, true, true, false, false, false, false, false, false] (by kernel_rfl) ?_
        refine wpAnyH_take (i := 9) (v := (.bool true)) rfl (by kernel_rfl) (by kernel_rfl) (by kernel_rfl) (fun _ _ _ h => h) (.inl ⟨by kernel_rfl, ?_⟩) ⟨bC2, bU2, bX2⟩ ?_
        · rintro w ⟨h1, h2, h3⟩; go_simp <;> omega
        refine plist #[true, true, true, true, true, true, true, true, true, true, false, false, false, false, false] (by kernel_rfl) ?_
        refine wpAnyH_take (i := 10) (v := (.agg #[.slice q1 n1 c1, .slice q2 n2 c2, .slice q3 n3 c3, .string ⟨c.dom.toArray⟩, .int .i64 c.age, .bool c.secure])) rfl (by kernel_rfl) (by kernel_rfl) (by kernel_rfl) (fun _ _ _ h => h) (.inl ⟨by kernel_rfl, ?_⟩) ⟨bC2, bU2, bX2⟩ ?_
        · rintro w ⟨h1, h2, h3⟩; have x0 := h1.box 0 _ rfl; have x1 := h1.box 1 _ rfl; have x2 := h1.box 2 _ rfl; have x3 := h1.box 3 _ rfl; have x4 := h1.box 4 _ rfl; have x5 := h1.box 5 _ rfl; go_simp <;> omega
        refine plist #[true, true, true, true, true, true, true, true, true, true, true, false, false, false, false] (by kernel_rfl) ?_
        refine wpAnyH_take (i := 11) (v := (.agg #[.slice r0 rm0 rd0, .slice r1 rm1 rd1, .int .i64 x.port, .slice r3 rm3 rd3, .slice r4 rm4 rd4, .slice r5 rm5 rd5, .bool x.hq, .bool x.hf])) rfl (by kernel_rfl) (by kernel_rfl) (by kernel_rfl) (fun _ _ _ h => h) (.inl ⟨by kernel_rfl, ?_⟩) ⟨bC2, bU2, bX2⟩ ?_
        · rintro w ⟨h1, h2, h3⟩; have z0 := h3.box 0 _ rfl; have z1 := h3.box 1 _ rfl; have z2 := h3.box 2 _ rfl; have z3 := h3.box 3 _ rfl; have z4 := h3.box 4 _ rfl; have z5 := h3.box 5 _ rfl; have z6 := h3.box 6 _ rfl; have z7 := h3.box 7 _ rfl; go_simp <;> omega
        refine plist #[true, true, true, true, true, true, true, true, true, true, true, true, false, false, false] (by kernel_rfl) ?_
        have con := HS.out W4 B2
        refine pone 12 (by kernel_rfl) rfl fun K hK => ?_
        go_simp
        refine con.mono ?_
        rintro e W5 ⟨rfl, hb⟩
        replace A2 := A2.trans (hb.mono A2.size)
        replace bC2 := bC2.on hb
        replace bU2 := bU2.on hb
        replace bX2 := bX2.on hb
        clear con hb HS
        refine hK _ _ ⟨bC2, bU2, bX2⟩ ?_
        clear hK K
        refine plist #[true, true, true, true, true, true, true, true, true, true, true, true, true, false, false] (by kernel_rfl) ?_
        refine pone 13 (by kernel_rfl) rfl fun K hK => ?_
        go_simp
        refine hK _ _ ⟨bC2, bU2, bX2⟩ ?_
        clear hK K
        refine plist #[true, true, true, true, true, true, true, true, true, true, true, true, true, true, false] (by kernel_rfl) ?_
        refine pone 14 (by kernel_rfl) rfl fun K hK => ?_
        go_simp
        refine hK _ _ ⟨bC2, bU2, bX2⟩ ?_
        clear hK K
        refine pdone (by kernel_rfl) ?_ _
        go_wp2
        go_ret
        exact ⟨(by rw [HE2.out]; try rfl), A2⟩
end Go.Proofs.YtniehbjoogaccaaGreatDoor.Ck
namespace Go.Proofs.YtniehbjoogaccaaGreatDoor.Jar
open Go.RowKit Go.Shelf Url Ck
set_option linter.unusedVariables false
abbrev UZ := (C3 × C3 × C3 × C3 × C3) × U
def urlRow (z : UZ) : List Value := [vC z.1.1, vC z.1.2.1, .int .i64 z.2.port, vC z.1.2.2.1, vC z.1.2.2.2.1, vC z.1.2.2.2.2, .bool z.2.hq, .bool z.2.hf]
def UAt (w : World) (z : UZ) : Prop := By w (vC z.1.1) z.2.scheme ∧ By w (vC z.1.2.1) z.2.host ∧ By w (vC z.1.2.2.1) z.2.path ∧ By w (vC z.1.2.2.2.1) z.2.query ∧ By w (vC z.1.2.2.2.2) z.2.frag
theorem UAt.is {w : World} {z : UZ} (h : UAt w z) : UrlIn w (.agg (urlRow z).toArray) z.2 := ⟨_, _, _, _, _, _, _, _, _, _, _, _, _, _, _, rfl, h⟩
theorem UAt.soft {w w' : World} {z : UZ} (h : UAt w z) (hs : Soft w w') : UAt w' z := ⟨hs.1 _ _ h.1, hs.1 _ _ h.2.1, hs.1 _ _ h.2.2.1, hs.1 _ _ h.2.2.2.1, hs.1 _ _ h.2.2.2.2⟩
theorem uat_of {w : World} {v : Value} {u : U} (h : UrlIn w v u) : ∃ z : UZ, v = .agg (urlRow z).toArray ∧ z.2 = u ∧ UAt w z := by
  obtain ⟨q0, n0, c0, q1, n1, c1, q3, n3, c3, q4, n4, c4, q5, n5, c5, rfl, h0, h1, h3, h4, h5⟩ := h
  exact ⟨(((q0, n0, c0), (q1, n1, c1), (q3, n3, c3), (q4, n4, c4), (q5, n5, c5)), u), rfl, rfl, h0, h1, h3, h4, h5⟩
theorem CAt.soft {w w' : World} {z : CZ} (h : CAt w z) (hs : Soft w w') : CAt w' z := ⟨hs.1 _ _ h.1, hs.1 _ _ h.2.1, hs.1 _ _ h.2.2⟩
theorem cat_of {w : World} {v : Value} {c : Ck} (h : CkIs w v c) : ∃ z : CZ, v = .agg (ckRow z).toArray ∧ z.2 = c ∧ CAt w z := by
  obtain ⟨q1, n1, c1, q2, n2, c2, q3, n3, c3, rfl, h1, h2, h3⟩ := h
  exact ⟨((((q1, n1, c1), (q2, n2, c2)), (q3, n3, c3)), c), rfl, rfl, h1, h2, h3⟩
abbrev PZ := CZ × UZ × Int
def plRow (z : PZ) : List Value := [vC z.1.1.1.1, vC z.1.1.1.2, vC z.1.1.2, .string ⟨z.1.2.dom.toArray⟩, .int .i64 z.1.2.age, .bool z.1.2.secure,
  vC z.2.1.1.1, vC z.2.1.1.2.1, .int .i64 z.2.1.2.port, vC z.2.1.1.2.2.1, vC z.2.1.1.2.2.2.1, vC z.2.1.1.2.2.2.2, .bool z.2.1.2.hq, .bool z.2.1.2.hf, .int .i64 z.2.2]
def plV (z : PZ) : Value := .agg (plRow z).toArray
theorem pl_len (z : PZ) : (plRow z).length = 15 := rfl
def PAt (w : World) (z : PZ) : Prop := CAt w z.1 ∧ UAt w z.2.1
theorem PAt.soft {w w' : World} {z : PZ} (h : PAt w z) (hs : Soft w w') : PAt w' z := ⟨h.1.soft hs, h.2.soft hs⟩
theorem PAt.on {w w' : World} {z : PZ} (h : PAt w z) (hb : Below w.heap.size w w') : PAt w' z := h.soft (Soft.of_below hb)
def enZ (z : PZ) : En := ⟨z.2.1.2, z.1.2, z.2.2⟩
def srvU (u : U) : U := { u with query := [], hq := false, frag := [], hf := false }
def srvE (e : En) : En := { e with at_ := srvU e.at_ }
structure EOk (e : En) : Prop where
  ok : Ck.Ok e.c
  small : Small 4096 e.c
  url : Url.Ok e.at_
  len : (textU e.at_).length ≤ 4096
  set1 : 0 ≤ e.set
  set2 : e.set ≤ 1099511627776
theorem srv_ok {u : U} (h : Url.Ok u) : Url.Ok (srvU u) := ⟨h.scheme, h.host, h.low, h.port1, h.port2, h.path, rfl, fun _ => rfl, rfl, fun _ => rfl⟩
theorem srv_len (u : U) : (textU (srvU u)).length ≤ (textU u).length := by
  rw [text_server, text_server, show serverT (srvU u) = serverT u from rfl, show (srvU u).path = u.path from rfl, show queryT (srvU u) = [] from rfl, show fragT (srvU u) = [] from rfl]
  simp only [List.length_append, List.length_nil]
  omega
theorem EOk.srv {e : En} (h : EOk e) : EOk (srvE e) := ⟨h.ok, h.small, srv_ok h.url, Nat.le_trans (srv_len _) h.len, h.set1, h.set2⟩
theorem over_srv (now : Int) (e : En) : overE now (srvE e) = overE now e := rfl
theorem same_srv (u : U) (c : Ck) (e : En) : sameE (srvU u) c (srvE e) = sameE u c e := rfl
theorem meant_srv (x : U) (e : En) : meantE x (srvE e) = meantE x e := rfl
theorem home_srv (e : En) : homeE (srvE e) = homeE e := rfl
def PlCells (w : World) (g o : Nat) (z : PZ) : Prop := ∀ j v, (plRow z)[j]? = some v → w.cell? ⟨g, o + j, none⟩ = some v
theorem PlCells.soft {w w' : World} {g o : Nat} {z : PZ} (h : PlCells w g o z) (hs : Soft w w') : PlCells w' g o z := fun j v hv =>
  (World.cell?_of_block (hs.2 g (o + 0) _ _ _ (h 0 _ rfl))).trans (h j v hv)
def PlV (w : World) (v : Value) (zs : List PZ) : Prop := (zs = [] ∧ v = .slice none 0 0) ∨
  (zs ≠ [] ∧ ∃ g o c, v = .slice (some ⟨g, o, none⟩) zs.length c ∧ zs.length ≤ c ∧ c ≤ maxLen ∧ g < w.heap.size ∧ (∀ i z, zs[i]? = some z → PlCells w g (o + i * 15) z) ∧ ∀ z ∈ zs, PAt w z)
theorem PlV.soft {w w' : World} {v : Value} {zs : List PZ} (h : PlV w v zs) (hs : Soft w w') : PlV w' v zs := by
  rcases h with h | ⟨hz, g, o, c, rfl, h1, h2, h3, h4, h5⟩
  · exact .inl h
  · refine .inr ⟨hz, g, o, c, rfl, h1, h2, ?_, fun i z hi => (h4 i z hi).soft hs, fun z hm => (h5 z hm).soft hs⟩
    obtain ⟨z, hz0⟩ : ∃ z, zs[0]? = some z := ⟨_, List.getElem?_eq_getElem (List.length_pos_iff.2 hz)⟩
    exact World.block_lt_of_cell? w' _ (((h4 0 z hz0).soft hs) 0 _ rfl)
theorem PlV.nil (w : World) : PlV w (.slice none 0 0) [] := .inl ⟨rfl, rfl⟩
theorem PlV.at {w : World} {v : Value} {zs : List PZ} (h : PlV w v zs) : ∀ z ∈ zs, PAt w z := by
  rcases h with ⟨rfl, -⟩ | ⟨-, _, _, _, -, -, -, -, -, h5⟩
  · exact fun _ h => by cases h
  · exact h5
theorem PlV.form {w : World} {v : Value} {zs : List PZ} (h : PlV w v zs) : ∃ q c, v = .slice q zs.length c := by
  rcases h with ⟨rfl, rfl⟩ | ⟨-, _, _, _, rfl, -⟩
  · exact ⟨_, _, rfl⟩
  · exact ⟨_, _, rfl⟩
theorem plrows_get : ∀ (zs : List PZ) (i : Nat) (z : PZ), zs[i]? = some z → ∀ j v, (plRow z)[j]? = some v → (zs.flatMap plRow)[i * 15 + j]? = some v
  | [], i, z, h => by simp at h
  | y :: r, 0, z, h => by
    simp at h; subst h
    intro j v hv
    rw [List.flatMap_cons, Nat.zero_mul, Nat.zero_add, List.getElem?_append_left (List.getElem?_eq_some_iff.1 hv).1]
    exact hv
  | y :: r, i + 1, z, h => by
    have h' : r[i]? = some z := by simpa using h
    intro j v hv
    have ih := plrows_get r i z h' j v hv
    have hl : (plRow y).length = 15 := rfl
    rw [List.flatMap_cons, List.getElem?_append_right (by rw [hl]; omega), hl, show (i + 1) * 15 + j - 15 = i * 15 + j by omega]
    exact ih
theorem plrows_len : ∀ zs : List PZ, (zs.flatMap plRow).length = zs.length * 15
  | [] => rfl
  | z :: r => by rw [List.flatMap_cons, List.length_append, plrows_len r, pl_len, List.length_cons]; omega
def PRow (w : World) (R n cap : Nat) (xs : List PZ) : Prop := ∃ cur : Array Value, w.heap[R]? = some (.cells cur 105 (0, 0)) ∧ cur.size = cap * 15 ∧ xs.length = n ∧ n ≤ cap ∧ cap ≤ maxLen ∧ cur.toList.take (n * 15) = xs.flatMap plRow
theorem PRow.own {w : World} {R n cap base : Nat} {xs : List PZ} (h : PRow w R n cap xs) (hb : base ≤ R) : w.ownsRow base 105 15 (.slice (some ⟨R, 0, none⟩) n cap) n (xs.flatMap plRow) := by
  obtain ⟨cur, h1, h2, h3, h4, h5, h6⟩ := h
  exact ⟨by rw [plrows_len, h3], .inr ⟨R, cap, cur, rfl, hb, h1, h4, h5, h2, h6⟩⟩
theorem prow_of {w : World} {base n : Nat} {v : Value} {xs : List PZ} (h : w.ownsRow base 105 15 v n (xs.flatMap plRow)) : (v = .slice none 0 0 ∧ n = 0 ∧ xs = []) ∨ ∃ R cap, v = .slice (some ⟨R, 0, none⟩) n cap ∧ base ≤ R ∧ PRow w R n cap xs := by
  have hn : n = xs.length := by have := h.1; rw [plrows_len] at this; omega
  rcases h.2 with ⟨rfl, rfl⟩ | ⟨g, cap, cur, rfl, hb, hg, h1, h2, h3, h4⟩
  · exact .inl ⟨rfl, rfl, List.eq_nil_of_length_eq_zero hn.symm⟩
  · exact .inr ⟨g, cap, rfl, hb, cur, hg, h3, hn.symm, h1, h2, h4⟩
theorem PRow.lt {w : World} {R n cap : Nat} {xs : List PZ} (h : PRow w R n cap xs) : R < w.heap.size := by
  obtain ⟨cur, h1, _⟩ := h
  exact (Array.getElem?_eq_some_iff.1 h1).1
theorem PRow.keep {w w' : World} {R n cap : Nat} {xs : List PZ} {S : Nat → Prop} (h : PRow w R n cap xs) (hk : Keep S w w') (hS : S R) : PRow w' R n cap xs := by
  obtain ⟨cur, h1, h2⟩ := h
  exact ⟨cur, hk.heap hS h1, h2⟩
theorem PRow.cells {w : World} {R n cap : Nat} {xs : List PZ} (h : PRow w R n cap xs) {i : Nat} {z : PZ} (hi : xs[i]? = some z) : PlCells w R (i * 15) z := by
  obtain ⟨cur, h1, h2, h3, h4, h5, h6⟩ := h
  have hil : i < xs.length := (List.getElem?_eq_some_iff.1 hi).1
  intro j u hu
  have hj : j < 15 := (List.getElem?_eq_some_iff.1 hu).1
  have hc := plrows_get xs i z hi j u hu
  rw [← h6, List.getElem?_take, if_pos (by omega)] at hc
  simp only [World.cell?, h1]
  simpa using hc
theorem PRow.room {w : World} {R n cap : Nat} {xs : List PZ} (h : PRow w R n cap xs) {j : Nat} (hj : j < cap * 15) : (∃ v, w.cell? ⟨R, j, none⟩ = some v) ∧ w.frozen? ⟨R, j, none⟩ = false := by
  obtain ⟨cur, h1, h2, -⟩ := h
  refine ⟨⟨cur[j]'(by omega), ?_⟩, by simp [World.frozen?, h1]⟩
  simp only [World.cell?, h1]
  simp [h2, hj]
theorem PRow.cut {w : World} {R n cap : Nat} {xs : List PZ} (h : PRow w R n cap xs) {k : Nat} (hk : k ≤ n) : PRow w R k cap (xs.take k) := by
  obtain ⟨cur, h1, h2, h3, h4, h5, h6⟩ := h
  refine ⟨cur, h1, h2, by rw [List.length_take]; omega, by omega, h5, ?_⟩
  rw [show cur.toList.take (k * 15) = (cur.toList.take (n * 15)).take (k * 15) by rw [List.take_take, Nat.min_eq_left (by omega)], h6]
  clear h1 h2 h4 h5 h6
  induction xs generalizing n k with
  | nil => simp
  | cons x r ih =>
    rcases k with _ | k
    · simp
    · rw [List.take_succ_cons, List.flatMap_cons, List.flatMap_cons, List.take_append, pl_len, List.take_of_length_le (by rw [pl_len]; omega), show (k + 1) * 15 - 15 = k * 15 by omega, ih (n := r.length) (k := k) (by simp at h3; omega) rfl]
theorem row_cells (R : Nat) (e : TypeId) : ∀ (vs : List Value) (o : Nat) (w : World) (cur : Array Value), w.heap[R]? = some (.cells cur e (0, 0)) →
    ∃ cur' : Array Value, (w.setCells R o vs).heap[R]? = some (.cells cur' e (0, 0)) ∧ cur'.size = cur.size ∧ ∀ j, cur'[j]? = if o ≤ j ∧ j < o + vs.length ∧ j < cur.size then vs[j - o]? else cur[j]?
  | [], o, w, cur, h => ⟨cur, h, rfl, fun j => by rw [if_neg (by rintro ⟨h1, h2, -⟩; simp at h2; omega)]⟩
  | v :: r, o, w, cur, h => by
    have hlt := (Array.getElem?_eq_some_iff.1 h).1
    have h1 : (w.setCell ⟨R, o, none⟩ v).heap[R]? = some (.cells (cur.setIfInBounds o v) e (0, 0)) := by
      simp only [World.setCell, Array.getElem?_modify, if_true, h, Option.map_some]
      simp
    obtain ⟨cur', h2, h3, h4⟩ := row_cells R e r (o + 1) _ _ h1
    refine ⟨cur', h2, by rw [h3, Array.size_setIfInBounds], fun j => ?_⟩
    rw [h4 j, Array.size_setIfInBounds]
    by_cases hj : o + 1 ≤ j ∧ j < o + 1 + r.length ∧ j < cur.size
    · rw [if_pos hj, if_pos (by simp; omega), show j - o = (j - (o + 1)) + 1 by omega, List.getElem?_cons_succ]
    · rw [if_neg hj]
      by_cases hjo : j = o
      · subst hjo
        by_cases hjs : j < cur.size
        · rw [if_pos (by simp; omega), Nat.sub_self, Array.getElem?_setIfInBounds_self, if_pos hjs]; rfl
        · rw [if_neg (by omega), Array.getElem?_eq_none (by simp; omega), Array.getElem?_eq_none (by omega)]
      · rw [if_neg (by simp; omega), Array.getElem?_setIfInBounds_ne (by omega)]
theorem keep_setCells (S : Nat → Prop) (R : Nat) (hR : ¬ S R) : ∀ (vs : List Value) (o : Nat) (w : World), Keep S w (w.setCells R o vs)
  | [], _, _ => Keep.refl _ _
  | v :: r, o, w => (Keep.setCell w ⟨R, o, none⟩ v hR).trans (keep_setCells S R hR r (o + 1) _)
theorem PRow.set {w : World} {R n cap : Nat} {xs : List PZ} (h : PRow w R n cap xs) {i : Nat} (hi : i < n) (z : PZ) : PRow (w.setCells R (i * 15) (plRow z)) R n cap (xs.set i z) := by
  obtain ⟨cur, h1, h2, h3, h4, h5, h6⟩ := h
  obtain ⟨cur', g1, g2, g3⟩ := row_cells R _ (plRow z) (i * 15) w cur h1
  refine ⟨cur', g1, g2.trans h2, by rw [List.length_set, h3], h4, h5, ?_⟩
  apply List.ext_getElem?
  intro t
  by_cases ht : t < n * 15
  · rw [List.getElem?_take, if_pos ht, Array.getElem?_toList, g3 t]
    obtain ⟨k, j, hj, rfl⟩ : ∃ k j, j < 15 ∧ t = k * 15 + j := ⟨t / 15, t % 15, Nat.mod_lt _ (by decide), by omega⟩
    have hk : k < n := by omega
    obtain ⟨y, hy⟩ : ∃ y, (xs.set i z)[k]? = some y := ⟨_, List.getElem?_eq_getElem (by rw [List.length_set]; omega)⟩
    obtain ⟨u, hu⟩ : ∃ u, (plRow y)[j]? = some u := ⟨_, List.getElem?_eq_getElem (by rw [pl_len]; exact hj)⟩
    rw [plrows_get _ k y hy j u hu]
    by_cases hki : k = i
    · subst hki
      rw [List.getElem?_set_self (by omega)] at hy
      cases hy
      rw [if_pos (by rw [pl_len]; omega), show k * 15 + j - k * 15 = j by omega, hu]
    · rw [List.getElem?_set_ne (Ne.symm hki)] at hy
      rw [if_neg (by rw [pl_len]; omega)]
      have := plrows_get _ k y hy j u hu
      rw [← h6, List.getElem?_take, if_pos (by omega), Array.getElem?_toList] at this
      exact this
  · rw [List.getElem?_eq_none (by rw [List.length_take]; omega), List.getElem?_eq_none (by rw [plrows_len, List.length_set]; omega)]
theorem PRow.over {w : World} {R n cap : Nat} {xs : List PZ} (h : PRow w R n cap xs) {i : Nat} (hi : i ≤ n) (vs : List Value) : PRow (w.setCells R (i * 15) vs) R i cap (xs.take i) := by
  obtain ⟨cur, h1, h2, h3, h4, h5, h6⟩ := h.cut hi
  obtain ⟨cur', g1, g2, g3⟩ := row_cells R _ vs (i * 15) w cur h1
  refine ⟨cur', g1, g2.trans h2, h3, h4, h5, ?_⟩
  rw [← h6]
  apply List.ext_getElem?
  intro t
  by_cases ht : t < i * 15
  · rw [List.getElem?_take, if_pos ht, List.getElem?_take, if_pos ht, Array.getElem?_toList, Array.getElem?_toList, g3 t, if_neg (by omega)]
  · rw [List.getElem?_take, if_neg ht, List.getElem?_take, if_neg ht]
theorem PRow.plv {w : World} {R n cap : Nat} {xs : List PZ} (h : PRow w R n cap xs) (h0 : 0 < n) (hz : ∀ z ∈ xs, PAt w z) : PlV w (.slice (some ⟨R, 0, none⟩) n cap) xs := by
  have hc := fun i z (hi : xs[i]? = some z) => h.cells hi
  have hlt := h.lt
  obtain ⟨cur, h1, h2, h3, h4, h5, h6⟩ := h
  subst h3
  refine .inr ⟨List.length_pos_iff.1 h0, R, 0, cap, rfl, h4, h5, hlt, fun i z hi => ?_, hz⟩
  rw [Nat.zero_add]
  exact hc i z hi
theorem info_pl : (Tryz.prog.info? 105).map (fun i => (i.zero, i.size, i.bytes)) = some (some (.agg #[.slice none 0 0, .slice none 0 0, .slice none 0 0, .string ⟨#[]⟩, .int .i64 0, .bool false, .slice none 0 0, .slice none 0 0, .int .i64 0, .slice none 0 0, .slice none 0 0, .slice none 0 0, .bool false, .bool false, .int .i64 0]), 15, 248) := by kernel_rfl
end Go.Proofs.YtniehbjoogaccaaGreatDoor.Jar
