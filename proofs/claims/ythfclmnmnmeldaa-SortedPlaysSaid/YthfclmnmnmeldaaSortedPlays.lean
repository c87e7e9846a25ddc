/- SortedPlays: the law returns true at whatever input, and writes nothing that was there. Conditions: none. -/
import Derived.Test.YthfclmnmnmeldaaRows
import Derived.Test.YthfclmnmnmeldaaSetT
import Derived.WalkKit
import Derived.ProofKit
import Derived.OpenShut
import Derived.ShutString
import Derived.ChangeOld
import Derived.Below
namespace Go.Proofs.Ythfclmnmnmeldaa.sortedPlays
open Go.ChangeShapes Go.WideShapes Go.ChangeAt Go.RowKit
open Go.ChangeMaps (open_string shut_string)
set_option linter.unusedVariables false

theorem own : ownKnob Try.prog.godebug = none := by kernel_rfl
theorem laidOut : laidOutB Try.prog = true := by kernel_rfl

def IsRow (k : IntKind) (w : World) (a : Option Addr) (len cap : Nat) (zs : List Int) : Prop :=
  (a = none ∧ len = 0 ∧ cap = 0 ∧ zs = []) ∨
  ∃ x, a = some x ∧ len ≤ cap ∧ cap ≤ maxLen ∧ zs.length = cap ∧ (∀ i, i < zs.length → w.cell? (x.add i) = some (.int k (zs.getD i 0))) ∧ ∀ n ∈ zs, (Lit.int k n).wf = true

theorem row_ints {w : World} {a : Option Addr} {len cap : Nat} {zs : List Int} (h : IsRow .i64 w a len cap zs) : ∃ xs : List Int, SlIn (Value.int .i64) w a len xs ∧ (a = none → cap = 0) ∧ len ≤ cap := by
  rcases h with ⟨rfl, rfl, rfl, rfl⟩ | ⟨⟨b, o, s⟩, rfl, h1, h2, h3, h4, h5⟩
  · exact ⟨[], SlIn.nil _ _ _, fun _ => rfl, Nat.le_refl _⟩
  · refine ⟨zs.take len, ⟨by simp; omega, fun hp => ?_⟩, (fun h => by cases h), h1⟩
    have hc0 := h4 0 (by omega)
    have hspot : s = none := by simpa [Addr.add] using World.cell?_spot hc0
    subst hspot
    rw [Go.WideShapes.add_plain] at hc0
    refine ⟨b, o, rfl, World.block_lt_of_cell? w _ hc0, fun i x hx => ?_⟩
    rw [List.getElem?_take] at hx
    split at hx
    · have := h4 i (by omega)
      rw [Go.WideShapes.add_plain] at this
      rw [this, List.getD, hx]; rfl
    · cases hx

theorem setIs_keep {S : Nat → Prop} {w w' : World} {q : Option Addr} {n c : Nat} {xs : List Int} (h : SetIs (Value.int .i64) w (.agg #[.slice q n c]) xs) (hk : Keep S w w') (hq : ∀ a, q = some a → S a.block) : SetIs (Value.int .i64) w' (.agg #[.slice q n c]) xs := by
  obtain ⟨q', n', c', he, h1, h2, h3, h4⟩ := h
  cases he
  exact ⟨q, n, c, rfl, h1, h2, h3.keep hk (fun a ha _ => hq a ha), h4⟩
theorem own_none {W : World} {base n : Nat} {e : TypeId} {q : Option Addr} {c : Nat} {xs : List Value} (h : W.ownsRow base e 1 (.slice q n c) n xs) : q = none → c = 0 := by
  rintro rfl
  rcases h.2 with ⟨h1, _⟩ | ⟨g, cap, cur, h1, _⟩
  · cases h1; rfl
  · cases h1
set_option maxHeartbeats 8000000 in
set_option maxRecDepth 100000 in
theorem walk (a0 : Option Addr) (len0 cap0 : Nat) (z0 : List Int) (a1 : Option Addr) (len1 cap1 : Nat) (z1 : List Int) (w : World) (w0 : IsRow .i64 w a0 len0 cap0 z0) (w1 : IsRow .i64 w a1 len1 cap1 z1) :
    Calls Try.prog 3 #[.slice a0 len0 cap0, .slice a1 len1 cap1] w fun e w' => e = .returned (.bool true) ∧ Below w.heap.size w w' := by
  obtain ⟨i0, hi0, hz0, hz1, hz2⟩ := info_parts info_int
  obtain ⟨al, ha, hna, _⟩ := row_ints w0
  obtain ⟨bl, hb, hnb, _⟩ := row_ints w1
  clear w0 w1
  by_cases hbig0 : 60 < len0
  · have e0 : decide ((60 : Int) < (len0 : Int)) = true := by simp; omega
    clear ha hb
    go_enter Try.func3, Try.ntmps3
    go_wp2_with fail
    refine (lives_any _).mono ?_
    rintro e w2 ⟨rfl, hb2⟩
    go_wp2_with fail
    refine (lives_any _).mono ?_
    rintro e w3 ⟨rfl, hb3⟩
    go_wp2
    go_ret
    exact ⟨rfl, hb2.trans (hb3.mono hb2.size)⟩
  have e0 : decide ((60 : Int) < (len0 : Int)) = false := by simp; omega
  have hs0 : len0 ≤ 60 := by omega
  clear hbig0
  by_cases hbig1 : 60 < len1
  · have e1 : decide ((60 : Int) < (len1 : Int)) = true := by simp; omega
    clear ha hb
    go_enter Try.func3, Try.ntmps3
    go_wp2_with fail
    refine (lives_any _).mono ?_
    rintro e w2 ⟨rfl, hb2⟩
    go_wp2_with fail
    refine (lives_any _).mono ?_
    rintro e w3 ⟨rfl, hb3⟩
    go_wp2
    go_ret
    exact ⟨rfl, hb2.trans (hb3.mono hb2.size)⟩
  have e1 : decide ((60 : Int) < (len1 : Int)) = false := by simp; omega
  have hs1 : len1 ≤ 60 := by omega
  clear hbig1
  have hla := setI_length al
  have hlb := setI_length bl
  have hra := setI_rises al
  have hrb := setI_rises bl
  have hll := Lib.hid ha.1
  rw [ha.1] at hla
  rw [hb.1] at hlb
  have M1 := Lib.hid (with_set al bl)
  have M2 := Lib.hid (minus_both (setI al) (setI bl) hra hrb)
  have M3 := Lib.hid (meet_both (setI al) (setI bl) hra hrb)
  have M4 := Lib.hid (join_set (setI al) (setI bl) hra hrb)
  have M5 := bothL_length (setI al) (setI bl) false
  have M6 := bothL_length (setI al) (setI bl) true
  have M7 := setI_length (al ++ bl)
  have M8 := setI_length (setI al ++ setI bl)
  rw [List.length_append, ha.1, hb.1] at M7
  rw [List.length_append] at M8
  go_enter Try.func3, Try.ntmps3
  go_wp2_with fail
  refine (lives_any _).mono ?_
  rintro e w1 ⟨rfl, hB1⟩
  have ha1 := ha.below hB1 ha.lt
  have hb1 := hb.below hB1 hb.lt
  have hal := ha.lt
  have hbl := hb.lt
  clear ha hb
  go_wp2_with (at_builtin; go_must (refine wpList_append_row (enc := Value.int .i64) rfl _ _ 22 3 rfl i0 (.int .i64 0) 8 Try.underlying22 hi0 hz0 hz1 hz2 rfl (fun _ => rfl) (by decide) w1.heap.size (.slice (some ⟨w1.heap.size, 0, none⟩) 0 0) 0 [] rfl (World.ownsRow_made w1 #[] 0 (Nat.le_refl _) (Nat.zero_le _) rfl) a0 len0 cap0 al rfl hna (ha1.alloc _) (by omega) (by simp) ?_); intro vo w2 hown hgrow)
  have k2 : Keep (fun b => b < w1.heap.size) w1 w2 := (Keep.alloc _ w1 _).trans (Keep.of_grownBy hgrow (fun r hr => by simp [Value.ownBlock] at hr; omega))
  have hs12 : w1.heap.size < w2.heap.size := by have := hgrow.size; simp at this; omega
  simp only [Nat.zero_add, List.nil_append] at hown
  have hbel := k2.below (Nat.le_refl _)
  have ha2 := ha1.below hbel ha1.lt
  have hb2 := hb1.below hbel hb1.lt
  have hB2 := hB1.trans (hbel.mono hB1.size)
  have hs01 := hB1.size
  clear ha1 hb1 hB1 hgrow k2 hbel
  obtain ⟨qo, co, rfl, _, _, hso, hqo⟩ := slIn_of_owns hown
  have hno := own_none hown
  obtain ⟨g, hg1, hg2, hg3⟩ : ∃ g, (0 < len0 → qo = some ⟨g, 0, none⟩) ∧ w1.heap.size ≤ g ∧ g < w2.heap.size := by
    by_cases h0 : 0 < len0
    · obtain ⟨n, rfl⟩ : ∃ n, len0 = n + 1 := ⟨len0 - 1, by omega⟩
      obtain ⟨g, cap, he⟩ := ownsRow_succ hown
      cases he
      have := hqo _ rfl
      exact ⟨g, fun _ => rfl, this.1, this.2.1⟩
    · exact ⟨w1.heap.size, fun h => absurd h h0, Nat.le_refl _, hs12⟩
  have hcell : Hid (∀ j x, al[j]? = some x → w2.cell? ⟨g, j, none⟩ = some (.int .i64 x)) := fun j x hx => by
    have hj : j < al.length := (List.getElem?_eq_some_iff.1 hx).1
    have h0 : 0 < len0 := by have := hll.out; omega
    obtain ⟨b, o, he, _, hc⟩ := hso.at h0
    have hh := hg1 h0
    rw [he] at hh
    cases hh
    have := hc j x hx
    rwa [Nat.zero_add] at this
  have hfro : Hid (∀ j, j < len0 → w2.frozen? ⟨g, j, none⟩ = false) := fun j hj => by
    obtain rfl := hg1 (by omega)
    exact hown.frozenAt j
  have hG := hg3
  have hso2 := hso
  clear hso
  have hk2 := Keep.refl (fun b => b < w2.heap.size) w2
  go_wp2_with fail
  refine (Of_new qo len0 co al w2 hso2 hno (by omega)).mono ?_
  rintro e w3 ⟨qx, cx, rfl, hx, hfx, hB⟩
  have ha3 := ha2.below hB ha2.lt
  have hb3 := hb2.below hB hb2.lt
  have hso3 := hso2.below hB hso2.lt
  have hk3 := hk2.trans ((Keep.of_below hB).mono fun b h _ => h)
  have hB3 := hB2.trans (hB.mono hB2.size)
  clear ha2 hb2 hso2 hk2 hB2
  clear hB
  have hx3 := hx
  clear hx
  clear hso3
  have hw23 := hk3.size
  go_wp2_with fail
  refine (Of_new a1 len1 cap1 bl w3 hb3 hnb (by omega)).mono ?_
  rintro e w4 ⟨qy, cy, rfl, hy, hfy, hB⟩
  have ha4 := ha3.below hB ha3.lt
  have hb4 := hb3.below hB hb3.lt
  have hk4 := hk3.trans ((Keep.of_below hB).mono fun b h _ => h)
  have hx4 := hx3.below hB
  have hB4 := hB3.trans (hB.mono hB3.size)
  clear ha3 hb3 hk3 hx3 hB3
  clear hB
  have hy4 := hy
  clear hy
  obtain ⟨W, hW⟩ : ∃ W, (w4.alloc (.cells #[.slice qx (setI al).length cx] 25)).alloc (.cells #[.slice qy (setI bl).length cy] 25) = W := ⟨_, rfl⟩
  have bx5 : Boxed W w4.heap.size 25 (.slice qx (setI al).length cx) := by rw [← hW]; exact (Boxed.new w4 _ _).alloc _
  have by5 : Boxed W (w4.heap.size + 1) 25 (.slice qy (setI bl).length cy) := by
    rw [← hW]
    have := Boxed.new (w4.alloc (.cells #[.slice qx (setI al).length cx] 25)) 25 (.slice qy (setI bl).length cy)
    rwa [World.size_alloc] at this
  have hBW : Below w4.heap.size w4 W := by rw [← hW]; exact (below_alloc _).trans ((below_alloc _).mono (by simp))
  have hw34 := hk4.size
  have ha5 := ha4.below hBW ha4.lt
  have hb5 := hb4.below hBW hb4.lt
  have hk5 := hk4.trans ((Keep.of_below hBW).mono fun b h _ => h)
  have hx5 := hx4.below hBW
  have hy5 := hy4.below hBW
  have hB5 := hB4.trans (hBW.mono hB4.size)
  clear ha4 hb4 hk4 hx4 hy4 hB4
  have HW := Lib.hid hW
  clear hBW hW
  have hcW : Hid (∀ j x, al[j]? = some x → W.cell? ⟨g, j, none⟩ = some (.int .i64 x)) := fun j x hx => (World.cell?_of_block (hk5.block g hG hG)).trans (hcell.out j x hx)
  have hfW : Hid (∀ j, j < len0 → W.frozen? ⟨g, j, none⟩ = false) := fun j hj => (World.frozen?_of_block (hk5.block g hG hG)).trans (hfro.out j hj)
  have hsW := hk5.size
  clear hcell hfro hown hqo
  have hx5q : SetIs (Value.int .i64) W (.agg #[.slice qx (setI al).length cx]) (setI al) := hx5
  go_wp2
  rw [HW.out]
  have hnx : ∀ a, qx = some a → a.block ≠ g := fun a h => by have := hfx a h; omega
  have hny : ∀ a, qy = some a → a.block ≠ g := fun a h => by have := hfy a h; omega
  have hna0 : ∀ a, a0 = some a → 0 < len0 → a.block ≠ g := fun a h h0 => by have := hal a h h0; omega
  have hnb0 : ∀ a, a1 = some a → 0 < len1 → a.block ≠ g := fun a h h0 => by have := hbl a h h0; omega
  go_loopw [33] (fun i wr => ∃ k : Nat, k ≤ len0 ∧ i = .int .i64 k ∧ Keep (fun b => b ≠ g) W wr ∧ Hid (∀ j x, k ≤ j → al[j]? = some x → wr.cell? ⟨g, j, none⟩ = some (.int .i64 x)) ∧ Hid (∀ j, j < len0 → wr.frozen? ⟨g, j, none⟩ = false)) (fun i _ => len0 - (intOf i).toNat)
  case atStart => exact ⟨0, Nat.zero_le _, rfl, Keep.refl _ _, Lib.hid (fun j x _ h => hcW.out j x h), hfW⟩
  case round =>
    obtain ⟨k, hk, rfl, hkr, HC, HF⟩ := hrel
    have hsr := hkr.size
    by_cases hlt : k < len0
    · obtain rfl := hg1 (by omega)
      obtain ⟨x, hx, _⟩ := drop_getElem al k (by rw [hll.out]; exact hlt)
      have c1 := HC.out k x (Nat.le_refl _) hx
      have f1 := HF.out k hlt
      obtain ⟨ba, oa, rfl, _, hca⟩ := (ha5.keep hkr hna0).at (by omega)
      have c2 := hca k x hx
      clear hca hx
      go_wp2_with (go_quiet (fail))
      go_roundw
      case rel =>
        refine ⟨k + 1, by omega, by go_num, hkr.trans ((Keep.drewN _ _ _).trans (Keep.setCell (S := fun b => b ≠ g) _ _ _ (by simp))), ?_, ?_⟩
        · exact Lib.hid (fun j y hj hy => (World.cell?_setCell_other _ _ _ _ (by intro h; cases h; omega)).trans (HC.out j y (by omega) hy))
        · exact Lib.hid (fun j hj => (World.frozen?_setCell _ _ _ _).trans (HF.out j hj))
      case measure => simp [intOf]; omega
    · clear HC HF hcW hfW
      have ha6 := ha5.keep hkr hna0
      have hb6 := hb5.keep hkr hnb0
      have hx6 := setIs_keep hx5 hkr hnx
      have hy6 := setIs_keep hy5 hkr hny
      have bx6 := hkr.boxed bx5 (by omega)
      have by6 := hkr.boxed by5 (by omega)
      have hB6 : Below w.heap.size w wr := hB5.trans ((hkr.mono (T := fun b => b < w.heap.size) fun b _ hb => by omega).below hB5.size)
      have cbx6 := bx6.cell
      have cby6 := by6.cell
      clear ha5 hb5 hx5 hy5 hx5q bx5 by5 hk5 hB5 hkr hnx hny hna0 hnb0 hfx hfy hal hbl hg1 hno
      try clear cbx5 cby5
      go_wp2_with fail
      refine (refOf_any a0 len0 cap0 al wr ha6 (by omega)).mono ?_
      rintro e w7 ⟨ap, cp, rfl, hp, hB⟩
      have ha7 := ha6.below hB ha6.lt
      have hb7 := hb6.below hB hb6.lt
      have hx7 := hx6.below hB
      have hy7 := hy6.below hB
      have bx7 := (Keep.of_below hB).boxed bx6 bx6.lt
      have by7 := (Keep.of_below hB).boxed by6 by6.lt
      have hB7 := hB6.trans (hB.mono hB6.size)
      clear ha6 hb6 hx6 hy6 bx6 by6 hB6
      try clear cbx6 cby6
      have cbx7 := bx7.cell
      have cby7 := by7.cell
      clear hB
      have hp7 := hp
      clear hp
      go_wp2_with fail
      refine (refOf_any a1 len1 cap1 bl w7 hb7 (by omega)).mono ?_
      rintro e w8 ⟨aq, cq, rfl, hq, hB⟩
      have ha8 := ha7.below hB ha7.lt
      have hb8 := hb7.below hB hb7.lt
      have hx8 := hx7.below hB
      have hy8 := hy7.below hB
      have bx8 := (Keep.of_below hB).boxed bx7 bx7.lt
      have by8 := (Keep.of_below hB).boxed by7 by7.lt
      have hp8 := hp7.below hB hp7.lt
      have hB8 := hB7.trans (hB.mono hB7.size)
      clear ha7 hb7 hx7 hy7 bx7 by7 hp7 hB7
      try clear cbx7 cby7
      have cbx8 := bx8.cell
      have cby8 := by8.cell
      clear hB
      have hq8 := hq
      clear hq
      go_wp2_with fail
      refine (same_any _ (some ap) (setI al).length cp (setI al) w8 hx8 hp8 (by omega)).mono ?_
      rintro e w9 ⟨rfl, hB⟩
      have ha9 := ha8.below hB ha8.lt
      have hb9 := hb8.below hB hb8.lt
      have hx9 := hx8.below hB
      have hy9 := hy8.below hB
      have bx9 := (Keep.of_below hB).boxed bx8 bx8.lt
      have by9 := (Keep.of_below hB).boxed by8 by8.lt
      have hp9 := hp8.below hB hp8.lt
      have hq9 := hq8.below hB hq8.lt
      have hB9 := hB8.trans (hB.mono hB8.size)
      clear ha8 hb8 hx8 hy8 bx8 by8 hp8 hq8 hB8
      try clear cbx8 cby8
      have cbx9 := bx9.cell
      have cby9 := by9.cell
      clear hB
      go_wp2_with fail
      refine (same_any _ (some aq) (setI bl).length cq (setI bl) w9 hy9 hq9 (by omega)).mono ?_
      rintro e w10 ⟨rfl, hB⟩
      have ha10 := ha9.below hB ha9.lt
      have hb10 := hb9.below hB hb9.lt
      have hx10 := hx9.below hB
      have hy10 := hy9.below hB
      have bx10 := (Keep.of_below hB).boxed bx9 bx9.lt
      have by10 := (Keep.of_below hB).boxed by9 by9.lt
      have hp10 := hp9.below hB hp9.lt
      have hq10 := hq9.below hB hq9.lt
      have hB10 := hB9.trans (hB.mono hB9.size)
      clear ha9 hb9 hx9 hy9 bx9 by9 hp9 hq9 hB9
      try clear cbx9 cby9
      have cbx10 := bx10.cell
      have cby10 := by10.cell
      clear hB
      go_wp2_with fail
      refine (With_any _ (setI al) bl a1 len1 cap1 w10 hx10 hb10 hnb (by omega) (by omega)).mono ?_
      rintro e w11 ⟨vw, rfl, hw, hB⟩
      have ha11 := ha10.below hB ha10.lt
      have hb11 := hb10.below hB hb10.lt
      have hx11 := hx10.below hB
      have hy11 := hy10.below hB
      have bx11 := (Keep.of_below hB).boxed bx10 bx10.lt
      have by11 := (Keep.of_below hB).boxed by10 by10.lt
      have hp11 := hp10.below hB hp10.lt
      have hq11 := hq10.below hB hq10.lt
      have hB11 := hB10.trans (hB.mono hB10.size)
      clear ha10 hb10 hx10 hy10 bx10 by10 hp10 hq10 hB10
      try clear cbx10 cby10
      have cbx11 := bx11.cell
      have cby11 := by11.cell
      clear hB
      have hw11 := hw
      clear hw
      rw [M1.out] at hw11
      go_wp2_with (at_builtin; first
        | (refine wpList_append_rowg (enc := Value.int .i64) rfl _ _ 22 3 rfl i0 (.int .i64 0) 8 Try.underlying22 hi0 hz0 hz1 hz2 rfl (fun _ => rfl) (by decide) w11.heap.size (.slice (some ⟨w11.heap.size, 0, none⟩) 0 0) 0 [] rfl (World.ownsRow_made w11 #[] 0 (Nat.le_refl _) (Nat.zero_le _) rfl) a0 len0 cap0 (al) rfl hna (ha11.alloc _) (by omega) (by simp) ?_; intro vo1 v1 hown1 hgrow1; have k1 : Keep (fun b => b < w11.heap.size) w11 v1 := (Keep.alloc _ w11 _).trans (Keep.of_grownBy hgrow1 (fun r hr => by simp [Value.ownBlock] at hr; omega)); simp only [Nat.zero_add, List.nil_append] at hown1)
        | (refine wpList_append_rowg (enc := Value.int .i64) rfl _ _ 22 3 rfl i0 (.int .i64 0) 8 Try.underlying22 hi0 hz0 hz1 hz2 rfl (fun _ => rfl) (by decide) w11.heap.size (vo1) len0 _ rfl (hown1) a1 len1 cap1 (bl) rfl hnb (hb11.keep k1 hb11.lt) (by omega) (k1.size) ?_; intro vo2 v2 hown2 hgrow2; have k2 : Keep (fun b => b < w11.heap.size) w11 v2 := k1.trans (Keep.of_grownBy hgrow2 (fun r hr h => by have := (hown1.lt r hr).1; omega))))
      rw [← List.map_append] at hown2
      have hB := k2.below (Nat.le_refl _)
      obtain ⟨rq, rc, rfl, _, _, hr, _⟩ := slIn_of_owns hown2
      have rn := own_none hown2
      clear hown1 hown2 hgrow1 hgrow2 k1 k2
      have ha12 := ha11.below hB ha11.lt
      have hb12 := hb11.below hB hb11.lt
      have hx12 := hx11.below hB
      have hy12 := hy11.below hB
      have bx12 := (Keep.of_below hB).boxed bx11 bx11.lt
      have by12 := (Keep.of_below hB).boxed by11 by11.lt
      have hp12 := hp11.below hB hp11.lt
      have hq12 := hq11.below hB hq11.lt
      have hw12 := hw11.below hB
      have hB12 := hB11.trans (hB.mono hB11.size)
      clear ha11 hb11 hx11 hy11 bx11 by11 hp11 hq11 hw11 hB11
      try clear cbx11 cby11
      have cbx12 := bx12.cell
      have cby12 := by12.cell
      clear hB
      have hr12 := hr
      clear hr
      go_wp2_with fail
      refine (refOf_any rq (len0 + len1) rc (al ++ bl) v2 hr12 (by omega)).mono ?_
      rintro e w13 ⟨as_, cs_, rfl, hs, hB⟩
      have ha13 := ha12.below hB ha12.lt
      have hb13 := hb12.below hB hb12.lt
      have hx13 := hx12.below hB
      have hy13 := hy12.below hB
      have bx13 := (Keep.of_below hB).boxed bx12 bx12.lt
      have by13 := (Keep.of_below hB).boxed by12 by12.lt
      have hp13 := hp12.below hB hp12.lt
      have hq13 := hq12.below hB hq12.lt
      have hw13 := hw12.below hB
      have hr13 := hr12.below hB hr12.lt
      have hB13 := hB12.trans (hB.mono hB12.size)
      clear ha12 hb12 hx12 hy12 bx12 by12 hp12 hq12 hw12 hr12 hB12
      try clear cbx12 cby12
      have cbx13 := bx13.cell
      have cby13 := by13.cell
      clear hB
      have hs13 := hs
      clear hs
      clear hr13
      go_wp2_with fail
      refine (same_any _ (some as_) (setI (al ++ bl)).length cs_ (setI (al ++ bl)) w13 hw13 hs13 (by omega)).mono ?_
      rintro e w14 ⟨rfl, hB⟩
      have ha14 := ha13.below hB ha13.lt
      have hb14 := hb13.below hB hb13.lt
      have hx14 := hx13.below hB
      have hy14 := hy13.below hB
      have bx14 := (Keep.of_below hB).boxed bx13 bx13.lt
      have by14 := (Keep.of_below hB).boxed by13 by13.lt
      have hp14 := hp13.below hB hp13.lt
      have hq14 := hq13.below hB hq13.lt
      have hw14 := hw13.below hB
      have hs14 := hs13.below hB hs13.lt
      have hB14 := hB13.trans (hB.mono hB13.size)
      clear ha13 hb13 hx13 hy13 bx13 by13 hp13 hq13 hw13 hs13 hB13
      try clear cbx13 cby13
      have cbx14 := bx14.cell
      have cby14 := by14.cell
      clear hB
      clear hs14 hw14
      go_wp2_with fail
      refine (Without_any _ (setI al) bl a1 len1 cap1 w14 hx14 hb14 hnb (by omega) (by omega)).mono ?_
      rintro e w15 ⟨vw2, rfl, hw, hB⟩
      have ha15 := ha14.below hB ha14.lt
      have hb15 := hb14.below hB hb14.lt
      have hx15 := hx14.below hB
      have hy15 := hy14.below hB
      have bx15 := (Keep.of_below hB).boxed bx14 bx14.lt
      have by15 := (Keep.of_below hB).boxed by14 by14.lt
      have hp15 := hp14.below hB hp14.lt
      have hq15 := hq14.below hB hq14.lt
      have hB15 := hB14.trans (hB.mono hB14.size)
      clear ha14 hb14 hx14 hy14 bx14 by14 hp14 hq14 hB14
      try clear cbx14 cby14
      have cbx15 := bx15.cell
      have cby15 := by15.cell
      clear hB
      have hw15 := hw
      clear hw
      rw [M2.out] at hw15
      go_wp2_with fail
      refine (Both_any (some ap) (some aq) (setI al).length cp (setI bl).length cq (setI al) (setI bl) false w15 hp15 hq15 (by omega) (by omega)).mono ?_
      rintro e w16 ⟨qtfalse_15, ctfalse_15, rfl, ht, _, hB⟩
      have ha16 := ha15.below hB ha15.lt
      have hb16 := hb15.below hB hb15.lt
      have hx16 := hx15.below hB
      have hy16 := hy15.below hB
      have bx16 := (Keep.of_below hB).boxed bx15 bx15.lt
      have by16 := (Keep.of_below hB).boxed by15 by15.lt
      have hp16 := hp15.below hB hp15.lt
      have hq16 := hq15.below hB hq15.lt
      have hw16 := hw15.below hB
      have hB16 := hB15.trans (hB.mono hB15.size)
      clear ha15 hb15 hx15 hy15 bx15 by15 hp15 hq15 hw15 hB15
      try clear cbx15 cby15
      have cbx16 := bx16.cell
      have cby16 := by16.cell
      clear hB
      have ht16 := ht
      clear ht
      go_wp2_with fail
      refine (same_any _ qtfalse_15 (bothL (setI al) (setI bl) false).length ctfalse_15 (bothL (setI al) (setI bl) false) w16 hw16 ht16 (by omega)).mono ?_
      rintro e w17 ⟨rfl, hB⟩
      have ha17 := ha16.below hB ha16.lt
      have hb17 := hb16.below hB hb16.lt
      have hx17 := hx16.below hB
      have hy17 := hy16.below hB
      have bx17 := (Keep.of_below hB).boxed bx16 bx16.lt
      have by17 := (Keep.of_below hB).boxed by16 by16.lt
      have hp17 := hp16.below hB hp16.lt
      have hq17 := hq16.below hB hq16.lt
      have hw17 := hw16.below hB
      have ht17 := ht16.below hB ht16.lt
      have hB17 := hB16.trans (hB.mono hB16.size)
      clear ha16 hb16 hx16 hy16 bx16 by16 hp16 hq16 hw16 ht16 hB16
      try clear cbx16 cby16
      have cbx17 := bx17.cell
      have cby17 := by17.cell
      clear hB
      clear ht17 hw17
      go_wp2_with fail
      refine (Join_any _ _ (setI al) (setI bl) w17 hx17 hy17 (by omega) (by omega)).mono ?_
      rintro e w18 ⟨vw3, rfl, hw, hB⟩
      have ha18 := ha17.below hB ha17.lt
      have hb18 := hb17.below hB hb17.lt
      have hx18 := hx17.below hB
      have hy18 := hy17.below hB
      have bx18 := (Keep.of_below hB).boxed bx17 bx17.lt
      have by18 := (Keep.of_below hB).boxed by17 by17.lt
      have hp18 := hp17.below hB hp17.lt
      have hq18 := hq17.below hB hq17.lt
      have hB18 := hB17.trans (hB.mono hB17.size)
      clear ha17 hb17 hx17 hy17 bx17 by17 hp17 hq17 hB17
      try clear cbx17 cby17
      have cbx18 := bx18.cell
      have cby18 := by18.cell
      clear hB
      have hw18 := hw
      clear hw
      rw [M4.out] at hw18
      have hnp : (some ap : Option Addr) = none → cp = 0 := fun h => by cases h
      have hnq : (some aq : Option Addr) = none → cq = 0 := fun h => by cases h
      go_wp2_with (at_builtin; first
        | (refine wpList_append_row (enc := Value.int .i64) rfl _ _ 22 3 rfl i0 (.int .i64 0) 8 Try.underlying22 hi0 hz0 hz1 hz2 rfl (fun _ => rfl) (by decide) w18.heap.size (.slice (some ⟨w18.heap.size, 0, none⟩) 0 0) 0 [] rfl (World.ownsRow_made w18 #[] 0 (Nat.le_refl _) (Nat.zero_le _) rfl) (some ap) (setI al).length cp (setI al) rfl hnp (hp18.alloc _) (by omega) (by simp) ?_; intro vo1 v1 hown1 hgrow1; have k1 : Keep (fun b => b < w18.heap.size) w18 v1 := (Keep.alloc _ w18 _).trans (Keep.of_grownBy hgrow1 (fun r hr => by simp [Value.ownBlock] at hr; omega)); simp only [Nat.zero_add, List.nil_append] at hown1)
        | (refine wpList_append_row (enc := Value.int .i64) rfl _ _ 22 3 rfl i0 (.int .i64 0) 8 Try.underlying22 hi0 hz0 hz1 hz2 rfl (fun _ => rfl) (by decide) w18.heap.size (vo1) (setI al).length _ rfl (hown1) (some aq) (setI bl).length cq (setI bl) rfl hnq (hq18.keep k1 hq18.lt) (by omega) (k1.size) ?_; intro vo2 v2 hown2 hgrow2; have k2 : Keep (fun b => b < w18.heap.size) w18 v2 := k1.trans (Keep.of_grownBy hgrow2 (fun r hr h => by have := (hown1.lt r hr).1; omega))))
      rw [← List.map_append] at hown2
      have hB := k2.below (Nat.le_refl _)
      obtain ⟨rq, rc, rfl, _, _, hr, _⟩ := slIn_of_owns hown2
      have rn := own_none hown2
      clear hown1 hown2 hgrow1 hgrow2 k1 k2
      have ha19 := ha18.below hB ha18.lt
      have hb19 := hb18.below hB hb18.lt
      have hx19 := hx18.below hB
      have hy19 := hy18.below hB
      have bx19 := (Keep.of_below hB).boxed bx18 bx18.lt
      have by19 := (Keep.of_below hB).boxed by18 by18.lt
      have hp19 := hp18.below hB hp18.lt
      have hq19 := hq18.below hB hq18.lt
      have hw19 := hw18.below hB
      have hB19 := hB18.trans (hB.mono hB18.size)
      clear ha18 hb18 hx18 hy18 bx18 by18 hp18 hq18 hw18 hB18
      try clear cbx18 cby18
      have cbx19 := bx19.cell
      have cby19 := by19.cell
      clear hB
      have hr19 := hr
      clear hr
      go_wp2_with fail
      refine (refOf_any rq ((setI al).length + (setI bl).length) rc (setI al ++ setI bl) v2 hr19 (by omega)).mono ?_
      rintro e w20 ⟨as2_, cs2_, rfl, hs, hB⟩
      have ha20 := ha19.below hB ha19.lt
      have hb20 := hb19.below hB hb19.lt
      have hx20 := hx19.below hB
      have hy20 := hy19.below hB
      have bx20 := (Keep.of_below hB).boxed bx19 bx19.lt
      have by20 := (Keep.of_below hB).boxed by19 by19.lt
      have hp20 := hp19.below hB hp19.lt
      have hq20 := hq19.below hB hq19.lt
      have hw20 := hw19.below hB
      have hr20 := hr19.below hB hr19.lt
      have hB20 := hB19.trans (hB.mono hB19.size)
      clear ha19 hb19 hx19 hy19 bx19 by19 hp19 hq19 hw19 hr19 hB19
      try clear cbx19 cby19
      have cbx20 := bx20.cell
      have cby20 := by20.cell
      clear hB
      have hs20 := hs
      clear hs
      clear hr20
      go_wp2_with fail
      refine (same_any _ (some as2_) (setI (setI al ++ setI bl)).length cs2_ (setI (setI al ++ setI bl)) w20 hw20 hs20 (by omega)).mono ?_
      rintro e w21 ⟨rfl, hB⟩
      have ha21 := ha20.below hB ha20.lt
      have hb21 := hb20.below hB hb20.lt
      have hx21 := hx20.below hB
      have hy21 := hy20.below hB
      have bx21 := (Keep.of_below hB).boxed bx20 bx20.lt
      have by21 := (Keep.of_below hB).boxed by20 by20.lt
      have hp21 := hp20.below hB hp20.lt
      have hq21 := hq20.below hB hq20.lt
      have hw21 := hw20.below hB
      have hs21 := hs20.below hB hs20.lt
      have hB21 := hB20.trans (hB.mono hB20.size)
      clear ha20 hb20 hx20 hy20 bx20 by20 hp20 hq20 hw20 hs20 hB20
      try clear cbx20 cby20
      have cbx21 := bx21.cell
      have cby21 := by21.cell
      clear hB
      clear hs21 hw21
      go_wp2_with fail
      refine (Meet_any _ _ (setI al) (setI bl) w21 hx21 hy21 (by omega) (by omega)).mono ?_
      rintro e w22 ⟨vw4, rfl, hw, hB⟩
      have ha22 := ha21.below hB ha21.lt
      have hb22 := hb21.below hB hb21.lt
      have hx22 := hx21.below hB
      have hy22 := hy21.below hB
      have bx22 := (Keep.of_below hB).boxed bx21 bx21.lt
      have by22 := (Keep.of_below hB).boxed by21 by21.lt
      have hp22 := hp21.below hB hp21.lt
      have hq22 := hq21.below hB hq21.lt
      have hB22 := hB21.trans (hB.mono hB21.size)
      clear ha21 hb21 hx21 hy21 bx21 by21 hp21 hq21 hB21
      try clear cbx21 cby21
      have cbx22 := bx22.cell
      have cby22 := by22.cell
      clear hB
      have hw22 := hw
      clear hw
      rw [M3.out] at hw22
      go_wp2_with fail
      refine (Both_any (some ap) (some aq) (setI al).length cp (setI bl).length cq (setI al) (setI bl) true w22 hp22 hq22 (by omega) (by omega)).mono ?_
      rintro e w23 ⟨qttrue_22, cttrue_22, rfl, ht, _, hB⟩
      have ha23 := ha22.below hB ha22.lt
      have hb23 := hb22.below hB hb22.lt
      have hx23 := hx22.below hB
      have hy23 := hy22.below hB
      have bx23 := (Keep.of_below hB).boxed bx22 bx22.lt
      have by23 := (Keep.of_below hB).boxed by22 by22.lt
      have hp23 := hp22.below hB hp22.lt
      have hq23 := hq22.below hB hq22.lt
      have hw23 := hw22.below hB
      have hB23 := hB22.trans (hB.mono hB22.size)
      clear ha22 hb22 hx22 hy22 bx22 by22 hp22 hq22 hw22 hB22
      try clear cbx22 cby22
      have cbx23 := bx23.cell
      have cby23 := by23.cell
      clear hB
      have ht23 := ht
      clear ht
      go_wp2_with fail
      refine (same_any _ qttrue_22 (bothL (setI al) (setI bl) true).length cttrue_22 (bothL (setI al) (setI bl) true) w23 hw23 ht23 (by omega)).mono ?_
      rintro e w24 ⟨rfl, hB⟩
      have ha24 := ha23.below hB ha23.lt
      have hb24 := hb23.below hB hb23.lt
      have hx24 := hx23.below hB
      have hy24 := hy23.below hB
      have bx24 := (Keep.of_below hB).boxed bx23 bx23.lt
      have by24 := (Keep.of_below hB).boxed by23 by23.lt
      have hp24 := hp23.below hB hp23.lt
      have hq24 := hq23.below hB hq23.lt
      have hw24 := hw23.below hB
      have ht24 := ht23.below hB ht23.lt
      have hB24 := hB23.trans (hB.mono hB23.size)
      clear ha23 hb23 hx23 hy23 bx23 by23 hp23 hq23 hw23 ht23 hB23
      try clear cbx23 cby23
      have cbx24 := bx24.cell
      have cby24 := by24.cell
      clear hB
      clear ht24 hw24
      go_wp2_with fail
      refine (Minus_any _ _ (setI al) (setI bl) w24 hx24 hy24 (by omega) (by omega)).mono ?_
      rintro e w25 ⟨vw5, rfl, hw, hB⟩
      have ha25 := ha24.below hB ha24.lt
      have hb25 := hb24.below hB hb24.lt
      have hx25 := hx24.below hB
      have hy25 := hy24.below hB
      have bx25 := (Keep.of_below hB).boxed bx24 bx24.lt
      have by25 := (Keep.of_below hB).boxed by24 by24.lt
      have hp25 := hp24.below hB hp24.lt
      have hq25 := hq24.below hB hq24.lt
      have hB25 := hB24.trans (hB.mono hB24.size)
      clear ha24 hb24 hx24 hy24 bx24 by24 hp24 hq24 hB24
      try clear cbx24 cby24
      have cbx25 := bx25.cell
      have cby25 := by25.cell
      clear hB
      have hw25 := hw
      clear hw
      rw [M2.out] at hw25
      go_wp2_with fail
      refine (Both_any (some ap) (some aq) (setI al).length cp (setI bl).length cq (setI al) (setI bl) false w25 hp25 hq25 (by omega) (by omega)).mono ?_
      rintro e w26 ⟨qtfalse_25, ctfalse_25, rfl, ht, _, hB⟩
      have ha26 := ha25.below hB ha25.lt
      have hb26 := hb25.below hB hb25.lt
      have hx26 := hx25.below hB
      have hy26 := hy25.below hB
      have bx26 := (Keep.of_below hB).boxed bx25 bx25.lt
      have by26 := (Keep.of_below hB).boxed by25 by25.lt
      have hp26 := hp25.below hB hp25.lt
      have hq26 := hq25.below hB hq25.lt
      have hw26 := hw25.below hB
      have hB26 := hB25.trans (hB.mono hB25.size)
      clear ha25 hb25 hx25 hy25 bx25 by25 hp25 hq25 hw25 hB25
      try clear cbx25 cby25
      have cbx26 := bx26.cell
      have cby26 := by26.cell
      clear hB
      have ht26 := ht
      clear ht
      go_wp2_with fail
      refine (same_any _ qtfalse_25 (bothL (setI al) (setI bl) false).length ctfalse_25 (bothL (setI al) (setI bl) false) w26 hw26 ht26 (by omega)).mono ?_
      rintro e w27 ⟨rfl, hB⟩
      have ha27 := ha26.below hB ha26.lt
      have hb27 := hb26.below hB hb26.lt
      have hx27 := hx26.below hB
      have hy27 := hy26.below hB
      have bx27 := (Keep.of_below hB).boxed bx26 bx26.lt
      have by27 := (Keep.of_below hB).boxed by26 by26.lt
      have hp27 := hp26.below hB hp26.lt
      have hq27 := hq26.below hB hq26.lt
      have hw27 := hw26.below hB
      have ht27 := ht26.below hB ht26.lt
      have hB27 := hB26.trans (hB.mono hB26.size)
      clear ha26 hb26 hx26 hy26 bx26 by26 hp26 hq26 hw26 ht26 hB26
      try clear cbx26 cby26
      have cbx27 := bx27.cell
      have cby27 := by27.cell
      clear hB
      clear ht27 hw27
      go_wp2_with fail
      refine (same_any _ (some ap) (setI al).length cp (setI al) w27 hx27 hp27 (by omega)).mono ?_
      rintro e w28 ⟨rfl, hB⟩
      have ha28 := ha27.below hB ha27.lt
      have hb28 := hb27.below hB hb27.lt
      have hx28 := hx27.below hB
      have hy28 := hy27.below hB
      have bx28 := (Keep.of_below hB).boxed bx27 bx27.lt
      have by28 := (Keep.of_below hB).boxed by27 by27.lt
      have hp28 := hp27.below hB hp27.lt
      have hq28 := hq27.below hB hq27.lt
      have hB28 := hB27.trans (hB.mono hB27.size)
      clear ha27 hb27 hx27 hy27 bx27 by27 hp27 hq27 hB27
      try clear cbx27 cby27
      have cbx28 := bx28.cell
      have cby28 := by28.cell
      clear hB
      go_wp2_with fail
      refine (same_any _ (some aq) (setI bl).length cq (setI bl) w28 hy28 hq28 (by omega)).mono ?_
      rintro e w29 ⟨rfl, hB⟩
      have ha29 := ha28.below hB ha28.lt
      have hb29 := hb28.below hB hb28.lt
      have hx29 := hx28.below hB
      have hy29 := hy28.below hB
      have bx29 := (Keep.of_below hB).boxed bx28 bx28.lt
      have by29 := (Keep.of_below hB).boxed by28 by28.lt
      have hp29 := hp28.below hB hp28.lt
      have hq29 := hq28.below hB hq28.lt
      have hB29 := hB28.trans (hB.mono hB28.size)
      clear ha28 hb28 hx28 hy28 bx28 by28 hp28 hq28 hB28
      try clear cbx28 cby28
      have cbx29 := bx29.cell
      have cby29 := by29.cell
      clear hB
      go_wp2
      go_ret
      exact ⟨rfl, hB29⟩

set_option maxRecDepth 100000 in
theorem lifted (os : Os) (started : os.Started) (H : Type) (enc : TypeId × Value → H) :
    ReturnsInHanded {} Try.checked os 3 .any (Rows.sortedPlaysSpec.pre6 enc Try.prog Try.f3 Rows.sortedPlaysRow.domain false) (Rows.sortedPlaysSpec.post enc Try.prog Try.f3 false true false false) := by
  refine returnsInHanded_of_change (C := Try.checked) own started (by kernel_rfl) Try.func3
    (ChangeSpec.witness6 (enc := enc) (C := Try.checked) false ⟨#[], #[.slice none 0 0, .slice none 0 0], []⟩ 8 (by kernel_rfl) (by kernel_rfl) (by kernel_rfl) (by kernel_rfl)) ?_
  intro W base args ds gs before hval0 hW hcnd _
  have hval : ∀ (j : Nat) t v, Try.f3.params[j]? = some t → args[j]? = some v → Value.okWide Try.prog W .any base t v := hval0
  have hW' := hW
  obtain ⟨p, q, hA0, hV, rfl, hfz, hnd⟩ := hW
  have hA : DataW.TrodAll enc Try.prog W 0 (fun _ => true) true Try.f3.params.toList args.toList ds p := hA0
  rw [Try.params3] at hA hval
  obtain ⟨v0, vs0, d0, ds0, p0, q0, hargs, rfl, rfl, h0, r0⟩ := trodAll_cons hA
  obtain ⟨v1, vs1, d1, ds1, p1, q1, rfl, rfl, rfl, h1, r1⟩ := trodAll_cons r0
  obtain ⟨rfl, rfl, rfl⟩ := trodAll_nil r1
  obtain rfl : args = #[v0, v1] := by cases args; simp_all
  obtain ⟨rfl, rfl⟩ := trodVars_none hV
  obtain ⟨a0, len0, cap0, rfl⟩ := okWide_slice Try.underlying22 (hval 0 22 v0 rfl rfl)
  have k0 := h0
  have lt0 : ∀ x ∈ p0, x.block < W.heap.size := by obtain ⟨m, hm⟩ := k0; exact DataW.trod_lt m _ _ _ hm
  obtain ⟨z0, w0⟩ : ∃ zs, IsRow .i64 W a0 len0 cap0 zs := by
    obtain ⟨fuel, hf⟩ := h0
    rcases open_ints Try.underlying22 Try.underlying3 (by kernel_rfl) hf with ⟨hcs, _⟩ | ⟨x, l, c, zs, hcs, _, hl, hm, hz, _, hcell, hwz⟩
    · simp [Value.cells] at hcs
      obtain ⟨rfl, rfl, rfl⟩ := hcs
      exact ⟨[], .inl ⟨rfl, rfl, rfl, rfl⟩⟩
    · simp [Value.cells] at hcs
      obtain ⟨rfl, rfl, rfl⟩ := hcs
      exact ⟨zs, .inr ⟨_, rfl, hl, hm, by simpa using hz, hcell, hwz⟩⟩
  obtain ⟨a1, len1, cap1, rfl⟩ := okWide_slice Try.underlying22 (hval 1 22 v1 rfl rfl)
  have k1 := h1
  have lt1 : ∀ x ∈ p1, x.block < W.heap.size := by obtain ⟨m, hm⟩ := k1; exact DataW.trod_lt m _ _ _ hm
  obtain ⟨z1, w1⟩ : ∃ zs, IsRow .i64 W a1 len1 cap1 zs := by
    obtain ⟨fuel, hf⟩ := h1
    rcases open_ints Try.underlying22 Try.underlying3 (by kernel_rfl) hf with ⟨hcs, _⟩ | ⟨x, l, c, zs, hcs, _, hl, hm, hz, _, hcell, hwz⟩
    · simp [Value.cells] at hcs
      obtain ⟨rfl, rfl, rfl⟩ := hcs
      exact ⟨[], .inl ⟨rfl, rfl, rfl, rfl⟩⟩
    · simp [Value.cells] at hcs
      obtain ⟨rfl, rfl, rfl⟩ := hcs
      exact ⟨zs, .inr ⟨_, rfl, hl, hm, by simpa using hz, hcell, hwz⟩⟩
  clear hA0 hval0
  refine (walk a0 len0 cap0 z0 a1 len1 cap1 z1 W w0 w1).mono fun e W' ⟨he, bel⟩ => ?_
  subst he
  exact ⟨_, rfl, _, _, _, [], _, [], hW', trodAll_mk1 (shut_bool Try.underlying4 _), (trodAll_cons_mk (Below.trod laidOut (by kernel_rfl) (of_decide_eq_true (by kernel_rfl)) k0 bel lt0) (trodAll_cons_mk (Below.trod laidOut (by kernel_rfl) (of_decide_eq_true (by kernel_rfl)) k1 bel lt1) trodAll_mk0)), rfl, bel.frame _, fun h => by cases h⟩

theorem over : Rows.sortedPlaysRow.holds Try.pinned (OpenSpec.ofChange Rows.sortedPlaysSpec) :=
  OpenClaim.holds_of_wide 3 Try.f3 rfl rfl rfl rfl rfl rfl rfl ⟨rfl, rfl, rfl, rfl, rfl⟩ rfl rfl rfl rfl rfl (by kernel_rfl) Try.func3 (by kernel_rfl)
    (of_decide_eq_true (by kernel_rfl)) (by unfold Func.isWrapper; first | (rw [if_pos (by decide +kernel)]; kernel_rfl) | (rw [if_neg (by decide +kernel)]; exact ⟨rfl, rfl⟩))
    (fun os started H enc _ => lifted os started H enc)

theorem proved : Rows.SortedPlaysSaid := over
end Go.Proofs.Ythfclmnmnmeldaa.sortedPlays
