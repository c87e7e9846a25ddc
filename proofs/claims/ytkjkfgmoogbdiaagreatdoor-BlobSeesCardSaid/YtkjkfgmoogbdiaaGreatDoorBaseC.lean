/- The texts that these laws rest on, put together, part 3. Conditions: as each says. -/
import Derived.Test.YtkjkfgmoogbdiaaGreatDoorBaseB
import Derived.Lib.IndexMore
import Derived.Lib.AppendZerosOnto
import Derived.Laws.AppendOwn
import Derived.Shelf.Bytes.SlTrimWalks
import Derived.Lib.IndexBytes
import Derived.Deep.LoopGhost
import Derived.ChangeSlices
import Derived.ChangeSame
import Derived.Laws.ResultCell
import Derived.Laws.Rows
import Derived.Lib.Join
import Derived.Lib.ConvBytes

namespace Go.Proofs.YtkjkfgmoogbdiaaGreatDoor.S
open Go.RowKit Go.Shelf
attribute [local go_sem] Oper.semAt_some

set_option maxHeartbeats 2000000 in
theorem Compare_any (q1 q2 : Option Addr) (n1 c1 n2 c2 : Nat) (xs ys : List (List UInt8)) (w : World) (h1 : SlIn encStr w q1 n1 xs) (h2 : SlIn encStr w q2 n2 ys) (hn1 : n1 ≤ 140737488355328) (hn2 : n2 ≤ 140737488355328) :
    Calls Tryz.prog 124 #[.slice q1 n1 c1, .slice q2 n2 c2] w fun e w' => e = .returned (.int .i64 (cmpL xs ys)) ∧ w = w' := by
  have hl1 := Lib.hid h1.1
  have hl2 := Lib.hid h2.1
  go_enter Tryz.func124, Tryz.ntmps124
  go_wp2
  go_loop [11] (fun i => ∃ k : Nat, k ≤ n1 ∧ k ≤ n2 ∧ i = .int .i64 k ∧ Hid (cmpL xs ys = cmpL (xs.drop k) (ys.drop k))) (fun i => n1 - (intOf i).toNat)
  case atStart => exact ⟨0, Nat.zero_le _, Nat.zero_le _, rfl, rfl⟩
  case round =>
    obtain ⟨k, hk1, hk2, rfl, HR⟩ := hrel
    have con := fun (x y : List UInt8) w => cmpS_any x y w
    by_cases hlt : k < n1
    · obtain ⟨b1, o1, rfl, _, e1⟩ := h1.at (by omega)
      obtain ⟨x, hx, hd1⟩ := drop_getElem xs k (by rw [hl1.out]; exact hlt)
      have ck1 : w.cell? ⟨b1, o1 + k, none⟩ = some (.string ⟨x.toArray⟩) := e1 k x hx
      by_cases hlt2 : k < n2
      · obtain ⟨b2, o2, rfl, _, e2⟩ := h2.at (by omega)
        obtain ⟨y, hy, hd2⟩ := drop_getElem ys k (by rw [hl2.out]; exact hlt2)
        have ck2 : w.cell? ⟨b2, o2 + k, none⟩ = some (.string ⟨y.toArray⟩) := e2 k y hy
        have NH := Lib.hid (show cmpL xs ys = if x < y then -1 else if y < x then 1 else cmpL (xs.drop (k + 1)) (ys.drop (k + 1)) by rw [HR.out, hd1, hd2]; rfl)
        have d2 : decide ((n2 : Int) ≤ (k : Int)) = false := by simp; omega
        clear HR hd1 hd2 hx hy e1 e2 h1 h2
        rcases Lin.tri x y with hxy | hxy | hxy
        · have H := Lib.hid (show cmpL xs ys = -1 by rw [NH.out, if_pos hxy])
          have con' := fun w => con x y w
          rw [cmpS_lt x y hxy] at con'
          clear hxy NH con
          go_wp2_with fail
          refine (con' _).mono ?_
          rintro e w' ⟨rfl, rfl⟩
          go_wp2
          go_ret
          exact ⟨(by rw [H.out]; try rfl), rfl⟩
        · have H := Lib.hid (show cmpL xs ys = cmpL (xs.drop (k + 1)) (ys.drop (k + 1)) by rw [NH.out, hxy, if_neg (Lin.irr y), if_neg (Lin.irr y)])
          have con' := fun w => con x y w
          rw [cmpS_eq x y hxy] at con'
          clear hxy NH con
          go_wp2_with fail
          refine (con' _).mono ?_
          rintro e w' ⟨rfl, rfl⟩
          go_wp2
          go_round
          case rel => exact ⟨k + 1, by omega, by omega, by go_num, H⟩
          case measure => simp [intOf]; omega
        · have H := Lib.hid (show cmpL xs ys = 1 by rw [NH.out, if_neg (lin_asym hxy), if_pos hxy])
          have con' := fun w => con x y w
          rw [cmpS_gt x y hxy] at con'
          clear hxy NH con
          go_wp2_with fail
          refine (con' _).mono ?_
          rintro e w' ⟨rfl, rfl⟩
          go_wp2
          go_ret
          exact ⟨(by rw [H.out]; try rfl), rfl⟩
      · have H := Lib.hid (show cmpL xs ys = 1 by rw [HR.out, hd1, List.drop_of_length_le (l := ys) (by rw [hl2.out]; omega)]; rfl)
        have d2 : decide ((n2 : Int) ≤ (k : Int)) = true := by simp; omega
        clear HR hd1 hx e1 h1 h2 con
        go_wp2
        go_ret
        exact ⟨(by rw [H.out]; try rfl), rfl⟩
    · obtain rfl : k = n1 := by omega
      have hd1 : xs.drop k = [] := List.drop_of_length_le (by rw [hl1.out]; omega)
      clear con h1 h2
      by_cases hlt2 : k < n2
      · obtain ⟨y, hy, hd2⟩ := drop_getElem ys k (by rw [hl2.out]; exact hlt2)
        have H := Lib.hid (show cmpL xs ys = -1 by rw [HR.out, hd1, hd2]; rfl)
        have d2 : decide ((k : Int) < (n2 : Int)) = true := by simp; omega
        clear HR hd1 hd2 hy
        go_wp2
        go_ret
        exact ⟨(by rw [H.out]; try rfl), rfl⟩
      · have H := Lib.hid (show cmpL xs ys = 0 by rw [HR.out, hd1, List.drop_of_length_le (l := ys) (by rw [hl2.out]; omega)]; rfl)
        have d2 : decide ((k : Int) < (n2 : Int)) = false := by simp; omega
        clear HR hd1
        go_wp2
        go_ret
        exact ⟨(by rw [H.out]; try rfl), rfl⟩

set_option maxRecDepth 100000 in
set_option maxHeartbeats 2000000 in
theorem Sub_any (v1 v2 : Value) (xs ys : List (List UInt8)) (w : World) (h1 : SetIs encStr w v1 xs) (h2 : SetIs encStr w v2 ys) (_hm1 : xs.length ≤ 1099511627776) (_hm2 : ys.length ≤ 1099511627776) :
    Calls Tryz.prog 92 #[v1, v2] w fun e w' => e = .returned (.bool (subB xs ys)) ∧ Below w.heap.size w w' := by
  obtain ⟨q1, n1, c1, rfl, hn1, _, hs1, hr1⟩ := h1
  obtain ⟨q2, n2, c2, rfl, hn2, _, hs2, hr2⟩ := h2
  obtain rfl := hs1.1
  obtain rfl := hs2.1
  have HSB := Lib.hid (subB_of xs ys hr1 hr2)
  clear hr1 hr2
  refine (callsIn_wide (n := 1)).1 ?_
  refine callsIn_of_wp_marks Tryz.func92 rfl trivial ?_ rfl
  simp only [Tryz.ntmps92, List.size_toArray, List.length_cons, List.length_nil, Nat.reduceAdd, Nat.reduceSub, Array.replicate_succ, Array.replicate_zero, List.push_toArray, List.append_toArray, List.nil_append, List.cons_append]
  have con := fun W => both_any q1 q2 xs.length c1 ys.length c2 W
  gi_wp2_with fail
  refine ⟨trivial, (callsIn_wide.2 (con _)).mono ?_⟩
  rintro e w' ⟨rfl, rfl⟩
  gi_wp2
  obtain ⟨W1, hW1, a0, a1, a2, a3, a4, hsz, hk1⟩ : ∃ W1, ((((w.alloc (.cells #[.slice q1 xs.length c1] 110)).alloc (.cells #[.slice q2 ys.length c2] 110)).alloc (.cells #[.bool false] 4)).alloc (.cells #[.slice q1 xs.length c1] 110)).alloc (.cells #[.slice q2 ys.length c2] 110) = W1 ∧
      Boxed W1 w.heap.size 110 (.slice q1 xs.length c1) ∧ Boxed W1 (w.heap.size + 1) 110 (.slice q2 ys.length c2) ∧ Boxed W1 (w.heap.size + 1 + 1) 4 (.bool false) ∧ Boxed W1 (w.heap.size + 1 + 1 + 1) 110 (.slice q1 xs.length c1) ∧ Boxed W1 (w.heap.size + 1 + 1 + 1 + 1) 110 (.slice q2 ys.length c2) ∧ W1.heap.size = w.heap.size + 5 ∧ ∀ S, Keep S w W1 := by
    obtain ⟨W1, h1, h2, h3, h4, h5, h6, h7, h8⟩ := five_boxes w 110 110 4 110 110 (.slice q1 xs.length c1) (.slice q2 ys.length c2) (.bool false) (.slice q1 xs.length c1) (.slice q2 ys.length c2)
    rw [← h1] at h2 h3 h4 h5 h6 h7
    exact ⟨_, rfl, h2, h3, h4, h5, h6, h7, fun S => ((((Keep.alloc S _ _).trans (Keep.alloc S _ _)).trans (Keep.alloc S _ _)).trans (Keep.alloc S _ _)).trans (Keep.alloc S _ _)⟩
  rw [hW1]
  clear hW1 con
  obtain ⟨RB, hRB⟩ : ∃ RB : Nat → Prop, RB = fun b => b < W1.heap.size ∧ b ≠ w.heap.size + 1 + 1 := ⟨_, rfl⟩
  have hRl : ∀ b, RB b → b < W1.heap.size := fun b hb => by rw [hRB] at hb; exact hb.1
  have hRo : ∀ b, b < w.heap.size → RB b := fun b hb => by rw [hRB]; omega
  have hRn : ¬ RB (w.heap.size + 1 + 1) := fun hb => by rw [hRB] at hb; exact hb.2 rfl
  have r3 : RB (w.heap.size + 1 + 1 + 1) := by rw [hRB]; omega
  have r4 : RB (w.heap.size + 1 + 1 + 1 + 1) := by rw [hRB]; omega
  clear hRB
  have g1 : SlIn encStr W1 q1 xs.length xs := hs1.keep (hk1 (fun _ => True)) fun _ _ _ => trivial
  have g2 : SlIn encStr W1 q2 ys.length ys := hs2.keep (hk1 (fun _ => True)) fun _ _ _ => trivial
  refine rf_law (gf := 127) (lb := #[.pointer (some ⟨w.heap.size + 1 + 1 + 1, 0, none⟩), .pointer (some ⟨w.heap.size + 1 + 1 + 1 + 1, 0, none⟩)]) rfl (enters_of Tryz.func127 (by kernel_rfl) rfl)
    (both1_iter _ _ q1 q2 xs.length c1 ys.length c2 xs ys RB W1 hn1 hn2 (by omega) (by omega) g1 g2 (fun a h h' => hRo _ (hs1.lt a h h')) (fun a h h' => hRo _ (hs2.lt a h h')) a3 a4 r3 r4) (Keep.refl _ _) hRl (fun x args G W h => by rw [h.1]; rfl)
    (SubI 4 (w.heap.size + 1 + 1) RB W1) (SubX 4 (w.heap.size + 1 + 1) RB W1) (SubI_abide _ _ _ _ (by omega) hRl) (SubX_abide _ _ _ _ (by omega) hRl)
    ⟨a2, (fun _ h => h.elim), Keep.refl _ _, rfl⟩ ?round ?done ?stop
  case round =>
    rintro ll pre ⟨cc, x⟩ rest Pv G args Wr hll hxs ⟨hbx, hge, hKW, hany⟩ hPl hGl hPb hGP ⟨rfl, rfl⟩
    gi_wp2
    refine ⟨Keep.refl _ _, fun W2 hk2 hs2 r hr => ?_⟩
    have hnP : ∀ b, b < W1.heap.size → ¬ Pv b := fun b hb h => by have := hge b h; omega
    have hk2' : Keep (fun b => ¬ Pv b) Wr W2 := hk2.mono fun b _ hb h => hb (h ▸ hPl)
    replace hbx := hk2'.boxed hbx (hnP _ (by omega))
    have hK2 : Keep RB W1 W2 := hKW.trans (hk2'.mono fun b _ hb => hnP b (hRl b hb))
    have cB := hbx.cell
    have fB := hbx.frozen
    have HA := Lib.hid hany
    clear hxs hr hk2 hk2' hs2 hKW hany
    by_cases hc : cc = 1
    · subst hc
      have hkS : Keep (fun b => RB b ∨ Pv b) W2 (W2.setCell ⟨w.heap.size + 1 + 1, 0, none⟩ (.bool false)) := Keep.setCell _ _ _ (fun h => h.elim hRn fun h => hnP (w.heap.size + 1 + 1) (by omega) h)
      have hbx' := hbx.set (.bool false)
      gi_wp2
      exact ⟨hkS, rfl, hbx', hge, hK2.trans (hkS.mono fun b _ h => .inl h), by rw [List.any_append]; simp⟩
    · have hc' : ((cc : Int) == 1) = false := by rw [beq_eq_false_iff_ne]; omega
      have HA2 := Lib.hid (show ((pre ++ [(cc, x)]).any fun p => p.1 == 1) = false by rw [List.any_append, HA.out]; simp [hc])
      clear hc
      gi_wp2
      exact ⟨Keep.refl _ _, hbx, hge, hK2, HA2.out⟩
  case done =>
    rintro D Pv Wd hD hPD hPl ⟨hbx, hge, hKW, hany⟩ hK
    have cB := hbx.cell
    have fB := hbx.frozen
    have H := Lib.hid (show subB xs ys = true by rw [HSB.out, hany]; rfl)
    have hbx2 := hbx.set (.bool true)
    have hk2 := fun (S : Nat → Prop) (hS : ¬ S (w.heap.size + 1 + 1)) => Keep.setCell (S := S) Wd ⟨w.heap.size + 1 + 1, 0, none⟩ (.bool true) hS
    have hD2 := (hk2 (fun b => b ≠ w.heap.size + 1 + 1) (by simp)).heap (by omega) hK
    have hB2 : Keep (fun b => b < w.heap.size) w (Wd.setCell ⟨w.heap.size + 1 + 1, 0, none⟩ (.bool true)) := ((hk1 _).trans (hKW.mono fun b _ h => hRo b h)).trans (hk2 _ (by omega))
    clear hk2 hany
    gi_wp2
    generalize Wd.setCell ⟨w.heap.size + 1 + 1, 0, none⟩ (.bool true) = We at *
    refine ⟨by simp, .inl ⟨_, _, rfl, run_takeDeferred hD2, ?_⟩⟩
    have hkP : ∀ S : Nat → Prop, ¬ S D → Keep S We (We.putObj D (.deferred none)) := fun S hS => Keep.putObj We D _ hS
    have hbr3 := ((hkP (fun b => b ≠ D) (by simp)).boxed hbx2 (by omega)).cell
    refine ⟨.bool true, ?_, by rw [H.out], (hB2.trans (hkP _ (by omega))).below (Nat.le_refl _)⟩
    simp [results, Tryz.f92, go_sem, hbr3]
  case stop =>
    rintro D c pre rest Pv Wd hD hPD hPl hxs ⟨rfl, hbx, hge, hKW, hany⟩ hK
    have H := Lib.hid (show subB xs ys = false by rw [HSB.out, hxs, List.any_append, hany]; rfl)
    have hB2 : Keep (fun b => b < w.heap.size) w Wd := (hk1 _).trans (hKW.mono fun b _ h => hRo b h)
    clear hany hxs
    gi_wp2
    refine ⟨by simp, .inl ⟨_, _, rfl, run_takeDeferred hK, ?_⟩⟩
    have hkP : ∀ S : Nat → Prop, ¬ S D → Keep S Wd (Wd.putObj D (.deferred none)) := fun S hS => Keep.putObj Wd D _ hS
    have hbr3 := ((hkP (fun b => b ≠ D) (by simp)).boxed hbx (by omega)).cell
    refine ⟨.bool false, ?_, by rw [H.out], (hB2.trans (hkP _ (by omega))).below (Nat.le_refl _)⟩
    simp [results, Tryz.f92, go_sem, hbr3]

end Go.Proofs.YtkjkfgmoogbdiaaGreatDoor.S

namespace Go.Proofs.YtkjkfgmoogbdiaaGreatDoor.Url

theorem at_ahead (c : UInt8) (l : List UInt8) : atFst c l = aheadL c l ∧ Host.tailL c l = (if atOk c l = true then some (atSnd c l) else none) ∧ (atOk c l = false → atSnd c l = []) := by
  by_cases h : c ∈ l
  · obtain ⟨x, y, rfl, hx⟩ := List.eq_append_cons_of_mem h
    have hi : Lib.indexByte (x ++ c :: y) c = (x.length : Int) := index_at _ _ _ (by simp) (by simp [List.getD]) fun j hj => by
      intro e
      apply hx
      rw [← e, List.getD, List.getElem?_append_left hj, List.getElem?_eq_getElem hj]
      exact List.getElem_mem hj
    obtain ⟨h1, h2, h3⟩ := at_found c _ _ hi
    obtain ⟨h4, h5⟩ := ahead_yes c x y hx
    rw [h1, h2, h3, h4, h5, if_pos rfl]
    refine ⟨by simp, by simp, fun h => by cases h⟩
  · have hi : Lib.indexByte l c = -1 := index_no _ _ fun j hj e => h (by
      rw [← e, List.getD, List.getElem?_eq_getElem hj]
      exact List.getElem_mem hj)
    obtain ⟨h1, h2, h3⟩ := at_none c l hi
    obtain ⟨h4, h5⟩ := ahead_no c l h
    rw [h1, h2, h3, h4, h5]
    exact ⟨rfl, rfl, fun _ => rfl⟩
theorem at_len (c : UInt8) (l : List UInt8) : (atFst c l).length ≤ l.length ∧ (atSnd c l).length ≤ l.length := by
  refine ⟨by rw [(at_ahead c l).1]; exact ahead_len c l, ?_⟩
  unfold atSnd
  split
  · rw [List.length_drop]; omega
  · simp

/-- Where "://" begins first. -/
def sepI (l : List UInt8) : Int := Lib.index l [58, 47, 47]
theorem sep_none (l : List UInt8) (h : sepI l = -1) : sepL l = none := by
  induction l with
  | nil => rfl
  | cons b r ih =>
    unfold sepI at h ih
    rw [Lib.index] at h
    split at h
    · cases h
    · rename_i hp
      split at h
      · rename_i hr
        unfold sepL
        split
        · rename_i t
          exact absurd (by simp [List.isPrefixOf]) hp
        · rw [ih (by simpa using hr)]; rfl
      · have := Lib.index_ge r [58, 47, 47]; omega
theorem sep_some : ∀ (l : List UInt8) (k : Nat), sepI l = (k : Int) → sepL l = some (l.take k, l.drop (k + 3)) ∧ k + 3 ≤ l.length
  | [], k, h => by
    unfold sepI at h
    rw [Lib.index] at h
    simp at h
  | b :: r, k, h => by
    have ih := sep_some r
    unfold sepI at h ih
    rw [Lib.index] at h
    split at h
    · rename_i hp
      obtain rfl : k = 0 := by omega
      have hp' : ([58, 47, 47] : List UInt8) <+: b :: r := List.isPrefixOf_iff_prefix.1 hp
      obtain ⟨t, ht⟩ := hp'
      rw [← ht]
      exact ⟨rfl, by simp⟩
    · rename_i hp
      split at h
      · omega
      · rename_i hr
        have hge := Lib.index_ge r [58, 47, 47]
        have hr' : Lib.index r [58, 47, 47] ≠ -1 := by simpa using hr
        obtain ⟨j, hj⟩ : ∃ j : Nat, Lib.index r [58, 47, 47] = (j : Int) := ⟨(Lib.index r [58, 47, 47]).toNat, by omega⟩
        obtain rfl : k = j + 1 := by omega
        obtain ⟨h1, h2⟩ := ih j hj
        refine ⟨?_, by rw [List.length_cons]; omega⟩
        unfold sepL
        split
        · exact absurd (by simp [List.isPrefixOf]) hp
        · rw [h1]
          simp
theorem sep_cases (l : List UInt8) : (sepI l = -1 ∧ sepL l = none) ∨ ∃ k : Nat, sepI l = (k : Int) ∧ k + 3 ≤ l.length ∧ sepL l = some (l.take k, l.drop (k + 3)) := by
  have hge : -1 ≤ sepI l := Lib.index_ge l _
  by_cases h : sepI l = -1
  · exact .inl ⟨h, sep_none l h⟩
  · have hk : sepI l = ((sepI l).toNat : Int) := by omega
    obtain ⟨h1, h2⟩ := sep_some l _ hk
    exact .inr ⟨_, hk, h2, h1⟩

end Go.Proofs.YtkjkfgmoogbdiaaGreatDoor.Url

namespace Go.Proofs.YtkjkfgmoogbdiaaGreatDoor
open Go.RowKit Go.Shelf

end Go.Proofs.YtkjkfgmoogbdiaaGreatDoor
namespace Go.Proofs.YtkjkfgmoogbdiaaGreatDoor.S
open Go.RowKit Go.Shelf
attribute [local go_sem] Oper.semAt_some

end Go.Proofs.YtkjkfgmoogbdiaaGreatDoor.S

namespace Go.Proofs.YtkjkfgmoogbdiaaGreatDoor.Host
open Go.RowKit Go.Shelf
attribute [local go_sem] Oper.semAt_some

theorem results_bool {fn : Func} {p : Tmp} (h : fn.results = #[.cell p 4]) (tmps : Array Value) (w : World) (B : Nat) (v : Value) (hp : tmps.getD p undef = .pointer (some ⟨B, 0, none⟩)) (hb : w.cell? ⟨B, 0, none⟩ = some v) :
    (results fn tmps).run Tryz.prog w = .ok v w := by
  have hp' : tmps[p]?.getD undef = .pointer (some ⟨B, 0, none⟩) := by simpa using hp
  have ha : ∀ w', (isAgg 4).run Tryz.prog w' = .ok false w' := Tryz.isAgg4
  have hl : (load ⟨B, 0, none⟩).run Tryz.prog w = .ok v w := by simp [go_sem, hb]
  simp [results, h, hp', asAddr, loadVar, ha, hl, Result.andThen]

/-- Between two rounds of a loop that makes no memory of its own: E holds of what lay ahead of the loop. -/
def EvI {α : Type} (W0 : World) (E : List α → World → Prop) (pre : List α) (Pv : Nat → Prop) (W : World) : Prop := (∀ b, Pv b → W0.heap.size ≤ b) ∧ Keep (fun _ => False) W0 W ∧ E pre W
/-- Where it has left that loop. -/
def EvX {α : Type} (W0 : World) (E : List α → World → Prop) (c : Code) (pre : List α) (Pv : Nat → Prop) (W : World) : Prop := c = .ret ∧ EvI W0 E pre Pv W
theorem EvI_abide {α : Type} {W0 : World} {E : List α → World → Prop} (hE : ∀ pre A B, Keep (fun b => b < W0.heap.size) A B → E pre A → E pre B) : Abide (EvI W0 E) := by
  rintro pre Pv Pv' A B ⟨h1, h2, h3⟩ hk hp
  refine ⟨fun b hb => ?_, h2.trans (hk.mono fun _ _ h => h.elim), hE _ _ _ (hk.mono fun b _ hb hn => by have := h1 b hn; omega) h3⟩
  rcases (hp b hb).1 with h | h
  · exact h1 b h
  · exact Nat.le_trans h2.size h
theorem EvX_abide {α : Type} {W0 : World} {E : List α → World → Prop} (hE : ∀ pre A B, Keep (fun b => b < W0.heap.size) A B → E pre A → E pre B) (c : Code) : Abide (EvX W0 E c) :=
  fun s Pv Pv' A B h hk hp => ⟨h.1, EvI_abide hE s Pv Pv' A B h.2 hk hp⟩

theorem splitX_snd (c : UInt8) (l : List UInt8) : (splitX c l).map Prod.snd = Ref.splitL c l := by
  rw [← pieces_split]
  unfold splitX splitOf piecesOf
  rw [List.map_map]
  apply List.ext_getElem?
  intro i
  simp only [List.getElem?_map, List.getElem?_zipIdx]
  cases (spansL (isB c) l)[i]? <;> rfl
theorem splitX_length (c : UInt8) (l : List UInt8) : (splitX c l).length = (Ref.splitL c l).length := by rw [← splitX_snd, List.length_map]
theorem addrX (l : List UInt8) : addrB (Ref.splitL 46 l) = (decide ((splitX 46 l).length = 4) && (splitX 46 l).all fun x => Ref.numB x.2) := by
  rw [Ref.addr_num, ← splitX_length, ← splitX_snd, List.all_map]
  rfl

/-- What lies while the parts are gone through. -/
def AdrE (w : World) (pre : List (Nat × List UInt8)) (W : World) : Prop :=
  Boxed W w.heap.size 4 (.bool false) ∧ Boxed W (w.heap.size + 1) 3 (.int .i64 pre.length) ∧ pre.all (fun x => Ref.numB x.2) = true ∧ Below w.heap.size w W
def AdrX (w : World) (xs : List (Nat × List UInt8)) (_ : List (Nat × List UInt8)) (W : World) : Prop :=
  Boxed W w.heap.size 4 (.bool false) ∧ xs.all (fun x => Ref.numB x.2) = false ∧ Below w.heap.size w W

set_option maxRecDepth 100000 in
set_option maxHeartbeats 4000000 in
theorem Address_any (q : Option Addr) (n c : Nat) (l : List UInt8) (w : World) (hl : l.length = n) (hn : n ≤ 140737488355328) (h : Lib.BytesIn w q n (Lib.numsL l)) :
    Calls Tryz.prog 210 #[.slice q n c] w fun e w' => e = .returned (.bool (addressB l)) ∧ Below w.heap.size w w' := by
  refine (callsIn_wide (n := 1)).1 ?_
  refine callsIn_of_wp_marks Tryz.func210 rfl trivial ?_ rfl
  simp only [Tryz.ntmps210, List.size_toArray, List.length_cons, List.length_nil, Nat.reduceAdd, Nat.reduceSub, Array.replicate_succ, Array.replicate_zero, List.push_toArray, List.append_toArray, List.nil_append, List.cons_append]
  by_cases hbig : 253 < n
  · have d1 : decide ((253 : Int) < (n : Int)) = true := by simp; omega
    have H := Lib.hid (address_big l (by omega))
    clear h hl
    gi_wp2
    exact ⟨_, results_bool rfl _ _ w.heap.size _ rfl (Boxed.new w _ _).cell, by rw [H.out], (Below.refl _ _).alloc (Nat.le_refl _) _⟩
  · have d1 : decide ((253 : Int) < (n : Int)) = false := by simp; omega
    have HA := Lib.hid ((address_of l (by omega)).trans (addrX l))
    obtain ⟨W0, hW0⟩ : ∃ W0, (w.alloc (.cells #[.bool false] 4)).alloc (.cells #[.int .i64 0] 3) = W0 := ⟨_, rfl⟩
    have b0 : Boxed W0 w.heap.size 4 (.bool false) := hW0 ▸ (Boxed.new w _ _).alloc _
    have b1 : Boxed W0 (w.heap.size + 1) 3 (.int .i64 0) := by
      have := Boxed.new (w.alloc (.cells #[.bool false] 4)) 3 (.int .i64 0)
      rw [World.size_alloc] at this
      exact hW0 ▸ this
    have hB0 : Below w.heap.size w W0 := hW0 ▸ ((Below.refl _ w).alloc (Nat.le_refl _) _).alloc (by simp) _
    have hs0 : W0.heap.size = w.heap.size + 2 := by rw [← hW0]; simp
    have hb0 := bytes_keep h (Keep.of_below hB0) (fun a h1 h2 => bytes_lt h a h1 h2)
    have con := Split_any q n c 46 l W0 hl (by omega) hb0
    have hsmall := splitX_small 46 l n hl
    have hlenX := splitX_len 46 l
    rw [hl] at hlenX
    have HW0 := Lib.hid hW0
    clear h hW0 hb0 hl
    gi_wp2_with fail
    rw [HW0.out]
    refine ⟨trivial, (callsIn_wide.2 con).mono ?_⟩
    rintro e W1 ⟨B, v', rfl, hB, hBc, hrow, hBl, hbel⟩
    have hit := Split_iter (by omega) hB hBc hrow
    have hRl0 : ∀ b, (b = B ∨ b = W0.heap.size ∨ v'.ownBlock = some b) → w.heap.size + 2 ≤ b ∧ b < W1.heap.size := fun b hb => by
      rcases hb with rfl | rfl | hb
      · exact ⟨by omega, hB.lt⟩
      · exact ⟨by omega, hBc.lt⟩
      · have := hrow.lt b hb; exact ⟨by omega, this.2⟩
    obtain ⟨RB, hRB⟩ : ∃ RB : Nat → Prop, RB = fun b => b = B ∨ b = W0.heap.size ∨ v'.ownBlock = some b := ⟨_, rfl⟩
    rw [← hRB, hs0] at hit
    have hRl : ∀ b, RB b → w.heap.size + 2 ≤ b ∧ b < W1.heap.size := fun b hb => hRl0 b (by rw [hRB] at hb; exact hb)
    clear hRB hRl0
    replace b0 := (Keep.of_below hbel).boxed b0 (by omega)
    replace b1 := (Keep.of_below hbel).boxed b1 (by omega)
    have hB1 := hB0.trans (hbel.mono hB0.size)
    have hs1 := hbel.size
    clear con hB hBc hrow hBl hbel HW0 hB0
    generalize splitX 46 l = xs at *
    gi_wp2
    rw [hs0] at hs1
    clear hs0
    refine rf_law (gf := 78) (lb := #[.pointer (some ⟨B, 0, none⟩), .pointer (some ⟨w.heap.size + 2, 0, none⟩)]) rfl (enters_of Tryz.func78 (by kernel_rfl) rfl)
      hit (Keep.refl _ _) (fun b hb => (hRl b hb).2) (fun x args G W h => by obtain ⟨v, rfl, _⟩ := h; rfl)
      (EvI W1 (AdrE w)) (EvX W1 (AdrX w xs)) (EvI_abide ?e1) (EvX_abide ?e2)
      ⟨(fun _ h => h.elim), Keep.refl _ _, b0, b1, rfl, hB1⟩ ?round ?done ?stop
    case e1 =>
      rintro pre A B hk ⟨h1, h2, h3, h4⟩
      exact ⟨hk.boxed h1 (by omega), hk.boxed h2 (by omega), h3, h4.trans ((hk.mono fun b _ hb => by omega).below h4.size)⟩
    case e2 =>
      rintro pre A B hk ⟨h1, h3, h4⟩
      exact ⟨hk.boxed h1 (by omega), h3, h4.trans ((hk.mono fun b _ hb => by omega).below h4.size)⟩
    case round =>
      rintro ll pre ⟨xi, x⟩ rest Pv G args Wr hll hxs ⟨hge, hK1, hE1, hE2, hE3, hE4⟩ hPl hGl hPb hGP ⟨p, rfl, hp, rfl⟩
      have hxm : (xi, x) ∈ xs := by rw [hxs]; simp
      have hxl := hsmall _ hxm
      simp only at hxl hp
      obtain ⟨qx, cx, rfl, _, hnc, hcm, hbs, hblk⟩ := row_open hp
      have hlen : pre.length + rest.length + 1 = xs.length := by rw [hxs]; simp; omega
      clear hxs
      gi_wp2
      refine ⟨Keep.refl _ _, fun W2 hk2 hs2 r hr => ?_⟩
      have k2 : Keep (fun b => b < W1.heap.size) Wr W2 := hk2.mono fun b _ hb h => by omega
      have f1 := k2.boxed hE1 (by omega)
      have f2 := k2.boxed hE2 (by omega)
      have gx : Keep (fun b => (Value.slice qx x.length cx).ownBlock = some b) Wr W2 := hk2.mono fun b _ hb h => hGl (h ▸ hb)
      have hbs2 : Lib.BytesIn W2 qx x.length (Lib.numsL x) := bytes_keep hbs gx (fun a ha _ => (hblk a ha).2.2)
      have con2 := Number_any qx x.length cx x 255 W2 rfl (by omega) hbs2 (by decide) (by decide)
      rw [numOf_ref] at con2
      unfold numV at con2
      have c1 := f1.cell
      have c2 := f2.cell
      have z1 := f1.frozen
      have z2 := f2.frozen
      have hW2 := hE4.trans ((k2.mono fun b _ h => by omega).below hE4.size)
      have hs2' := hE4.size
      have hK2 := hK1.trans (hk2.mono fun _ _ h => h.elim)
      clear hbs hp hbs2 hblk hk2 gx
      cases ho : Ref.numOf 255 x with
      | none =>
        have HB := Lib.hid (show xs.all (fun x => Ref.numB x.2) = false by
          rw [List.all_eq_false]; exact ⟨_, hxm, by unfold Ref.numB; rw [ho]; simp⟩)
        rw [ho] at con2
        clear ho hxm
        gi_wp2_with fail
        refine ⟨trivial, rfl, (CallsIn.inRound ll (callsIn_wide.2 con2)).mono ?_⟩
        rintro e w' ⟨rfl, rfl⟩
        clear con2
        gi_wp2
        refine ⟨Keep.setCell _ _ _ (fun h => ?_), rfl, fun b hb => hge b hb.1, hK2.trans (Keep.setCell _ _ _ (fun h => h)), f1.set _, HB.out, hW2.setCell (p := ⟨w.heap.size, 0, none⟩) (Nat.le_refl _) _⟩
        rcases h with h | h
        · have := (hRl _ h).1; simp only at this; omega
        · have := hge _ h.1; simp only at this; omega
      | some m =>
        have HB := Lib.hid (show (pre ++ [(xi, x)]).all (fun x => Ref.numB x.2) = true by
          rw [List.all_append, hE3]; simp [Ref.numB, ho])
        have HPL := Lib.hid (show ((pre ++ [(xi, x)]).length : Int) = (pre.length : Int) + 1 by simp)
        have hpl : (pre.length : Int) + 1 ≤ 9223372036854775807 := by omega
        rw [ho] at con2
        clear ho hxm
        gi_wp2_with fail
        refine ⟨trivial, rfl, (CallsIn.inRound ll (callsIn_wide.2 con2)).mono ?_⟩
        rintro e w' ⟨rfl, rfl⟩
        clear con2
        gi_wp2
        have kst : ∀ S : Nat → Prop, ¬ S (w.heap.size + 1) → Keep S W2 (W2.setCell ⟨w.heap.size + 1, 0, none⟩ (.int .i64 ((pre.length : Int) + 1))) := fun S h => Keep.setCell _ _ _ h
        refine ⟨kst _ (fun h => ?_), fun b hb => hge b hb.1, hK2.trans (kst _ (fun h => h)), (kst (fun b => b = w.heap.size) (by omega)).boxed f1 rfl, by rw [HPL.out]; exact f2.set _, HB.out, hW2.setCell (p := ⟨w.heap.size + 1, 0, none⟩) (Nat.le_succ _) _⟩
        rcases h with h | h
        · have := (hRl _ h).1; omega
        · have := hge _ h.1; omega
    case done =>
      rintro D Pv Wd hD hPD hPl ⟨hge, hK1, hE1, hE2, hE3, hE4⟩ hK
      have c1 := hE1.cell
      have c2 := hE2.cell
      have z1 := hE1.frozen
      have z2 := hE2.frozen
      gi_wp2
      have hKd : (Wd.setCell ⟨w.heap.size, 0, none⟩ (.bool ((xs.length : Int) == 4))).heap[D]? = some (.deferred (some [])) := (Keep.setCell (S := fun b => b = D) Wd ⟨w.heap.size, 0, none⟩ _ (show ¬ w.heap.size = D by omega)).heap rfl hK
      have kp : ∀ (S : Nat → Prop) (W : World), ¬ S D → Keep S W (W.putObj D (.deferred none)) := fun S W h => Keep.putObj _ _ _ h
      refine ⟨by simp, .inl ⟨_, _, rfl, run_takeDeferred hKd, ?_⟩⟩
      refine ⟨_, results_bool rfl _ _ w.heap.size _ rfl ((kp (fun b => b = w.heap.size) _ (by omega)).boxed (hE1.set _) rfl).cell, ?_, ?_⟩
      · rw [HA.out, hE3, Bool.and_true]
        congr 2
        rw [Bool.eq_iff_iff, decide_eq_true_iff, beq_iff_eq]; omega
      · have h5 := hE4.setCell (p := ⟨w.heap.size, 0, none⟩) (Nat.le_refl _) (.bool ((xs.length : Int) == 4))
        exact h5.trans ((kp (fun b => b < w.heap.size) _ (by omega)).below h5.size)
    case stop =>
      rintro D cc pre rest Pv Wd hD hPD hPl hxs ⟨rfl, hge, hK1, hE1, hE3, hE4⟩ hK
      have kp : ∀ (S : Nat → Prop) (W : World), ¬ S D → Keep S W (W.putObj D (.deferred none)) := fun S W h => Keep.putObj _ _ _ h
      clear hxs
      gi_wp2
      refine ⟨by simp, .inl ⟨_, _, rfl, run_takeDeferred hK, ?_⟩⟩
      refine ⟨_, results_bool rfl _ _ w.heap.size _ rfl ((kp (fun b => b = w.heap.size) _ (by omega)).boxed hE1 rfl).cell, ?_, ?_⟩
      · rw [HA.out, hE3, Bool.and_false]
      · exact hE4.trans ((kp (fun b => b < w.heap.size) _ (by omega)).below hE4.size)

end Go.Proofs.YtkjkfgmoogbdiaaGreatDoor.Host

namespace Go.Proofs.YtkjkfgmoogbdiaaGreatDoor.Host
open Go.RowKit Go.Shelf
attribute [local go_sem] Oper.semAt_some

/-- The last part. -/
def lastX (xs : List (Nat × List UInt8)) : List UInt8 := (xs.getLast?.map Prod.snd).getD []
theorem lastX_snoc (pre : List (Nat × List UInt8)) (x : Nat × List UInt8) : lastX (pre ++ [x]) = x.2 := by simp [lastX]
theorem lastX_mem (xs : List (Nat × List UInt8)) (h : xs ≠ []) : ∃ x ∈ xs, lastX xs = x.2 := by
  refine ⟨xs.getLast h, List.getLast_mem h, ?_⟩
  unfold lastX
  rw [List.getLast?_eq_some_getLast h]; rfl
theorem hostX (l : List UInt8) : hostB (Ref.splitL 46 l) = (decide ((splitX 46 l).length ≤ 8) && ((splitX 46 l).all fun x => partB x.2) && (!Ref.decB ((lastX (splitX 46 l)).getD 0 0) || addrB (Ref.splitL 46 l))) := by
  have e1 : (Ref.splitL 46 l).getLastD [] = lastX (splitX 46 l) := by
    rw [← splitX_snd, List.getLastD_eq_getLast?, List.getLast?_map]; rfl
  have e2 : (Ref.splitL 46 l).all partB = (splitX 46 l).all fun x => partB x.2 := by rw [← splitX_snd, List.all_map]; rfl
  unfold hostB
  rw [e1, e2, ← splitX_length]

/-- What lies while the parts are gone through. -/
def HsI (w W1 : World) (pre : List (Nat × List UInt8)) (Pv : Nat → Prop) (W : World) : Prop :=
  ∃ q c, Boxed W w.heap.size 4 (.bool false) ∧ Boxed W (w.heap.size + 1) 30 (.slice q (lastX pre).length c) ∧ Boxed W (w.heap.size + 2) 3 (.int .i64 pre.length) ∧
    W.ownsRow 0 5 1 (.slice q (lastX pre).length c) (lastX pre).length ((Lib.numsL (lastX pre)).map (Value.int .u8)) ∧ (∀ b, (Value.slice q (lastX pre).length c).ownBlock = some b → W1.heap.size ≤ b ∧ ¬ Pv b) ∧
    (∀ b, Pv b → W1.heap.size ≤ b) ∧ Keep (fun _ => False) W1 W ∧ (pre.all fun x => partB x.2) = true ∧ pre.length ≤ 8 ∧ Below w.heap.size w W
theorem HsI_abide {w W1 : World} (h : w.heap.size + 3 ≤ W1.heap.size) : Abide (HsI w W1) := by
  rintro pre Pv Pv' A B ⟨q, c, h1, h2, h3, h4, h5, h6, h7, h8, h9, h10⟩ hk hp
  have kk : ∀ b, b < W1.heap.size → ¬ Pv b := fun b hb hn => by have := h6 b hn; omega
  have hs := h7.size
  refine ⟨q, c, hk.boxed h1 (kk _ (by omega)), hk.boxed h2 (kk _ (by omega)), hk.boxed h3 (kk _ (by omega)), hk.row h4 (fun b hb => (h5 b hb).2), fun b hb => ⟨(h5 b hb).1, fun hp' => ?_⟩, fun b hb => ?_, h7.trans (hk.mono fun _ _ h => h.elim), h8, h9, h10.trans ((hk.mono fun b _ hb => kk b (by omega)).below h10.size)⟩
  · rcases (hp b hp').1 with h' | h'
    · exact (h5 b hb).2 h'
    · have := (h4.lt b hb).2; omega
  · rcases (hp b hb).1 with h' | h'
    · exact h6 b h'
    · omega
def HsE (w : World) (r : Bool) (_ : List (Nat × List UInt8)) (W : World) : Prop := Boxed W w.heap.size 4 (.bool false) ∧ r = false ∧ Below w.heap.size w W

set_option maxRecDepth 100000 in
set_option maxHeartbeats 8000000 in
theorem isHost_any (q : Option Addr) (n c : Nat) (l : List UInt8) (w : World) (hl : l.length = n) (hn : n ≤ 253) (h : Lib.BytesIn w q n (Lib.numsL l)) :
    Calls Tryz.prog 188 #[.slice q n c] w fun e w' => e = .returned (.bool (hostB (Ref.splitL 46 l))) ∧ Below w.heap.size w w' := by
  refine (callsIn_wide (n := 1)).1 ?_
  refine callsIn_of_wp_marks Tryz.func188 rfl trivial ?_ rfl
  simp only [Tryz.ntmps188, List.size_toArray, List.length_cons, List.length_nil, Nat.reduceAdd, Nat.reduceSub, Array.replicate_succ, Array.replicate_zero, List.push_toArray, List.append_toArray, List.nil_append, List.cons_append]
  obtain ⟨W0, hW0⟩ : ∃ W0, ((w.alloc (.cells #[.bool false] 4)).alloc (.cells #[.slice none 0 0] 30)).alloc (.cells #[.int .i64 0] 3) = W0 := ⟨_, rfl⟩
  have b0 : Boxed W0 w.heap.size 4 (.bool false) := hW0 ▸ ((Boxed.new w _ _).alloc _).alloc _
  have b1 : Boxed W0 (w.heap.size + 1) 30 (.slice none 0 0) := by
    have := (Boxed.new (w.alloc (.cells #[.bool false] 4)) 30 (.slice none 0 0)).alloc (.cells #[.int .i64 0] 3)
    rw [World.size_alloc] at this
    exact hW0 ▸ this
  have b2 : Boxed W0 (w.heap.size + 2) 3 (.int .i64 0) := by
    have := Boxed.new ((w.alloc (.cells #[.bool false] 4)).alloc (.cells #[.slice none 0 0] 30)) 3 (.int .i64 0)
    rw [World.size_alloc, World.size_alloc] at this
    exact hW0 ▸ this
  have hB0 : Below w.heap.size w W0 := hW0 ▸ (((Below.refl _ w).alloc (Nat.le_refl _) _).alloc (by simp) _).alloc (by simp only [World.size_alloc]; omega) _
  have hs0 : W0.heap.size = w.heap.size + 3 := by rw [← hW0]; simp
  have hql := bytes_lt h
  have hb0 := bytes_keep h (Keep.of_below hB0) (fun a h1 h2 => bytes_lt h a h1 h2)
  have con := Split_any q n c 46 l W0 hl (by omega) hb0
  have hsmall := splitX_small 46 l n hl
  have hlenX := splitX_len 46 l
  have hneX : 0 < (splitX 46 l).length := by rw [splitX_length]; exact List.length_pos_iff.2 (Ref.split_ne 46 l)
  rw [hl] at hlenX
  have HW0 := Lib.hid hW0
  have HX := Lib.hid (hostX l)
  have HA := Lib.hid (address_of l (by omega))
  have conA := fun W hb => Address_any q n c l W hl (by omega) hb
  clear hW0 hb0 hl
  generalize addrB (Ref.splitL 46 l) = ab at *
  generalize hostB (Ref.splitL 46 l) = hb at *
  generalize addressB l = ad at *
  gi_wp2_with fail
  rw [HW0.out]
  refine ⟨trivial, (callsIn_wide.2 con).mono ?_⟩
  rintro e W1 ⟨B, v', rfl, hB, hBc, hrow, hBl, hbel⟩
  have hit := Split_iter (by omega) hB hBc hrow
  have hRl0 : ∀ b, (b = B ∨ b = W0.heap.size ∨ v'.ownBlock = some b) → w.heap.size + 3 ≤ b ∧ b < W1.heap.size := fun b hb => by
    rcases hb with rfl | rfl | hb
    · exact ⟨by omega, hB.lt⟩
    · exact ⟨by omega, hBc.lt⟩
    · have := hrow.lt b hb; exact ⟨by omega, this.2⟩
  obtain ⟨RB, hRB⟩ : ∃ RB : Nat → Prop, RB = fun b => b = B ∨ b = W0.heap.size ∨ v'.ownBlock = some b := ⟨_, rfl⟩
  rw [← hRB, hs0] at hit
  have hRl : ∀ b, RB b → w.heap.size + 3 ≤ b ∧ b < W1.heap.size := fun b hb => hRl0 b (by rw [hRB] at hb; exact hb)
  clear hRB hRl0
  replace b0 := (Keep.of_below hbel).boxed b0 (by omega)
  replace b1 := (Keep.of_below hbel).boxed b1 (by omega)
  replace b2 := (Keep.of_below hbel).boxed b2 (by omega)
  have hB1 := hB0.trans (hbel.mono hB0.size)
  have hs1 := hbel.size
  clear con hB hBc hrow hBl hbel HW0 hB0
  generalize splitX 46 l = xs at *
  gi_wp2
  rw [hs0] at hs1
  clear hs0
  refine rf_law (gf := 78) (lb := #[.pointer (some ⟨B, 0, none⟩), .pointer (some ⟨w.heap.size + 3, 0, none⟩)]) rfl (enters_of Tryz.func78 (by kernel_rfl) rfl)
    hit (Keep.refl _ _) (fun b hb => (hRl b hb).2) (fun x args G W h => by obtain ⟨v, rfl, _⟩ := h; rfl)
    (HsI w W1) (EvX W1 (HsE w hb)) (HsI_abide hs1) (EvX_abide ?e2)
    ⟨none, 0, b0, b1, b2, World.ownsRow_nil _ _ _ _, (fun _ h => by cases h), (fun _ h => h.elim), Keep.refl _ _, rfl, Nat.zero_le _, hB1⟩ ?round ?done ?stop
  case e2 =>
    rintro pre A B hk ⟨h1, h3, h4⟩
    exact ⟨hk.boxed h1 (by omega), h3, h4.trans ((hk.mono fun b _ hb => by omega).below h4.size)⟩
  case round =>
    rintro ll pre ⟨xi, x⟩ rest Pv G args Wr hll hxs ⟨q1, c1, hE1, hE2, hE3, hE4, hE5, hge, hK1, hE6, hE7, hE8⟩ hPl hGl hPb hGP ⟨p, rfl, hp, rfl⟩
    have hxm : (xi, x) ∈ xs := by rw [hxs]; simp
    have hxl := hsmall _ hxm
    simp only at hxl hp
    obtain ⟨qx, cx, rfl, _, hnc, hcm, hbs, hblk⟩ := row_open hp
    have hlen : pre.length + rest.length + 1 = xs.length := by rw [hxs]; simp; omega
    clear hxs
    gi_wp2
    refine ⟨Keep.refl _ _, fun W2 hk2 hs2 r hr => ?_⟩
    have k2 : Keep (fun b => b < W1.heap.size) Wr W2 := hk2.mono fun b _ hb h => by omega
    have f1 := k2.boxed hE1 (by omega)
    have f2 := k2.boxed hE2 (by omega)
    have f3 := k2.boxed hE3 (by omega)
    have gx : Keep (fun b => (Value.slice qx x.length cx).ownBlock = some b) Wr W2 := hk2.mono fun b _ hb h => hGl (h ▸ hb)
    have hbs2 : Lib.BytesIn W2 qx x.length (Lib.numsL x) := bytes_keep hbs gx (fun a ha _ => (hblk a ha).2.2)
    have hp2 := gx.row hp (fun _ h => h)
    have con2 := isPart_any qx x.length cx x W2 rfl (by omega) hbs2
    have k1 := f1.cell
    have k2' := f2.cell
    have k3 := f3.cell
    have z1 := f1.frozen
    have z2 := f2.frozen
    have z3 := f3.frozen
    have hW2 := hE8.trans ((k2.mono fun b _ h => by omega).below hE8.size)
    have hs2' := hE8.size
    have hK2 := hK1.trans (hk2.mono fun _ _ h => h.elim)
    have hGge : ∀ b, (Value.slice qx x.length cx).ownBlock = some b → W1.heap.size ≤ b := fun b h => hge b (hGP b h)
    have keep0 : Keep (fun b => RB b ∨ (Pv b ∧ ¬ (Value.slice qx x.length cx).ownBlock = some b)) W2 (W2.setCell ⟨w.heap.size, 0, none⟩ (.bool false)) := Keep.setCell _ _ _ fun h => by
      rcases h with h | h
      · have := (hRl _ h).1; simp only at this; omega
      · have := hge _ h.1; simp only at this; omega
    clear hbs hp hbs2 hblk hk2 gx hE4 hE5
    by_cases h8 : pre.length = 8
    · have HB := Lib.hid (show hb = false by rw [HX.out, decide_eq_false (by omega)]; rfl)
      have e8 : ((pre.length : Int) == 8) = true := by rw [beq_iff_eq]; omega
      clear con2 hxm h8
      gi_wp2_with fail
      refine ⟨trivial, ?_⟩
      gi_wp2
      exact ⟨keep0, rfl, fun b hb => hge b hb.1, hK2.trans (Keep.setCell _ _ _ (fun h => h)), f1.set _, HB.out, hW2.setCell (p := ⟨w.heap.size, 0, none⟩) (Nat.le_refl _) _⟩
    · have e8 : ((pre.length : Int) == 8) = false := by rw [beq_eq_false_iff_ne]; omega
      cases hpb : partB x with
      | false =>
        have HB := Lib.hid (show hb = false by
          have h1 : (xs.all fun x => partB x.2) = false := by rw [List.all_eq_false]; exact ⟨_, hxm, by rw [hpb]; simp⟩
          rw [HX.out, h1]; simp)
        rw [hpb] at con2
        clear hpb hxm h8
        gi_wp2_with fail
        refine ⟨trivial, rfl, (CallsIn.inRound ll (callsIn_wide.2 con2)).mono ?_⟩
        rintro e w' ⟨rfl, rfl⟩
        clear con2
        gi_wp2
        exact ⟨keep0, rfl, fun b hb => hge b hb.1, hK2.trans (Keep.setCell _ _ _ (fun h => h)), f1.set _, HB.out, hW2.setCell (p := ⟨w.heap.size, 0, none⟩) (Nat.le_refl _) _⟩
      | true =>
        have HB := Lib.hid (show ((pre ++ [(xi, x)]).all fun x => partB x.2) = true by rw [List.all_append, hE6]; simp [hpb])
        have HPL := Lib.hid (show ((pre ++ [(xi, x)]).length : Int) = (pre.length : Int) + 1 by simp)
        have HP8 := Lib.hid (show (pre ++ [(xi, x)]).length ≤ 8 by simp; omega)
        have HLX := Lib.hid (lastX_snoc pre (xi, x))
        rw [hpb] at con2
        clear hpb hxm h8 keep0 HX
        gi_wp2_with fail
        refine ⟨trivial, rfl, (CallsIn.inRound ll (callsIn_wide.2 con2)).mono ?_⟩
        rintro e w' ⟨rfl, rfl⟩
        clear con2
        gi_wp2
        have kst : ∀ S : Nat → Prop, ¬ S (w.heap.size + 1) → ¬ S (w.heap.size + 2) → Keep S W2 ((W2.setCell ⟨w.heap.size + 1, 0, none⟩ (.slice qx x.length cx)).setCell ⟨w.heap.size + 1 + 1, 0, none⟩ (.int .i64 ((pre.length : Int) + 1))) := fun S h h' => (Keep.setCell _ _ _ h).trans (Keep.setCell _ _ _ h')
        have g1 := (kst (fun b => b = w.heap.size) (by omega) (by omega)).boxed f1 rfl
        have g2 := (Keep.setCell (S := fun b => b = w.heap.size + 1) (W2.setCell ⟨w.heap.size + 1, 0, none⟩ (.slice qx x.length cx)) ⟨w.heap.size + 1 + 1, 0, none⟩ (.int .i64 ((pre.length : Int) + 1)) (show ¬ w.heap.size + 1 + 1 = w.heap.size + 1 by omega)).boxed (f2.set (.slice qx x.length cx)) rfl
        have g3 := ((Keep.setCell (S := fun b => b = w.heap.size + 2) W2 ⟨w.heap.size + 1, 0, none⟩ (.slice qx x.length cx) (show ¬ w.heap.size + 1 = w.heap.size + 2 by omega)).boxed f3 rfl).set (.int .i64 ((pre.length : Int) + 1))
        have g4 := (kst (fun b => (Value.slice qx x.length cx).ownBlock = some b) (fun h => by have := hGge _ h; omega) (fun h => by have := hGge _ h; omega)).row hp2 (fun _ h => h)
        have g5 := (hW2.setCell (p := ⟨w.heap.size + 1, 0, none⟩) (Nat.le_succ _) (.slice qx x.length cx)).setCell (p := ⟨w.heap.size + 1 + 1, 0, none⟩) (show w.heap.size ≤ w.heap.size + 1 + 1 by omega) (.int .i64 ((pre.length : Int) + 1))
        have g6 := hK2.trans (kst (fun _ => False) (fun h => h) (fun h => h))
        refine ⟨kst _ (fun h => ?_) (fun h => ?_), ?_⟩
        · rcases h with h | h
          · have := (hRl _ h).1; omega
          · have := hge _ h.1; omega
        · rcases h with h | h
          · have := (hRl _ h).1; omega
          · have := hge _ h.1; omega
        · unfold HsI
          rw [HLX.out, HPL.out]
          exact ⟨qx, cx, g1, g2, g3, g4, fun b h => ⟨hGge b h, fun h' => h'.2 h⟩, fun b h => hge b h.1, g6, HB.out, HP8.out, g5⟩
  case done =>
    rintro D Pv Wd hD hPD hPl ⟨q1, c1, hE1, hE2, hE3, hE4, hE5, hge, hK1, hE6, hE7, hE8⟩ hK
    obtain ⟨y, hym, hyl⟩ := lastX_mem xs (List.length_pos_iff.1 hneX)
    have hpy := List.all_eq_true.1 hE6 y hym
    rw [← hyl] at hpy
    have hx8 := decide_eq_true hE7
    have HXX := Lib.hid (show hb = (!Ref.decB ((lastX xs).getD 0 0) || ab) by rw [HX.out, hx8, hE6]; simp)
    obtain ⟨_, _, hcl, _, hnc, hcm, hbs, hblk⟩ := row_open hE4
    cases hcl
    have hz : 0 < (lastX xs).length := by
      rcases Nat.eq_zero_or_pos (lastX xs).length with h0 | h0
      · rw [part_parts, List.eq_nil_of_length_eq_zero h0] at hpy; cases hpy
      · exact h0
    obtain ⟨bl, ol, rfl, hcl⟩ := hbs.at hz
    have ck0 : Wd.cell? ⟨bl, ol, none⟩ = some (.int .u8 (((lastX xs).getD 0 0).toNat : Int)) := by rw [← numsL_getD _ 0 hz]; exact hcl 0 hz
    have k2 := hE2.cell
    have k1 := hE1.cell
    have z1 := hE1.frozen
    have kp : ∀ (S : Nat → Prop) (W : World), ¬ S D → Keep S W (W.putObj D (.deferred none)) := fun S W h => Keep.putObj _ _ _ h
    have conB := conA Wd (bytes_keep h (Keep.of_below hE8) (fun a h1 h2 => hql a h1 h2))
    rw [HA.out] at conB
    have hszd := hE8.size
    have hDl := hPl D hPD
    generalize (lastX xs).getD 0 0 = y0 at *
    have con5 := isDigit_any y0 Wd
    have hy0 := Ref.u8_lt y0
    clear hE4 hE5 hym hyl hpy hcl hbs hblk hE2 hE3 HX hx8 hE6 hE7 conA h hsmall
    cases hd : Ref.decB y0 with
    | false =>
      have HB := Lib.hid (show hb = true by rw [HXX.out, hd]; rfl)
      rw [hd] at con5
      clear hd HXX conB
      gi_wp2_with fail
      refine ⟨trivial, (callsIn_wide.2 con5).mono ?_⟩
      rintro e w' ⟨rfl, rfl⟩
      clear con5
      gi_wp2_with fail
      refine ⟨trivial, ?_⟩
      gi_wp2
      have hKd : (Wd.setCell ⟨w.heap.size, 0, none⟩ (.bool true)).heap[D]? = some (.deferred (some [])) := (Keep.setCell (S := fun b => b = D) Wd ⟨w.heap.size, 0, none⟩ _ (show ¬ w.heap.size = D by omega)).heap rfl hK
      refine ⟨by simp, .inl ⟨_, _, rfl, run_takeDeferred hKd, ?_⟩⟩
      refine ⟨_, results_bool rfl _ _ w.heap.size _ rfl ((kp (fun b => b = w.heap.size) _ (by omega)).boxed (hE1.set _) rfl).cell, ?_, ?_⟩
      · rw [HB.out]
      · have h5 := hE8.setCell (p := ⟨w.heap.size, 0, none⟩) (Nat.le_refl _) (.bool true)
        exact h5.trans ((kp (fun b => b < w.heap.size) _ (by omega)).below h5.size)
    | true =>
      have HB := Lib.hid (show hb = ab by rw [HXX.out, hd]; rfl)
      rw [hd] at con5
      clear hd HXX
      gi_wp2_with fail
      refine ⟨trivial, (callsIn_wide.2 con5).mono ?_⟩
      rintro e w' ⟨rfl, rfl⟩
      clear con5
      gi_wp2_with fail
      refine ⟨trivial, (callsIn_wide.2 conB).mono ?_⟩
      rintro e w4 ⟨rfl, hb4⟩
      clear conB
      have e1 := (Keep.of_below hb4).boxed hE1 hE1.lt
      have k14 := e1.cell
      have z14 := e1.frozen
      have hK4 : w4.heap[D]? = some (.deferred (some [])) := (hb4.block D hDl).trans hK
      have hE4 := hE8.trans (hb4.mono hszd)
      gi_wp2
      have hKd : (w4.setCell ⟨w.heap.size, 0, none⟩ (.bool ab)).heap[D]? = some (.deferred (some [])) := (Keep.setCell (S := fun b => b = D) w4 ⟨w.heap.size, 0, none⟩ _ (show ¬ w.heap.size = D by omega)).heap rfl hK4
      refine ⟨by simp, .inl ⟨_, _, rfl, run_takeDeferred hKd, ?_⟩⟩
      refine ⟨_, results_bool rfl _ _ w.heap.size _ rfl ((kp (fun b => b = w.heap.size) _ (by omega)).boxed (e1.set _) rfl).cell, ?_, ?_⟩
      · rw [HB.out]
      · have h5 := hE4.setCell (p := ⟨w.heap.size, 0, none⟩) (Nat.le_refl _) (.bool ab)
        exact h5.trans ((kp (fun b => b < w.heap.size) _ (by omega)).below h5.size)
  case stop =>
    rintro D cc pre rest Pv Wd hD hPD hPl hxs ⟨rfl, hge, hK1, hE1, hE3, hE4⟩ hK
    have kp : ∀ (S : Nat → Prop) (W : World), ¬ S D → Keep S W (W.putObj D (.deferred none)) := fun S W h => Keep.putObj _ _ _ h
    clear hxs
    gi_wp2
    refine ⟨by simp, .inl ⟨_, _, rfl, run_takeDeferred hK, ?_⟩⟩
    refine ⟨_, results_bool rfl _ _ w.heap.size _ rfl ((kp (fun b => b = w.heap.size) _ (by omega)).boxed hE1 rfl).cell, ?_, ?_⟩
    · rw [hE3]
    · exact hE4.trans ((kp (fun b => b < w.heap.size) _ (by omega)).below hE4.size)

end Go.Proofs.YtkjkfgmoogbdiaaGreatDoor.Host

namespace Go.Proofs.YtkjkfgmoogbdiaaGreatDoor.S
open Go.RowKit Go.Shelf
attribute [local go_sem] Oper.semAt_some

/-- 'append(dst, src...)' in a round, dst the call's own. -/
theorem wpIn_append_own {F : Fence} {nF : Nat} {P : Program} {o : Oper} {a : Act} {w : World} {K : Act → World → Prop} {Q : Exit → Act → World → Prop} (s x : Operand) (t : TypeId)
    (ho : o.op = .call { callee := .builtin .append, args := #[s, x], argTypes := #[t, t] })
    (base : Nat) (e : TypeId) (i : TypeInfo) (z : Value) (size bytes : Nat) (ht : P.underlying t = some (.slice e)) (hi : P.info? e = some i) (hz : i.zero = some z)
    (hsize : i.size = size) (hby : i.bytes = bytes) (hzs : z.cells.size = size) (hsz : 0 < size)
    (v : Value) (n : Nat) (xs : List Value) (hs : a.eval s = v) (hown : w.ownsRow base e size v n xs)
    (ad : Addr) (m c : Nat) (news : List Value) (hx : a.eval x = .slice (some ad) m c) (hl : news.length = m * size) (hnews : ∀ j u, news[j]? = some u → w.cell? (ad.add j) = some u) (h1 : ∀ u ∈ news, u.oneCell' = true)
    (h63 : n + m ≤ maxLen) (hbytes : (n + m) * bytes ≤ 140737488355328) (hbase : base ≤ w.heap.size)
    (h : ∀ v' w', w'.ownsRow base e size v' (n + m) (xs ++ news) → w.grownBy w' v.ownBlock → (v'.ownBlock = v.ownBlock ∨ v'.ownBlock = some w.heap.size) → K (a.put o.dst v') w') : Oper.wpIn F nF P o a w K Q := by
  obtain ⟨v', w', hr, h2, h3, _, h5⟩ := run_append_own_at (P := P) w base t o.type e i z size bytes ht hi hz hsize hby hzs hsz v n xs hown ad m c news hl hnews h1 h63 hbytes hbase
  unfold Oper.wpIn
  refine ⟨by simp [Oper.about, ho, resolve, Target.leads, Sem.run_pure], ?_⟩
  rw [Oper.semAt_plain F _ _ (by rw [ho]; intro c hc'; cases hc')]
  simp [execOp, ho, resolve, invoke, builtin, hs, hx, hr, Result.andThen]
  exact h v' w' h2 h3 h5

end Go.Proofs.YtkjkfgmoogbdiaaGreatDoor.S

namespace Go.Proofs.YtkjkfgmoogbdiaaGreatDoor.Url
open Go.RowKit Go.Shelf
attribute [local go_sem] Oper.semAt_some

/-- The slice v reads as l. -/
def By (w : World) (v : Value) (l : List UInt8) : Prop :=
  ∃ q c, v = .slice q l.length c ∧ l.length ≤ c ∧ c ≤ maxLen ∧ (q = none → c = 0) ∧ Lib.BytesIn w q l.length (Lib.numsL l)
theorem by_nil (w : World) : By w (.slice none 0 0) [] := ⟨none, 0, rfl, Nat.le_refl _, Nat.zero_le _, fun _ => rfl, Lib.BytesIn.nil _ _ _⟩
theorem bytes_on {w w' : World} {q : Option Addr} {n : Nat} {xs : List Int} (h : Lib.BytesIn w q n xs) (hk : Below w.heap.size w w') : Lib.BytesIn w' q n xs := bytes_keep h (Keep.of_below hk) (bytes_lt h)
theorem By.on {w w' : World} {v : Value} {l : List UInt8} (h : By w v l) (hk : Below w.heap.size w w') : By w' v l := by
  obtain ⟨q, c, h1, h2, h3, h4, h5⟩ := h
  exact ⟨q, c, h1, h2, h3, h4, bytes_on h5 hk⟩
theorem By.drew {w : World} {v : Value} {l : List UInt8} (h : By w v l) : By w.drew v l := h
theorem By.row {w : World} {base n : Nat} {v : Value} {l : List UInt8} (h : w.ownsRow base 5 1 v n ((Lib.numsL l).map (Value.int .u8))) : By w v l := by
  obtain ⟨q, c, rfl, rfl, h2, h3, h4, h5⟩ := row_open h
  refine ⟨q, c, rfl, h2, h3, fun hq => ?_, h4⟩
  subst hq
  rcases h.2 with ⟨hv, _⟩ | ⟨g, cap, cur, hv, _⟩
  · injection hv
  · cases hv
theorem below_drewN (w : World) (m : Nat) : Below w.heap.size w (w.drewN m) := ⟨rfl, rfl, rfl, Nat.le_refl _, fun _ _ => rfl⟩
/-- By its parts. -/
theorem By.at {w : World} {q : Option Addr} {n c : Nat} {l : List UInt8} (h : By w (.slice q n c) l) : l.length = n ∧ n ≤ c ∧ c ≤ maxLen ∧ (q = none → n = 0 ∧ c = 0) ∧ Lib.BytesIn w q n (Lib.numsL l) := by
  obtain ⟨q', c', he, h2, h3, h4, h5⟩ := h
  cases he
  exact ⟨rfl, h2, h3, fun hq => by have := h4 hq; omega, h5⟩
theorem By.of {w : World} {q : Option Addr} {n c : Nat} {l : List UInt8} (h1 : l.length = n) (h2 : n ≤ c) (h3 : c ≤ maxLen) (h4 : q = none → c = 0) (h5 : Lib.BytesIn w q n (Lib.numsL l)) : By w (.slice q n c) l := by
  subst h1; exact ⟨q, c, rfl, h2, h3, h4, h5⟩

theorem run_slice_at (q : Option Addr) (n c i : Nat) (W : World) (hi : i ≤ n) :
    (Instr.slice 30 (.slice q n c) (some (.int .i64 (i : Int))) none none).run Tryz.prog W = .ok (.slice (subA q c i) (n - i) (c - i)) W := by
  have hs : ∀ w, (Go.sizeOf 5).run Tryz.prog w = .ok 1 w := Tryz.sizeOf5
  have he : Tryz.prog.elem 30 = 5 := by kernel_rfl
  have h := run_slice_l (P := Tryz.prog) (w := W) 30 q n c (by rw [he]; exact Tryz.underlying30) .i64 (i : Int) (by omega) (by omega)
  rw [h, he, hs]
  simp only [Result.andThen, sliced, subA, Nat.mul_one, Int.toNat_natCast]
theorem subA_none {q : Option Addr} {c l : Nat} (h : subA q c l = none) : q = none := by
  unfold subA at h
  split at h
  · exact h
  · cases q with
    | none => rfl
    | some a => simp at h
/-- A piece of what a slice reads as. -/
theorem By.sub {w : World} {q : Option Addr} {n c i j : Nat} {l : List UInt8} (h : By w (.slice q n c) l) (hij : i ≤ j) (hj : j ≤ n) : By w (.slice (subA q c i) (j - i) (c - i)) (sub l i j) := by
  obtain ⟨h1, h2, h3, h4, h5⟩ := h.at
  exact By.of (sub_length l i j (by omega)) (by omega) (by omega) (fun hq => by have := h4 (subA_none hq); omega) (bytes_sub h5 h1 hij hj h2)

set_option maxRecDepth 100000 in
set_option maxHeartbeats 8000000 in
theorem atSlash_any (q : Option Addr) (n c : Nat) (l : List UInt8) (w : World) (h : By w (.slice q n c) l) :
    Calls Tryz.prog 159 #[.slice q n c] w fun e w' => ∃ v1 v2, e = .returned (.tuple #[v1, v2]) ∧ By w v1 (aheadL 47 l) ∧ By w v2 (l.drop (aheadL 47 l).length) ∧ Below w.heap.size w w' ∧ w'.heap = w.heap := by
  obtain ⟨hl, hnc, hcm, hnil, hb⟩ := h.at
  have hix := IndexByte_any q n c l 47 w hl hnil hb
  have hge := Lib.indexByte_ge l 47
  have hlt := index_lt l 47
  have ha := (at_ahead 47 l).1
  by_cases h0 : 0 ≤ Lib.indexByte l 47
  · obtain ⟨k, hk⟩ : ∃ k : Nat, Lib.indexByte l 47 = (k : Int) := ⟨(Lib.indexByte l 47).toNat, by omega⟩
    obtain ⟨e1, _, _⟩ := at_found 47 l k hk
    rw [hk] at hix hlt
    have hkn : k < n := by omega
    have hlk : (l.take k).length = k := by rw [List.length_take]; omega
    have hb1 := h.sub (Nat.zero_le k) (by omega)
    have hb2 := h.sub (show k ≤ n from by omega) (Nat.le_refl n)
    rw [← ha, e1, hlk]
    rw [sub_to, Nat.sub_zero, Nat.sub_zero] at hb1
    rw [← hl, sub_from, hl] at hb2
    have hr1 : ∀ W, (Instr.slice 30 (.slice q n c) none (some (.int .i64 (k : Int))) none).run Tryz.prog W = .ok (.slice (subA q c 0) k c) W := fun W => run_slice_to q n c k W (by omega)
    have hr2 : ∀ W, (Instr.slice 30 (.slice q n c) (some (.int .i64 (k : Int))) none none).run Tryz.prog W = .ok (.slice (subA q c k) (n - k) (c - k)) W := fun W => run_slice_at q n c k W (by omega)
    clear e1 h0 hge hk h hlk ha hb hnil hl
    generalize l.take k = l1 at *
    generalize l.drop k = l2 at *
    generalize hqa : subA q c 0 = qa at *
    generalize hqb : subA q c k = qb at *
    clear hqa hqb
    go_enter Tryz.func159, Tryz.ntmps159
    go_wp2_with fail
    refine hix.mono ?_
    rintro e w' ⟨rfl, hw⟩
    subst hw
    go_wp2
    go_quiet (fail)
    go_wp2
    go_ret2
    exact ⟨_, _, rfl, hb1, hb2, below_drewN _ _, rfl⟩
  · have h1 : Lib.indexByte l 47 = -1 := by omega
    obtain ⟨e1, _, _⟩ := at_none 47 l h1
    rw [h1] at hix
    rw [← ha, e1, List.drop_length]
    clear e1 h0 hge h1 ha hb hnil hl
    go_enter Tryz.func159, Tryz.ntmps159
    go_wp2_with fail
    refine hix.mono ?_
    rintro e w' ⟨rfl, hw⟩
    subst hw
    go_wp2
    go_ret2
    exact ⟨_, _, rfl, h, by_nil _, Below.refl _ _, rfl⟩

end Go.Proofs.YtkjkfgmoogbdiaaGreatDoor.Url

namespace Go.Proofs.YtkjkfgmoogbdiaaGreatDoor.Url
open Go.RowKit Go.Shelf
attribute [local go_sem] Oper.semAt_some

def byV (l : List UInt8) : List Value := (Lib.numsL l).map (Value.int .u8)
theorem byV_app (l m : List UInt8) : byV (l ++ m) = byV l ++ byV m := by simp [byV, Lib.numsL]

set_option maxRecDepth 100000 in
set_option maxHeartbeats 4000000 in
theorem Grow_nil (n : Nat) (w : World) (h0 : 0 < n) (hn : n ≤ 1099511627776) :
    Calls Tryz.prog 219 #[.slice none 0 0, .int .i64 n] w fun e w' => ∃ v, e = .returned v ∧ w'.ownsRow w.heap.size 5 1 v 0 [] ∧ Below w.heap.size w w' := by
  obtain ⟨i0, hi0, hz0, hz1, hz2⟩ := info_parts info_u8
  have h1 : ¬ ((n : Int) < 0) := by omega
  have h4 : (n : Int) > 0 := by omega
  have h4' : decide (0 < n) = true := by simp; omega
  have hold : (Builtin.firstCells i0.size 0 (.slice none 0 0)).run Tryz.prog w.drew = .ok ([] : List Value).toArray w.drew := run_firstCells_none w.drew i0.size 0 0 0
  have hrz := Lib.run_append_grow_zeros (P := Tryz.prog) w 30 3 30 5 i0 (.int .u8 0) .i64 .i64 Tryz.underlying30 Tryz.underlying3 hi0 hz0 none 0 0 [] hold n h0 (by omega) (by omega) (by omega) (by rw [hz2]; omega)
    (growslice_fits (by omega) (by rw [hz2]; omega))
  simp only [Nat.zero_add] at hrz
  have hG : n ≤ grownCap w n 0 5 := grownCap_ge w _ _ _
  have hGm : grownCap w n 0 5 ≤ maxLen := grownCap_le_maxLen w n 0 5 (by unfold maxLen; omega)
  have hz : ∀ k, (Builtin.zeroCells (Value.int IntKind.u8 0).cells k).size = k := fun k => by simp [Builtin.zeroCells, Value.cells]
  have hsz : (([] : List Value).toArray ++ Builtin.zeroCells (Value.int IntKind.u8 0).cells n ++ Builtin.zeroCells (Value.int IntKind.u8 0).cells (grownCap w n 0 5 - n)).size = grownCap w n 0 5 * 1 := by
    rw [Array.size_append, Array.size_append, hz, hz, List.size_toArray, List.length_nil]; omega
  have hown := World.ownsRow_made (e := 5) (size := 1) (base := w.heap.size) w.drew _ (grownCap w n 0 5) (Nat.le_refl _) hGm hsz
  have hbel := (Below.refl w.heap.size w).drew.alloc (Nat.le_refl _) (.cells (([] : List Value).toArray ++ Builtin.zeroCells (Value.int IntKind.u8 0).cells n ++ Builtin.zeroCells (Value.int IntKind.u8 0).cells (grownCap w n 0 5 - n)) 5)
  have hgm : ((grownCap w n 0 5 : Nat) : Int) ≤ 9223372036854775807 := by unfold maxLen at hGm; omega
  clear hold hsz hGm hz
  generalize grownCap w n 0 5 = G at *
  generalize (([] : List Value).toArray ++ Builtin.zeroCells (Value.int IntKind.u8 0).cells n ++ Builtin.zeroCells (Value.int IntKind.u8 0).cells (G - n)) = cs at *
  go_enter Tryz.func219, Tryz.ntmps219
  go_wp2_with (at_builtin; refine Lib.wpList_append_run _ rfl _ _ _ _ rfl _ _ rfl rfl _ _ hrz ?_)
  go_ret
  exact ⟨_, rfl, hown, hbel⟩

theorem flat_take (ls : List (List UInt8)) (k : Nat) (h : k < ls.length) : (ls.take (k + 1)).flatten = (ls.take k).flatten ++ ls.getD k [] := by
  rw [List.take_succ_eq_append_getElem h, List.flatten_append]
  simp [List.getD, List.getElem?_eq_getElem h]
theorem flat_take_le (ls : List (List UInt8)) (k : Nat) : (ls.take k).flatten.length ≤ ls.flatten.length := by
  have h : ls.flatten = (ls.take k).flatten ++ (ls.drop k).flatten := by rw [← List.flatten_append, List.take_append_drop]
  rw [h, List.length_append]; omega

set_option maxRecDepth 100000 in
set_option maxHeartbeats 4000000 in
theorem Concat_any (b m c : Nat) (ls : List (List UInt8)) (w : World) (hm : ls.length = m) (hmm : m ≤ 1000) (hP : ∀ i, i < m → ∃ q n c, w.cell? ⟨b, i, none⟩ = some (.slice q n c) ∧ By w (.slice q n c) (ls.getD i [])) (hs : ls.flatten.length ≤ 1099511627776) (h0 : 0 < ls.flatten.length) :
    Calls Tryz.prog 195 #[.slice (some ⟨b, 0, none⟩) m c] w fun e w' => ∃ v, e = .returned v ∧ w'.ownsRow w.heap.size 5 1 v ls.flatten.length (byV ls.flatten) ∧ Below w.heap.size w w' := by
  obtain ⟨N, hN⟩ : ∃ N, ls.flatten.length = N := ⟨_, rfl⟩
  rw [hN] at hs h0 ⊢
  have HN := Lib.hid hN
  have HP := Lib.hid hP
  have HM := Lib.hid hm
  clear hN hP hm
  have hb : 0 < m → b < w.heap.size := fun h => by obtain ⟨q, n, c, h1, _⟩ := HP.out 0 h; exact World.block_lt_of_cell? w _ h1
  have con := Grow_nil N w h0 hs
  go_enter Tryz.func195, Tryz.ntmps195
  go_wp2
  go_loop [3, 11] (fun s i => ∃ k t : Nat, k ≤ m ∧ i = .int .i64 k ∧ s = .int .i64 t ∧ Hid (t = (ls.take k).flatten.length)) (fun _ i => m - (intOf i).toNat)
  case atStart => exact ⟨0, 0, Nat.zero_le _, rfl, rfl, by simp [Hid]⟩
  case round =>
    obtain ⟨k, t, hk, rfl, rfl, HT⟩ := hrel
    by_cases hlt : k < m
    · obtain ⟨q, n, c', hc, hby⟩ := HP.out k hlt
      have ht : (ls.take (k + 1)).flatten.length = t + n := by rw [flat_take ls k (by rw [HM.out]; exact hlt), List.length_append, ← HT.out, hby.at.1]
      have hle := flat_take_le ls (k + 1)
      rw [HN.out, ht] at hle
      have HT2 := Lib.hid ht
      clear ht hby
      have d1 : decide ((t : Int) + (n : Int) < 0) = false := by simp; omega
      go_wp2
      go_round
      case rel => exact ⟨k + 1, t + n, by omega, by go_num, by go_num, HT2.out.symm⟩
      case measure => simp [intOf]; omega
    · have htN : t = N := by rw [HT.out, List.take_of_length_le (by rw [HM.out]; omega), HN.out]
      subst htN
      clear HT
      go_wp2_with fail
      refine con.mono ?_
      rintro e w1 ⟨v1, rfl, hown, hbel⟩
      clear con
      go_wp2
      go_loopw [6, 27] (fun v i wr => ∃ k n : Nat, k ≤ m ∧ i = .int .i64 k ∧ wr.ownsRow w.heap.size 5 1 v n (byV (ls.take k).flatten) ∧ Hid (n = (ls.take k).flatten.length) ∧ Below w.heap.size w wr) (fun _ i _ => m - (intOf i).toNat)
      case atStart => exact ⟨0, 0, Nat.zero_le _, rfl, hown, by simp [Hid], hbel⟩
      case round =>
        obtain ⟨j, n, hj, rfl, hrow, HR, hbw⟩ := hrel
        by_cases hjl : j < m
        · obtain ⟨q, n', c', hc, hby⟩ := HP.out j hjl
          have hc' : wr.cell? ⟨b, j, none⟩ = some (.slice q n' c') := (World.cell?_of_block (hbw.block _ (hb (by omega)))).trans hc
          obtain ⟨h1, h2, h3, h4, h5⟩ := (hby.on hbw).at
          have ht : (ls.take (j + 1)).flatten = (ls.take j).flatten ++ ls.getD j [] := flat_take ls j (by rw [HM.out]; exact hjl)
          have hle := flat_take_le ls (j + 1)
          have htl : (ls.take (j + 1)).flatten.length = n + n' := by rw [ht, List.length_append, ← HR.out, h1]
          rw [htl, HN.out] at hle
          have HT := Lib.hid ht
          have HTL := Lib.hid htl
          have hbs := hbw.size
          clear ht htl hc hby hown hbel h2 h3
          generalize ls.getD j [] = x at *
          go_wp2_with (at_builtin; refine wpList_append_bytes rfl _ _ rfl w.heap.size _ n _ rfl hrow q n' c' x rfl h4 h1 h5 (by omega) hbs ?_; intro v4 w4 hown4 hgrow4)
          go_roundw
          case rel =>
            refine ⟨j + 1, n + n', by omega, by go_num, ?_, HTL.out.symm, hbw.trans ((Below.refl _ _).grown hgrow4 hbs (fun b h => (hrow.lt b h).1))⟩
            rw [HT.out, byV_app]; exact hown4
          case measure => simp [intOf]; omega
        · have hnN : n = t := by rw [HR.out, List.take_of_length_le (by rw [HM.out]; omega), HN.out]
          have hall : ls.take j = ls := List.take_of_length_le (by rw [HM.out]; omega)
          subst hnN
          rw [hall] at hrow
          clear hall HR
          go_wp2
          go_ret
          exact ⟨_, rfl, hrow, hbw⟩

end Go.Proofs.YtkjkfgmoogbdiaaGreatDoor.Url

namespace Go.Proofs.YtkjkfgmoogbdiaaGreatDoor.Org
open Go.RowKit Go.Shelf Url
attribute [local go_sem] Oper.semAt_some

def setRen : Go.Shelf.Ren := ⟨fun | 11 => 171 | 16 => 172 | n => n, fun | 0 => 0 | 3 => 3 | 4 => 4 | 5 => 5 | 9 => 9 | 27 => 243 | 31 => 272 | n => n, fun | n => n⟩
theorem set11 : Go.Proofs.SlLaysV.n11 Tryz.prog setRen := {
  mixed := by kernel_rfl
  f11 := Tryz.func171.trans (congrArg some (by kernel_rfl))
  t0 := Tryz.underlying0, a0 := Tryz.isAgg0, z0 := Tryz.sizeOf0, v0 := Tryz.zeroValue0
  t3 := Tryz.underlying3, a3 := Tryz.isAgg3, z3 := Tryz.sizeOf3, v3 := Tryz.zeroValue3
  t4 := Tryz.underlying4, a4 := Tryz.isAgg4, z4 := Tryz.sizeOf4, v4 := Tryz.zeroValue4
  t5 := Tryz.underlying5, a5 := Tryz.isAgg5, z5 := Tryz.sizeOf5, v5 := Tryz.zeroValue5
  t9 := Tryz.underlying9, a9 := Tryz.isAgg9, z9 := Tryz.sizeOf9, v9 := Tryz.zeroValue9
  t27 := Tryz.underlying243, a27 := Tryz.isAgg243, z27 := Tryz.sizeOf243 }
theorem set16 : Go.Proofs.SlLaysV.n16 Tryz.prog setRen := {
  mixed := by kernel_rfl
  f16 := Tryz.func172.trans (congrArg some (by kernel_rfl))
  t0 := Tryz.underlying0, a0 := Tryz.isAgg0, z0 := Tryz.sizeOf0, v0 := Tryz.zeroValue0
  t4 := Tryz.underlying4, a4 := Tryz.isAgg4, z4 := Tryz.sizeOf4, v4 := Tryz.zeroValue4
  t5 := Tryz.underlying5, a5 := Tryz.isAgg5, z5 := Tryz.sizeOf5, v5 := Tryz.zeroValue5
  t27 := Tryz.underlying243, a27 := Tryz.isAgg243, z27 := Tryz.sizeOf243
  t31 := Tryz.underlying272, a31 := Tryz.isAgg272, z31 := Tryz.sizeOf272, v31 := Tryz.zeroValue272 }
theorem info_set : (Tryz.prog.info? 243).map (fun i => (i.zero, i.size)) = some (some (.agg (Array.replicate 256 (.bool false))), 256) := by kernel_rfl

theorem set_zero : Tryz.zeroCells243 = Array.replicate 256 (.bool false) := by kernel_rfl

/-- "/?#". -/
def sepC : List UInt8 := [47, 63, 35]
theorem makeSet_any (w : World) : Calls Tryz.prog 171 #[.string ⟨sepC.toArray⟩] w fun e w' => e = .returned (.tuple #[.agg (Lib.setCells sepC), .bool true]) ∧ w' = w.alloc (.cells (Lib.setCells sepC) 243) :=
  Any.bytes_makeASCIISet set11 (zero_of_info info_set).1 (zero_of_info info_set).2 ⟨sepC.toArray⟩ w (by decide) (by
    intro j b hj
    have : b ∈ sepC := List.mem_of_getElem? hj
    simp only [sepC, List.mem_cons, List.not_mem_nil, or_false] at this
    rcases this with rfl | rfl | rfl <;> decide)
theorem has_any (b : Nat) (x : UInt8) (v : Bool) (w : World) (hc : w.cell? ⟨b, x.toNat, none⟩ = some (.bool v)) :
    Calls Tryz.prog 172 #[.pointer (some ⟨b, 0, none⟩), .int .u8 x.toNat] w fun e w' => e = .returned (.bool v) ∧ w' = w :=
  Any.bytes_asciiSet_contains set16 b x v w hc

set_option maxHeartbeats 1000000 in
theorem shouldUse_any (n : Int) (w : World) :
    Calls Tryz.prog 170 #[.int .i64 n] w fun e w' => e = .returned (.bool (decide (8 < n))) ∧ w' = w := by
  go_enter Tryz.func170, Tryz.ntmps170
  go_wp2
  go_ret
  exact ⟨rfl, rfl⟩

theorem run_indexSep (x : UInt8) (w : World) : (callFunc 168 #[.string ⟨#[47, 63, 35]⟩, .int .u8 (x.toNat : Int)]).run Tryz.prog w = .ok (.value (.int .i64 (Lib.indexByte sepC x))) w := by
  rw [run_callFunc_extern Tryz.func168 (by kernel_rfl) (by kernel_rfl) (by kernel_rfl) (e := Extern.BytealgIndexByte.indexByte) (by kernel_rfl), Lib.run_indexByteString]
  simp [Result.andThen, sepC]
theorem sep_in (x : UInt8) (h : x ∈ sepC) : decide (0 ≤ Lib.indexByte sepC x) = true ∧ x.toNat < 128 := by
  simp only [sepC, List.mem_cons, List.not_mem_nil, or_false] at h
  rcases h with rfl | rfl | rfl <;> decide
theorem sep_out (x : UInt8) (h : x ∉ sepC) : decide (0 ≤ Lib.indexByte sepC x) = false := by
  rw [← Lib.contains_iff_indexByte]
  simpa using h
/-- What IndexAny answers. -/
def sepV (k n : Nat) : Int := if k < n then (k : Int) else -1

set_option maxRecDepth 100000 in
set_option maxHeartbeats 4000000 in
/-- A text of one byte. -/
theorem IndexAny_one (q : Option Addr) (c k : Nat) (l : List UInt8) (w : World) (h : By w (.slice q 1 c) l) (hno : ∀ j, j < k → (l.getD j 0).toNat < 128 ∧ l.getD j 0 ∉ sepC) (hk : k = 1 ∨ (k < 1 ∧ l.getD k 0 ∈ sepC)) :
    Calls Tryz.prog 151 #[.slice q 1 c, .string ⟨#[47, 63, 35]⟩] w fun e w' => e = .returned (.int .i64 (sepV k 1)) ∧ Below w.heap.size w w' := by
  obtain ⟨h1, h2, h3, h4, h5⟩ := h.at
  obtain ⟨b, o, rfl, hc⟩ := h5.at (by omega)
  have hc0 := hc 0 (by omega)
  rw [numsL_getD _ _ (by omega), Nat.add_zero] at hc0
  obtain ⟨x, hx⟩ : ∃ x, l.getD 0 0 = x := ⟨_, rfl⟩
  rw [hx] at hc0
  have hrun := run_indexSep x
  rcases hk with rfl | ⟨hk0, hk⟩
  · obtain ⟨h128, hnot⟩ := hno 0 (by omega)
    rw [hx] at h128 hnot
    have hix := sep_out x hnot
    have d1 : decide ((128 : Int) ≤ (x.toNat : Int)) = false := by simp; omega
    clear hno hnot hc h5 h h1 hx
    generalize Lib.indexByte sepC x = ix at *
    go_enter Tryz.func151, Tryz.ntmps151
    go_wp2
    go_ret
    exact ⟨rfl, Below.refl _ _⟩
  · obtain rfl : k = 0 := by omega
    rw [hx] at hk
    obtain ⟨hix, h128⟩ := sep_in x hk
    have d1 : decide ((128 : Int) ≤ (x.toNat : Int)) = false := by simp; omega
    clear hno hk hc h5 h h1 hx
    generalize Lib.indexByte sepC x = ix at *
    go_enter Tryz.func151, Tryz.ntmps151
    go_wp2
    go_ret
    exact ⟨rfl, Below.refl _ _⟩

set_option maxRecDepth 100000 in
set_option maxHeartbeats 8000000 in
/-- A text of at most eight bytes. -/
theorem IndexAny_short (q : Option Addr) (n c k : Nat) (l : List UInt8) (w : World) (h : By w (.slice q n c) l) (hn1 : n ≠ 1) (hn8 : n ≤ 8) (hno : ∀ j, j < k → (l.getD j 0).toNat < 128 ∧ l.getD j 0 ∉ sepC) (hk : k = n ∨ (k < n ∧ l.getD k 0 ∈ sepC)) :
    Calls Tryz.prog 151 #[.slice q n c, .string ⟨#[47, 63, 35]⟩] w fun e w' => e = .returned (.int .i64 (sepV k n)) ∧ Below w.heap.size w w' := by
  obtain ⟨h1, h2, h3, h4, h5⟩ := h.at
  have H1 := Lib.hid h1
  have H5 := Lib.hid h5
  have HN := Lib.hid hno
  have HK := Lib.hid hk
  have hkn : k ≤ n := by rcases hk with h | h <;> omega
  have hne : ((n : Int) == 1) = false := by simp; omega
  have h8 : decide ((8 : Int) < (n : Int)) = false := by simp; omega
  have con := shouldUse_any (n : Int) w
  rw [h8] at con
  clear h1 h4 h5 h hno hk hn1 h8
  go_enter Tryz.func151, Tryz.ntmps151
  go_wp2_with fail
  refine con.mono ?_
  rintro e w' ⟨rfl, rfl⟩
  clear con
  go_wp2
  go_loop [12] (fun i => ∃ j : Nat, j ≤ k ∧ i = .int .i64 j) (fun i => n - (intOf i).toNat)
  case atStart => exact ⟨0, Nat.zero_le _, rfl⟩
  case round =>
    obtain ⟨j, hj, rfl⟩ := hrel
    have hwr : wrap64 ((j : Int) + 1) = (j : Int) + 1 := by unfold wrap64; omega
    by_cases hjn : j < n
    · obtain ⟨b, o, rfl, hc⟩ := H5.out.at (by omega)
      have hc0 := hc j hjn
      have e1 := H1.out
      rw [numsL_getD _ _ (by omega)] at hc0
      obtain ⟨x, hx⟩ : ∃ x, l.getD j 0 = x := ⟨_, rfl⟩
      rw [hx] at hc0
      have hrun := run_indexSep x
      by_cases hjk : j < k
      · obtain ⟨h128, hnot⟩ := HN.out j hjk
        rw [hx] at h128 hnot
        have hix := sep_out x hnot
        have d1 : decide ((x.toNat : Int) < (128 : Int)) = true := by simp; omega
        clear hnot hc hx e1
        generalize Lib.indexByte sepC x = ix at *
        go_wp2
        go_round
        case rel => exact ⟨j + 1, by omega, by go_num⟩
        case measure => simp [intOf]; omega
      · have hjk' : j = k := by omega
        have hin : x ∈ sepC := by rcases HK.out with h | ⟨_, h⟩
                                  · omega
                                  · rw [← hx, hjk']; exact h
        obtain ⟨hix, h128⟩ := sep_in x hin
        have d1 : decide ((x.toNat : Int) < (128 : Int)) = true := by simp; omega
        have HV := Lib.hid (show sepV k n = (j : Int) by unfold sepV; rw [if_pos (by omega), hjk'])
        clear hin hc hx e1 hjk' hjk
        generalize Lib.indexByte sepC x = ix at *
        go_wp2
        go_ret
        exact ⟨(by rw [HV.out]; try rfl), Below.refl _ _⟩
    · have HV := Lib.hid (show sepV k n = (-1 : Int) by unfold sepV; rw [if_neg (by omega)])
      have hd : decide ((j : Int) < (n : Int)) = false := by simp; omega
      go_wp2
      go_ret
      exact ⟨(by rw [HV.out]; try rfl), Below.refl _ _⟩

set_option maxRecDepth 1000000 in
set_option maxHeartbeats 8000000 in
/-- A text of more than eight bytes. -/
theorem IndexAny_long (q : Option Addr) (n c k : Nat) (l : List UInt8) (w : World) (h : By w (.slice q n c) l) (hn8 : 8 < n) (hn47 : n ≤ 140737488355328) (hno : ∀ j, j < k → (l.getD j 0).toNat < 128 ∧ l.getD j 0 ∉ sepC) (hk : k = n ∨ (k < n ∧ l.getD k 0 ∈ sepC)) :
    Calls Tryz.prog 151 #[.slice q n c, .string ⟨#[47, 63, 35]⟩] w fun e w' => e = .returned (.int .i64 (sepV k n)) ∧ Below w.heap.size w w' := by
  obtain ⟨hS1, hS2, hS3⟩ : (Lib.setCells sepC).size = 256 ∧ (Lib.setCells sepC).all (·.oneCell') = true ∧ ∀ x : UInt8, (Lib.setCells sepC)[x.toNat]? = some (.bool (sepC.contains x)) := ⟨Lib.setCells_size _, Lib.setCells_one _, Lib.setCells_at sepC⟩
  have conM := fun w => makeSet_any w
  obtain ⟨S, hS⟩ : ∃ S, Lib.setCells sepC = S := ⟨_, rfl⟩
  rw [hS] at hS1 hS2 hS3 conM
  have hsc : (storeCells ⟨w.heap.size + 1, 0, none⟩ S.toList 0).run Tryz.prog ((w.alloc (.cells S 243)).alloc (.cells (Array.replicate 256 (.bool false)) 243)) = .ok () ((w.alloc (.cells S 243)).alloc (.cells S 243)) := by
    have := run_storeCells_new (P := Tryz.prog) (w.alloc (.cells S 243)) 243 (Array.replicate 256 (.bool false)) S (by rw [hS1]; exact (zero_of_info info_set).2) (by rw [hS1, Array.size_replicate]) hS2
    simpa using this
  obtain ⟨W, hW⟩ : ∃ W, (w.alloc (.cells S 243)).alloc (.cells S 243) = W := ⟨_, rfl⟩
  have hB : Below w.heap.size w W := by rw [← hW]; exact ((Below.refl _ w).alloc (Nat.le_refl _) _).alloc (by simp) _
  have hcell : ∀ x : UInt8, W.cell? ⟨w.heap.size + 1, x.toNat, none⟩ = some (.bool (sepC.contains x)) := fun x => by
    rw [← hW, World.cell?_alloc_at _ _ _ _ (by simp), hS3]
  obtain ⟨h1, h2, h3, h4, h5⟩ := (h.on hB).at
  have H1 := Lib.hid h1
  have H5 := Lib.hid h5
  have HN := Lib.hid hno
  have HK := Lib.hid hk
  have HC := Lib.hid hcell
  have hkn : k ≤ n := by rcases hk with h | h <;> omega
  have hne : ((n : Int) == 1) = false := by simp; omega
  have h8 : decide ((8 : Int) < (n : Int)) = true := by simp; omega
  have con := shouldUse_any (n : Int) w
  rw [h8] at con
  have conM := conM w
  rw [hW] at hsc
  clear h1 h4 h5 h hno hk h8 hcell hW hS hS3 hS2
  go_enter Tryz.func151, Tryz.ntmps151
  go_wp2_with fail
  refine con.mono ?_
  rintro e w' ⟨rfl, rfl⟩
  clear con
  go_wp2_with fail
  refine conM.mono ?_
  rintro e w2 ⟨rfl, rfl⟩
  clear conM
  go_wp2
  rw [set_zero, hsc]
  simp only [Result.andThen]
  rw [Oper.upon_skip]
  go_wp2
  go_loop [62] (fun i => ∃ j : Nat, j ≤ k ∧ i = .int .i64 j) (fun i => n - (intOf i).toNat)
  case atStart => exact ⟨0, Nat.zero_le _, rfl⟩
  case round =>
    obtain ⟨j, hj, rfl⟩ := hrel
    have hwr : wrap64 ((j : Int) + 1) = (j : Int) + 1 := by unfold wrap64; omega
    by_cases hjn : j < n
    · obtain ⟨b, o, rfl, hc⟩ := H5.out.at (by omega)
      have hc0 := hc j hjn
      have e1 := H1.out
      rw [numsL_getD _ _ (by omega)] at hc0
      obtain ⟨x, hx⟩ : ∃ x, l.getD j 0 = x := ⟨_, rfl⟩
      rw [hx] at hc0
      have hcx := HC.out x
      by_cases hjk : j < k
      · obtain ⟨_, hnot⟩ := HN.out j hjk
        rw [hx] at hnot
        rw [show sepC.contains x = false by simpa using hnot] at hcx
        have con := has_any _ x _ _ hcx
        clear hnot hc hx e1 hcx
        go_wp2_with fail
        refine con.mono ?_
        rintro e w' ⟨rfl, rfl⟩
        clear con
        go_wp2
        go_round
        case rel => exact ⟨j + 1, by omega, by go_num⟩
        case measure => simp [intOf]; omega
      · have hjk' : j = k := by omega
        have hin : x ∈ sepC := by rcases HK.out with h | ⟨_, h⟩
                                  · omega
                                  · rw [← hx, hjk']; exact h
        rw [show sepC.contains x = true by simpa using hin] at hcx
        have con := has_any _ x _ _ hcx
        have HV := Lib.hid (show sepV k n = (j : Int) by unfold sepV; rw [if_pos (by omega), hjk'])
        clear hin hc hx e1 hjk' hjk hcx
        go_wp2_with fail
        refine con.mono ?_
        rintro e w' ⟨rfl, rfl⟩
        clear con
        go_wp2
        go_ret
        exact ⟨(by rw [HV.out]; try rfl), hB⟩
    · have HV := Lib.hid (show sepV k n = (-1 : Int) by unfold sepV; rw [if_neg (by omega)])
      have hd : decide ((j : Int) < (n : Int)) = false := by simp; omega
      go_wp2
      go_ret
      exact ⟨(by rw [HV.out]; try rfl), hB⟩

/-- bytes.ContainsAny at "/?#". -/
theorem ContainsAny_sep (q : Option Addr) (n c k : Nat) (l : List UInt8) (w : World) (h : By w (.slice q n c) l) (hn47 : n ≤ 140737488355328) (hno : ∀ j, j < k → (l.getD j 0).toNat < 128 ∧ l.getD j 0 ∉ sepC) (hk : k = n ∨ (k < n ∧ l.getD k 0 ∈ sepC)) :
    Calls Tryz.prog 133 #[.slice q n c, .string ⟨#[47, 63, 35]⟩] w fun e w' => e = .returned (.bool (decide (k < n))) ∧ Below w.heap.size w w' := by
  have con : Calls Tryz.prog 151 #[.slice q n c, .string ⟨#[47, 63, 35]⟩] w fun e w' => e = .returned (.int .i64 (sepV k n)) ∧ Below w.heap.size w w' := by
    by_cases h1 : n = 1
    · subst h1; exact IndexAny_one q c k l w h hno hk
    · by_cases h8 : n ≤ 8
      · exact IndexAny_short q n c k l w h h1 h8 hno hk
      · exact IndexAny_long q n c k l w h (by omega) hn47 hno hk
  have HV := Lib.hid (show decide (k < n) = decide (0 ≤ sepV k n) by
    unfold sepV
    by_cases hkn : k < n
    · rw [if_pos hkn]; simp [hkn]
    · rw [if_neg hkn]; simp [hkn])
  clear h hno hk
  generalize sepV k n = v at *
  go_enter Tryz.func133, Tryz.ntmps133
  go_wp2_with fail
  refine con.mono ?_
  rintro e w' ⟨rfl, hb⟩
  go_wp2
  go_ret
  exact ⟨(by rw [HV.out]; try rfl), hb⟩

end Go.Proofs.YtkjkfgmoogbdiaaGreatDoor.Org

namespace Go.Proofs.YtkjkfgmoogbdiaaGreatDoor.Blb
open Go.RowKit Go.Shelf Go.ChangeShapes Go.WideShapes Url
set_option linter.unusedVariables false

/-- A row of bytes, as a law's argument has it. -/
def Row8 (w : World) (a : Option Addr) (len cap : Nat) (zs : List Int) : Prop :=
  (a = none ∧ len = 0 ∧ cap = 0 ∧ zs = []) ∨
  ∃ x, a = some x ∧ len ≤ cap ∧ cap ≤ maxLen ∧ len ≤ zs.length ∧ zs.length ≤ cap ∧ (∀ i, i < zs.length → w.cell? (x.add i) = some (.int .u8 (zs.getD i 0))) ∧ ∀ n ∈ zs, (Lit.int .u8 n).wf = true
def IsAct (w : World) (p : Addr) : Prop := ∃ (k0 : Int) (k1 : Int) (k2 : Int) (q3 : Option Addr) (n3 c3 : Nat) (z3 : List Int) (q4 : Option Addr) (n4 c4 : Nat) (z4 : List Int) (q5 : Option Addr) (n5 c5 : Nat) (z5 : List Int) (q6 : Option Addr) (n6 c6 : Nat) (z6 : List Int),
  w.cell? p = some (.int .i64 k0) ∧ w.cell? (p.add 1) = some (.int .i64 k1) ∧ w.cell? (p.add 2) = some (.int .i64 k2) ∧ w.cell? (p.add 3) = some (.slice q3 n3 c3) ∧ w.cell? (p.add 4) = some (.slice q4 n4 c4) ∧ w.cell? (p.add 5) = some (.slice q5 n5 c5) ∧ w.cell? (p.add 6) = some (.slice q6 n6 c6) ∧ (Lit.int .i64 k0).wf = true ∧ (Lit.int .i64 k1).wf = true ∧ (Lit.int .i64 k2).wf = true ∧ Row8 w q3 n3 c3 z3 ∧ Row8 w q4 n4 c4 z4 ∧ Row8 w q5 n5 c5 z5 ∧ Row8 w q6 n6 c6 z6
def IsActs (w : World) (a : Option Addr) (len cap : Nat) : Prop :=
  (a = none ∧ len = 0 ∧ cap = 0) ∨ ∃ x, a = some x ∧ len ≤ cap ∧ cap ≤ maxLen ∧ ∀ i, i < len → IsAct w (x.add (i * 7))
theorem cells_all {w : World} {base : Nat} {a : Addr} {l : List Value} (h : w.cells? base a 7 = some l) : ∃ v0 v1 v2 v3 v4 v5 v6, l = [v0, v1, v2, v3, v4, v5, v6] ∧ w.cell? a = some v0 ∧ w.cell? (a.add 1) = some v1 ∧ w.cell? (a.add 2) = some v2 ∧ w.cell? (a.add 3) = some v3 ∧ w.cell? (a.add 4) = some v4 ∧ w.cell? (a.add 5) = some v5 ∧ w.cell? (a.add 6) = some v6 := by
  unfold World.cells? at h
  split at h
  · rw [show List.range 7 = [0, 1, 2, 3, 4, 5, 6] from rfl] at h
    simp only [List.mapM_cons, List.mapM_nil, Option.pure_def, Option.bind_eq_bind, Option.bind_eq_some_iff] at h
    obtain ⟨v0, h0, l1, ⟨v1, h1, l2, ⟨v2, h2, l3, ⟨v3, h3, l4, ⟨v4, h4, l5, ⟨v5, h5, l6, ⟨v6, h6, l7, e7, e6⟩, e5⟩, e4⟩, e3⟩, e2⟩, e1⟩, e0⟩ := h
    cases e7; cases e6; cases e5; cases e4; cases e3; cases e2; cases e1; cases e0
    refine ⟨v0, v1, v2, v3, v4, v5, v6, rfl, ?_, h1, h2, h3, h4, h5, h6⟩
    rw [← h0]; simp [Addr.add]
  · cases h
theorem open_row8 {H : Type} {enc : TypeId × Value → H} {w : World} {base : Nat} {spare : Nat → Bool} {held : Bool} {fuel : Nat} {v : Value} {x : DataW H × List MemPlace} (h : DataW.trod enc Tryz.prog w base spare held fuel 30 [v] = some x) :
    ∃ (q : Option Addr) (n c : Nat) (z : List Int), v = .slice q n c ∧ Row8 w q n c z := by
  rcases open_ints Tryz.underlying30 Tryz.underlying5 (by kernel_rfl) h with ⟨hcs, _⟩ | ⟨a, l, c, zs, hcs, _, hl, hm, hz, _, hcell, hwz⟩
  · cases hcs
    exact ⟨none, 0, 0, [], rfl, .inl ⟨rfl, rfl, rfl, rfl⟩⟩
  · cases hcs
    refine ⟨some a, l, c, zs, rfl, .inr ⟨a, rfl, hl, hm, ?_, ?_, hcell, hwz⟩⟩
    · rw [hz]; split <;> omega
    · rw [hz]; split <;> omega
set_option maxRecDepth 100000 in
theorem open_act {H : Type} {enc : TypeId × Value → H} {w : World} {base : Nat} {spare : Nat → Bool} {held : Bool} {fuel : Nat} {p : Addr} {cs : List Value} {x : DataW H × List MemPlace} (hcs : w.cells? base p 7 = some cs) (h : DataW.trod enc Tryz.prog w base spare held fuel 32 cs = some x) :
    IsAct w p := by
  obtain ⟨v0, v1, v2, v3, v4, v5, v6, rfl, h0, h1, h2, h3, h4, h5, h6⟩ := cells_all hcs
  obtain ⟨xs, m, _, rfl, hl, hlen, hf⟩ := DataW.trod_struct Tryz.underlying32 h
  have e1 : Tryz.prog.cellsOf 3 = 1 := by kernel_rfl
  have e2 : Tryz.prog.cellsOf 30 = 1 := by kernel_rfl
  match xs, hlen with
  | [y0, y1, y2, y3, y4, y5, y6], _ =>
    have g0 : DataW.trod enc Tryz.prog w base spare held m 3 [v0] = some y0 := by simpa [e1] using hf 0 _ rfl
    have g1 : DataW.trod enc Tryz.prog w base spare held m 3 [v1] = some y1 := by simpa [e1] using hf 1 _ rfl
    have g2 : DataW.trod enc Tryz.prog w base spare held m 3 [v2] = some y2 := by simpa [e1] using hf 2 _ rfl
    have g3 : DataW.trod enc Tryz.prog w base spare held m 30 [v3] = some y3 := by simpa [e2] using hf 3 _ rfl
    have g4 : DataW.trod enc Tryz.prog w base spare held m 30 [v4] = some y4 := by simpa [e2] using hf 4 _ rfl
    have g5 : DataW.trod enc Tryz.prog w base spare held m 30 [v5] = some y5 := by simpa [e2] using hf 5 _ rfl
    have g6 : DataW.trod enc Tryz.prog w base spare held m 30 [v6] = some y6 := by simpa [e2] using hf 6 _ rfl
    obtain ⟨k0, i0, _, w0⟩ := DataW.trod_int Tryz.underlying3 g0
    cases i0
    obtain ⟨k1, i1, _, w1⟩ := DataW.trod_int Tryz.underlying3 g1
    cases i1
    obtain ⟨k2, i2, _, w2⟩ := DataW.trod_int Tryz.underlying3 g2
    cases i2
    obtain ⟨q3, n3, c3, z3, rfl, r3⟩ := open_row8 g3
    obtain ⟨q4, n4, c4, z4, rfl, r4⟩ := open_row8 g4
    obtain ⟨q5, n5, c5, z5, rfl, r5⟩ := open_row8 g5
    obtain ⟨q6, n6, c6, z6, rfl, r6⟩ := open_row8 g6
    exact ⟨k0, k1, k2, q3, n3, c3, z3, q4, n4, c4, z4, q5, n5, c5, z5, q6, n6, c6, z6, h0, h1, h2, h3, h4, h5, h6, w0, w1, w2, r3, r4, r5, r6⟩
set_option maxRecDepth 100000 in
theorem open_acts {H : Type} {enc : TypeId × Value → H} {w : World} {base : Nat} {spare : Nat → Bool} {held : Bool} {fuel : Nat} {a : Option Addr} {len cap : Nat} {x : DataW H × List MemPlace} (h : DataW.trod enc Tryz.prog w base spare held fuel 22 [.slice a len cap] = some x) :
    IsActs w a len cap := by
  rcases DataW.trod_slice Tryz.underlying22 h with ⟨h0, _⟩ | ⟨a', len', cap', elems, rest, n, _, hcs, _, _, hl, hm, hlen, hel, _, _⟩
  · cases h0
    exact .inl ⟨rfl, rfl, rfl⟩
  · cases hcs
    refine .inr ⟨a', rfl, hl, hm, fun i hi => ?_⟩
    have h2 := hel i hi
    obtain ⟨y, hy⟩ : ∃ y, elems[i]? = some y := ⟨_, List.getElem?_eq_getElem (by omega)⟩
    rw [hy, Option.bind_eq_some_iff] at h2
    obtain ⟨cs, hcs, hty⟩ := h2
    rw [show Tryz.prog.cellsOf 32 = 7 by kernel_rfl] at hcs
    exact open_act hcs hty

/-- An act. -/
structure Ax where
  kind : Int
  h : Int
  old : Int
  lab : List UInt8
  at_ : List UInt8
  by_ : List UInt8
  data : List UInt8
/-- The act x lies in the cells from o on of block g. -/
def ActAt (w : World) (g o : Nat) (x : Ax) : Prop := ∃ (q3 : Option Addr) (n3 c3 : Nat) (q4 : Option Addr) (n4 c4 : Nat) (q5 : Option Addr) (n5 c5 : Nat) (q6 : Option Addr) (n6 c6 : Nat),
  w.cell? ⟨g, o, none⟩ = some (.int .i64 x.kind) ∧ w.cell? ⟨g, o + 1, none⟩ = some (.int .i64 x.h) ∧ w.cell? ⟨g, o + 2, none⟩ = some (.int .i64 x.old) ∧ w.cell? ⟨g, o + 3, none⟩ = some (.slice q3 n3 c3) ∧ w.cell? ⟨g, o + 4, none⟩ = some (.slice q4 n4 c4) ∧ w.cell? ⟨g, o + 5, none⟩ = some (.slice q5 n5 c5) ∧ w.cell? ⟨g, o + 6, none⟩ = some (.slice q6 n6 c6) ∧
  ((-9223372036854775808 ≤ x.kind ∧ x.kind ≤ 9223372036854775807) ∧ (-9223372036854775808 ≤ x.h ∧ x.h ≤ 9223372036854775807) ∧ (-9223372036854775808 ≤ x.old ∧ x.old ≤ 9223372036854775807)) ∧ By w (.slice q3 n3 c3) x.lab ∧ By w (.slice q4 n4 c4) x.at_ ∧ By w (.slice q5 n5 c5) x.by_ ∧ By w (.slice q6 n6 c6) x.data
/-- The slice at a reads as these acts. -/
def ActsIn (w : World) (a : Option Addr) (n : Nat) (l : List Ax) : Prop := l.length = n ∧ (0 < n → ∃ g o, a = some ⟨g, o, none⟩ ∧ g < w.heap.size ∧ ∀ i x, l[i]? = some x → ActAt w g (o + i * 7) x)
theorem ActAt.on {w w' : World} {g o : Nat} {x : Ax} (h : ActAt w g o x) (hg : g < w.heap.size) (hb : Below w.heap.size w w') : ActAt w' g o x := by
  obtain ⟨q3, n3, c3, q4, n4, c4, q5, n5, c5, q6, n6, c6, h0, h1, h2, h3, h4, h5, h6, hb0, y3, y4, y5, y6⟩ := h
  have e : ∀ k, w'.cell? ⟨g, k, none⟩ = w.cell? ⟨g, k, none⟩ := fun k => World.cell?_of_block (hb.block g hg)
  exact ⟨q3, n3, c3, q4, n4, c4, q5, n5, c5, q6, n6, c6, (e _).trans h0, (e _).trans h1, (e _).trans h2, (e _).trans h3, (e _).trans h4, (e _).trans h5, (e _).trans h6, hb0, y3.on hb, y4.on hb, y5.on hb, y6.on hb⟩
theorem ActsIn.on {w w' : World} {a : Option Addr} {n : Nat} {l : List Ax} (h : ActsIn w a n l) (hb : Below w.heap.size w w') : ActsIn w' a n l := by
  refine ⟨h.1, fun h0 => ?_⟩
  obtain ⟨g, o, rfl, hg, hx⟩ := h.2 h0
  exact ⟨g, o, rfl, Nat.lt_of_lt_of_le hg hb.size, fun i x hi => (hx i x hi).on hg hb⟩
theorem addr_of {w : World} {x : Addr} {v : Value} (h : w.cell? x = some v) : ∃ b o, x = ⟨b, o, none⟩ ∧ b < w.heap.size := by
  obtain ⟨b, o, s⟩ := x
  cases s with
  | none => exact ⟨b, o, rfl, World.block_lt_of_cell? w _ h⟩
  | some s =>
    exfalso
    simp only [World.cell?] at h
    split at h
    · simp at h
    · cases h
theorem row8_by {w : World} {q : Option Addr} {n c : Nat} {zs : List Int} (h : Row8 w q n c zs) : ∃ bs : List UInt8, By w (.slice q n c) bs := by
  rcases h with ⟨rfl, rfl, rfl, rfl⟩ | ⟨x, rfl, h1, h2, h3, _, h4, h5⟩
  · exact ⟨[], by_nil w⟩
  · have hz : ∀ i, i < n → (Lib.numsL (Lib.bytesOf (zs.take n))).getD i 0 = zs.getD i 0 := fun i hi => by
      have hi' : i < zs.length := by omega
      have hw := bounds_u8 (h5 _ (List.getElem_mem hi'))
      have : (Lib.bytesOf (zs.take n)).getD i 0 = UInt8.ofNat (zs[i]).toNat := by
        simp [Lib.bytesOf, List.getD, hi, List.getElem?_eq_getElem hi']
      rw [numsL_getD _ _ (by simp [Lib.bytesOf]; omega), this, List.getD, List.getElem?_eq_getElem hi']
      simp only [Option.getD_some, UInt8.toNat_ofNat']
      omega
    refine ⟨Lib.bytesOf (zs.take n), By.of (by simp [Lib.bytesOf]; omega) h1 h2 (fun h => by cases h) (Lib.BytesIn.of_cells fun i hi => ?_)⟩
    rw [hz i hi]
    exact h4 i (by omega)
theorem addr_add_zero (x : Addr) : x.add 0 = x := by cases x; simp [Addr.add]
theorem list_of {α : Type} {P : Nat → α → Prop} : ∀ n : Nat, (∀ i, i < n → ∃ z, P i z) → ∃ zs : List α, zs.length = n ∧ ∀ i z, zs[i]? = some z → P i z
  | 0, _ => ⟨[], rfl, fun i z h => by simp at h⟩
  | n + 1, h => by
    obtain ⟨zs, h1, h2⟩ := list_of n (fun i hi => h i (by omega))
    obtain ⟨z, hz⟩ := h n (by omega)
    refine ⟨zs ++ [z], by simp [h1], fun i y hy => ?_⟩
    rcases Nat.lt_or_ge i n with hi | hi
    · rw [List.getElem?_append_left (by omega)] at hy
      exact h2 i y hy
    · rw [List.getElem?_append_right (by omega)] at hy
      have h0 : i - zs.length = 0 := by
        rcases Nat.eq_zero_or_pos (i - zs.length) with h | h
        · exact h
        · rw [List.getElem?_eq_none (by simp; omega)] at hy; cases hy
      rw [h0] at hy
      simp at hy
      subst hy
      rwa [show i = n by omega]
theorem wf_i64 {n : Int} (h : (Lit.int .i64 n).wf = true) : -9223372036854775808 ≤ n ∧ n ≤ 9223372036854775807 := bounds_i64 h
theorem act_at {w : World} {p : Addr} (h : IsAct w p) : ∃ x : Ax, ∃ g o, p = ⟨g, o, none⟩ ∧ g < w.heap.size ∧ ActAt w g o x := by
  obtain ⟨k0, k1, k2, q3, n3, c3, z3, q4, n4, c4, z4, q5, n5, c5, z5, q6, n6, c6, z6, h0, h1, h2, h3, h4, h5, h6, w0, w1, w2, r3, r4, r5, r6⟩ := h
  obtain ⟨g, o, rfl, hg⟩ := addr_of h0
  obtain ⟨b3, y3⟩ := row8_by r3
  obtain ⟨b4, y4⟩ := row8_by r4
  obtain ⟨b5, y5⟩ := row8_by r5
  obtain ⟨b6, y6⟩ := row8_by r6
  rw [add_plain] at h1 h2 h3 h4 h5 h6
  exact ⟨⟨k0, k1, k2, b3, b4, b5, b6⟩, g, o, rfl, hg, q3, n3, c3, q4, n4, c4, q5, n5, c5, q6, n6, c6, h0, h1, h2, h3, h4, h5, h6, ⟨wf_i64 w0, wf_i64 w1, wf_i64 w2⟩, y3, y4, y5, y6⟩
theorem acts_in {w : World} {a : Option Addr} {len cap : Nat} (h : IsActs w a len cap) : ∃ l : List Ax, ActsIn w a len l := by
  rcases h with ⟨rfl, rfl, rfl⟩ | ⟨x, rfl, hl, hm, hc⟩
  · exact ⟨[], rfl, fun h => absurd h (by omega)⟩
  · obtain ⟨l, h1, h2⟩ := list_of (P := fun i y => ∃ g o, x.add (i * 7) = ⟨g, o, none⟩ ∧ g < w.heap.size ∧ ActAt w g o y) len (fun i hi => act_at (hc i hi))
    refine ⟨l, h1, fun h0 => ?_⟩
    obtain ⟨y, hy⟩ : ∃ y, l[0]? = some y := ⟨_, List.getElem?_eq_getElem (by omega)⟩
    obtain ⟨g, o, hp, hg, -⟩ := h2 0 y hy
    rw [show x.add (0 * 7) = x from by rw [Nat.zero_mul]; exact addr_add_zero x] at hp
    subst hp
    refine ⟨g, o, rfl, hg, fun i z hz => ?_⟩
    obtain ⟨g', o', hp, _, hA⟩ := h2 i z hz
    rw [add_plain] at hp
    cases hp
    exact hA
end Go.Proofs.YtkjkfgmoogbdiaaGreatDoor.Blb

namespace Go.Proofs.YtkjkfgmoogbdiaaGreatDoor.Url
open Go.RowKit Go.Shelf

theorem low_own (l : List UInt8) (s : List UInt8) (hs : Ref.lowL s = s) : sameLow l s = decide (Ref.lowL l = s) := by
  unfold sameLow
  show decide (Ref.lowL l = Ref.lowL s) = _
  rw [hs]

set_option maxRecDepth 100000 in
set_option maxHeartbeats 4000000 in
theorem Own_any (q : Option Addr) (n c : Nat) (l : List UInt8) (w : World) (hl : l.length = n) (hn : n ≤ 140737488355328) (h : Lib.BytesIn w q n (Lib.numsL l)) :
    Calls Tryz.prog 136 #[.slice q n c] w fun e w' => e = .returned (.int .i64 (ownP (Ref.lowL l))) ∧ Below w.heap.size w w' := by
  have kc := fun (w : World) (C : Array Value) (n c : Nat) => Lib.run_convert_bytes_const (P := Tryz.prog) w 30 5 C n c Tryz.underlying30 Tryz.underlying5
  have b1 := bytes_lit (w := w) #[.int .u8 104, .int .u8 116, .int .u8 116, .int .u8 112] httpS (4, 5) rfl
  have hB1 := (Below.refl _ w).alloc (Nat.le_refl _) (.cells #[.int .u8 104, .int .u8 116, .int .u8 116, .int .u8 112] 5 (4, 5))
  have h1 := bytes_on h hB1
  have con1 := cutSame_any q (some ⟨w.heap.size, 0, none⟩) n c 4 4 l httpS _ hl rfl hn (by omega) h1 b1
  rw [low_own l httpS (by decide)] at con1
  have b2 := fun (w : World) => bytes_lit (w := w) #[.int .u8 104, .int .u8 116, .int .u8 116, .int .u8 112, .int .u8 115] httpsS (5, 6) rfl
  have hB2 := fun (w : World) => (Below.refl _ w).alloc (Nat.le_refl _) (.cells #[.int .u8 104, .int .u8 116, .int .u8 116, .int .u8 112, .int .u8 115] 5 (5, 6))
  by_cases e1 : Ref.lowL l = httpS
  · have H := Lib.hid (show (ownP (Ref.lowL l) : Int) = 80 by rw [e1]; rfl)
    rw [decide_eq_true e1] at con1
    clear b1 h1 b2 hB2 e1 h hl
    go_enter Tryz.func136, Tryz.ntmps136
    go_wp2_with fail
    refine con1.mono ?_
    rintro e w' ⟨rfl, rfl⟩
    clear con1
    go_wp2
    go_ret
    exact ⟨(by rw [H.out]; try rfl), hB1⟩
  · rw [decide_eq_false e1] at con1
    clear b1
    go_enter Tryz.func136, Tryz.ntmps136
    go_wp2_with fail
    refine con1.mono ?_
    rintro e W1 ⟨rfl, hW1⟩
    rw [hW1] at hB1 h1
    clear con1 hW1 h
    have h2 := bytes_on h1 (hB2 W1)
    have con2 := cutSame_any q (some ⟨W1.heap.size, 0, none⟩) n c 5 5 l httpsS _ hl rfl hn (by omega) h2 (b2 W1)
    rw [low_own l httpsS (by decide)] at con2
    have hB := hB1.trans ((hB2 W1).mono hB1.size)
    clear h2 b2 hB2 h1 hl hB1
    by_cases e2 : Ref.lowL l = httpsS
    · have H := Lib.hid (show (ownP (Ref.lowL l) : Int) = 443 by rw [e2]; rfl)
      rw [decide_eq_true e2] at con2
      clear e1 e2
      go_wp2_with fail
      refine con2.mono ?_
      rintro e w' ⟨rfl, rfl⟩
      clear con2
      go_wp2
      go_ret
      exact ⟨(by rw [H.out]; try rfl), hB⟩
    · have H := Lib.hid (show (ownP (Ref.lowL l) : Int) = 0 by unfold ownP; rw [if_neg e1, if_neg e2]; rfl)
      rw [decide_eq_false e2] at con2
      clear e1 e2
      go_wp2_with fail
      refine con2.mono ?_
      rintro e w' ⟨rfl, rfl⟩
      clear con2
      go_wp2
      go_ret
      exact ⟨(by rw [H.out]; try rfl), hB⟩

def sepS : List UInt8 := [58, 47, 47]
theorem nums_range (l : List UInt8) : ∀ x ∈ Lib.numsL l, 0 ≤ x ∧ x < 256 := fun x hx => by
  unfold Lib.numsL at hx
  obtain ⟨b, _, rfl⟩ := List.mem_map.1 hx
  have := u8_lt b
  omega
theorem By.take {w : World} {q : Option Addr} {n c k : Nat} {l : List UInt8} (h : By w (.slice q n c) l) (hk : k ≤ n) : By w (.slice q k c) (l.take k) := by
  obtain ⟨h1, h2, h3, h4, h5⟩ := h.at
  exact By.of (by rw [List.length_take]; omega) (by omega) h3 (fun hq => (h4 hq).2) (bytes_take h5 h1 hk)
theorem By.drop {w : World} {q : Option Addr} {n c k : Nat} {l : List UInt8} (h : By w (.slice q n c) l) (hk : k ≤ n) : By w (.slice (subA q c k) (n - k) (c - k)) (l.drop k) := by
  obtain ⟨h1, _⟩ := h.at
  have := h.sub hk (Nat.le_refl n)
  rw [← h1, sub_from, h1] at this
  exact this
theorem Cut_any (q qs : Option Addr) (n c cs : Nat) (l : List UInt8) (w : World) (h : By w (.slice q n c) l) (hn : n < 4294967281) (hG : Gl w) (hs : Lib.BytesIn w qs 3 (Lib.numsL sepS)) :
    Calls Tryz.prog 132 #[.slice q n c, .slice qs 3 cs] w fun e w' => e = .returned (Lib.cutV q n c 3 (sepI l)) ∧ ∃ m, w' = w.drewN m := by
  obtain ⟨⟨m, hm⟩, _⟩ := hG
  obtain ⟨h1, h2, h3, h4, h5⟩ := h.at
  have con := Tryz.bytes_Cut_all q qs n c 3 cs (Lib.numsL l) (Lib.numsL sepS) m w (by rw [Lib.numsL_length, h1]) rfl (nums_range l) (nums_range sepS) h5 hs (fun hq => (h4 hq).2) h2 hn (by omega) hm
  rw [bytesOf_numsL, bytesOf_numsL] at con
  exact con
theorem cut_some {q : Option Addr} {n c k : Nat} {l : List UInt8} (h : sepI l = (k : Int)) : Lib.cutV q n c 3 (sepI l) = .tuple #[.slice q k c, .slice (subA q c (k + 3)) (n - (k + 3)) (c - (k + 3)), .bool true] := by
  unfold Lib.cutV
  rw [h, if_pos (by omega), Int.toNat_natCast]
  rfl
theorem cut_none {q : Option Addr} {n c : Nat} {l : List UInt8} (h : sepI l = -1) : Lib.cutV q n c 3 (sepI l) = .tuple #[.slice q n c, .slice none 0 0, .bool false] := by
  unfold Lib.cutV
  rw [h, if_neg (by decide)]

end Go.Proofs.YtkjkfgmoogbdiaaGreatDoor.Url

namespace Go.Proofs.YtkjkfgmoogbdiaaGreatDoor.Hdr
open Go.RowKit Go.Shelf Url

/-- A new row of literal bytes. -/
theorem by_lit (w : World) (cs : Array Value) (l : List UInt8) (fr : Nat × Nat) (n : Nat) (h : cs.toList = byV l) (hn : l.length = n) (hm : n ≤ maxLen) : By (w.alloc (.cells cs 5 fr)) (.slice (some ⟨w.heap.size, 0, none⟩) n n) l :=
  By.of hn (Nat.le_refl _) hm (fun h => by cases h) (by rw [← hn]; exact bytes_lit cs l fr h)
end Go.Proofs.YtkjkfgmoogbdiaaGreatDoor.Hdr

namespace Go.Proofs.YtkjkfgmoogbdiaaGreatDoor.Host
open Go.RowKit Go.Shelf

/-- The canon of a host, or nothing. -/
def canL (l : List UInt8) : List UInt8 := if parseE l = 0 then Ref.lowL l else []
/-- A host's canon in a row of one's own, or the error's number. -/
def CanOut (l : List UInt8) (w : World) (e : Ending) (w' : World) : Prop :=
  ∃ v, e = .returned (.tuple #[v, .int .i64 (parseE l)]) ∧ w'.ownsRow w.heap.size 5 1 v (canL l).length ((Lib.numsL (canL l)).map (Value.int .u8)) ∧ Below w.heap.size w w'
theorem can_err {l : List UInt8} {n : Int} {w w' : World} (h : parseE l = n) (hn : n ≠ 0) (hb : Below w.heap.size w w') : CanOut l w (.returned (.tuple #[.slice none 0 0, .int .i64 n])) w' := by
  subst h
  have hc : canL l = [] := by unfold canL; rw [if_neg hn]
  exact ⟨_, rfl, by rw [hc]; exact World.ownsRow_nil _ _ _ _, hb⟩
theorem can_ok {l : List UInt8} {n : Nat} {v : Value} {w w' : World} (h : parseE l = 0) (hl : l.length = n) (hr : w'.ownsRow w.heap.size 5 1 v n ((Lib.numsL (lowL l)).map (Value.int .u8))) (hb : Below w.heap.size w w') : CanOut l w (.returned (.tuple #[v, .int .i64 0])) w' := by
  have hc : canL l = lowL l := by unfold canL; rw [if_pos h]; rfl
  exact ⟨_, by rw [h], by rw [hc, lowL_length, hl]; exact hr, hb⟩

set_option maxRecDepth 100000 in
set_option maxHeartbeats 4000000 in
theorem Parse_any (q : Option Addr) (n c : Nat) (l : List UInt8) (w : World) (hl : l.length = n) (hn : n ≤ 140737488355328) (h : Lib.BytesIn w q n (Lib.numsL l)) :
    Calls Tryz.prog 160 #[.slice q n c] w fun e w' => CanOut l w e w' := by
  by_cases hbig : 253 < n
  · have d1 : decide ((253 : Int) < (n : Int)) = true := by simp; omega
    have H := Lib.hid (Ref.parse_big l (by omega))
    clear h hl
    go_enter Tryz.func160, Tryz.ntmps160
    go_wp2
    go_ret2
    exact can_err H.out (by decide) (Below.refl _ _)
  · have d1 : decide ((253 : Int) < (n : Int)) = false := by simp; omega
    have con := isHost_any q n c l w hl (by omega) h
    have PH := Lib.hid (Ref.parse_host l (by omega))
    have PN := Lib.hid (Ref.parse_none l (by omega))
    have HL := Lib.hid hl
    cases hb : hostB (Ref.splitL 46 l) with
    | false =>
      have H := Lib.hid (PN.out hb)
      rw [hb] at con
      clear hb PH PN h hl
      go_enter Tryz.func160, Tryz.ntmps160
      go_wp2_with fail
      refine con.mono ?_
      rintro e w2 ⟨rfl, hb2⟩
      clear con
      go_wp2
      go_ret2
      exact can_err H.out (by decide) hb2
    | true =>
      have H := Lib.hid (PH.out hb)
      rw [hb] at con
      clear hb PH PN hl
      go_enter Tryz.func160, Tryz.ntmps160
      go_wp2_with fail
      refine con.mono ?_
      rintro e w2 ⟨rfl, hb2⟩
      have con2 := Lower_any q n c l w2 HL.out hn (bytes_keep h (Keep.of_below hb2) (fun a h1 h2 => bytes_lt h a h1 h2))
      clear con h
      go_wp2_with fail
      refine con2.mono ?_
      rintro e w3 ⟨v3, rfl, hrow, hb3⟩
      have hrow' := row_base hrow hb2.size
      have hb' := hb2.trans (hb3.mono hb2.size)
      clear con2 hrow
      go_wp2
      go_ret2
      exact can_ok H.out HL.out hrow' hb'

end Go.Proofs.YtkjkfgmoogbdiaaGreatDoor.Host

namespace Go.Proofs.YtkjkfgmoogbdiaaGreatDoor.blobCopies
open Go.ChangeShapes Go.WideShapes Go.ChangeAt Go.RowKit
set_option linter.unusedVariables false

theorem own : ownKnob Tryz.prog.godebug = none := by kernel_rfl
theorem laidOut : laidOutB Tryz.prog = true := by kernel_rfl
theorem gTab : Tryz.prog.globalNamed "internal/strconv.uint64pow10" = some 3 := by kernel_rfl

def IsRow (k : IntKind) (w : World) (a : Option Addr) (len cap : Nat) (zs : List Int) : Prop :=
  (a = none ∧ len = 0 ∧ cap = 0 ∧ zs = []) ∨
  ∃ x, a = some x ∧ len ≤ cap ∧ cap ≤ maxLen ∧ zs.length = cap ∧ (∀ i, i < zs.length → w.cell? (x.add i) = some (.int k (zs.getD i 0))) ∧ ∀ n ∈ zs, (Lit.int k n).wf = true

/-- The law's walk. -/
def Walks : Prop := ∀ (a0 : Option Addr) (len0 cap0 : Nat) (a1 : Option Addr) (len1 cap1 : Nat) (w : World), Blb.IsActs w a0 len0 cap0 → Blb.IsActs w a1 len1 cap1 → Url.Gl w →
  Calls Tryz.prog 5 #[.slice a0 len0 cap0, .slice a1 len1 cap1] w fun e w' => e = .returned (.bool true) ∧ Below w.heap.size w w'

theorem gl {W : World} (hL : laidMetH Tryz.prog Rows.blobCopiesRow.laid W) (hsh : W.ShapedOpen Tryz.prog) : Url.Gl W := by
  refine ⟨?_, ?_⟩
  · exact cell_of_shapedOpen_int (t := 3) (zero := #[.int .i64 0]) hsh (by decide +kernel) (by kernel_rfl) rfl (by kernel_rfl) (by kernel_rfl) (by kernel_rfl)
  · have hL' : laidMet Tryz.prog Rows.blobCopiesRow.laid W := by
      rw [MakeChecks.laidMetH_plain _ _ _ (by kernel_rfl)] at hL; exact hL
    exact Lib.tabIs_of_head (rest := [("unicode/utf8.acceptRanges", Rows.laid_unicode_utf8_acceptRanges), ("unicode/utf8.first", Rows.laid_unicode_utf8_first)]) (t := 289) (e := 199) (n := 20) (k := .u64) (zs := Lib.pow10Tab) (g := 3) gTab (by kernel_rfl) (by kernel_rfl) (by kernel_rfl) (by kernel_rfl) (by kernel_rfl) (show laidMet Tryz.prog [("internal/strconv.uint64pow10", Lib.tabData .u64 Lib.pow10Tab), ("unicode/utf8.acceptRanges", Rows.laid_unicode_utf8_acceptRanges), ("unicode/utf8.first", Rows.laid_unicode_utf8_first)] W from hL'.tail.tail)

set_option maxRecDepth 100000 in
/-- What the walk gives, for every argument and every world that holds the listed tables. -/
theorem contract (hw : Walks) (H : Type) (enc : TypeId × Value → H) (W : World) (base : Nat) (args : Array Value) (ds gs : List (DataW H)) (before : List MemPlace)
    (hval0 : ∀ (j : Nat) t v, Tryz.f5.params[j]? = some t → args[j]? = some v → Value.okWide Tryz.prog W .any base t v)
    (hW : DataW.Whole enc Tryz.prog Tryz.f5.params.toList Rows.blobCopiesSpec.vars false W args.toList ds gs before) (hL : laidMetH Tryz.prog Rows.blobCopiesRow.laid W) (hsh : W.ShapedOpen Tryz.prog) :
    Calls Tryz.prog 5 args W fun e W' => ∃ v, e = .returned v ∧ Rows.blobCopiesSpec.post enc Tryz.prog Tryz.f5 false true false false W args v W' := by
  have hval : ∀ (j : Nat) t v, Tryz.f5.params[j]? = some t → args[j]? = some v → Value.okWide Tryz.prog W .any base t v := hval0
  have hW' := hW
  obtain ⟨p, q, hA0, hV, rfl, hfz, hnd⟩ := hW
  have hA : DataW.TrodAll enc Tryz.prog W 0 (fun _ => true) true Tryz.f5.params.toList args.toList ds p := hA0
  rw [Tryz.params5] at hA hval
  obtain ⟨v0, vs0, d0, ds0, p0, q0, hargs, rfl, rfl, h0, r0⟩ := trodAll_cons hA
  obtain ⟨v1, vs1, d1, ds1, p1, q1, rfl, rfl, rfl, h1, r1⟩ := trodAll_cons r0
  obtain ⟨rfl, rfl, rfl⟩ := trodAll_nil r1
  obtain rfl : args = #[v0, v1] := by cases args; simp_all
  obtain ⟨rfl, rfl⟩ := trodVars_none hV
  obtain ⟨a0, len0, cap0, rfl⟩ := okWide_slice Tryz.underlying22 (hval 0 22 v0 rfl rfl)
  have k0 := h0
  have lt0 : ∀ x ∈ p0, x.block < W.heap.size := by obtain ⟨m, hm⟩ := k0; exact DataW.trod_lt m _ _ _ hm
  have w0 : Blb.IsActs W a0 len0 cap0 := by
    obtain ⟨fuel, hf⟩ := h0
    exact Blb.open_acts hf
  obtain ⟨a1, len1, cap1, rfl⟩ := okWide_slice Tryz.underlying22 (hval 1 22 v1 rfl rfl)
  have k1 := h1
  have lt1 : ∀ x ∈ p1, x.block < W.heap.size := by obtain ⟨m, hm⟩ := k1; exact DataW.trod_lt m _ _ _ hm
  have w1 : Blb.IsActs W a1 len1 cap1 := by
    obtain ⟨fuel, hf⟩ := h1
    exact Blb.open_acts hf
  clear hA0 hval0
  refine (hw a0 len0 cap0 a1 len1 cap1 W w0 w1 (gl hL hsh)).mono fun e W' ⟨he, bel⟩ => ?_
  subst he
  exact ⟨_, rfl, _, _, _, [], _, [], hW', trodAll_mk1 (shut_bool Tryz.underlying4 _), (trodAll_cons_mk (Below.trod laidOut (by kernel_rfl) (of_decide_eq_true (by kernel_rfl)) k0 bel lt0) (trodAll_cons_mk (Below.trod laidOut (by kernel_rfl) (of_decide_eq_true (by kernel_rfl)) k1 bel lt1) trodAll_mk0)), rfl, bel.frame _, fun h => by cases h⟩

/-- The door's own heap meets the condition. -/
theorem door_met (os : Os) : laidMet Tryz.prog Rows.blobCopiesRow.laid ((World.laidAll Tryz.prog os Rows.blobCopiesRow.laid).forCall (fun _ _ => 0) ⟨#[], #[.slice none 0 0, .slice none 0 0], []⟩).memory :=
  laidMet_laidAll _ (by kernel_rfl) (by kernel_rfl)
theorem reads (os : Os) {H : Type} (enc : TypeId × Value → H) : ∃ places, DataW.whole enc Tryz.prog ((World.laidAll Tryz.prog os Rows.blobCopiesRow.laid).forCall (fun _ _ => 0) ⟨#[], #[.slice none 0 0, .slice none 0 0], []⟩).memory Tryz.f5.params.toList Rows.blobCopiesSpec.vars false #[Value.slice none 0 0, Value.slice none 0 0].toList 8 = some ([.nil, .nil], [], places) :=
  ⟨[], by kernel_rfl⟩

set_option maxRecDepth 100000 in
theorem lifted (hw : Walks) (os : Os) (started : os.Started) (H : Type) (enc : TypeId × Value → H) (F : Stop.Interp) :
    ReturnsInHanded {} Tryz.checked os 5 .any ((OpenSpec.ofChange Rows.blobCopiesSpec).preRow enc Tryz.prog Tryz.f5 Rows.blobCopiesRow.domain false Rows.blobCopiesRow.laid) (((OpenSpec.ofChange Rows.blobCopiesSpec).at F).post enc Tryz.prog Tryz.f5 false true false false) := by
  obtain ⟨places, hx⟩ := reads os enc
  refine returnsInHanded_of_row (C := Tryz.checked) (s := OpenSpec.ofChange Rows.blobCopiesSpec) own started (by kernel_rfl) Tryz.func5
    (witness_row_at (enc := enc) (C := Tryz.checked) false (World.laidAll Tryz.prog os Rows.blobCopiesRow.laid) #[.slice none 0 0, .slice none 0 0] (World.laidAll_os _ _ _) (by kernel_rfl) (by kernel_rfl) (by kernel_rfl)
      (OpenSpec.preRow_of_cond 8 hx (by kernel_rfl) (fun k hk => by cases hk) (by kernel_rfl) (door_met os))) ?_
  intro W base args ds gs before hval hW _ _ _ hL hsh _
  exact contract hw H enc W base args ds gs before hval hW hL hsh

theorem said (hw : Walks) : Rows.BlobCopiesSaid :=
  OpenClaim.holds_of_cond 5 Tryz.f5 rfl rfl rfl rfl rfl rfl rfl ⟨rfl, rfl, rfl, rfl, rfl⟩ rfl rfl rfl rfl rfl (by kernel_rfl) Tryz.func5 (by kernel_rfl)
    (of_decide_eq_true (by kernel_rfl)) (by unfold Func.isWrapper; first | (rw [if_pos (by decide +kernel)]; kernel_rfl) | (rw [if_neg (by decide +kernel)]; exact ⟨rfl, rfl⟩))
    (fun os started H enc _ F => by rw [OpenClaim.pre_eq_preRow]; exact lifted hw os started H enc F)

/-- No parameter wants a stand-in; the program's own looks are off. -/
theorem plain (f : FuncId) (fn : Func) (hf : Tryz.pinned.checked.prog.funcNamed "cordon/cordonlaw16.BlobCopies" = some f) (hfn : Tryz.pinned.checked.prog.funcs[f]? = some fn) :
    false = Tryz.pinned.checked.prog.looks [] ∧ ∀ (j : Nat) t, fn.params[j]? = some t → Tryz.pinned.checked.prog.wantsStandIn t = false := by
  obtain rfl : f = 5 := Option.some.inj ((show Tryz.prog.funcNamed "cordon/cordonlaw16.BlobCopies" = some 5 by kernel_rfl).symm.trans hf) |>.symm
  obtain rfl : fn = Tryz.f5 := (Option.some.inj (Tryz.func5.symm.trans hfn)).symm
  refine ⟨by kernel_rfl, fun j t ht => ?_⟩
  rw [Tryz.params5] at ht
  obtain rfl : t = 22 := by simpa using Array.mem_of_getElem? ht
  exact (show Tryz.prog.wantsStandIn 22 = false by kernel_rfl)

/-- The card, given the walk. -/
theorem card (hw : Walks) : Rows.BlobCopiesCardSaid :=
  Claim7.holds_tied_plain_at .later [] _ _ _ _ (said hw) (fun _ h => by cases h) (by kernel_rfl) (fun _ h => by cases h) blobCopies_row_tie rfl ⟨rfl, rfl⟩ (by kernel_rfl) rfl plain (by kernel_rfl)

end Go.Proofs.YtkjkfgmoogbdiaaGreatDoor.blobCopies

namespace Go.Proofs.YtkjkfgmoogbdiaaGreatDoor.Url
open Go.RowKit Go.Shelf

theorem run_append_by (ty : TypeId) (base : Nat) (v : Value) (n : Nat) (xs : List Value) (w : World) (hown : w.ownsRow base 5 1 v n xs) (vx : Value) (bs : List UInt8) (hb : By w vx bs) (h47 : n + bs.length ≤ 140737488355328) (hbase : base ≤ w.heap.size) :
    ∃ v' w', (Builtin.append_ #[30, 30] ty #[v, vx]).run Tryz.prog w = .ok v' w' ∧ w'.ownsRow base 5 1 v' (n + bs.length) (xs ++ byV bs) ∧ w.grownBy w' v.ownBlock := by
  obtain ⟨i0, hi0, hz0, hz1, hz2⟩ := info_parts info_u8
  obtain ⟨q, c, rfl, h1, h2, h3, h4⟩ := hb
  cases q with
  | none =>
    have hc : c = 0 := h3 rfl
    subst hc
    obtain rfl : bs = [] := List.eq_nil_of_length_eq_zero (by omega)
    exact ⟨v, w, run_append_owned_none (P := Tryz.prog) (w := w) base 30 ty 5 i0 1 Tryz.underlying30 hi0 v n xs hown, by simpa [byV, Lib.numsL] using hown, ⟨rfl, rfl, rfl, Nat.le_refl _, fun _ _ _ => rfl⟩⟩
  | some ad =>
    have hlen : (byV bs).length = bs.length * 1 := by simp [byV, Lib.numsL]
    obtain ⟨v', w', hr, h5, h6, _, _⟩ := run_append_own_at (P := Tryz.prog) w base 30 ty 5 i0 (.int .u8 0) 1 1 Tryz.underlying30 hi0 hz0 hz1 hz2 rfl (by decide) v n xs hown ad bs.length c (byV bs) hlen (fun j u hj => by
      rcases Nat.lt_or_ge j bs.length with h' | h'
      · obtain ⟨b, o, he, hcc⟩ := h4.at (by omega)
        cases he
        have hj' : j < (Lib.numsL bs).length := by rw [Lib.numsL_length]; omega
        unfold byV at hj
        rw [Go.WideShapes.add_plain, hcc j h']
        rw [List.getElem?_map, List.getElem?_eq_getElem hj'] at hj
        simp only [Option.map_some, Option.some.injEq] at hj
        rw [← hj, List.getD, List.getElem?_eq_getElem hj']
        rfl
      · rw [List.getElem?_eq_none (by omega)] at hj
        cases hj) (by simp [byV, Lib.numsL, Value.oneCell']) (by unfold maxLen; omega) (by omega) hbase
    exact ⟨v', w', hr, h5, h6⟩
theorem wp_append_by {o : Oper} {a : Act} {w : World} {K : Act → World → Prop} {Q : Exit → Act → World → Prop} (s x : Operand)
    (ho : o.op = .call { callee := .builtin .append, args := #[s, x], argTypes := #[30, 30] })
    (base : Nat) (v : Value) (n : Nat) (xs : List Value) (hs : a.eval s = v) (hown : w.ownsRow base 5 1 v n xs) (vx : Value) (bs : List UInt8) (hx : a.eval x = vx) (hb : By w vx bs) (h47 : n + bs.length ≤ 140737488355328) (hbase : base ≤ w.heap.size)
    (h : ∀ v' w', w'.ownsRow base 5 1 v' (n + bs.length) (xs ++ byV bs) → w.grownBy w' v.ownBlock → K (a.put o.dst v') w') : o.wp Tryz.prog a w K Q := by
  obtain ⟨v', w', hr, h1, h2⟩ := run_append_by o.type base v n xs w hown vx bs hb h47 hbase
  exact Lib.wp_append_run (P := Tryz.prog) w s x 30 30 ho v vx hs hx v' w' hr (h v' w' h1 h2)
/-- A new row of literal bytes. -/
theorem by_lit (w : World) (cs : Array Value) (l : List UInt8) (fr : Nat × Nat) (n : Nat) (h : cs.toList = byV l) (hn : l.length = n) (hm : n ≤ maxLen) : By (w.alloc (.cells cs 5 fr)) (.slice (some ⟨w.heap.size, 0, none⟩) n n) l :=
  By.of hn (Nat.le_refl _) hm (fun h => by cases h) (by rw [← hn]; exact bytes_lit cs l fr h)
/-- What a row leaves that has grown, seen from below it. -/
theorem grown_below {base n : Nat} {v : Value} {xs : List Value} {w w' : World} (hown : w.ownsRow base 5 1 v n xs) (hg : w.grownBy w' v.ownBlock) (hb : base ≤ w.heap.size) : Below base w w' :=
  (Below.refl _ _).grown hg hb (fun b h => (hown.lt b h).1)
/-- The cells of a box of several. -/
theorem box_cell (w : World) (cs : Array Value) (t : TypeId) (i : Nat) (x : Value) (h : cs[i]? = some x) : (w.alloc (.cells cs t)).cell? ⟨w.heap.size, i, none⟩ = some x := by
  have hn : (w.alloc (.cells cs t)).heap[w.heap.size]? = some (.cells cs t) := World.alloc_heap_new w _
  simp only [World.cell?, hn]
  exact h
theorem cell_on {w w' : World} {a : Addr} {x : Value} (h : w.cell? a = some x) (hk : Below w.heap.size w w') : w'.cell? a = some x := (World.cell?_of_block (hk.block _ (World.block_lt_of_cell? w _ h))).trans h
theorem cell_below {B : Nat} {w w' : World} {a : Addr} {x : Value} (h : w.cell? a = some x) (hk : Below B w w') (hB : a.block < B) : w'.cell? a = some x := (World.cell?_of_block (hk.block _ hB)).trans h

end Go.Proofs.YtkjkfgmoogbdiaaGreatDoor.Url

namespace Go.Proofs.YtkjkfgmoogbdiaaGreatDoor.Url
open Go.RowKit Go.Shelf
attribute [local go_sem] Oper.semAt_some

/-- The value v is the URL u. -/
def UrlIn (w : World) (v : Value) (u : U) : Prop := ∃ q0 n0 c0 q1 n1 c1 q3 n3 c3 q4 n4 c4 q5 n5 c5,
  v = .agg #[.slice q0 n0 c0, .slice q1 n1 c1, .int .i64 u.port, .slice q3 n3 c3, .slice q4 n4 c4, .slice q5 n5 c5, .bool u.hq, .bool u.hf] ∧
  By w (.slice q0 n0 c0) u.scheme ∧ By w (.slice q1 n1 c1) u.host ∧ By w (.slice q3 n3 c3) u.path ∧ By w (.slice q4 n4 c4) u.query ∧ By w (.slice q5 n5 c5) u.frag
theorem UrlIn.on {w w' : World} {v : Value} {u : U} (h : UrlIn w v u) (hk : Below w.heap.size w w') : UrlIn w' v u := by
  obtain ⟨q0, n0, c0, q1, n1, c1, q3, n3, c3, q4, n4, c4, q5, n5, c5, hv, h0, h1, h3, h4, h5⟩ := h
  exact ⟨q0, n0, c0, q1, n1, c1, q3, n3, c3, q4, n4, c4, q5, n5, c5, hv, h0.on hk, h1.on hk, h3.on hk, h4.on hk, h5.on hk⟩
/-- Scheme, host and port. -/
def serverT (u : U) : List UInt8 := u.scheme ++ sepS ++ u.host ++ portT u
theorem text_server (u : U) : textU u = serverT u ++ u.path ++ queryT u ++ fragT u := rfl
theorem low_scheme (u : U) (h : Ok u) : Ref.lowL u.scheme = u.scheme := by
  rcases h.scheme with hs | hs <;> (rw [hs]; decide)
theorem dig_dec10 (n : Nat) : digL n = Lib.decDigits n := by
  induction n using Nat.strongRecOn with
  | ind n ih =>
    by_cases h : n < 10
    · rw [dig_small n h, Lib.decDigits, dif_pos h]
    · rw [dig_big n h, Lib.decDigits, dif_neg h, ih (n / 10) (by omega)]
theorem itoa_dig (n : Nat) : Lib.byteCells (Lib.itoa (n : Int)) = byV (digL n) ∧ (Lib.itoa (n : Int)).length = (digL n).length := by
  rw [Lib.itoa_nonneg, dig_dec10]
  refine ⟨?_, rfl⟩
  unfold Lib.byteCells byV Lib.numsL
  rw [List.map_map]; rfl
theorem AppendInt_any (B n p : Nat) (v : Value) (xs : List Value) (w : World) (hown : w.ownsRow B 5 1 v n xs) (hp : p ≤ 65535) (hB : B ≤ w.heap.size) (hn : n ≤ 1048577) (ht : Lib.TabBelow Tryz.prog B w "internal/strconv.uint64pow10" .u64 Lib.pow10Tab) :
    Calls Tryz.prog 196 #[v, .int .i64 (p : Int), .int .i64 10] w fun e w' => ∃ v', e = .returned v' ∧ w'.ownsRow B 5 1 v' (n + (digL p).length) (xs ++ byV (digL p)) ∧ Below B w w' := by
  refine (Tryz.strconv_AppendInt_10 B n p (by omega) (by omega) v xs w hown hB (by omega) ht).mono ?_
  rintro e w' ⟨v', he, hr, hb, _⟩
  rw [(itoa_dig p).1, (itoa_dig p).2] at hr
  exact ⟨v', he, hr, hb⟩

set_option maxRecDepth 100000 in
set_option maxHeartbeats 8000000 in
theorem server_any (u : U) (v : Value) (w : World) (h : UrlIn w v u) (hok : Ok u) (hG : Gl w) (hlen : (textU u).length ≤ 1048576) :
    Calls Tryz.prog 164 #[v] w fun e w' => ∃ v', e = .returned v' ∧ w'.ownsRow w.heap.size 5 1 v' (serverT u).length (byV (serverT u)) ∧ Below w.heap.size w w' := by
  have kc := fun (w : World) (C : Array Value) (n c : Nat) => Lib.run_convert_bytes_const (P := Tryz.prog) w 30 5 C n c Tryz.underlying30 Tryz.underlying5
  obtain ⟨q0, n0, c0, q1, n1, c1, q3, n3, c3, q4, n4, c4, q5, n5, c5, rfl, h0, h1, h3, h4, h5⟩ := h
  have hp2 := hok.port2
  have HLS := Lib.hid (low_scheme u hok)
  have hsl : (u.scheme ++ sepS ++ u.host).length ≤ 1048576 := by
    have : (textU u).length = (u.scheme ++ sepS ++ u.host).length + (portT u ++ u.path ++ queryT u ++ fragT u).length := by rw [← List.length_append]; rw [text_server]; unfold serverT; simp only [List.append_assoc]
    omega
  have HPT := Lib.hid (show portT u = if u.port = ownP u.scheme then [] else 58 :: digL u.port from rfl)
  have HST := Lib.hid (show serverT u = (u.scheme ++ sepS ++ u.host) ++ portT u from rfl)
  clear hok hlen
  -- the box, "://", the three parts
  obtain ⟨W1, hW1⟩ : ∃ W1, (w.alloc (.cells #[.slice q0 n0 c0, .slice q1 n1 c1, .int .i64 u.port, .slice q3 n3 c3, .slice q4 n4 c4, .slice q5 n5 c5, .bool u.hq, .bool u.hf] 208)).alloc (.cells #[.int .u8 58, .int .u8 47, .int .u8 47] 5 (3, 4)) = W1 := ⟨_, rfl⟩
  have hs1 : W1.heap.size = w.heap.size + 2 := by rw [← hW1]; simp
  have hB0 := (Below.refl _ w).alloc (Nat.le_refl _) (.cells #[.slice q0 n0 c0, .slice q1 n1 c1, .int .i64 u.port, .slice q3 n3 c3, .slice q4 n4 c4, .slice q5 n5 c5, .bool u.hq, .bool u.hf] 208)
  have hB1 : Below w.heap.size w W1 := by rw [← hW1]; exact hB0.alloc hB0.size _
  have hbox : ∀ i x, (#[.slice q0 n0 c0, .slice q1 n1 c1, .int .i64 u.port, .slice q3 n3 c3, .slice q4 n4 c4, .slice q5 n5 c5, .bool u.hq, .bool u.hf] : Array Value)[i]? = some x → W1.cell? ⟨w.heap.size, i, none⟩ = some x := fun i x h => by
    rw [← hW1]; exact cell_on (box_cell w _ 208 i x h) ((Below.refl _ _).alloc (Nat.le_refl _) _)
  have hsep : By W1 (.slice (some ⟨w.heap.size + 1, 0, none⟩) 3 3) sepS := by
    have := by_lit (w.alloc (.cells #[.slice q0 n0 c0, .slice q1 n1 c1, .int .i64 u.port, .slice q3 n3 c3, .slice q4 n4 c4, .slice q5 n5 c5, .bool u.hq, .bool u.hf] 208)) #[.int .u8 58, .int .u8 47, .int .u8 47] sepS (3, 4) 3 rfl rfl (by decide)
    rw [World.size_alloc] at this
    rw [← hW1]; exact this
  have kc1 := kc (w.alloc (.cells #[.slice q0 n0 c0, .slice q1 n1 c1, .int .i64 u.port, .slice q3 n3 c3, .slice q4 n4 c4, .slice q5 n5 c5, .bool u.hq, .bool u.hf] 208)) #[.int .u8 58, .int .u8 47, .int .u8 47] 3 3
  rw [World.size_alloc] at kc1
  have g0 := h0.on hB1
  have g1 := h1.on hB1
  obtain ⟨W2, hW2⟩ : ∃ W2, W1.alloc (.cells #[.slice q0 n0 c0, .slice (some ⟨w.heap.size + 1, 0, none⟩) 3 3, .slice q1 n1 c1] 30) = W2 := ⟨_, rfl⟩
  have hB12 : Below W1.heap.size W1 W2 := by rw [← hW2]; exact (Below.refl _ _).alloc (Nat.le_refl _) _
  have hB2 := hB1.trans (hB12.mono hB1.size)
  have hs2 : W2.heap.size = w.heap.size + 3 := by rw [← hW2, World.size_alloc, hs1]
  have hcl : ∀ i x, (#[.slice q0 n0 c0, .slice (some ⟨w.heap.size + 1, 0, none⟩) 3 3, .slice q1 n1 c1] : Array Value)[i]? = some x → W2.cell? ⟨w.heap.size + 1 + 1, i, none⟩ = some x := fun i x h => by
    have := box_cell W1 _ 30 i x h
    rw [hs1] at this
    rw [← hW2]; exact this
  have con := Concat_any (w.heap.size + 1 + 1) 3 3 [u.scheme, sepS, u.host] W2 rfl (by omega) (fun i hi => by
    match i, hi with
    | 0, _ => exact ⟨_, _, _, hcl 0 _ rfl, g0.on hB12⟩
    | 1, _ => exact ⟨_, _, _, hcl 1 _ rfl, hsep.on hB12⟩
    | 2, _ => exact ⟨_, _, _, hcl 2 _ rfl, g1.on hB12⟩) (by simp only [List.flatten_cons, List.flatten_nil, List.append_nil, ← List.append_assoc]; omega) (by simp [sepS]; omega)
  simp only [List.flatten_cons, List.flatten_nil, List.append_nil, ← List.append_assoc] at con
  have HW1 := Lib.hid hW1
  have HW2 := Lib.hid hW2
  clear hW1 hW2 hB0 hcl hsep h0 h1 h3 h4 h5 g1
  go_enter Tryz.func164, Tryz.ntmps164
  go_wp2_with fail
  rw [HW1.out, HW2.out]
  refine con.mono ?_
  rintro e W3 ⟨v3, rfl, hrow, hb3⟩
  have hB3 := hB2.trans (hb3.mono hB2.size)
  have hB13 := hB12.trans (hb3.mono hB12.size)
  have hrow' := row_base hrow (show w.heap.size + 1 ≤ W2.heap.size by omega)
  have hb := fun i x h => cell_on (hbox i x h) hB13
  have g0' := g0.on hB13
  have conO := fun X (hX : Below W3.heap.size W3 X) => Own_any q0 n0 c0 u.scheme X g0'.at.1 (by have := hsl; rw [List.length_append, List.length_append, g0'.at.1] at this; omega) (g0'.on hX).at.2.2.2.2
  rw [HLS.out] at conO
  clear con kc1 hrow hbox g0 hb3 hB12 hB13 hB2 hB1 HW1 HW2
  obtain ⟨n, hn⟩ : ∃ n, (u.scheme ++ sepS ++ u.host).length = n := ⟨_, rfl⟩
  rw [hn] at hrow' hsl
  obtain ⟨qr, cr, rfl, _, _, _, _, _⟩ := row_open hrow'
  have HLN := Lib.hid hn
  have c0' := hb 0 _ rfl
  have c2' := hb 2 _ rfl
  clear hn hb hs1 hs2
  generalize ownP u.scheme = own at *
  go_wp2_with fail
  refine pregion_any (fun X => X.cell? ⟨w.heap.size, 0, none⟩ = some (.slice q0 n0 c0) ∧ X.cell? ⟨w.heap.size, 2, none⟩ = some (.int .i64 u.port)) (by kernel_rfl) ?_
  have hS0 : W3.drew.cell? ⟨w.heap.size, 0, none⟩ = some (.slice q0 n0 c0) ∧ W3.drew.cell? ⟨w.heap.size, 2, none⟩ = some (.int .i64 u.port) := ⟨c0', c2'⟩
  have hBd : Below W3.heap.size W3 W3.drew := (Below.refl _ _).drew
  have conO' := conO _ hBd
  have hrd : W3.drew.ownsRow (w.heap.size + 1) 5 1 (.slice qr n cr) n (byV (u.scheme ++ sepS ++ u.host)) := hrow'
  have hB3d : Below w.heap.size w W3.drew := hB3.drew
  clear c0' c2' conO hrow' hB3 hBd g0'
  generalize W3.drew = X at *
  refine wpAnyH_take (i := 0) (v := (.pointer (some ⟨w.heap.size, 2, none⟩))) rfl (by kernel_rfl) (by kernel_rfl) (by kernel_rfl) (fun _ _ _ h => h) (.inl ⟨by kernel_rfl, ?_⟩) hS0 ?_
  · rintro w ⟨h1, h2⟩; go_simp
  refine plist #[true, false, false, false, false, false] (by kernel_rfl) ?_
  refine wpAnyH_take (i := 1) (v := (.int .i64 u.port)) rfl (by kernel_rfl) (by kernel_rfl) (by kernel_rfl) (fun _ _ _ h => h) (.inl ⟨by kernel_rfl, ?_⟩) hS0 ?_
  · rintro w ⟨h1, h2⟩; go_simp
  refine plist #[true, true, false, false, false, false] (by kernel_rfl) ?_
  refine wpAnyH_take (i := 2) (v := (.pointer (some ⟨w.heap.size, 0, none⟩))) rfl (by kernel_rfl) (by kernel_rfl) (by kernel_rfl) (fun _ _ _ h => h) (.inl ⟨by kernel_rfl, ?_⟩) hS0 ?_
  · rintro w ⟨h1, h2⟩; go_simp
  refine plist #[true, true, true, false, false, false] (by kernel_rfl) ?_
  refine wpAnyH_take (i := 3) (v := (.slice q0 n0 c0)) rfl (by kernel_rfl) (by kernel_rfl) (by kernel_rfl) (fun _ _ _ h => h) (.inl ⟨by kernel_rfl, ?_⟩) hS0 ?_
  · rintro w ⟨h1, h2⟩; go_simp
  refine plist #[true, true, true, true, false, false] (by kernel_rfl) ?_
  refine pone 4 (by kernel_rfl) rfl fun K hK => ?_
  go_simp
  refine conO'.mono ?_
  rintro e X4 ⟨rfl, hb4⟩
  have hS4 := And.intro (cell_on hS0.1 hb4) (cell_on hS0.2 hb4)
  have hB4 := hB3d.trans (hb4.mono hB3d.size)
  have hr4 := (Keep.of_below hb4).row hrd (fun k hk => (hrd.lt k hk).2)
  refine hK _ _ hS4 ?_
  clear hK K conO' hS0 hB3d hrd
  refine plist #[true, true, true, true, true, false] (by kernel_rfl) ?_
  by_cases hpo : u.port = own
  · have e5 : ((u.port : Int) == (own : Int)) = true := by rw [beq_iff_eq]; omega
    have H := Lib.hid (show serverT u = u.scheme ++ sepS ++ u.host by rw [HST.out, HPT.out, if_pos hpo, List.append_nil])
    refine wpAnyH_take (i := 5) (v := (.bool true)) rfl (by kernel_rfl) (by kernel_rfl) (by kernel_rfl) (fun _ _ _ h => h) (.inl ⟨by kernel_rfl, ?_⟩) hS4 ?_
    · rintro w ⟨h1, h2⟩; go_simp
    refine pdone (by kernel_rfl) ?_ _
    go_wp2
    go_ret
    refine ⟨_, rfl, ?_, hB4⟩
    rw [H.out, HLN.out]; exact row_base hr4 (Nat.le_succ _)
  · have e5 : ((u.port : Int) == (own : Int)) = false := by rw [beq_eq_false_iff_ne]; omega
    have H := Lib.hid (show serverT u = (u.scheme ++ sepS ++ u.host ++ [58]) ++ digL u.port by rw [HST.out, HPT.out, if_neg hpo]; simp)
    refine wpAnyH_take (i := 5) (v := (.bool false)) rfl (by kernel_rfl) (by kernel_rfl) (by kernel_rfl) (fun _ _ _ h => h) (.inl ⟨by kernel_rfl, ?_⟩) hS4 ?_
    · rintro w ⟨h1, h2⟩; go_simp
    refine pdone (by kernel_rfl) ?_ _
    clear e5
    go_wp2_with fail
    refine pregion_any (fun X => X.cell? ⟨w.heap.size, 2, none⟩ = some (.int .i64 u.port)) (by kernel_rfl) ?_
    have hS5 : X4.drew.cell? ⟨w.heap.size, 2, none⟩ = some (.int .i64 u.port) := hS4.2
    have hr5 : X4.drew.ownsRow (w.heap.size + 1) 5 1 (.slice qr n cr) n (byV (u.scheme ++ sepS ++ u.host)) := hr4
    have hB5 : Below w.heap.size w X4.drew := hB4.drew
    have hgt : w.heap.size + 1 ≤ X4.drew.heap.size := World.block_lt_of_cell? _ _ hS5
    clear hS4 hr4 hB4
    generalize X4.drew = Y at *
    refine wpAnyH_take (i := 0) (v := (.slice qr n cr)) rfl (by kernel_rfl) (by kernel_rfl) (by kernel_rfl) (fun _ _ _ h => h) (.inl ⟨by kernel_rfl, ?_⟩) hS5 ?_
    · rintro w h1; go_simp
    refine plist #[true, false, false, false, false, false, false] (by kernel_rfl) ?_
    refine wpAnyH_take (i := 3) (v := (.pointer (some ⟨w.heap.size, 2, none⟩))) rfl (by kernel_rfl) (by kernel_rfl) (by kernel_rfl) (fun _ _ _ h => h) (.inl ⟨by kernel_rfl, ?_⟩) hS5 ?_
    · rintro w h1; go_simp
    refine plist #[true, false, false, true, false, false, false] (by kernel_rfl) ?_
    refine wpAnyH_take (i := 4) (v := (.int .i64 u.port)) rfl (by kernel_rfl) (by kernel_rfl) (by kernel_rfl) (fun _ _ _ h => h) (.inl ⟨by kernel_rfl, ?_⟩) hS5 ?_
    · rintro w h1; go_simp
    refine plist #[true, false, false, true, true, false, false] (by kernel_rfl) ?_
    refine pone 1 (by kernel_rfl) rfl fun K hK => ?_
    go_simp
    have hbl := (Below.refl Y.heap.size Y).alloc (Nat.le_refl _) (.cells #[.int .u8 58] 5)
    have hS6 := cell_on hS5 hbl
    refine hK _ _ hS6 ?_
    clear hK K
    refine plist #[true, true, false, true, true, false, false] (by kernel_rfl) ?_
    refine pone 2 (by kernel_rfl) rfl fun K hK => ?_
    rw [if_pos (by rfl)]
    have hsY := hB5.size
    refine wp_append_by (Operand.tmp 19) (Operand.tmp 20) rfl (w.heap.size + 1) (.slice qr n cr) n _ rfl (hr5.alloc _) _ [58] rfl (by_lit Y #[.int .u8 58] [58] (0, 0) 1 rfl rfl (by decide)) (by simp; omega) (by simp; omega) ?_
    intro v7 Z hr7 hg7
    have hb7 : Below (w.heap.size + 1) Y Z := (hbl.mono hgt).trans (grown_below (hr5.alloc _) hg7 (by simp; omega))
    have hB7 := hB5.trans (hb7.mono (Nat.le_succ _))
    have hS7 : Z.cell? ⟨w.heap.size, 2, none⟩ = some (.int .i64 u.port) := cell_below hS5 hb7 (Nat.lt_succ_self _)
    refine hK _ _ hS7 ?_
    clear hK K
    refine plist #[true, true, true, true, true, false, false] (by kernel_rfl) ?_
    refine pone 5 (by kernel_rfl) rfl fun K hK => ?_
    go_simp
    refine (AppendInt_any (w.heap.size + 1) (n + 1) u.port v7 _ Z hr7 hp2 (Nat.le_trans hgt hb7.size) (by omega) (Gl.tab hG hB7 (Nat.le_succ _))).mono ?_
    rintro e V ⟨v8, rfl, hr8, hb8⟩
    have hS8 := cell_below hS7 hb8 (Nat.lt_succ_self _)
    refine hK _ _ hS8 ?_
    clear hK K
    refine plist #[true, true, true, true, true, true, false] (by kernel_rfl) ?_
    refine pone 6 (by kernel_rfl) rfl fun K hK => ?_
    go_simp
    refine hK _ _ hS8 ?_
    clear hK K
    refine pdone (by kernel_rfl) ?_ _
    go_wp2
    go_ret
    refine ⟨_, rfl, ?_, hB7.trans (hb8.mono (Nat.le_succ _))⟩
    rw [H.out, List.length_append, List.length_append, HLN.out, byV_app, byV_app]
    exact row_base hr8 (Nat.le_succ _)

end Go.Proofs.YtkjkfgmoogbdiaaGreatDoor.Url

namespace Go.Proofs.YtkjkfgmoogbdiaaGreatDoor.Url
open Go.RowKit Go.Shelf
attribute [local go_sem] Oper.semAt_some

/-- The cells of block B. -/
def Box (B : Nat) (cs : Array Value) (X : World) : Prop := ∀ i x, cs[i]? = some x → X.cell? ⟨B, i, none⟩ = some x
theorem Box.on {B : Nat} {cs : Array Value} {X Y : World} (h : Box B cs X) (hk : Below X.heap.size X Y) : Box B cs Y := fun i x hx => cell_on (h i x hx) hk
theorem Box.below {B M : Nat} {cs : Array Value} {X Y : World} (h : Box B cs X) (hk : Below M X Y) (hB : B < M) : Box B cs Y := fun i x hx => cell_below (h i x hx) hk hB
theorem Box.new (w : World) (cs : Array Value) (t : TypeId) : Box w.heap.size cs (w.alloc (.cells cs t)) := fun i x h => box_cell w cs t i x h
set_option maxRecDepth 100000 in
set_option maxHeartbeats 8000000 in
theorem Text_any (u : U) (v : Value) (w : World) (h : UrlIn w v u) (hok : Ok u) (hG : Gl w) (hlen : (textU u).length ≤ 1048576) :
    Calls Tryz.prog 149 #[v] w fun e w' => ∃ v', e = .returned v' ∧ w'.ownsRow w.heap.size 5 1 v' (textU u).length (byV (textU u)) ∧ Below w.heap.size w w' := by
  obtain ⟨q0, n0, c0, q1, n1, c1, q3, n3, c3, q4, n4, c4, q5, n5, c5, rfl, h0, h1, h3, h4, h5⟩ := h
  have hT := text_server u
  have hql : (queryT u).length = if u.hq then u.query.length + 1 else 0 := by unfold queryT; split <;> simp
  have hfl : (fragT u).length = if u.hf then u.frag.length + 1 else 0 := by unfold fragT; split <;> simp
  have hlt : (serverT u).length + u.path.length + (queryT u).length + (fragT u).length ≤ 1048576 := by rw [hT] at hlen; simp only [List.length_append] at hlen; omega
  have HQ := Lib.hid (show queryT u = if u.hq then 63 :: u.query else [] from rfl)
  have HF := Lib.hid (show fragT u = if u.hf then 35 :: u.frag else [] from rfl)
  have HT := Lib.hid hT
  clear hT
  obtain ⟨W1, hW1⟩ : ∃ W1, w.alloc (.cells #[.slice q0 n0 c0, .slice q1 n1 c1, .int .i64 u.port, .slice q3 n3 c3, .slice q4 n4 c4, .slice q5 n5 c5, .bool u.hq, .bool u.hf] 208) = W1 := ⟨_, rfl⟩
  have hs1 : W1.heap.size = w.heap.size + 1 := by rw [← hW1]; simp
  have hB1 : Below w.heap.size w W1 := by rw [← hW1]; exact (Below.refl _ w).alloc (Nat.le_refl _) _
  have hbox : Box w.heap.size #[.slice q0 n0 c0, .slice q1 n1 c1, .int .i64 u.port, .slice q3 n3 c3, .slice q4 n4 c4, .slice q5 n5 c5, .bool u.hq, .bool u.hf] W1 := by rw [← hW1]; exact Box.new w _ _
  have hin : UrlIn W1 (.agg #[.slice q0 n0 c0, .slice q1 n1 c1, .int .i64 u.port, .slice q3 n3 c3, .slice q4 n4 c4, .slice q5 n5 c5, .bool u.hq, .bool u.hf]) u := UrlIn.on ⟨q0, n0, c0, q1, n1, c1, q3, n3, c3, q4, n4, c4, q5, n5, c5, rfl, h0, h1, h3, h4, h5⟩ hB1
  have con := fun X (hX : Below W1.heap.size W1 X) => server_any u _ X (hin.on hX) hok ((hG.on hB1).on hX) hlen
  have HW1 := Lib.hid hW1
  clear hW1 hin hok hG hlen
  generalize u.hq = bq at *
  generalize u.hf = bf at *
  go_enter Tryz.func149, Tryz.ntmps149
  go_wp2_with fail
  rw [HW1.out]
  refine pregion_any (Box w.heap.size #[.slice q0 n0 c0, .slice q1 n1 c1, .int .i64 u.port, .slice q3 n3 c3, .slice q4 n4 c4, .slice q5 n5 c5, .bool bq, .bool bf]) (by kernel_rfl) ?_
  have hS0 : Box w.heap.size #[.slice q0 n0 c0, .slice q1 n1 c1, .int .i64 u.port, .slice q3 n3 c3, .slice q4 n4 c4, .slice q5 n5 c5, .bool bq, .bool bf] W1.drew := hbox
  have con' := con _ ((Below.refl _ _).drew)
  have hBd : Below w.heap.size w W1.drew := hB1.drew
  have hsd : W1.drew.heap.size = w.heap.size + 1 := hs1
  clear con hbox HW1 hB1 hs1
  generalize W1.drew = X at *
  refine wpAnyH_take (i := 0) (v := (.agg #[.slice q0 n0 c0, .slice q1 n1 c1, .int .i64 u.port, .slice q3 n3 c3, .slice q4 n4 c4, .slice q5 n5 c5, .bool bq, .bool bf])) rfl (by kernel_rfl) (by kernel_rfl) (by kernel_rfl) (fun _ _ _ h => h) (.inl ⟨by kernel_rfl, ?_⟩) hS0 ?_
  · rintro w h; have e0 := h 0 _ rfl; have e1 := h 1 _ rfl; have e2 := h 2 _ rfl; have e3 := h 3 _ rfl; have e4 := h 4 _ rfl; have e5 := h 5 _ rfl; have e6 := h 6 _ rfl; have e7 := h 7 _ rfl; go_simp
  refine plist #[true, false, false, false, false, false] (by kernel_rfl) ?_
  refine wpAnyH_take (i := 2) (v := (.pointer (some ⟨w.heap.size, 3, none⟩))) rfl (by kernel_rfl) (by kernel_rfl) (by kernel_rfl) (fun _ _ _ h => h) (.inl ⟨by kernel_rfl, ?_⟩) hS0 ?_
  · rintro w h; go_simp
  refine plist #[true, false, true, false, false, false] (by kernel_rfl) ?_
  refine wpAnyH_take (i := 3) (v := (.slice q3 n3 c3)) rfl (by kernel_rfl) (by kernel_rfl) (by kernel_rfl) (fun _ _ _ h => h) (.inl ⟨by kernel_rfl, ?_⟩) hS0 ?_
  · rintro w h; have h' := h 3 _ rfl; go_simp
  refine plist #[true, false, true, true, false, false] (by kernel_rfl) ?_
  refine pone 1 (by kernel_rfl) rfl fun K hK => ?_
  go_simp
  refine con'.mono ?_
  rintro e X1 ⟨v1, rfl, hr1, hb1⟩
  rw [hsd] at hr1 hb1
  have hS1 := Box.below hS0 hb1 (Nat.lt_succ_self _)
  have hB1 := hBd.trans (hb1.mono (Nat.le_succ _))
  have hgt1 : w.heap.size + 1 ≤ X1.heap.size := by have := hb1.size; omega
  refine hK _ _ hS1 ?_
  clear hK K con' hS0 hBd
  refine plist #[true, true, true, true, false, false] (by kernel_rfl) ?_
  refine pone 4 (by kernel_rfl) rfl fun K hK => ?_
  rw [if_pos (by rfl)]
  refine wp_append_by (Operand.tmp 5) (Operand.tmp 7) rfl (w.heap.size + 1) v1 _ _ rfl hr1 _ u.path rfl (h3.on hB1) (by omega) hgt1 ?_
  intro v2 Y hr hg2
  have hb2 := grown_below hr1 hg2 hgt1
  have hS := Box.below hS1 hb2 (Nat.lt_succ_self _)
  have hB := hB1.trans (hb2.mono (Nat.le_succ _))
  have hgt : w.heap.size + 1 ≤ Y.heap.size := Nat.le_trans hgt1 hb2.size
  refine hK _ _ hS ?_
  clear hK K hb1 hr1 hS1 hB1 hgt1 hg2 hb2
  refine plist #[true, true, true, true, true, false] (by kernel_rfl) ?_
  refine pone 5 (by kernel_rfl) rfl fun K hK => ?_
  go_simp
  refine hK _ _ hS ?_
  clear hK K
  refine pdone (by kernel_rfl) ?_ _
  rw [← byV_app] at hr
  have HLA := Lib.hid (show (serverT u ++ u.path).length = (serverT u).length + u.path.length from List.length_append)
  obtain ⟨q2, c2, rfl, _, _, _, _, _⟩ := row_open hr
  have h6 := hS 6 _ rfl
  cases bq with
  | false =>
    have h7 := hS 7 _ rfl
    cases bf with
    | false =>
      go_wp2
      go_ret
      have HE : textU u = serverT u ++ u.path := by rw [HT.out, HQ.out, HF.out]; simp
      rw [HE]
      have hll : (serverT u ++ u.path).length = (serverT u).length + u.path.length := by simp only [List.length_append]
      rw [hll]
      exact ⟨_, rfl, row_base hr (Nat.le_succ _), hB⟩
    | true =>
      rw [if_pos rfl] at hfl
      go_wp2_with fail
      refine pregion_any (Box w.heap.size #[.slice q0 n0 c0, .slice q1 n1 c1, .int .i64 u.port, .slice q3 n3 c3, .slice q4 n4 c4, .slice q5 n5 c5, .bool false, .bool true]) (by kernel_rfl) ?_
      have hSe : Box w.heap.size #[.slice q0 n0 c0, .slice q1 n1 c1, .int .i64 u.port, .slice q3 n3 c3, .slice q4 n4 c4, .slice q5 n5 c5, .bool false, .bool true] Y.drew := hS
      have hre := (Keep.drew (fun _ => True) Y).row hr (fun _ _ => trivial)
      have hBe : Below w.heap.size w Y.drew := hB.drew
      have hgte : w.heap.size + 1 ≤ Y.drew.heap.size := hgt
      clear hS hr hB hgt
      generalize Y.drew = Ye at *
      refine wpAnyH_take (i := 0) (v := (.slice q2 ((serverT u).length + u.path.length) c2)) rfl (by kernel_rfl) (by kernel_rfl) (by kernel_rfl) (fun _ _ _ h => h) (.inl ⟨by kernel_rfl, ?_⟩) hSe ?_
      · rintro w h; go_simp
      refine plist #[true, false, false, false, false, false, false] (by kernel_rfl) ?_
      refine wpAnyH_take (i := 3) (v := (.pointer (some ⟨w.heap.size, 5, none⟩))) rfl (by kernel_rfl) (by kernel_rfl) (by kernel_rfl) (fun _ _ _ h => h) (.inl ⟨by kernel_rfl, ?_⟩) hSe ?_
      · rintro w h; go_simp
      refine plist #[true, false, false, true, false, false, false] (by kernel_rfl) ?_
      refine wpAnyH_take (i := 4) (v := (.slice q5 n5 c5)) rfl (by kernel_rfl) (by kernel_rfl) (by kernel_rfl) (fun _ _ _ h => h) (.inl ⟨by kernel_rfl, ?_⟩) hSe ?_
      · rintro w h; have h' := h 5 _ rfl; go_simp
      refine plist #[true, false, false, true, true, false, false] (by kernel_rfl) ?_
      refine pone 1 (by kernel_rfl) rfl fun K hK => ?_
      go_simp
      refine hK _ _ (Box.on hSe ((Below.refl _ _).alloc (Nat.le_refl _) _)) ?_
      clear hK K
      refine plist #[true, true, false, true, true, false, false] (by kernel_rfl) ?_
      refine pone 2 (by kernel_rfl) rfl fun K hK => ?_
      rw [if_pos (by rfl)]
      refine wp_append_by (Operand.tmp 19) (Operand.tmp 20) rfl (w.heap.size + 1) _ _ _ rfl (hre.alloc _) _ [35] rfl (by_lit Ye #[.int .u8 35] [35] (0, 0) 1 rfl rfl (by decide)) (by simp; omega) (by simp; omega) ?_
      intro va Za hra hga
      have hba : Below (w.heap.size + 1) Ye Za := (((Below.refl Ye.heap.size Ye).alloc (Nat.le_refl _) (.cells #[.int .u8 35] 5)).mono hgte).trans (grown_below (hre.alloc _) hga (by simp; omega))
      have hSa := Box.below hSe hba (Nat.lt_succ_self _)
      refine hK _ _ hSa ?_
      clear hK K
      refine plist #[true, true, true, true, true, false, false] (by kernel_rfl) ?_
      refine pone 5 (by kernel_rfl) rfl fun K hK => ?_
      rw [if_pos (by rfl)]
      refine wp_append_by (Operand.tmp 21) (Operand.tmp 23) rfl (w.heap.size + 1) va _ _ rfl hra _ u.frag rfl (h5.on (hBe.trans (hba.mono (Nat.le_succ _)))) (by simp; omega) (Nat.le_trans hgte hba.size) ?_
      intro vf Yf hrf hgb
      have hbb : Below (w.heap.size + 1) Ye Yf := hba.trans (grown_below hra hgb (Nat.le_trans hgte hba.size))
      have hSf := Box.below hSe hbb (Nat.lt_succ_self _)
      refine hK _ _ hSf ?_
      clear hK K
      refine plist #[true, true, true, true, true, true, false] (by kernel_rfl) ?_
      refine pone 6 (by kernel_rfl) rfl fun K hK => ?_
      go_simp
      refine hK _ _ hSf ?_
      clear hK K
      refine pdone (by kernel_rfl) ?_ _
      have hBf := hBe.trans (hbb.mono (Nat.le_succ _))
      have hgtf := Nat.le_trans hgte hbb.size
      rw [List.length_singleton, ← byV_app, ← byV_app] at hrf
      obtain ⟨qf, ccf, rfl, _, _, _, _, _⟩ := row_open hrf
      clear hra hga hba hgb hbb hSa hSe hre hBe hgte
      go_wp2
      go_ret
      have HE : textU u = (serverT u ++ u.path) ++ [35] ++ u.frag := by rw [HT.out, HQ.out, HF.out]; simp
      rw [HE]
      have hll : ((serverT u ++ u.path) ++ [35] ++ u.frag).length = (serverT u).length + u.path.length + 1 + u.frag.length := by simp only [List.length_append, List.length_cons, List.length_nil]
      rw [hll]
      exact ⟨_, rfl, row_base hrf (Nat.le_succ _), hBf⟩
  | true =>
    rw [if_pos rfl] at hql
    go_wp2_with fail
    refine pregion_any (Box w.heap.size #[.slice q0 n0 c0, .slice q1 n1 c1, .int .i64 u.port, .slice q3 n3 c3, .slice q4 n4 c4, .slice q5 n5 c5, .bool true, .bool bf]) (by kernel_rfl) ?_
    have hSb : Box w.heap.size #[.slice q0 n0 c0, .slice q1 n1 c1, .int .i64 u.port, .slice q3 n3 c3, .slice q4 n4 c4, .slice q5 n5 c5, .bool true, .bool bf] Y.drew := hS
    have hrb := (Keep.drew (fun _ => True) Y).row hr (fun _ _ => trivial)
    have hBb : Below w.heap.size w Y.drew := hB.drew
    have hgtb : w.heap.size + 1 ≤ Y.drew.heap.size := hgt
    clear hS hr hB hgt
    generalize Y.drew = Yb at *
    refine wpAnyH_take (i := 0) (v := (.slice q2 ((serverT u).length + u.path.length) c2)) rfl (by kernel_rfl) (by kernel_rfl) (by kernel_rfl) (fun _ _ _ h => h) (.inl ⟨by kernel_rfl, ?_⟩) hSb ?_
    · rintro w h; go_simp
    refine plist #[true, false, false, false, false, false, false] (by kernel_rfl) ?_
    refine wpAnyH_take (i := 3) (v := (.pointer (some ⟨w.heap.size, 4, none⟩))) rfl (by kernel_rfl) (by kernel_rfl) (by kernel_rfl) (fun _ _ _ h => h) (.inl ⟨by kernel_rfl, ?_⟩) hSb ?_
    · rintro w h; go_simp
    refine plist #[true, false, false, true, false, false, false] (by kernel_rfl) ?_
    refine wpAnyH_take (i := 4) (v := (.slice q4 n4 c4)) rfl (by kernel_rfl) (by kernel_rfl) (by kernel_rfl) (fun _ _ _ h => h) (.inl ⟨by kernel_rfl, ?_⟩) hSb ?_
    · rintro w h; have h' := h 4 _ rfl; go_simp
    refine plist #[true, false, false, true, true, false, false] (by kernel_rfl) ?_
    refine pone 1 (by kernel_rfl) rfl fun K hK => ?_
    go_simp
    refine hK _ _ (Box.on hSb ((Below.refl _ _).alloc (Nat.le_refl _) _)) ?_
    clear hK K
    refine plist #[true, true, false, true, true, false, false] (by kernel_rfl) ?_
    refine pone 2 (by kernel_rfl) rfl fun K hK => ?_
    rw [if_pos (by rfl)]
    refine wp_append_by (Operand.tmp 11) (Operand.tmp 12) rfl (w.heap.size + 1) _ _ _ rfl (hrb.alloc _) _ [63] rfl (by_lit Yb #[.int .u8 63] [63] (0, 0) 1 rfl rfl (by decide)) (by simp; omega) (by simp; omega) ?_
    intro va Za hra hga
    have hba : Below (w.heap.size + 1) Yb Za := (((Below.refl Yb.heap.size Yb).alloc (Nat.le_refl _) (.cells #[.int .u8 63] 5)).mono hgtb).trans (grown_below (hrb.alloc _) hga (by simp; omega))
    have hSa := Box.below hSb hba (Nat.lt_succ_self _)
    refine hK _ _ hSa ?_
    clear hK K
    refine plist #[true, true, true, true, true, false, false] (by kernel_rfl) ?_
    refine pone 5 (by kernel_rfl) rfl fun K hK => ?_
    rw [if_pos (by rfl)]
    refine wp_append_by (Operand.tmp 13) (Operand.tmp 15) rfl (w.heap.size + 1) va _ _ rfl hra _ u.query rfl (h4.on (hBb.trans (hba.mono (Nat.le_succ _)))) (by simp; omega) (Nat.le_trans hgtb hba.size) ?_
    intro vc Yc hrc hgb
    have hbb : Below (w.heap.size + 1) Yb Yc := hba.trans (grown_below hra hgb (Nat.le_trans hgtb hba.size))
    have hSc := Box.below hSb hbb (Nat.lt_succ_self _)
    refine hK _ _ hSc ?_
    clear hK K
    refine plist #[true, true, true, true, true, true, false] (by kernel_rfl) ?_
    refine pone 6 (by kernel_rfl) rfl fun K hK => ?_
    go_simp
    refine hK _ _ hSc ?_
    clear hK K
    refine pdone (by kernel_rfl) ?_ _
    have hBc := hBb.trans (hbb.mono (Nat.le_succ _))
    have hgtc := Nat.le_trans hgtb hbb.size
    rw [List.length_singleton, ← byV_app, ← byV_app] at hrc
    obtain ⟨qc, ccc, rfl, _, _, _, _, _⟩ := row_open hrc
    clear hra hga hba hgb hbb hSa hSb hrb hBb hgtb
    have h7 := hSc 7 _ rfl
    cases bf with
    | false =>
      go_wp2
      go_ret
      have HE : textU u = (serverT u ++ u.path) ++ [63] ++ u.query := by rw [HT.out, HQ.out, HF.out]; simp
      rw [HE]
      have hll : ((serverT u ++ u.path) ++ [63] ++ u.query).length = (serverT u).length + u.path.length + 1 + u.query.length := by simp only [List.length_append, List.length_cons, List.length_nil]
      rw [hll]
      exact ⟨_, rfl, row_base hrc (Nat.le_succ _), hBc⟩
    | true =>
      rw [if_pos rfl] at hfl
      go_wp2_with fail
      refine pregion_any (Box w.heap.size #[.slice q0 n0 c0, .slice q1 n1 c1, .int .i64 u.port, .slice q3 n3 c3, .slice q4 n4 c4, .slice q5 n5 c5, .bool true, .bool true]) (by kernel_rfl) ?_
      have hSe : Box w.heap.size #[.slice q0 n0 c0, .slice q1 n1 c1, .int .i64 u.port, .slice q3 n3 c3, .slice q4 n4 c4, .slice q5 n5 c5, .bool true, .bool true] Yc.drew := hSc
      have hre := (Keep.drew (fun _ => True) Yc).row hrc (fun _ _ => trivial)
      have hBe : Below w.heap.size w Yc.drew := hBc.drew
      have hgte : w.heap.size + 1 ≤ Yc.drew.heap.size := hgtc
      clear hSc hrc hBc hgtc
      generalize Yc.drew = Ye at *
      refine wpAnyH_take (i := 0) (v := (.slice qc ((serverT u).length + u.path.length + 1 + u.query.length) ccc)) rfl (by kernel_rfl) (by kernel_rfl) (by kernel_rfl) (fun _ _ _ h => h) (.inl ⟨by kernel_rfl, ?_⟩) hSe ?_
      · rintro w h; go_simp
      refine plist #[true, false, false, false, false, false, false] (by kernel_rfl) ?_
      refine wpAnyH_take (i := 3) (v := (.pointer (some ⟨w.heap.size, 5, none⟩))) rfl (by kernel_rfl) (by kernel_rfl) (by kernel_rfl) (fun _ _ _ h => h) (.inl ⟨by kernel_rfl, ?_⟩) hSe ?_
      · rintro w h; go_simp
      refine plist #[true, false, false, true, false, false, false] (by kernel_rfl) ?_
      refine wpAnyH_take (i := 4) (v := (.slice q5 n5 c5)) rfl (by kernel_rfl) (by kernel_rfl) (by kernel_rfl) (fun _ _ _ h => h) (.inl ⟨by kernel_rfl, ?_⟩) hSe ?_
      · rintro w h; have h' := h 5 _ rfl; go_simp
      refine plist #[true, false, false, true, true, false, false] (by kernel_rfl) ?_
      refine pone 1 (by kernel_rfl) rfl fun K hK => ?_
      go_simp
      refine hK _ _ (Box.on hSe ((Below.refl _ _).alloc (Nat.le_refl _) _)) ?_
      clear hK K
      refine plist #[true, true, false, true, true, false, false] (by kernel_rfl) ?_
      refine pone 2 (by kernel_rfl) rfl fun K hK => ?_
      rw [if_pos (by rfl)]
      refine wp_append_by (Operand.tmp 19) (Operand.tmp 20) rfl (w.heap.size + 1) _ _ _ rfl (hre.alloc _) _ [35] rfl (by_lit Ye #[.int .u8 35] [35] (0, 0) 1 rfl rfl (by decide)) (by simp; omega) (by simp; omega) ?_
      intro va Za hra hga
      have hba : Below (w.heap.size + 1) Ye Za := (((Below.refl Ye.heap.size Ye).alloc (Nat.le_refl _) (.cells #[.int .u8 35] 5)).mono hgte).trans (grown_below (hre.alloc _) hga (by simp; omega))
      have hSa := Box.below hSe hba (Nat.lt_succ_self _)
      refine hK _ _ hSa ?_
      clear hK K
      refine plist #[true, true, true, true, true, false, false] (by kernel_rfl) ?_
      refine pone 5 (by kernel_rfl) rfl fun K hK => ?_
      rw [if_pos (by rfl)]
      refine wp_append_by (Operand.tmp 21) (Operand.tmp 23) rfl (w.heap.size + 1) va _ _ rfl hra _ u.frag rfl (h5.on (hBe.trans (hba.mono (Nat.le_succ _)))) (by simp; omega) (Nat.le_trans hgte hba.size) ?_
      intro vf Yf hrf hgb
      have hbb : Below (w.heap.size + 1) Ye Yf := hba.trans (grown_below hra hgb (Nat.le_trans hgte hba.size))
      have hSf := Box.below hSe hbb (Nat.lt_succ_self _)
      refine hK _ _ hSf ?_
      clear hK K
      refine plist #[true, true, true, true, true, true, false] (by kernel_rfl) ?_
      refine pone 6 (by kernel_rfl) rfl fun K hK => ?_
      go_simp
      refine hK _ _ hSf ?_
      clear hK K
      refine pdone (by kernel_rfl) ?_ _
      have hBf := hBe.trans (hbb.mono (Nat.le_succ _))
      have hgtf := Nat.le_trans hgte hbb.size
      rw [List.length_singleton, ← byV_app, ← byV_app] at hrf
      obtain ⟨qf, ccf, rfl, _, _, _, _, _⟩ := row_open hrf
      clear hra hga hba hgb hbb hSa hSe hre hBe hgte
      go_wp2
      go_ret
      have HE : textU u = ((serverT u ++ u.path) ++ [63] ++ u.query) ++ [35] ++ u.frag := by rw [HT.out, HQ.out, HF.out]; simp
      rw [HE]
      have hll : (((serverT u ++ u.path) ++ [63] ++ u.query) ++ [35] ++ u.frag).length = (serverT u).length + u.path.length + 1 + u.query.length + 1 + u.frag.length := by simp only [List.length_append, List.length_cons, List.length_nil]
      rw [hll]
      exact ⟨_, rfl, row_base hrf (Nat.le_succ _), hBf⟩

end Go.Proofs.YtkjkfgmoogbdiaaGreatDoor.Url

namespace Go.Proofs.YtkjkfgmoogbdiaaGreatDoor.Url
open Go.RowKit Go.Shelf
attribute [local go_sem] Oper.semAt_some

/-- A URL's zero value, cell by cell. -/
def zeroU : Array Value := #[.slice none 0 0, .slice none 0 0, .int .i64 0, .slice none 0 0, .slice none 0 0, .slice none 0 0, .bool false, .bool false]
/-- Block B holds a URL's cells. -/
def UB (B : Nat) (cs : Array Value) (X : World) : Prop := X.heap[B]? = some (.cells cs 208 (0, 0))
theorem UB.box {B : Nat} {cs : Array Value} {X : World} (h : UB B cs X) : Box B cs X := fun i x hx => by
  simp only [World.cell?, show X.heap[B]? = _ from h]; exact hx
theorem UB.frozen {B : Nat} {cs : Array Value} {X : World} (h : UB B cs X) (i : Nat) : X.frozen? ⟨B, i, none⟩ = false := by
  simp [World.frozen?, show X.heap[B]? = _ from h]
theorem UB.on {B : Nat} {cs : Array Value} {X Y : World} (h : UB B cs X) (hk : Below X.heap.size X Y) : UB B cs Y := (hk.block B (Array.getElem?_eq_some_iff.1 h).1).trans h
theorem UB.lt {B : Nat} {cs : Array Value} {X : World} (h : UB B cs X) : B < X.heap.size := (Array.getElem?_eq_some_iff.1 h).1
theorem UB.new (w : World) (cs : Array Value) : UB w.heap.size cs (w.alloc (.cells cs 208)) := World.alloc_heap_new w _
theorem UB.set {B : Nat} {cs : Array Value} {X : World} (h : UB B cs X) (i : Nat) (v : Value) : UB B (cs.setIfInBounds i v) (X.setCell ⟨B, i, none⟩ v) := by
  obtain ⟨hlt, hk⟩ := Array.getElem?_eq_some_iff.1 h
  show (X.heap.modify B _)[B]? = _
  rw [Array.getElem?_eq_getElem (by rw [Array.size_modify]; exact hlt), Array.getElem_modify_self, hk]
  rfl
/-- All eight cells set, one by one. -/
theorem UB.put {B : Nat} {X : World} {a0 a1 a2 a3 a4 a5 a6 a7 : Value} (h : UB B #[a0, a1, a2, a3, a4, a5, a6, a7] X) (v0 v1 v2 v3 v4 v5 v6 v7 : Value) :
    ∃ Y, (((((((X.setCell ⟨B, 0, none⟩ v0).setCell ⟨B, 1, none⟩ v1).setCell ⟨B, 2, none⟩ v2).setCell ⟨B, 3, none⟩ v3).setCell ⟨B, 4, none⟩ v4).setCell ⟨B, 5, none⟩ v5).setCell ⟨B, 6, none⟩ v6).setCell ⟨B, 7, none⟩ v7 = Y ∧
      UB B #[v0, v1, v2, v3, v4, v5, v6, v7] Y ∧ (∀ S : Nat → Prop, ¬ S B → Keep S X Y) ∧ ∀ M, M ≤ B → Below M X Y := by
  have h8 := (((((((h.set 0 v0).set 1 v1).set 2 v2).set 3 v3).set 4 v4).set 5 v5).set 6 v6).set 7 v7
  simp only [List.setIfInBounds_toArray, List.set_cons_zero, List.set_cons_succ] at h8
  refine ⟨_, rfl, h8, fun S hS => ?_, fun M hM => ?_⟩
  · exact (Keep.setCell _ _ _ hS).trans ((Keep.setCell _ _ _ hS).trans ((Keep.setCell _ _ _ hS).trans ((Keep.setCell _ _ _ hS).trans ((Keep.setCell _ _ _ hS).trans ((Keep.setCell _ _ _ hS).trans ((Keep.setCell _ _ _ hS).trans (Keep.setCell _ _ _ hS)))))))
  · exact (((((((((Below.refl M X).setCell (p := ⟨B, 0, none⟩) hM v0).setCell (p := ⟨B, 1, none⟩) hM v1).setCell (p := ⟨B, 2, none⟩) hM v2).setCell (p := ⟨B, 3, none⟩) hM v3).setCell (p := ⟨B, 4, none⟩) hM v4).setCell (p := ⟨B, 5, none⟩) hM v5).setCell (p := ⟨B, 6, none⟩) hM v6).setCell (p := ⟨B, 7, none⟩) hM v7)
theorem size_url : (Tryz.prog.info? 208).map (·.size) = some 8 := by kernel_rfl
theorem ret_url2 {fn : Func} {p u : Tmp} (h : fn.results = #[.cell p 208, .tmp u]) (tmps : Array Value) (w : World) (B : Nat) (cs : Array Value) (hp : tmps.getD p undef = .pointer (some ⟨B, 0, none⟩)) (hU : UB B cs w) (hs : cs.size = 8) :
    (results fn tmps).run Tryz.prog w = .ok (.tuple #[.agg cs, tmps.getD u undef]) w := by
  rw [results_cell_tmp h, hp]
  simp [asAddr, Result.andThen, run_loadVar_row w B 208 _ cs (0, 0) _ hU Tryz.underlying208 rfl (by rw [size_url, hs])]

end Go.Proofs.YtkjkfgmoogbdiaaGreatDoor.Url

namespace Go.Proofs.YtkjkfgmoogbdiaaGreatDoor.Cls
open Url Org Frm
set_option linter.unusedVariables false

theorem blank_same (b : UInt8) : blankB b = Go.Proofs.YtkjkfgmoogbdiaaGreatDoor.blankB b := by
  unfold blankB Go.Proofs.YtkjkfgmoogbdiaaGreatDoor.blankB
  rw [Bool.eq_iff_iff, Bool.or_eq_true, beq_iff_eq, beq_iff_eq, decide_eq_true_iff, ← UInt8.toNat_inj, ← UInt8.toNat_inj]
  exact Iff.rfl
theorem dropWhile_drop (l : List UInt8) : ∀ f, f ≤ l.length → (∀ j, j < f → blankB (l.getD j 0) = true) → (f < l.length → blankB (l.getD f 0) = false) → l.dropWhile blankB = l.drop f := by
  induction l with
  | nil => intro f _ _ _; simp
  | cons x r ih =>
    intro f hf h1 h2
    cases f with
    | zero =>
      have := h2 (by simp)
      rw [List.getD_cons_zero] at this
      rw [List.dropWhile_cons, if_neg (by rw [this]; simp), List.drop_zero]
    | succ f =>
      have h0 := h1 0 (by omega)
      rw [List.getD_cons_zero] at h0
      rw [List.dropWhile_cons, if_pos h0, List.drop_succ_cons]
      refine ih f (by simp at hf; omega) (fun j hj => ?_) (fun hj => ?_)
      · have := h1 (j + 1) (by omega); rwa [List.getD_cons_succ] at this
      · have := h2 (by simp; omega); rwa [List.getD_cons_succ] at this
theorem getD_reverse (l : List UInt8) (j : Nat) (h : j < l.length) : l.reverse.getD j 0 = l.getD (l.length - 1 - j) 0 := by
  rw [List.getD, List.getElem?_reverse h, List.getD]
theorem trim_sub (l : List UInt8) (f e : Nat) (h : Trims l f e) : trimB l = sub l f e := by
  unfold trimB sub
  rcases h with ⟨rfl, rfl, h⟩ | ⟨h1, h2, h3, h4, h5, h6⟩
  · rw [dropWhile_drop l l.length (Nat.le_refl _) (fun j hj => by rw [blank_same]; exact h j hj) (fun hh => absurd hh (by omega))]
    simp
  · rw [dropWhile_drop l f (by omega) (fun j hj => by rw [blank_same]; exact h3 j hj) (fun _ => by rw [blank_same]; exact h4)]
    have hlen : (l.drop f).length = l.length - f := List.length_drop
    rw [dropWhile_drop (l.drop f).reverse (l.length - e) (by rw [List.length_reverse]; omega) (fun j hj => ?_) (fun hj => ?_)]
    · rw [List.drop_reverse, List.reverse_reverse, hlen]
      congr 1; omega
    · rw [getD_reverse _ _ (by omega), hlen, List.getD, List.getElem?_drop, ← List.getD, blank_same]
      exact h6 _ (by omega) (by omega)
    · rw [List.length_reverse, hlen] at hj
      rw [getD_reverse _ _ (by omega), hlen, List.getD, List.getElem?_drop, ← List.getD, blank_same]
      rw [show f + (l.length - f - 1 - (l.length - e)) = e - 1 by omega]
      exact h5
theorem setS_sort (l : List (List UInt8)) : setS l = sortR l := rises_ext (setS_rises l) (sort_rises l) fun a => (mem_setS l a).trans (mem_sort a l).symm

end Go.Proofs.YtkjkfgmoogbdiaaGreatDoor.Cls

namespace Go.Proofs.YtkjkfgmoogbdiaaGreatDoor.Frm
open Cls
set_option linter.unusedVariables false

/-- Does one of these clauses imply another one? -/
def oneB (l : List (List (List UInt8))) (c : List (List UInt8)) : Bool := l.any fun d => subB d c
theorem one_iff (l : List (List (List UInt8))) (c : List (List UInt8)) : oneB l c = true ↔ ∃ d ∈ l, ∀ p ∈ d, p ∈ c := by
  unfold oneB
  rw [List.any_eq_true]
  exact ⟨fun ⟨d, h, k⟩ => ⟨d, h, (subB_iff d c).1 k⟩, fun ⟨d, h, k⟩ => ⟨d, h, (subB_iff d c).2 k⟩⟩
theorem one_no (l : List (List (List UInt8))) (c : List (List UInt8)) (h : oneB l c = false) : ∀ d ∈ l, ¬ ∀ p ∈ d, p ∈ c := fun d hd k => by
  have := (one_iff l c).2 ⟨d, hd, k⟩
  rw [h] at this; cases this
theorem imp_all (f g : List (List (List UInt8))) : impB f g = g.all (oneB f) := rfl

/-- The clauses that are left, as they come: those that no earlier one implies; what was handled stands behind. -/
structure Left (left done rest : List (List (List UInt8))) : Prop where
  nodup : left.Nodup
  mem : ∀ x ∈ left, x ∈ done
  anti : ∀ x ∈ left, ∀ y ∈ left, (∀ p ∈ x, p ∈ y) → x = y
  cover : ∀ c ∈ done, ∃ x ∈ left, ∀ p ∈ x, p ∈ c
  rise : ∀ c ∈ done ++ rest, Rises c
  short : ∀ x ∈ done, ∀ y ∈ rest, x.length ≤ y.length
theorem len_sub (x y : List (List UInt8)) (hx : Rises x) (hy : Rises y) (h : ∀ p ∈ x, p ∈ y) (hl : y.length ≤ x.length) : x = y := by
  have hxd := rises_nodup x hx
  refine rises_ext hx hy fun a => ⟨h a, fun ha => ?_⟩
  refine Decidable.byContradiction fun hn => ?_
  have h1 : x.length ≤ (y.erase a).length := hxd.length_le_of_subset fun q hq => (List.mem_erase_of_ne (fun e => hn (by rw [← e]; exact hq))).2 (h q hq)
  rw [List.length_erase_of_mem ha] at h1
  have := List.length_pos_of_mem ha
  omega
theorem Left.start (l : List (List (List UInt8))) (h : ∀ c ∈ l, Rises c) : Left [] [] l :=
  ⟨List.nodup_nil, fun x hx => (by cases hx), fun x hx => (by cases hx), fun c hc => (by cases hc), h, fun x hx => (by cases hx)⟩
theorem Left.skip {left done rest : List (List (List UInt8))} {c : List (List UInt8)} (h : Left left done (c :: rest)) (hc : oneB left c = true) (hs : ∀ y ∈ rest, c.length ≤ y.length) : Left left (done ++ [c]) rest := by
  refine ⟨h.nodup, fun x hx => List.mem_append.2 (.inl (h.mem x hx)), h.anti, fun d hd => ?_, by simpa using h.rise, fun x hx y hy => ?_⟩
  · rcases List.mem_append.1 hd with hd | hd
    · exact h.cover d hd
    · rw [List.mem_singleton.1 hd]
      obtain ⟨x, hx, k⟩ := (one_iff left c).1 hc
      exact ⟨x, hx, k⟩
  · rcases List.mem_append.1 hx with hx | hx
    · exact h.short x hx y (by simp [hy])
    · rw [List.mem_singleton.1 hx]; exact hs y hy
theorem Left.take {left done rest : List (List (List UInt8))} {c : List (List UInt8)} (h : Left left done (c :: rest)) (hc : oneB left c = false) (hs : ∀ y ∈ rest, c.length ≤ y.length) : Left (left ++ [c]) (done ++ [c]) rest := by
  have hno := one_no left c hc
  have hcr : Rises c := h.rise c (by simp)
  have hne : ∀ x ∈ left, x ≠ c := fun x hx e => hno x hx (by rw [e]; exact fun p hp => hp)
  have hback : ∀ x ∈ left, ¬ ∀ p ∈ c, p ∈ x := fun x hx k =>
    hne x hx (len_sub c x hcr (h.rise x (List.mem_append.2 (.inl (h.mem x hx)))) k (h.short x (h.mem x hx) c (by simp))).symm
  refine ⟨?_, fun x hx => ?_, fun x hx y hy k => ?_, fun d hd => ?_, by simpa using h.rise, fun x hx y hy => ?_⟩
  · rw [List.nodup_append]
    exact ⟨h.nodup, by simp, fun a ha b hb => by rw [List.mem_singleton.1 hb]; exact hne a ha⟩
  · rcases List.mem_append.1 hx with hx | hx
    · exact List.mem_append.2 (.inl (h.mem x hx))
    · exact List.mem_append.2 (.inr hx)
  · rcases List.mem_append.1 hx with hx | hx
    · rcases List.mem_append.1 hy with hy | hy
      · exact h.anti x hx y hy k
      · rw [List.mem_singleton.1 hy] at k ⊢
        exact absurd k (hno x hx)
    · rw [List.mem_singleton.1 hx] at k ⊢
      rcases List.mem_append.1 hy with hy | hy
      · exact absurd k (hback y hy)
      · rw [List.mem_singleton.1 hy]
  · rcases List.mem_append.1 hd with hd | hd
    · obtain ⟨x, hx, k⟩ := h.cover d hd
      exact ⟨x, List.mem_append.2 (.inl hx), k⟩
    · rw [List.mem_singleton.1 hd]
      exact ⟨c, by simp, fun p hp => hp⟩
  · rcases List.mem_append.1 hx with hx | hx
    · exact h.short x hx y (by simp [hy])
    · rw [List.mem_singleton.1 hx]; exact hs y hy
theorem Left.red {left done rest : List (List (List UInt8))} (h : Left left done rest) : ∀ x ∈ left, x ∈ redL (done ++ rest) := fun x hx => by
  rw [mem_red]
  refine ⟨List.mem_append.2 (.inl (h.mem x hx)), fun y hy k => ?_⟩
  rcases List.mem_append.1 hy with hd | hd
  · obtain ⟨z, hz, kz⟩ := h.cover y hd
    have e := h.anti z hz x hx fun p hp => k p (kz p hp)
    subst e
    exact rises_ext (h.rise y hy) (h.rise z (List.mem_append.2 (.inl (h.mem z hz)))) fun a => ⟨k a, kz a⟩
  · exact len_sub y x (h.rise y hy) (h.rise x (List.mem_append.2 (.inl (h.mem x hx)))) k (h.short x (h.mem x hx) y hd)
theorem Left.full {left done : List (List (List UInt8))} (h : Left left done []) : ∀ x, x ∈ left ↔ x ∈ redL done := fun x => by
  constructor
  · intro hx
    have := h.red x hx
    rwa [List.append_nil] at this
  · intro hx
    obtain ⟨h1, h2⟩ := (mem_red done x).1 hx
    obtain ⟨z, hz, k⟩ := h.cover x h1
    rw [← h2 z (h.mem z hz) k]
    exact hz
theorem nodup_sort (l : List (List (List UInt8))) (h : l.Nodup) : (sortR l).length = l.length := by
  have h1 : (sortR l).length ≤ l.length := (rises_nodup _ (sort_rises l)).length_le_of_subset fun x hx => (mem_sort x l).1 hx
  have h2 : l.length ≤ (sortR l).length := h.length_le_of_subset fun x hx => (mem_sort x l).2 hx
  omega
theorem red_perm (l m : List (List (List UInt8))) (h : m.Perm l) : redL m = redL l :=
  rises_ext (sort_rises _) (sort_rises _) fun a => by
    show a ∈ redL m ↔ a ∈ redL l
    rw [mem_red, mem_red]
    exact ⟨fun k => ⟨h.mem_iff.1 k.1, fun y hy => k.2 y (h.mem_iff.2 hy)⟩, fun k => ⟨h.mem_iff.2 k.1, fun y hy => k.2 y (h.mem_iff.1 hy)⟩⟩
theorem left_done (l m left : List (List (List UInt8))) (hp : m.Perm l) (h : Left left m []) : sortR left = redL l ∧ (redL l).length = left.length := by
  have e : sortR left = redL l := by
    rw [← red_perm l m hp]
    exact rises_ext (sort_rises _) (sort_rises _) fun a => (mem_sort a left).trans (h.full a)
  exact ⟨e, by rw [← e]; exact nodup_sort left h.nodup⟩
/-- All are left, and not too many. -/
theorem ofF_left (l m left : List (List (List UInt8))) (hp : m.Perm l) (h : Left left m []) (hl : left.length ≤ 16) : ofF l = .inr (sortR left) := by
  obtain ⟨h1, h2⟩ := left_done l m left hp h
  unfold ofF
  rw [if_pos (by omega), h1]
/-- One too many. -/
theorem ofF_many (l m left done rest : List (List (List UInt8))) (hp : m.Perm l) (e : m = done ++ rest) (h : Left left done rest) (hl : 16 < left.length) : ofF l = .inl 3 := by
  have h1 : left.length ≤ (redL m).length := h.nodup.length_le_of_subset fun x hx => by rw [e]; exact h.red x hx
  rw [red_perm l m hp] at h1
  unfold ofF
  rw [if_neg (by omega)]
/-- What a sort of them leaves. -/
theorem sorted_is (l r : List (List (List UInt8))) (hp : r.Perm l) (hd : l.Nodup) (hs : ∀ i j : Nat, ∀ x y, i < j → r[i]? = some x → r[j]? = some y → ¬ y < x) : r = sortR l := by
  have hr : Rises r := by
    refine List.pairwise_iff_getElem.2 fun i j hi hj hij => ?_
    have hn : r.Nodup := hp.nodup_iff.2 hd
    have h1 := hs i j _ _ hij (List.getElem?_eq_getElem hi) (List.getElem?_eq_getElem hj)
    rcases Lin.tri r[i] r[j] with h | h | h
    · exact h
    · exact absurd h (List.pairwise_iff_getElem.1 hn i j hi hj hij)
    · exact absurd h h1
  exact rises_ext hr (sort_rises l) fun a => (hp.mem_iff).trans (mem_sort a l).symm

end Go.Proofs.YtkjkfgmoogbdiaaGreatDoor.Frm

namespace Go.Proofs.YtkjkfgmoogbdiaaGreatDoor.Frm
open Cls
set_option linter.unusedVariables false

/-- What a call left: the formula, or always. -/
def frmV (r : Sum Int (List (List (List UInt8)))) : List (List (List UInt8)) := match r with
  | .inl _ => []
  | .inr f => f
/-- Its error's number. -/
def frmE (r : Sum Int (List (List (List UInt8)))) : Int := match r with
  | .inl n => n
  | .inr _ => 0
end Go.Proofs.YtkjkfgmoogbdiaaGreatDoor.Frm

namespace Go.Proofs.YtkjkfgmoogbdiaaGreatDoor.Frm
open Cls
set_option linter.unusedVariables false

/-- What a call left: the label, or open. -/
def labV (r : Sum Int Lab) : Lab := match r with
  | .inl _ => ⟨[], []⟩
  | .inr l => l
/-- Its error's number. -/
def labE (r : Sum Int Lab) : Int := match r with
  | .inl n => n
  | .inr _ => 0
structure LOk (l : Lab) : Prop where
  s : FOk l.s
  i : FOk l.i
theorem LOk.canon {l : Lab} (h : LOk l) : LabOk l := ⟨h.s.canon, h.i.canon⟩
theorem open_ok : LOk ⟨[], []⟩ := ⟨always_ok, always_ok⟩
/-- The label of a text, piece by piece. -/
theorem parseL_cases (t : List UInt8) (l : Lab) (h : parseL t = .inr l) : t.length ≤ 4096 ∧ ((∃ s, Ref.splitL 59 t = [s] ∧ parseF s = .inr l.s ∧ l.i = []) ∨ ∃ s i, Ref.splitL 59 t = [s, i] ∧ parseF s = .inr l.s ∧ parseF i = .inr l.i) := by
  unfold parseL at h
  split at h
  · cases h
  · rename_i hl
    refine ⟨by omega, ?_⟩
    split at h
    · rename_i s hs
      split at h
      · cases h
      · rename_i f hf
        cases h
        exact .inl ⟨s, hs, hf, rfl⟩
    · rename_i s i hs
      split at h
      · cases h
      · rename_i f hf
        split at h
        · cases h
        · rename_i g hg
          cases h
          exact .inr ⟨s, i, hs, hf, hg⟩
    · cases h
theorem parse_lab (t : List UInt8) : LOk (labV (parseL t)) := by
  cases h : parseL t with
  | inl n => exact open_ok
  | inr l =>
    rcases (parseL_cases t l h).2 with ⟨s, _, h1, h2⟩ | ⟨s, i, _, h1, h2⟩
    · exact ⟨parseF_ok s _ h1, by show FOk l.i; rw [h2]; exact always_ok⟩
    · exact ⟨parseF_ok s _ h1, parseF_ok i _ h2⟩
/-! ### joins and meets, with their errors -/
theorem errF (l : List (List (List UInt8))) (n : Int) (h : ofF l = .inl n) : n = 3 := by
  unfold ofF at h
  split at h
  · cases h
  · cases h; rfl
/-! ### flowing, set by set -/
/-! ### one principal -/
end Go.Proofs.YtkjkfgmoogbdiaaGreatDoor.Frm

namespace Go.Proofs.YtkjkfgmoogbdiaaGreatDoor.Frm
open Cls Url
set_option linter.unusedVariables false

theorem split_aheadC (c : UInt8) : ∀ (x y : List UInt8), c ∉ x → Ref.splitL c (x ++ c :: y) = x :: Ref.splitL c y
  | [], y, _ => Ref.split_is c y
  | b :: x, y, h => by
    have hb : b ≠ c := fun e => h (by simp [e])
    rw [List.cons_append, Ref.split_not c b _ hb, split_aheadC c x y (fun e => h (by simp [e]))]
    rfl
theorem split_noC (c : UInt8) : ∀ x : List UInt8, c ∉ x → Ref.splitL c x = [x]
  | [], _ => rfl
  | b :: x, h => by
    have hb : b ≠ c := fun e => h (by simp [e])
    rw [Ref.split_not c b _ hb, split_noC c x (fun e => h (by simp [e]))]
    rfl
theorem split_at (c : UInt8) (l : List UInt8) : Ref.splitL c l = if atOk c l = true then atFst c l :: Ref.splitL c (atSnd c l) else [atFst c l] := by
  by_cases h : c ∈ l
  · obtain ⟨x, y, rfl, hx⟩ := List.eq_append_cons_of_mem h
    have hi : Lib.indexByte (x ++ c :: y) c = (x.length : Int) := index_at _ _ _ (by simp) (by simp [List.getD]) fun j hj => by
      intro e
      apply hx
      rw [← e, List.getD, List.getElem?_append_left hj, List.getElem?_eq_getElem hj]
      exact List.getElem_mem hj
    obtain ⟨h1, h2, h3⟩ := at_found c _ _ hi
    rw [h1, h2, h3, if_pos rfl, split_aheadC c x y hx]
    simp
  · have hi : Lib.indexByte l c = -1 := index_no _ _ fun j hj e => h (by
      rw [← e, List.getD, List.getElem?_eq_getElem hj]
      exact List.getElem_mem hj)
    obtain ⟨h1, h2, h3⟩ := at_none c l hi
    rw [h1, h3, split_noC c l h]
    rfl
theorem at_len (c : UInt8) (l : List UInt8) : (atFst c l).length ≤ l.length ∧ (atSnd c l).length ≤ l.length := by
  unfold atFst atSnd
  split
  · rw [List.length_take, List.length_drop]; omega
  · simp
theorem parseC_err2 (t : List UInt8) (n : Int) (h : parseC t = .inl n) : n = 2 ∨ n = 3 := by
  unfold parseC at h
  split at h
  · cases h; exact .inr rfl
  · split at h
    · cases h
    · unfold ofC at h
      split at h
      · split at h
        · cases h
        · cases h; exact .inr rfl
      · cases h; exact .inl rfl
theorem clausesL_no : ∀ (l : List (List UInt8)) (n : Int), clausesL l = .inl n → n = 2 ∨ n = 3
  | [], n, h => by cases h
  | p :: l, n, h => by
    unfold clausesL at h
    split at h
    · rename_i e he; cases h; exact parseC_err2 p _ he
    · split at h
      · rename_i e he; cases h; exact clausesL_no l _ he
      · cases h
theorem parseF_no (t : List UInt8) (n : Int) (h : parseF t = .inl n) : n = 2 ∨ n = 3 := by
  unfold parseF at h
  split at h
  · cases h; exact .inr rfl
  · split at h
    · cases h
    · split at h
      · rename_i e he; cases h; exact clausesL_no _ _ he
      · exact .inr (errF _ _ h)
theorem at_no_snd (c : UInt8) (l : List UInt8) (h : atOk c l = false) : atSnd c l = [] := (at_ahead c l).2.2 h
theorem at_nil (c : UInt8) : atOk c [] = false := by
  obtain ⟨_, _, h3⟩ := at_none c [] (index_no _ _ fun j hj => by simp at hj)
  exact h3
/-- Two signs. -/
theorem parseL_two (t : List UInt8) (hl : ¬ 4096 < t.length) (h : atOk 59 (atSnd 59 t) = true) : parseL t = .inl 2 := by
  have h0 : atOk 59 t = true := by
    cases e : atOk 59 t with
    | true => rfl
    | false => rw [at_no_snd _ _ e, at_nil] at h; cases h
  unfold parseL
  rw [if_neg hl, split_at, if_pos h0, split_at 59 (atSnd 59 t), if_pos h]
  obtain ⟨p, r, hr⟩ := List.exists_cons_of_ne_nil (Ref.split_ne 59 (atSnd 59 (atSnd 59 t)))
  rw [hr]
theorem parseL_one (t : List UInt8) (hl : ¬ 4096 < t.length) (h : atOk 59 t = false) : parseL t = match parseF (atFst 59 t) with
    | .inl e => .inl e
    | .inr f => .inr ⟨f, []⟩ := by
  unfold parseL
  rw [if_neg hl, split_at, if_neg (by rw [h]; simp)]
  rfl
theorem parseL_both (t : List UInt8) (hl : ¬ 4096 < t.length) (h : atOk 59 t = true) (h2 : atOk 59 (atSnd 59 t) = false) : parseL t = match parseF (atFst 59 t) with
    | .inl e => .inl e
    | .inr f => match parseF (atSnd 59 t) with
      | .inl e => .inl e
      | .inr g => .inr ⟨f, g⟩ := by
  have h3 : atFst 59 (atSnd 59 t) = atSnd 59 t := by
    have := split_at 59 (atSnd 59 t)
    rw [if_neg (by rw [h2]; simp)] at this
    unfold atOk at h2
    unfold atFst
    rw [if_neg (of_decide_eq_false h2)]
  unfold parseL
  rw [if_neg hl, split_at, if_pos h, split_at 59 (atSnd 59 t), if_neg (by rw [h2]; simp), h3]
  rfl
end Go.Proofs.YtkjkfgmoogbdiaaGreatDoor.Frm

namespace Go.Proofs.YtkjkfgmoogbdiaaGreatDoor.Url
open Go.RowKit Go.Shelf

/-- v is a row of the slices vs, each a row of one's own that reads as the word of ks at its place. -/
def RowsOf (W : World) (base : Nat) (v : Value) (vs : List Value) (ks : List (List UInt8)) : Prop :=
  W.ownsRow base 30 1 v ks.length vs ∧ ∀ (i : Nat) (x : Value) (k : List UInt8), vs[i]? = some x → ks[i]? = some k → W.ownsRow base 5 1 x k.length (byV k)
/-- The blocks of a row of rows. -/
def KB (v : Value) (vs : List Value) (b : Nat) : Prop := v.ownBlock = some b ∨ ∃ x ∈ vs, x.ownBlock = some b
theorem RowsOf.len {W : World} {base : Nat} {v : Value} {vs : List Value} {ks : List (List UInt8)} (h : RowsOf W base v vs ks) : vs.length = ks.length := by
  have := h.1.1; omega
theorem RowsOf.nil (W : World) (base : Nat) : RowsOf W base (.slice none 0 0) [] [] := ⟨World.ownsRow_nil _ _ _ _, fun i x k h => by simp at h⟩
theorem RowsOf.lt {W : World} {base : Nat} {v : Value} {vs : List Value} {ks : List (List UInt8)} (h : RowsOf W base v vs ks) : ∀ b, KB v vs b → base ≤ b ∧ b < W.heap.size := by
  rintro b (hb | ⟨x, hx, hb⟩)
  · exact h.1.lt b hb
  · obtain ⟨i, hi, rfl⟩ := List.mem_iff_getElem.1 hx
    have hk : i < ks.length := by rw [← h.len]; exact hi
    exact (h.2 i _ _ (List.getElem?_eq_getElem hi) (List.getElem?_eq_getElem hk)).lt b hb
theorem RowsOf.keep {S : Nat → Prop} {W W' : World} {base : Nat} {v : Value} {vs : List Value} {ks : List (List UInt8)} (h : RowsOf W base v vs ks) (hk : Keep S W W') (hS : ∀ b, KB v vs b → S b) : RowsOf W' base v vs ks :=
  ⟨hk.row h.1 fun b hb => hS b (.inl hb), fun i x k hi hj => hk.row (h.2 i x k hi hj) fun b hb => hS b (.inr ⟨x, List.mem_of_getElem? hi, hb⟩)⟩
/-- A box of another type is none of the blocks. -/
theorem RowsOf.not_box {W : World} {base B : Nat} {t : TypeId} {u v : Value} {vs : List Value} {ks : List (List UInt8)} (h : RowsOf W base v vs ks) (hB : Boxed W B t u) (h1 : t ≠ 30) (h2 : t ≠ 5) : ¬ KB v vs B := by
  rintro (hb | ⟨x, hx, hb⟩)
  · exact hB.not_row h1 h.1 hb.symm
  · obtain ⟨i, hi, rfl⟩ := List.mem_iff_getElem.1 hx
    have hk : i < ks.length := by rw [← h.len]; exact hi
    exact hB.not_row h2 (h.2 i _ _ (List.getElem?_eq_getElem hi) (List.getElem?_eq_getElem hk)) hb.symm
theorem byte_row_ne {W : World} {base base' g m n : Nat} {v x : Value} {xs ys : List Value} (h : W.ownsRow base 30 1 v n xs) (h' : W.ownsRow base' 5 1 x m ys) (hb : v.ownBlock = some g) : x.ownBlock ≠ some g := fun he => by
  rcases h.2 with ⟨rfl, _⟩ | ⟨g1, cap1, cur1, rfl, _, hg1, _⟩
  · simp [Value.ownBlock] at hb
  · rcases h'.2 with ⟨rfl, _⟩ | ⟨g2, cap2, cur2, rfl, _, hg2, _⟩
    · simp [Value.ownBlock] at he
    · obtain rfl : g1 = g := by simpa [Value.ownBlock] using hb
      obtain rfl : g2 = g1 := by simpa [Value.ownBlock] using he
      rw [hg1] at hg2
      injection hg2 with hg2
      injection hg2 with _ hg2
      exact absurd hg2 (by decide)
/-- One slice less. -/
theorem RowsOf.dropLast {W : World} {base n c : Nat} {q : Option Addr} {vs : List Value} {ks : List (List UInt8)} (h : RowsOf W base (.slice q n c) vs ks) : n = ks.length ∧ RowsOf W base (.slice q (n - 1) c) vs.dropLast ks.dropLast := by
  have hl := h.len
  have hn : n = ks.length := by
    rcases h.1.2 with ⟨he, hz⟩ | ⟨g, cap, cur, he, _⟩
    · cases he; omega
    · cases he; rfl
  refine ⟨hn, ?_, fun i x k hi hj => ?_⟩
  · refine ⟨by rw [List.length_dropLast, List.length_dropLast]; omega, ?_⟩
    rcases h.1.2 with ⟨he, hz⟩ | ⟨g, cap, cur, he, hb, hg, h1, h2, h3, h4⟩
    · cases he
      exact .inl ⟨by simp, by rw [List.length_dropLast]; omega⟩
    · cases he
      refine .inr ⟨g, c, cur, by rw [List.length_dropLast], hb, hg, by rw [List.length_dropLast]; omega, h2, h3, ?_⟩
      rw [List.length_dropLast, ← h4, List.dropLast_eq_take]
      simp only [Nat.mul_one, List.take_take, List.length_take]
      have hm : ks.length ≤ cur.size := by omega
      have hcs : cur.toList.length = cur.size := rfl
      congr 1; omega
  · rw [List.getElem?_dropLast] at hi hj
    split at hi
    · split at hj
      · exact h.2 i x k hi hj
      · cases hj
    · cases hi

theorem join_lib (c : UInt8) : ∀ R : List (List UInt8), Lib.join R [c] = Ref.joinL c R
  | [] => rfl
  | [p] => Lib.join_one p [c]
  | p :: q :: r => by
    have ih := join_lib c (q :: r)
    rw [Lib.join_cons] at ih ⊢
    show p ++ Lib.joinTail [c] (q :: r) = p ++ c :: Ref.joinL c (q :: r)
    rw [← ih]
    simp [Lib.joinTail]
theorem lens_weight : ∀ R : List (List UInt8), Lib.lens R + R.length = weightL R
  | [] => rfl
  | p :: r => by
    have ih := lens_weight r
    simp only [Lib.lens, List.map_cons, List.sum_cons, List.length_cons, weightL] at ih ⊢
    omega
theorem By.holds {w : World} {v : Value} {l : List UInt8} (h : By w v l) : Lib.HoldsBytes w v l := by
  obtain ⟨q, c, rfl, h1, h2, h3, h4⟩ := h
  refine ⟨q, c, rfl, fun hq => List.eq_nil_of_length_eq_zero (by have := h3 hq; omega), fun a ha i x hx => ?_⟩
  subst ha
  have hi : i < l.length := (List.getElem?_eq_some_iff.1 hx).1
  obtain ⟨b, o, he, hc⟩ := h4.at (by omega)
  cases he
  rw [Go.WideShapes.add_plain, hc i hi, numsL_getD _ _ hi, List.getD, hx]; rfl
theorem By.fresh {B : Nat} {w : World} {v : Value} {l : List UInt8} (h : Lib.FreshBytes B w v l) : By w v l := by
  obtain ⟨g, cap, zs, rfl, _, h1, h2, h3, h4, h5, h6, _⟩ := h
  refine ⟨_, cap, rfl, h1, h2, (fun h => by cases h), fun _ => ⟨g, 0, rfl, fun i hi => ?_⟩⟩
  rw [Nat.zero_add, h6 i (by omega), numsL_getD _ _ hi, ← h5]
  have hz : i < zs.length := by omega
  have hr := h4 _ (List.getElem_mem hz)
  have hi' : i < (Lib.bytesOf (zs.take l.length)).length := by rw [Lib.bytesOf_length, List.length_take]; omega
  rw [List.getD, List.getElem?_eq_getElem hz, List.getD, List.getElem?_eq_getElem hi']
  simp only [Option.getD_some, Lib.bytesOf, List.getElem_map, List.getElem_take, UInt8.toNat_ofNat']
  congr 2; omega

set_option maxHeartbeats 1000000 in
theorem Join_any (base c n : Nat) (q : Option Addr) (vs : List Value) (ks : List (List UInt8)) (sv : Value) (w : World) (h : RowsOf w base (.slice q n c) vs ks) (hs : By w sv [47]) (hw : weightL ks ≤ 1099511627776) :
    Calls Tryz.prog 189 #[.slice q n c, sv] w fun e w' => ∃ v, e = .returned v ∧ By w' v (Ref.joinL 47 ks) ∧ Below w.heap.size w w' := by
  have hlen := h.len
  have hwt := lens_weight ks
  have key : ks ≠ [] → ∃ g, q = some ⟨g, 0, none⟩ ∧ n = ks.length ∧ n ≤ c ∧ ∀ (i : Nat) x, vs[i]? = some x → w.cell? ⟨g, i, none⟩ = some x := by
    intro hne
    have hpos : 0 < ks.length := List.length_pos_iff.2 hne
    rcases h.1.2 with ⟨he, hz⟩ | ⟨g, cap, cur, he, hb, hg, h1, h2, h3, h4⟩
    · omega
    · cases he
      refine ⟨g, rfl, rfl, h1, fun i x hx => ?_⟩
      have hi : i < vs.length := (List.getElem?_eq_some_iff.1 hx).1
      have : (cur.toList.take (ks.length * 1))[i]? = some x := by rw [h4]; exact hx
      rw [List.getElem?_take, if_pos (by omega)] at this
      simp only [World.cell?, hg]
      simpa using this
  rcases Nat.lt_or_ge 1 ks.length with h2 | h2
  · obtain ⟨g, rfl, hn, hnc, hc⟩ := key (by intro e; rw [e] at h2; simp at h2)
    have hP : Lib.PartsAt w ⟨g, 0, none⟩ vs ks := ⟨hlen, fun i x hx => by rw [Go.WideShapes.add_plain, Nat.zero_add]; exact hc i x hx, fun i x k hx hk => (By.row (h.2 i x k hx hk)).holds⟩
    refine (Tryz.bytes_Join_many g 0 n c vs ks sv [47] w hn.symm (by omega) hP hnc hs.holds (by omega) (by simp; omega)).mono ?_
    rintro e w' ⟨v, he, hf, hb⟩
    rw [join_lib] at hf
    exact ⟨v, he, By.fresh hf, hb⟩
  · match ks, h2 with
    | [], _ =>
      have hn : n = 0 := by
        rcases h.1.2 with ⟨he, _⟩ | ⟨g, cap, cur, he, _⟩
        · cases he; rfl
        · cases he; rfl
      subst hn
      refine (Tryz.bytes_Join_none q c sv w).mono ?_
      rintro e w' ⟨rfl, rfl⟩
      exact ⟨_, rfl, By.of rfl (Nat.le_refl _) (Nat.zero_le _) (fun _ => rfl) (Lib.BytesIn.nil _ _ _), (Below.refl _ _).alloc (Nat.le_refl _) _⟩
    | [k], _ =>
      obtain ⟨g, rfl, hn, hnc, hc⟩ := key (by simp)
      obtain rfl : n = 1 := hn
      obtain ⟨x, rfl⟩ : ∃ x, vs = [x] := by
        match vs, hlen with
        | [x], _ => exact ⟨x, rfl⟩
      have hb := By.row (h.2 0 x k rfl rfl)
      have hcell := hc 0 x rfl
      obtain ⟨p0, c0, rfl, h5, h6, h7, h8⟩ := hb.holds |> fun _ => hb
      rcases Nat.eq_zero_or_pos k.length with hk | hk
      · have hk' : k = [] := List.eq_nil_of_length_eq_zero hk
        subst hk'
        refine (Tryz.bytes_Join_one_empty g 0 c p0 c0 sv w hcell).mono ?_
        rintro e w' ⟨rfl, rfl⟩
        exact ⟨_, rfl, by_nil _, Below.refl _ _⟩
      · obtain ⟨b, o, rfl, hcc⟩ := h8.at hk
        refine (Tryz.bytes_Join_one g 0 c ⟨b, o, none⟩ c0 k sv w hcell (fun i y hy => by
          have hi : i < k.length := (List.getElem?_eq_some_iff.1 hy).1
          rw [Go.WideShapes.add_plain, hcc i hi, numsL_getD _ _ hi, List.getD, hy]; rfl) hk (by simp [weightL] at hw; omega)).mono ?_
        rintro e w' ⟨v, he, hf, hb'⟩
        exact ⟨v, he, By.fresh hf, hb'⟩

/-- The pieces behind the first one. -/
def tailsX (pre : List (Nat × List UInt8)) : List (List UInt8) := (pre.map Prod.snd).tail
theorem tails_snoc (pre : List (Nat × List UInt8)) (x : Nat × List UInt8) (h : pre ≠ []) : tailsX (pre ++ [x]) = tailsX pre ++ [x.2] := by
  unfold tailsX
  rw [List.map_append, List.map_singleton, List.tail_append_of_ne_nil (by simpa using h)]
theorem tails_one (x : Nat × List UInt8) : tailsX ([] ++ [x]) = [] := rfl
theorem forms_snoc : ∀ (l : List (List UInt8)) (p : List UInt8) (cs : List (List UInt8)) (c : List UInt8), formsL l = some cs → formL 1 p = some c → formsL (l ++ [p]) = some (cs ++ [c])
  | [], p, cs, c, h, hp => by
    rw [formsL] at h; cases h
    rw [List.nil_append, formsL, hp]; rfl
  | a :: r, p, cs, c, h, hp => by
    rw [formsL] at h
    obtain ⟨d, hd, h⟩ := Option.bind_eq_some_iff.1 h
    obtain ⟨ds, hds, rfl⟩ := Option.map_eq_some_iff.1 h
    rw [List.cons_append, formsL, hd, Option.bind_some, forms_snoc r p ds c hds hp]; rfl
theorem forms_bad : ∀ (l r : List (List UInt8)) (p : List UInt8), formL 1 p = none → formsL (l ++ p :: r) = none
  | [], r, p, hp => by rw [List.nil_append, formsL, hp]; rfl
  | a :: t, r, p, hp => by
    rw [List.cons_append, formsL, forms_bad t r p hp]
    cases formL 1 a <;> rfl
theorem stack_snoc (cs : List (List UInt8)) (c : List UInt8) : stackL [] (cs ++ [c]) = if c = [46] then stackL [] cs else if c = [46, 46] then (stackL [] cs).dropLast else stackL [] cs ++ [c] := by
  rw [stack_app, stackL, stackL]
theorem last_snoc (cs : List (List UInt8)) (c : List UInt8) : (cs ++ [c]).getLastD [] = c := by simp
theorem path_split (l : List UInt8) (h : l = [] ∨ ∃ r, l = 47 :: r) : pathL l = (formsL (Ref.splitL 47 l).tail).map fun cs => 47 :: Ref.joinL 47 (dotsL cs) := by
  rcases h with rfl | ⟨r, rfl⟩
  · rfl
  · rw [Ref.split_is]; rfl
theorem tails_split (l : List UInt8) : tailsX (splitX 47 l) = (Ref.splitL 47 l).tail := by
  unfold tailsX; rw [Host.splitX_snd]

end Go.Proofs.YtkjkfgmoogbdiaaGreatDoor.Url

namespace Go.Proofs.YtkjkfgmoogbdiaaGreatDoor.Url
open Go.RowKit Go.Shelf
attribute [local go_sem] Oper.semAt_some

theorem info_sl : (Tryz.prog.info? 30).map (fun i => (i.zero, i.size, i.bytes)) = some (some (.slice none 0 0), 1, 24) := by kernel_rfl
/-- A path and an error's number, out of their cells. -/
theorem results_path {fn : Func} {p r : Tmp} (h : fn.results = #[.cell p 30, .cell r 40]) (tmps : Array Value) (w : World) (B C : Nat) (v u : Value) (hp : tmps.getD p undef = .pointer (some ⟨B, 0, none⟩)) (hr : tmps.getD r undef = .pointer (some ⟨C, 0, none⟩)) (hb : w.cell? ⟨B, 0, none⟩ = some v) (hc : w.cell? ⟨C, 0, none⟩ = some u) :
    (results fn tmps).run Tryz.prog w = .ok (.tuple #[v, u]) w := by
  have hp' : tmps[p]?.getD undef = .pointer (some ⟨B, 0, none⟩) := by simpa using hp
  have hr' : tmps[r]?.getD undef = .pointer (some ⟨C, 0, none⟩) := by simpa using hr
  have ha : ∀ w', (isAgg 30).run Tryz.prog w' = .ok false w' := Tryz.isAgg30
  have hd : ∀ w', (isAgg 40).run Tryz.prog w' = .ok false w' := Tryz.isAgg40
  have hl : (load ⟨B, 0, none⟩).run Tryz.prog w = .ok v w := by simp [go_sem, hb]
  have hm : (load ⟨C, 0, none⟩).run Tryz.prog w = .ok u w := by simp [go_sem, hc]
  simp [results, h, hp', hr', asAddr, loadVar, ha, hd, hl, hm, Result.andThen]

theorem own_len (q : Option Addr) (n m c d : Nat) : (Value.slice q n c).ownBlock = (Value.slice q m d).ownBlock := by cases q <;> rfl
theorem rows_slice {W : World} {base : Nat} {v : Value} {vs : List Value} {ks : List (List UInt8)} (h : RowsOf W base v vs ks) : ∃ q c, v = .slice q ks.length c ∧ ks.length ≤ c ∧ c ≤ maxLen := by
  rcases h.1.2 with ⟨rfl, hz⟩ | ⟨g, cap, cur, rfl, _, _, h1, h2, _⟩
  · exact ⟨none, 0, by rw [hz], by omega, Nat.zero_le _⟩
  · exact ⟨_, cap, rfl, h1, h2⟩
theorem strs_eq (l m : List UInt8) : ((⟨l.toArray⟩ : ByteArray).toList == (⟨m.toArray⟩ : ByteArray).toList) = decide (l = m) := by
  rw [Lib.toList_data, Lib.toList_data, Bool.eq_iff_iff, beq_iff_eq, decide_eq_true_iff]
theorem conv_bytes {W : World} {q : Option Addr} {n c : Nat} {l : List UInt8} (h : Lib.BytesIn W q n (Lib.numsL l)) (hl : l.length = n) : (convert 30 9 (.slice q n c)).run Tryz.prog W = .ok (.string ⟨l.toArray⟩) W := by
  have h := h.convert (P := Tryz.prog) (by rw [Lib.numsL_length, hl]) c 30 5 9 Tryz.underlying30 Tryz.underlying5 Tryz.underlying9
  rwa [strOfNums_numsL] at h
theorem stack_len : ∀ (ps st : List (List UInt8)), (stackL st ps).length ≤ st.length + ps.length
  | [], st => by simp [stackL]
  | p :: r, st => by
    rw [stackL]
    have ih := stack_len r (if p = [46] then st else if p = [46, 46] then st.dropLast else st ++ [p])
    have hs : (if p = [46] then st else if p = [46, 46] then st.dropLast else st ++ [p]).length ≤ st.length + 1 := by
      split
      · omega
      · split
        · rw [List.length_dropLast]; omega
        · simp
    rw [List.length_cons]; omega

theorem wpListIn_append_by {F : Fence} {nF : Nat} {ops : Array Oper} {rest : List Oper} {o : Oper} {a : Act} {w : World} {Q : Exit → Act → World → Prop} (hgd : o.guard = none) (s x : Operand)
    (ho : o.op = .call { callee := .builtin .append, args := #[s, x], argTypes := #[30, 30] })
    (base : Nat) (v : Value) (n : Nat) (xs : List Value) (hs : a.eval s = v) (hown : w.ownsRow base 5 1 v n xs) (vx : Value) (bs : List UInt8) (hx : a.eval x = vx) (hb : By w vx bs) (h47 : n + bs.length ≤ 140737488355328) (hbase : base ≤ w.heap.size)
    (h : ∀ v' w', w'.ownsRow base 5 1 v' (n + bs.length) (xs ++ byV bs) → w.grownBy w' v.ownBlock → wpListIn F nF Tryz.prog ops Q rest (a.put o.dst v') w') : wpListIn F nF Tryz.prog ops Q (o :: rest) a w := by
  refine wpListIn_plain hgd fun K hK => ?_
  obtain ⟨v', w', hr, h1, h2⟩ := run_append_by o.type base v n xs w hown vx bs hb h47 hbase
  unfold Oper.wpIn
  refine ⟨by simp [Oper.about, ho, resolve, Target.leads, Sem.run_pure], ?_⟩
  rw [Oper.semAt_plain F _ _ (by rw [ho]; intro c hc'; cases hc')]
  simp [execOp, ho, resolve, invoke, builtin, hs, hx, hr, Result.andThen]
  exact hK _ _ (h v' w' h1 h2)
/-- A new row of one byte is one's own. -/
theorem own_lit (w : World) (b : UInt8) : (w.alloc (.cells #[.int .u8 (b.toNat : Int)] 5)).ownsRow w.heap.size 5 1 (.slice (some ⟨w.heap.size, 0, none⟩) 1 1) 1 (byV [b]) :=
  ⟨rfl, .inr ⟨w.heap.size, 1, #[.int .u8 (b.toNat : Int)], rfl, Nat.le_refl _, World.alloc_heap_new w _, Nat.le_refl _, by decide, rfl, rfl⟩⟩

/-- What lies while the pieces are gone through. -/
def PthI (w W1 : World) (pre : List (Nat × List UInt8)) (Pv : Nat → Prop) (W : World) : Prop :=
  ∃ cs v vs, Boxed W w.heap.size 30 (.slice none 0 0) ∧ Boxed W (w.heap.size + 1) 40 (.int .i64 0) ∧ Boxed W (w.heap.size + 1 + 1) 259 v ∧ Boxed W (w.heap.size + 1 + 1 + 1) 4 (.bool (dotB (cs.getLastD []))) ∧
    RowsOf W W1.heap.size v vs (stackL [] cs) ∧ (∀ b, KB v vs b → ¬ Pv b) ∧ (∀ b, Pv b → W1.heap.size ≤ b) ∧ Keep (fun _ => False) W1 W ∧ Hid (formsL (tailsX pre) = some cs) ∧ cs.length ≤ pre.length ∧ Below w.heap.size w W
theorem PthI_abide {w W1 : World} (h : w.heap.size + 4 ≤ W1.heap.size) : Abide (PthI w W1) := by
  rintro pre Pv Pv' A B ⟨cs, v, vs, h1, h2, h3, h4, h5, h6, h7, h8, h9, h10, h11⟩ hk hp
  have kk : ∀ b, b < W1.heap.size → ¬ Pv b := fun b hb hn => by have := h7 b hn; omega
  have hs := h8.size
  refine ⟨cs, v, vs, hk.boxed h1 (kk _ (by omega)), hk.boxed h2 (kk _ (by omega)), hk.boxed h3 (kk _ (by omega)), hk.boxed h4 (kk _ (by omega)), h5.keep hk h6, fun b hb hp' => ?_, fun b hb => ?_, h8.trans (hk.mono fun _ _ h => h.elim), h9, h10, h11.trans ((hk.mono fun b _ hb => kk b (by omega)).below h11.size)⟩
  · rcases (hp b hp').1 with h' | h'
    · exact h6 b hb h'
    · have := (h5.lt b hb).2; omega
  · rcases (hp b hb).1 with h' | h'
    · exact h7 b h'
    · omega
/-- What lies behind a piece that has no form. -/
def PthE (w : World) (l : List UInt8) (_ : List (Nat × List UInt8)) (W : World) : Prop :=
  Boxed W w.heap.size 30 (.slice none 0 0) ∧ Boxed W (w.heap.size + 1) 40 (.int .i64 2) ∧ Hid (pathL l = none) ∧ Below w.heap.size w W

set_option maxRecDepth 100000 in
set_option maxHeartbeats 8000000 in
theorem canonOfPath_any (q : Option Addr) (n c : Nat) (l : List UInt8) (w : World) (hby : By w (.slice q n c) l) (hn : n ≤ 1048576) (hform : l = [] ∨ ∃ r, l = 47 :: r) :
    Calls Tryz.prog 162 #[.slice q n c] w fun e w' => Pct.TextPost (pathL l) w e w' := by
  obtain ⟨i1, hi1, hz0, hz1, hz2⟩ := info_parts info_sl
  refine (callsIn_wide (n := 1)).1 ?_
  refine callsIn_of_wp_marks Tryz.func162 rfl trivial ?_ rfl
  simp only [Tryz.ntmps162, List.size_toArray, List.length_cons, List.length_nil, Nat.reduceAdd, Nat.reduceSub, Array.replicate_succ, Array.replicate_zero, List.push_toArray, List.append_toArray, List.nil_append, List.cons_append]
  obtain ⟨W0', hW0', b0, b1, b2, b3, hs0', hk0⟩ := four_boxes w 30 40 259 4 (.slice none 0 0) (.int .i64 0) (.slice none 0 0) (.bool false)
  clear hW0' b0 b1 b2 b3 hs0' hk0
  obtain ⟨W0, hW0⟩ : ∃ W0, (((w.alloc (.cells #[.slice none 0 0] 30)).alloc (.cells #[.int .i64 0] 40)).alloc (.cells #[.slice none 0 0] 259)).alloc (.cells #[.bool false] 4) = W0 := ⟨_, rfl⟩
  have b0 : Boxed W0 w.heap.size 30 (.slice none 0 0) := hW0 ▸ (((Boxed.new w _ _).alloc _).alloc _).alloc _
  have b1 : Boxed W0 (w.heap.size + 1) 40 (.int .i64 0) := by
    have := ((Boxed.new (w.alloc (.cells #[.slice none 0 0] 30)) 40 (.int .i64 0)).alloc (.cells #[.slice none 0 0] 259)).alloc (.cells #[.bool false] 4)
    rw [World.size_alloc] at this
    exact hW0 ▸ this
  have b2 : Boxed W0 (w.heap.size + 1 + 1) 259 (.slice none 0 0) := by
    have := (Boxed.new ((w.alloc (.cells #[.slice none 0 0] 30)).alloc (.cells #[.int .i64 0] 40)) 259 (.slice none 0 0)).alloc (.cells #[.bool false] 4)
    rw [World.size_alloc, World.size_alloc] at this
    exact hW0 ▸ this
  have b3 : Boxed W0 (w.heap.size + 1 + 1 + 1) 4 (.bool false) := by
    have := Boxed.new (((w.alloc (.cells #[.slice none 0 0] 30)).alloc (.cells #[.int .i64 0] 40)).alloc (.cells #[.slice none 0 0] 259)) 4 (.bool false)
    rw [World.size_alloc, World.size_alloc, World.size_alloc] at this
    exact hW0 ▸ this
  have hB0 : Below w.heap.size w W0 := hW0 ▸ ((((Below.refl _ w).alloc (Nat.le_refl _) _).alloc (by simp) _).alloc (by simp only [World.size_alloc]; omega) _).alloc (by simp only [World.size_alloc]; omega) _
  have hs0 : W0.heap.size = w.heap.size + 1 + 1 + 1 + 1 := by rw [← hW0]; simp
  obtain ⟨hl, hnc0, hcm0, hnil0, h⟩ := hby.at
  have hb0 := bytes_on h hB0
  have con := Split_any q n c 47 l W0 hl (by omega) hb0
  have hsmall := splitX_small 47 l n hl
  have hlenX := splitX_len 47 l
  have hnum := splitX_num 47 l
  rw [hl] at hlenX
  have HW0 := Lib.hid hW0
  have HPS := Lib.hid (path_split l hform)
  have HTS := Lib.hid (tails_split l)
  have HWT := Lib.hid (weight_split 47 l)
  have HL := Lib.hid hl
  clear hW0 hb0 hl hby h hform
  gi_wp2_with fail
  rw [HW0.out]
  refine ⟨trivial, (callsIn_wide.2 con).mono ?_⟩
  rintro e W1 ⟨B, v', rfl, hB, hBc, hrow, hBl, hbel⟩
  have hit := Split_iter (by omega) hB hBc hrow
  have hRl0 : ∀ b, (b = B ∨ b = W0.heap.size ∨ v'.ownBlock = some b) → w.heap.size + 4 ≤ b ∧ b < W1.heap.size := fun b hb => by
    rcases hb with rfl | rfl | hb
    · exact ⟨by omega, hB.lt⟩
    · exact ⟨by omega, hBc.lt⟩
    · have := hrow.lt b hb; exact ⟨by omega, this.2⟩
  obtain ⟨RB, hRB⟩ : ∃ RB : Nat → Prop, RB = fun b => b = B ∨ b = W0.heap.size ∨ v'.ownBlock = some b := ⟨_, rfl⟩
  rw [← hRB, hs0] at hit
  have hRl : ∀ b, RB b → w.heap.size + 4 ≤ b ∧ b < W1.heap.size := fun b hb => hRl0 b (by rw [hRB] at hb; exact hb)
  clear hRB hRl0
  replace b0 := (Keep.of_below hbel).boxed b0 (by omega)
  replace b1 := (Keep.of_below hbel).boxed b1 (by omega)
  replace b2 := (Keep.of_below hbel).boxed b2 (by omega)
  replace b3 := (Keep.of_below hbel).boxed b3 (by omega)
  have hB1 := hB0.trans (hbel.mono hB0.size)
  have hs1 := hbel.size
  clear con hB hBc hrow hBl hbel HW0 hB0
  generalize splitX 47 l = xs at *
  gi_wp2
  rw [hs0] at hs1
  clear hs0
  refine rf_law (gf := 78) (lb := #[.pointer (some ⟨B, 0, none⟩), .pointer (some ⟨w.heap.size + 1 + 1 + 1 + 1, 0, none⟩)]) rfl (enters_of Tryz.func78 (by kernel_rfl) rfl)
    hit (Keep.refl _ _) (fun b hb => (hRl b hb).2) (fun x args G W h => by obtain ⟨v, rfl, _⟩ := h; rfl)
    (PthI w W1) (Host.EvX W1 (PthE w l)) (PthI_abide hs1) (Host.EvX_abide ?e2)
    ⟨[], .slice none 0 0, [], b0, b1, b2, b3, RowsOf.nil _ _, (fun _ _ h => h), (fun _ h => h.elim), Keep.refl _ _, Lib.hid rfl, Nat.zero_le _, hB1⟩ ?round ?done ?stop
  case e2 =>
    rintro pre A B hk ⟨h1, h2, h3, h4⟩
    exact ⟨hk.boxed h1 (by omega), hk.boxed h2 (by omega), h3, h4.trans ((hk.mono fun b _ hb => by omega).below h4.size)⟩
  case round =>
    rintro ll pre ⟨xi, x⟩ rest Pv G args Wr hll hxs ⟨cs, v, vs, hE0, hE1, hE2, hE3, hR, hnk, hge, hK1, HF, hcl, hE8⟩ hPl hGl hPb hGP ⟨p, rfl, hp, rfl⟩
    have hxm : (xi, x) ∈ xs := by rw [hxs]; simp
    have hxl := hsmall _ hxm
    have hxi := hnum pre (xi, x) rest hxs
    simp only at hxl hp hxi
    subst hxi
    obtain ⟨qx, cx, rfl, _, hnc, hcm, hbs, hblk⟩ := row_open hp
    have hlen : pre.length + rest.length + 1 = xs.length := by rw [hxs]; simp; omega
    gi_wp2
    refine ⟨Keep.refl _ _, fun W2 hk2 hs2 r hr => ?_⟩
    have k2 : Keep (fun b => b < W1.heap.size) Wr W2 := hk2.mono fun b _ hb h => by omega
    have kP : Keep (fun b => ¬ Pv b) Wr W2 := hk2.mono fun b _ hb h => hb (h ▸ hPl)
    have f0 := k2.boxed hE0 (by omega)
    have f1 := k2.boxed hE1 (by omega)
    have f2 := k2.boxed hE2 (by omega)
    have f3 := k2.boxed hE3 (by omega)
    have hR2 := hR.keep kP hnk
    have gx : Keep (fun b => (Value.slice qx x.length cx).ownBlock = some b) Wr W2 := hk2.mono fun b _ hb h => hGl (h ▸ hb)
    have hbs2 : Lib.BytesIn W2 qx x.length (Lib.numsL x) := bytes_keep hbs gx (fun a ha _ => (hblk a ha).2.2)
    have hW2 := hE8.trans ((k2.mono fun b _ h => by omega).below hE8.size)
    have hs2' := hE8.size
    have hK2 := hK1.trans (hk2.mono fun _ _ h => h.elim)
    have hPl2 : ∀ b, Pv b → b < W2.heap.size := fun b hb => by rw [hs2]; exact hPb b hb
    have con2 := Pct.Canon_any qx x.length cx x 1 W2 rfl (by omega) hbs2
    have hszW := hW2.size
    have hs12 := hK2.size
    clear hbs hp hbs2 hblk hk2 gx hE0 hE1 hE2 hE3 hR kP k2 hK1 hE8
    by_cases hp0 : pre = []
    · have e0 : ((pre.length : Int) == 0) = true := by rw [beq_iff_eq, hp0]; rfl
      have HF2 := Lib.hid (show formsL (tailsX (pre ++ [(pre.length, x)])) = some cs by rw [hp0, tails_one]; have := HF.out; rw [hp0] at this; exact this)
      have hcl2 : cs.length ≤ (pre ++ [(pre.length, x)]).length := by rw [List.length_append]; omega
      clear con2 hxs
      gi_wp2
      exact ⟨Keep.refl _ _, cs, v, vs, f0, f1, f2, f3, hR2, fun b hb h => hnk b hb h.1, fun b hb => hge b hb.1, hK2, HF2, hcl2, hW2⟩
    · have e0 : ((pre.length : Int) == 0) = false := by
        rw [beq_eq_false_iff_ne]
        have := List.length_pos_iff.2 hp0
        omega
      have HXS := Lib.hid (show tailsX xs = tailsX pre ++ x :: rest.map Prod.snd by
        rw [hxs]; unfold tailsX
        rw [List.map_append, List.tail_append_of_ne_nil (by simpa using hp0)]; rfl)
      have HTS1 := Lib.hid (tails_snoc pre (pre.length, x) hp0)
      clear hxs hp0
      cases hf : formL 1 x with
      | none =>
        have HPN := Lib.hid (show pathL l = none by rw [HPS.out, ← HTS.out, HXS.out, forms_bad _ _ _ hf]; rfl)
        have hf' : (Pct.itemsL x).map (Pct.canL 1) = none := hf
        rw [hf'] at con2
        clear hf hf' HXS HTS1
        gi_wp2_with fail
        refine ⟨trivial, rfl, (CallsIn.inRound ll (callsIn_wide.2 con2)).mono ?_⟩
        rintro e W3 ⟨v3, n3, rfl, hn3, hr3, hb3⟩
        obtain rfl : n3 = 2 := hn3.out
        obtain ⟨q3, c3, rfl, _, _, _, _, _⟩ := row_open hr3
        have g0 := (Keep.of_below hb3).boxed f0 f0.lt
        have g1 := (Keep.of_below hb3).boxed f1 f1.lt
        have x0 := g0.cell
        have x1 := g1.cell
        have z0 := g0.frozen
        have z1 := g1.frozen
        have hW3 := hW2.trans (hb3.mono hszW)
        clear con2 hr3 hn3 f2 f3 hR2
        gi_wp2
        have kst : ∀ S : Nat → Prop, ¬ S w.heap.size → ¬ S (w.heap.size + 1) → Keep S W3 ((W3.setCell ⟨w.heap.size, 0, none⟩ (.slice none 0 0)).setCell ⟨w.heap.size + 1, 0, none⟩ (.int .i64 2)) := fun S h h' => (Keep.setCell _ _ _ h).trans (Keep.setCell _ _ _ h')
        refine ⟨((Keep.of_below hb3).mono fun b hb _ => hb).trans (kst _ (fun h => ?_) (fun h => ?_)), rfl, fun b hb => hge b hb.1, (hK2.trans ((Keep.of_below hb3).mono fun _ _ h => h.elim)).trans (kst _ (fun h => h) (fun h => h)), ?_, ?_, HPN.out, ?_⟩
        · rcases h with h | h
          · have := (hRl _ h).1; omega
          · have := hge _ h.1; omega
        · rcases h with h | h
          · have := (hRl _ h).1; omega
          · have := hge _ h.1; omega
        · exact (Keep.setCell (S := fun b => b = w.heap.size) _ ⟨w.heap.size + 1, 0, none⟩ _ (by simp)).boxed (g0.set _) rfl
        · exact ((Keep.setCell (S := fun b => b = w.heap.size + 1) W3 ⟨w.heap.size, 0, none⟩ _ (by simp)).boxed g1 rfl).set _
        · exact (hW3.setCell (p := ⟨w.heap.size, 0, none⟩) (Nat.le_refl _) _).setCell (p := ⟨w.heap.size + 1, 0, none⟩) (Nat.le_succ _) _
      | some cc =>
        have hf' : (Pct.itemsL x).map (Pct.canL 1) = some cc := hf
        rw [hf'] at con2
        have HF2 := Lib.hid (show formsL (tailsX (pre ++ [(pre.length, x)])) = some (cs ++ [cc]) by rw [HTS1.out]; exact forms_snoc _ _ _ _ HF.out hf)
        have hcl2 : (cs ++ [cc]).length ≤ (pre ++ [(pre.length, x)]).length := by rw [List.length_append, List.length_append]; simp; omega
        have hkl := stack_len cs []
        clear hf hf' HXS HTS1 HF
        obtain ⟨qv, cv, rfl, hv1, hv2⟩ := rows_slice hR2
        obtain ⟨ks, hks⟩ : ∃ ks, stackL [] cs = ks := ⟨_, rfl⟩
        rw [hks] at hR2 hv1 hkl hnk f2
        have HKS := Lib.hid hks
        have HSN := Lib.hid (stack_snoc cs cc)
        rw [hks] at HSN
        have HLN := Lib.hid (last_snoc cs cc)
        obtain ⟨m, hm⟩ : ∃ m, ks.length = m := ⟨_, rfl⟩
        rw [hm] at hv1 hkl hnk f2 hR2
        have HM := Lib.hid hm
        simp only [List.length_nil, Nat.zero_add] at hkl
        clear hks
        gi_wp2_with fail
        refine ⟨trivial, rfl, (CallsIn.inRound ll (callsIn_wide.2 con2)).mono ?_⟩
        rintro e W3 ⟨v3, n3, rfl, hn3, hr3, hb3⟩
        obtain rfl : n3 = 0 := hn3.out
        replace hr3 : W3.ownsRow W2.heap.size 5 1 v3 cc.length (byV cc) := hr3
        obtain ⟨q3, c3, rfl, _, _, _, hbb, hblk3⟩ := row_open hr3
        have hcv := conv_bytes (c := c3) hbb rfl
        have g0 := (Keep.of_below hb3).boxed f0 f0.lt
        have g1 := (Keep.of_below hb3).boxed f1 f1.lt
        have g2 := (Keep.of_below hb3).boxed f2 f2.lt
        have g3 := (Keep.of_below hb3).boxed f3 f3.lt
        have hR3 := hR2.keep (Keep.of_below hb3) (fun b hb => (hR2.lt b hb).2)
        have x2 := g2.cell
        have x3 := g3.cell
        have z2 := g2.frozen
        have z3 := g3.frozen
        have hW3 := hW2.trans (hb3.mono hszW)
        have hs23 := hb3.size
        have hK3 : Keep (fun _ => False) W1 W3 := hK2.trans ((Keep.of_below hb3).mono fun _ _ h => h.elim)
        have hkk : Keep (fun b => RB b ∨ Pv b ∧ ¬(Value.slice qx x.length cx).ownBlock = some b) W2 W3 := (Keep.of_below hb3).mono fun b hb _ => hb
        have hPl3 : ∀ b, Pv b → b < W2.heap.size := hPl2
        have hnb : ∀ b, b < w.heap.size + 4 → ¬ (RB b ∨ Pv b ∧ ¬(Value.slice qx x.length cx).ownBlock = some b) := fun b hb h => by
          rcases h with h | h
          · have := (hRl _ h).1; omega
          · have := hge _ h.1; omega
        clear con2 hn3 f0 f1 f2 f3 hR2 hbb hblk3
        by_cases h1 : cc = [46]
        · have e1 : (cc == ([46] : List UInt8)) = true := by rw [beq_iff_eq]; exact h1
          have HSK := Lib.hid (show stackL [] (cs ++ [cc]) = ks by rw [HSN.out, if_pos h1])
          have HDT := Lib.hid (show dotB ((cs ++ [cc]).getLastD []) = true by rw [HLN.out, h1]; decide)
          clear h1 HSN HLN
          gi_wp2
          have kst : ∀ S : Nat → Prop, ¬ S (w.heap.size + 1 + 1 + 1) → Keep S W3 (W3.setCell ⟨w.heap.size + 1 + 1 + 1, 0, none⟩ (.bool true)) := fun S h => Keep.setCell _ _ _ h
          refine ⟨hkk.trans (kst _ (hnb _ (by omega))), cs ++ [cc], _, vs, (kst (fun b => b = w.heap.size) (by omega)).boxed g0 rfl, (kst (fun b => b = w.heap.size + 1) (by omega)).boxed g1 rfl, (kst (fun b => b = w.heap.size + 1 + 1) (by omega)).boxed g2 rfl, ?_, ?_, fun b hb h => hnk b hb h.1, fun b hb => hge b hb.1, hK3.trans (kst _ (fun h => h)), HF2, hcl2, hW3.setCell (p := ⟨w.heap.size + 1 + 1 + 1, 0, none⟩) (show w.heap.size ≤ w.heap.size + 1 + 1 + 1 by omega) _⟩
          · rw [HDT.out]; exact g3.set _
          · rw [HSK.out]; exact hR3.keep (kst (fun b => b ≠ w.heap.size + 1 + 1 + 1) (fun h => h rfl)) (fun b hb => by have := (hR3.lt b hb).1; omega)
        · have e1 : (cc == ([46] : List UInt8)) = false := by rw [beq_eq_false_iff_ne]; exact h1
          by_cases h2 : cc = [46, 46]
          · have e2 : (cc == ([46, 46] : List UInt8)) = true := by rw [beq_iff_eq]; exact h2
            have HSK := Lib.hid (show stackL [] (cs ++ [cc]) = ks.dropLast by rw [HSN.out, if_neg h1, if_pos h2])
            have HDT := Lib.hid (show dotB ((cs ++ [cc]).getLastD []) = true by rw [HLN.out, h2]; decide)
            have hmx : (max ((m : Int) - 1) 0).toNat = m - 1 := by omega
            have HMX := Lib.hid hmx
            clear h1 h2 HSN HLN hmx
            gi_wp2
            rw [HMX.out]
            have kst : ∀ S : Nat → Prop, ¬ S (w.heap.size + 1 + 1) → ¬ S (w.heap.size + 1 + 1 + 1) → Keep S W3 ((W3.setCell ⟨w.heap.size + 1 + 1, 0, none⟩ (.slice qv (m - 1) cv)).setCell ⟨w.heap.size + 1 + 1 + 1, 0, none⟩ (.bool true)) := fun S h h' => (Keep.setCell _ _ _ h).trans (Keep.setCell _ _ _ h')
            have hRd := (hR3.dropLast).2
            refine ⟨hkk.trans (kst _ (hnb _ (by omega)) (hnb _ (by omega))), cs ++ [cc], _, vs.dropLast, (kst (fun b => b = w.heap.size) (by omega) (by omega)).boxed g0 rfl, (kst (fun b => b = w.heap.size + 1) (by omega) (by omega)).boxed g1 rfl,
              (Keep.setCell (S := fun b => b = w.heap.size + 1 + 1) _ ⟨w.heap.size + 1 + 1 + 1, 0, none⟩ _ (by simp)).boxed (g2.set _) rfl, ?_, ?_, fun b hb h => hnk b ?_ h.1, fun b hb => hge b hb.1, hK3.trans (kst _ (fun h => h) (fun h => h)), HF2, hcl2,
              (hW3.setCell (p := ⟨w.heap.size + 1 + 1, 0, none⟩) (show w.heap.size ≤ w.heap.size + 1 + 1 by omega) _).setCell (p := ⟨w.heap.size + 1 + 1 + 1, 0, none⟩) (show w.heap.size ≤ w.heap.size + 1 + 1 + 1 by omega) _⟩
            · rw [HDT.out]; exact ((Keep.setCell (S := fun b => b = w.heap.size + 1 + 1 + 1) W3 ⟨w.heap.size + 1 + 1, 0, none⟩ _ (by simp)).boxed g3 rfl).set _
            · rw [HSK.out]; exact hRd.keep (kst (fun b => b ≠ w.heap.size + 1 + 1 ∧ b ≠ w.heap.size + 1 + 1 + 1) (fun h => h.1 rfl) (fun h => h.2 rfl)) (fun b hb => by have := (hRd.lt b hb).1; omega)
            · rcases hb with hb | ⟨y, hy, hb⟩
              · exact .inl ((own_len qv _ _ _ _).symm.trans hb)
              · exact .inr ⟨y, List.dropLast_subset _ hy, hb⟩
          · have e2 : (cc == ([46, 46] : List UInt8)) = false := by rw [beq_eq_false_iff_ne]; exact h2
            have HSK := Lib.hid (show stackL [] (cs ++ [cc]) = ks ++ [cc] by rw [HSN.out, if_neg h1, if_neg h2])
            have HDT := Lib.hid (show dotB ((cs ++ [cc]).getLastD []) = false by rw [HLN.out]; unfold dotB; simp [h1, h2])
            clear h1 h2 HSN HLN
            gi_wp2_with (gi_at_builtin; go_must (refine wpListIn_append_own_at _ rfl _ _ 259 rfl W1.heap.size 30 i1 (.slice none 0 0) 1 24 Tryz.underlying259 hi1 hz0 hz1 hz2 rfl (by decide) _ _ _ rfl (hR3.1.alloc _) ⟨W3.heap.size, 0, none⟩ 1 1 [.slice q3 cc.length c3] rfl rfl (cell_one_new _ _ _) (by simp [Value.oneCell']) (by rw [HM.out]; unfold maxLen; omega) (by rw [HM.out]; omega) (by simp; omega) ?_); intro v' w4 hown' hgrow _ hat; obtain ⟨g', cap', rfl⟩ := ownsRow_succ hown'; obtain ⟨hv1', hv2', hr2', hkk'⟩ := Pct.appended_keep (S := fun b => b ≠ w.heap.size + 1 + 1 ∧ ¬ (Value.slice qv m cv).ownBlock = some b) g2 (by decide) hR3.1 (fun h => h.1 rfl) (fun b hb h => h.2 hb) hown' hgrow; have hc1 := hv1'.cell; have hf1 := hv1'.frozen; have hx4 := (g3.alloc (.cells #[.slice q3 cc.length c3] 30)).kept hgrow (g3.not_row (by decide) hR3.1); have hx4c := hx4.cell; have hx4f := hx4.frozen)
            rw [hm] at hkk' hv2' hr2' hat
            have hol : ∀ b, (Value.slice qv m cv).ownBlock = some b → W1.heap.size ≤ b := fun b hb => (hR3.1.lt b hb).1
            have hx5 := (Keep.setCell (S := fun b => b = w.heap.size + 1 + 1 + 1) w4 ⟨w.heap.size + 1 + 1, 0, none⟩ (.slice (some ⟨g', 0, none⟩) (m + 1) cap') (by simp)).boxed hx4 rfl
            have k35 : ∀ S : Nat → Prop, (∀ b, S b → b ≠ w.heap.size + 1 + 1 ∧ b ≠ w.heap.size + 1 + 1 + 1 ∧ ¬ (Value.slice qv m cv).ownBlock = some b) → Keep S W3 ((w4.setCell ⟨w.heap.size + 1 + 1, 0, none⟩ (.slice (some ⟨g', 0, none⟩) (m + 1) cap')).setCell ⟨w.heap.size + 1 + 1 + 1, 0, none⟩ (.bool false)) := fun S hS =>
              (hkk'.mono fun b _ hb => ⟨(hS b hb).1, (hS b hb).2.2⟩).trans (Keep.setCell _ _ _ fun h => (hS _ h).2.1 rfl)
            have hs14 : w.heap.size + 4 ≤ W1.heap.size := hs1
            have hlt2 : (vs ++ [Value.slice q3 cc.length c3]).length = (ks ++ [cc]).length := by rw [List.length_append, List.length_append, hR3.len]; rfl
            have hvl := hR3.len
            refine ⟨hkk.trans (k35 _ fun b hb => ?_), cs ++ [cc], _, vs ++ [.slice q3 cc.length c3], (k35 (fun b => b = w.heap.size) (fun b hb => ⟨by omega, by omega, fun h => by have := hol b h; omega⟩)).boxed g0 rfl, (k35 (fun b => b = w.heap.size + 1) (fun b hb => ⟨by omega, by omega, fun h => by have := hol b h; omega⟩)).boxed g1 rfl,
              (Keep.setCell (S := fun b => b = w.heap.size + 1 + 1) _ ⟨w.heap.size + 1 + 1 + 1, 0, none⟩ _ (by simp)).boxed hv2' rfl, ?_, ?_, ?_, fun b hb => hge b hb.1, hK3.trans (k35 _ fun b hb => hb.elim), HF2, hcl2, hW3.trans ((k35 (fun b => b < w.heap.size) (fun b hb => ⟨by omega, by omega, fun h => by have := hol b h; omega⟩)).below hW3.size)⟩
            · refine ⟨fun h => hnb b (by omega) hb, fun h => hnb b (by omega) hb, fun h => ?_⟩
              rcases hb with hb | hb
              · have := (hRl b hb).2; have := hol b h; omega
              · exact hnk b (.inl h) hb.1
            · rw [HDT.out]; exact hx5.set _
            · rw [HSK.out]
              refine ⟨?_, fun i y k hi hk => ?_⟩
              · rw [List.length_append, HM.out]
                exact (Keep.setCell (S := fun b => b ≠ w.heap.size + 1 + 1 + 1) _ ⟨w.heap.size + 1 + 1 + 1, 0, none⟩ _ (fun h => h rfl)).row hr2' (fun b hb => by have := (hr2'.lt b hb).1; omega)
              · have keepRow : ∀ (z : Value) (kz : List UInt8), W3.ownsRow W1.heap.size 5 1 z kz.length (byV kz) → ((w4.setCell ⟨w.heap.size + 1 + 1, 0, none⟩ (.slice (some ⟨g', 0, none⟩) (m + 1) cap')).setCell ⟨w.heap.size + 1 + 1 + 1, 0, none⟩ (.bool false)).ownsRow W1.heap.size 5 1 z kz.length (byV kz) := fun z kz hz =>
                  (k35 (fun b => z.ownBlock = some b) fun b hb => ⟨by have := (hz.lt b hb).1; omega, by have := (hz.lt b hb).1; omega, fun h => byte_row_ne hR3.1 hz h hb⟩).row hz (fun b hb => hb)
                rcases Nat.lt_or_ge i vs.length with hlt | hlt
                · rw [List.getElem?_append_left hlt] at hi
                  rw [List.getElem?_append_left (by omega)] at hk
                  exact keepRow y k (hR3.2 i y k hi hk)
                · rw [List.getElem?_append_right hlt] at hi
                  rw [List.getElem?_append_right (by omega)] at hk
                  have hi0 : i - vs.length = 0 := by
                    have := (List.getElem?_eq_some_iff.1 hi).1
                    simpa using this
                  rw [hi0] at hi
                  rw [show i - ks.length = 0 by omega] at hk
                  cases hi
                  cases hk
                  exact keepRow _ _ (row_base hr3 hs12)
            · rintro b (hb | ⟨y, hy, hb⟩) h
              · rcases hat with h' | h'
                · exact hnk b (.inl (h' ▸ hb)) h.1
                · rw [h'] at hb
                  cases hb
                  have := hPl3 _ h.1
                  simp at this
                  omega
              · rcases List.mem_append.1 hy with hy | hy
                · exact hnk b (.inr ⟨y, hy, hb⟩) h.1
                · rw [List.mem_singleton.1 hy] at hb
                  have h5 := (hr3.lt b hb).1
                  have h6 := hPl3 b h.1
                  omega
  case done =>
    rintro D Pv Wd hD hPD hPl ⟨cs, v, vs, hE0, hE1, hE2, hE3, hR, hnk, hge, hK1, HF, hcl, hE8⟩ hK
    have hF := HF.out
    rw [HTS.out] at hF
    have HP := Lib.hid (show pathL l = some (47 :: Ref.joinL 47 (dotsL cs)) by rw [HPS.out, hF]; rfl)
    have hw1 := weight_forms _ _ hF
    have hw2 : weightL (Ref.splitL 47 l).tail ≤ weightL (Ref.splitL 47 l) := by
      cases Ref.splitL 47 l with
      | nil => exact Nat.le_refl _
      | cons p r => rw [List.tail_cons, weightL]; omega
    have hw3 := weight_dots cs
    have hwd : weightL (dotsL cs) ≤ 4194304 := by have := HWT.out; have := HL.out; omega
    have hwj := weight_join 47 (dotsL cs)
    obtain ⟨qv, cv, rfl, hv1, hv2⟩ := rows_slice hR
    have HDL := Lib.hid (show dotsL cs = stackL [] cs ++ (if dotB (cs.getLastD []) = true then [[]] else []) from rfl)
    have hkl := stack_len cs []
    have hcx : cs.length ≤ n + 1 := Nat.le_trans hcl hlenX
    obtain ⟨ks, hks⟩ : ∃ ks, stackL [] cs = ks := ⟨_, rfl⟩
    rw [hks] at hR hv1 hkl hnk hE2
    have HKS := Lib.hid hks
    simp only [List.length_nil, Nat.zero_add] at hkl
    have hDl := hPl D hPD
    have hszd := hE8.size
    have hs1d := hK1.size
    have hgD := hge D hPD
    have y0 := hE0.cell
    have y1 := hE1.cell
    have y2 := hE2.cell
    have y3 := hE3.cell
    have u0 := hE0.frozen
    have u1 := hE1.frozen
    have u2 := hE2.frozen
    clear hks hF hw1 hw2 hw3 HF HTS HPS HWT hcl hlenX
    generalize dotB (cs.getLastD []) = dt at *
    cases dt with
    | false =>
      have HDK := Lib.hid (show dotsL cs = ks by rw [HDL.out, HKS.out]; simp)
      rw [HDK.out] at hwd hwj
      rw [HDK.out] at HP
      clear HDK HDL HKS
      have z2 : ∀ o, (Wd.alloc o).cell? ⟨w.heap.size + 1 + 1, 0, none⟩ = some (.slice qv ks.length cv) := fun o => (hE2.alloc o).cell
      have hlit := by_lit Wd #[.int .u8 47] [47] (0, 0) 1 rfl rfl (by decide)
      have hown := own_lit Wd 47
      have hBl := (Below.refl Wd.heap.size Wd).alloc (Nat.le_refl _) (.cells #[.int .u8 47] 5)
      have conJ := Join_any W1.heap.size cv (ks.length) qv (vs) (ks) (.slice (some ⟨Wd.heap.size, 0, none⟩) 1 1) (Wd.alloc (.cells #[.int .u8 47] 5)) (hR.keep (Keep.alloc (fun _ => True) _ _) (fun _ _ => trivial)) hlit (by omega)
      have hWs : (Wd.alloc (.cells #[.int .u8 47] 5)).heap.size = Wd.heap.size + 1 := by simp
      gi_wp2_with fail
      refine ⟨trivial, (callsIn_wide.2 conJ).mono ?_⟩
      rintro e V ⟨v5, rfl, hJ, hb5⟩
      have hownV := (Keep.of_below hb5).row hown (fun k hk => (hown.lt k hk).2)
      have hbV := hBl.trans (hb5.mono hBl.size)
      have hVs := hb5.size
      have r0 := (Keep.of_below hbV).boxed hE0 hE0.lt
      have r1 := (Keep.of_below hbV).boxed hE1 hE1.lt
      have rD := (hbV.block D (Array.getElem?_eq_some_iff.1 hK).1).trans hK
      have hE8V := hE8.trans (hbV.mono hE8.size)
      have l0 := (Array.getElem?_eq_some_iff.1 hK).1
      clear conJ hown hlit hb5 z2 hBl
      gi_wp2_with (gi_at_builtin; go_must (refine wpListIn_append_by rfl _ _ rfl Wd.heap.size _ 1 _ rfl hownV _ _ rfl hJ (by omega) hbV.size ?_); intro v6 X hr6 hg6; rw [← byV_app] at hr6; obtain ⟨q6, c6, rfl, _⟩ := row_open hr6; have k6 : ∀ S : Nat → Prop, (∀ b, S b → b < Wd.heap.size) → Keep S V X := (fun S hS => Keep.of_grownBy hg6 fun b hb h => (by have h1 := (hownV.lt b hb).1; have h2 := hS b h; omega)); have s0 := (k6 (fun b => b = w.heap.size) (fun b hb => by have := hE0.lt; omega)).boxed r0 rfl; have s1 := (k6 (fun b => b = w.heap.size + 1) (fun b hb => by have := hE1.lt; omega)).boxed r1 rfl; have sc0 := s0.cell; have sc1 := s1.cell; have sf0 := s0.frozen; have sf1 := s1.frozen)
      have k7 : ∀ S : Nat → Prop, ¬ S w.heap.size → ¬ S (w.heap.size + 1) → Keep S X ((X.setCell ⟨w.heap.size, 0, none⟩ (.slice q6 (1 + (Ref.joinL 47 (ks)).length) c6)).setCell ⟨w.heap.size + 1, 0, none⟩ (.int .i64 0)) := fun S h h' => (Keep.setCell _ _ _ h).trans (Keep.setCell _ _ _ h')
      have k8 : ∀ (S : Nat → Prop) (Y : World), ¬ S D → Keep S Y (Y.putObj D (.deferred none)) := fun S Y h => Keep.putObj _ _ _ h
      have hKd : ((X.setCell ⟨w.heap.size, 0, none⟩ (.slice q6 (1 + (Ref.joinL 47 (ks)).length) c6)).setCell ⟨w.heap.size + 1, 0, none⟩ (.int .i64 0)).heap[D]? = some (.deferred (some [])) := ((k6 (fun b => b = D) (fun b hb => by rw [hb]; exact l0)).trans (k7 (fun b => b = D) (by omega) (by omega))).heap rfl rD
      have q0 : Boxed ((X.setCell ⟨w.heap.size, 0, none⟩ (.slice q6 (1 + (Ref.joinL 47 (ks)).length) c6)).setCell ⟨w.heap.size + 1, 0, none⟩ (.int .i64 0)) w.heap.size 30 (.slice q6 (1 + (Ref.joinL 47 (ks)).length) c6) := (Keep.setCell (S := fun b => b = w.heap.size) _ ⟨w.heap.size + 1, 0, none⟩ _ (by simp)).boxed (s0.set _) rfl
      have q1 : Boxed ((X.setCell ⟨w.heap.size, 0, none⟩ (.slice q6 (1 + (Ref.joinL 47 (ks)).length) c6)).setCell ⟨w.heap.size + 1, 0, none⟩ (.int .i64 0)) (w.heap.size + 1) 40 (.int .i64 0) := ((Keep.setCell (S := fun b => b = w.heap.size + 1) X ⟨w.heap.size, 0, none⟩ _ (by simp)).boxed s1 rfl).set _
      refine ⟨by simp, .inl ⟨_, _, rfl, run_takeDeferred hKd, ?_⟩⟩
      refine ⟨_, results_path rfl _ _ w.heap.size (w.heap.size + 1) _ _ rfl rfl ((k8 (fun b => b = w.heap.size) _ (by omega)).boxed q0 rfl).cell ((k8 (fun b => b = w.heap.size + 1) _ (by omega)).boxed q1 rfl).cell, ?_⟩
      rw [HP.out]
      have hk9 : ∀ S : Nat → Prop, ¬ S w.heap.size → ¬ S (w.heap.size + 1) → ¬ S D → Keep S X (((X.setCell ⟨w.heap.size, 0, none⟩ (.slice q6 (1 + (Ref.joinL 47 (ks)).length) c6)).setCell ⟨w.heap.size + 1, 0, none⟩ (.int .i64 0)).putObj D (.deferred none)) := fun S h h' h'' => (k7 S h h').trans (k8 S _ h'')
      refine ⟨_, 0, rfl, Lib.hid rfl, ?_, ?_⟩
      · have hfin : (47 :: Ref.joinL 47 (ks)).length = 1 + (Ref.joinL 47 (ks)).length := by rw [List.length_cons]; omega
        show World.ownsRow _ w.heap.size 5 1 (.slice q6 (1 + (Ref.joinL 47 (ks)).length) c6) (47 :: Ref.joinL 47 (ks)).length (byV (47 :: Ref.joinL 47 (ks)))
        rw [hfin]
        exact row_base ((hk9 (fun b => Wd.heap.size ≤ b) (by have := hE0.lt; omega) (by have := hE1.lt; omega) (by omega)).row hr6 (fun b hb => (hr6.lt b hb).1)) (by have := hE0.lt; omega)
      · exact hE8V.trans (((k6 (fun b => b < w.heap.size) (fun b hb => by have := hE0.lt; omega)).trans (hk9 (fun b => b < w.heap.size) (by omega) (by omega) (by omega))).below hE8V.size)
    | true =>
      have HDK := Lib.hid (show dotsL cs = ks ++ [[]] by rw [HDL.out, HKS.out]; simp)
      rw [HDK.out] at hwd hwj
      rw [HDK.out] at HP
      clear HDK HDL HKS
      have hnb2 := hR.not_box hE2 (by decide) (by decide)
      gi_wp2_with (gi_at_builtin; go_must (refine wpListIn_append_own_at _ rfl _ _ 259 rfl W1.heap.size 30 i1 (.slice none 0 0) 1 24 Tryz.underlying259 hi1 hz0 hz1 hz2 rfl (by decide) _ _ _ rfl (hR.1.alloc _) ⟨Wd.heap.size, 0, none⟩ 1 1 [.slice none 0 0] rfl rfl (cell_one_new _ _ _) (by simp [Value.oneCell']) (by unfold maxLen; omega) (by omega) (by simp; omega) ?_); intro v' w4 hown' hgrow _ hat; obtain ⟨g', cap', rfl⟩ := ownsRow_succ hown'; obtain ⟨hv1', hv2', hr2', hkk'⟩ := Pct.appended_keep (S := fun b => b ≠ w.heap.size + 1 + 1 ∧ ¬ (Value.slice qv ks.length cv).ownBlock = some b) hE2 (by decide) hR.1 (fun h => h.1 rfl) (fun b hb h => h.2 hb) hown' hgrow; have hc1 := hv1'.cell; have hf1 := hv1'.frozen; have z4 : ∀ o, ((w4.setCell ⟨w.heap.size + 1 + 1, 0, none⟩ (.slice (some ⟨g', 0, none⟩) (ks.length + 1) cap')).alloc o).cell? ⟨w.heap.size + 1 + 1, 0, none⟩ = some (.slice (some ⟨g', 0, none⟩) (ks.length + 1) cap') := fun o => (hv2'.alloc o).cell)
      obtain ⟨Wc, hWc⟩ : ∃ Wc, w4.setCell ⟨w.heap.size + 1 + 1, 0, none⟩ (.slice (some ⟨g', 0, none⟩) (ks.length + 1) cap') = Wc := ⟨_, rfl⟩
      have hWcs : Wc.heap.size = w4.heap.size := by rw [← hWc]; simp [World.setCell]
      rw [hWc, ← hWcs]
      rw [hWc] at hv2' hr2' hkk' z4
      clear hWc hWcs hc1 hf1 z4 hv1' hown' hgrow
      have hol : ∀ b, (Value.slice qv ks.length cv).ownBlock = some b → W1.heap.size ≤ b := fun b hb => (hR.1.lt b hb).1
      have hC0 := hkk'.boxed hE0 ⟨by omega, fun h => by have := hol _ h; omega⟩
      have hC1 := hkk'.boxed hE1 ⟨by omega, fun h => by have := hol _ h; omega⟩
      have hC2 := hv2'
      have hCK := hkk'.heap ⟨by omega, fun h => hnk D (.inl h) hPD⟩ hK
      have hCE := hE8.trans ((hkk'.mono fun b _ hb => show b ≠ w.heap.size + 1 + 1 ∧ ¬ (Value.slice qv ks.length cv).ownBlock = some b from ⟨by omega, fun h => by have := hol _ h; omega⟩).below hE8.size)
      have hCl := hkk'.size
      have hvl := hR.len
      have hCR : RowsOf Wc W1.heap.size (.slice (some ⟨g', 0, none⟩) (ks.length + 1) cap') (vs ++ [Value.slice none 0 0]) (ks ++ [[]]) := by
        refine ⟨by rw [List.length_append]; exact hr2', fun i y k hi hk => ?_⟩
        rcases Nat.lt_or_ge i vs.length with hlt | hlt
        · rw [List.getElem?_append_left hlt] at hi
          rw [List.getElem?_append_left (by omega)] at hk
          have hz := hR.2 i y k hi hk
          exact (hkk'.mono fun b _ hb => show b ≠ w.heap.size + 1 + 1 ∧ ¬ (Value.slice qv ks.length cv).ownBlock = some b from ⟨by have := (hz.lt b hb).1; omega, fun h => byte_row_ne hR.1 hz h hb⟩).row hz (fun b hb => hb)
        · rw [List.getElem?_append_right hlt] at hi
          rw [List.getElem?_append_right (by omega)] at hk
          have hi0 : i - vs.length = 0 := by
            have := (List.getElem?_eq_some_iff.1 hi).1
            simpa using this
          rw [hi0] at hi
          rw [show i - ks.length = 0 by omega] at hk
          cases hi
          cases hk
          exact World.ownsRow_nil _ _ _ _
      have hszd' := Nat.le_trans hszd hCl
      clear hkk' hr2' hv2' hat hR hol hvl
      have z2 : ∀ o, (Wc.alloc o).cell? ⟨w.heap.size + 1 + 1, 0, none⟩ = some (.slice (some ⟨g', 0, none⟩) (ks.length + 1) cap') := fun o => (hC2.alloc o).cell
      have hlit := by_lit Wc #[.int .u8 47] [47] (0, 0) 1 rfl rfl (by decide)
      have hown := own_lit Wc 47
      have hBl := (Below.refl Wc.heap.size Wc).alloc (Nat.le_refl _) (.cells #[.int .u8 47] 5)
      have conJ := Join_any W1.heap.size cap' (ks.length + 1) (some ⟨g', 0, none⟩) (vs ++ [Value.slice none 0 0]) (ks ++ [[]]) (.slice (some ⟨Wc.heap.size, 0, none⟩) 1 1) (Wc.alloc (.cells #[.int .u8 47] 5)) (hCR.keep (Keep.alloc (fun _ => True) _ _) (fun _ _ => trivial)) hlit (by omega)
      have hWs : (Wc.alloc (.cells #[.int .u8 47] 5)).heap.size = Wc.heap.size + 1 := by simp
      refine ⟨trivial, (callsIn_wide.2 conJ).mono ?_⟩
      rintro e V ⟨v5, rfl, hJ, hb5⟩
      have hownV := (Keep.of_below hb5).row hown (fun k hk => (hown.lt k hk).2)
      have hbV := hBl.trans (hb5.mono hBl.size)
      have hVs := hb5.size
      have r0 := (Keep.of_below hbV).boxed hC0 hC0.lt
      have r1 := (Keep.of_below hbV).boxed hC1 hC1.lt
      have rD := (hbV.block D (Array.getElem?_eq_some_iff.1 hCK).1).trans hCK
      have hE8V := hCE.trans (hbV.mono hCE.size)
      have l0 := (Array.getElem?_eq_some_iff.1 hCK).1
      clear conJ hown hlit hb5 z2 hBl
      gi_wp2_with (gi_at_builtin; go_must (refine wpListIn_append_by rfl _ _ rfl Wc.heap.size _ 1 _ rfl hownV _ _ rfl hJ (by omega) hbV.size ?_); intro v6 X hr6 hg6; rw [← byV_app] at hr6; obtain ⟨q6, c6, rfl, _⟩ := row_open hr6; have k6 : ∀ S : Nat → Prop, (∀ b, S b → b < Wc.heap.size) → Keep S V X := (fun S hS => Keep.of_grownBy hg6 fun b hb h => (by have h1 := (hownV.lt b hb).1; have h2 := hS b h; omega)); have s0 := (k6 (fun b => b = w.heap.size) (fun b hb => by have := hC0.lt; omega)).boxed r0 rfl; have s1 := (k6 (fun b => b = w.heap.size + 1) (fun b hb => by have := hC1.lt; omega)).boxed r1 rfl; have sc0 := s0.cell; have sc1 := s1.cell; have sf0 := s0.frozen; have sf1 := s1.frozen)
      have k7 : ∀ S : Nat → Prop, ¬ S w.heap.size → ¬ S (w.heap.size + 1) → Keep S X ((X.setCell ⟨w.heap.size, 0, none⟩ (.slice q6 (1 + (Ref.joinL 47 (ks ++ [[]])).length) c6)).setCell ⟨w.heap.size + 1, 0, none⟩ (.int .i64 0)) := fun S h h' => (Keep.setCell _ _ _ h).trans (Keep.setCell _ _ _ h')
      have k8 : ∀ (S : Nat → Prop) (Y : World), ¬ S D → Keep S Y (Y.putObj D (.deferred none)) := fun S Y h => Keep.putObj _ _ _ h
      have hKd : ((X.setCell ⟨w.heap.size, 0, none⟩ (.slice q6 (1 + (Ref.joinL 47 (ks ++ [[]])).length) c6)).setCell ⟨w.heap.size + 1, 0, none⟩ (.int .i64 0)).heap[D]? = some (.deferred (some [])) := ((k6 (fun b => b = D) (fun b hb => by rw [hb]; exact l0)).trans (k7 (fun b => b = D) (by omega) (by omega))).heap rfl rD
      have q0 : Boxed ((X.setCell ⟨w.heap.size, 0, none⟩ (.slice q6 (1 + (Ref.joinL 47 (ks ++ [[]])).length) c6)).setCell ⟨w.heap.size + 1, 0, none⟩ (.int .i64 0)) w.heap.size 30 (.slice q6 (1 + (Ref.joinL 47 (ks ++ [[]])).length) c6) := (Keep.setCell (S := fun b => b = w.heap.size) _ ⟨w.heap.size + 1, 0, none⟩ _ (by simp)).boxed (s0.set _) rfl
      have q1 : Boxed ((X.setCell ⟨w.heap.size, 0, none⟩ (.slice q6 (1 + (Ref.joinL 47 (ks ++ [[]])).length) c6)).setCell ⟨w.heap.size + 1, 0, none⟩ (.int .i64 0)) (w.heap.size + 1) 40 (.int .i64 0) := ((Keep.setCell (S := fun b => b = w.heap.size + 1) X ⟨w.heap.size, 0, none⟩ _ (by simp)).boxed s1 rfl).set _
      refine ⟨by simp, .inl ⟨_, _, rfl, run_takeDeferred hKd, ?_⟩⟩
      refine ⟨_, results_path rfl _ _ w.heap.size (w.heap.size + 1) _ _ rfl rfl ((k8 (fun b => b = w.heap.size) _ (by omega)).boxed q0 rfl).cell ((k8 (fun b => b = w.heap.size + 1) _ (by omega)).boxed q1 rfl).cell, ?_⟩
      rw [HP.out]
      have hk9 : ∀ S : Nat → Prop, ¬ S w.heap.size → ¬ S (w.heap.size + 1) → ¬ S D → Keep S X (((X.setCell ⟨w.heap.size, 0, none⟩ (.slice q6 (1 + (Ref.joinL 47 (ks ++ [[]])).length) c6)).setCell ⟨w.heap.size + 1, 0, none⟩ (.int .i64 0)).putObj D (.deferred none)) := fun S h h' h'' => (k7 S h h').trans (k8 S _ h'')
      refine ⟨_, 0, rfl, Lib.hid rfl, ?_, ?_⟩
      · have hfin : (47 :: Ref.joinL 47 (ks ++ [[]])).length = 1 + (Ref.joinL 47 (ks ++ [[]])).length := by rw [List.length_cons]; omega
        show World.ownsRow _ w.heap.size 5 1 (.slice q6 (1 + (Ref.joinL 47 (ks ++ [[]])).length) c6) (47 :: Ref.joinL 47 (ks ++ [[]])).length (byV (47 :: Ref.joinL 47 (ks ++ [[]])))
        rw [hfin]
        exact row_base ((hk9 (fun b => Wc.heap.size ≤ b) (by have := hC0.lt; omega) (by have := hC1.lt; omega) (by omega)).row hr6 (fun b hb => (hr6.lt b hb).1)) (by have := hC0.lt; omega)
      · exact hE8V.trans (((k6 (fun b => b < w.heap.size) (fun b hb => by have := hC0.lt; omega)).trans (hk9 (fun b => b < w.heap.size) (by omega) (by omega) (by omega))).below hE8V.size)
  case stop =>
    rintro D cc pre rest Pv Wd hD hPD hPl hxs ⟨rfl, hge, hK1, hE0, hE1, HPN, hE4⟩ hK
    have kp : ∀ (S : Nat → Prop) (W : World), ¬ S D → Keep S W (W.putObj D (.deferred none)) := fun S W h => Keep.putObj _ _ _ h
    clear hxs
    have hgD := hge D hPD
    have hs1d := hK1.size
    gi_wp2
    refine ⟨by simp, .inl ⟨_, _, rfl, run_takeDeferred hK, ?_⟩⟩
    refine ⟨_, results_path rfl _ _ w.heap.size (w.heap.size + 1) _ _ rfl rfl ((kp (fun b => b = w.heap.size) _ (by omega)).boxed hE0 rfl).cell ((kp (fun b => b = w.heap.size + 1) _ (by omega)).boxed hE1 rfl).cell, ?_⟩
    rw [HPN.out]
    exact ⟨_, 2, rfl, Lib.hid rfl, World.ownsRow_nil _ _ _ _, hE4.trans ((kp (fun b => b < w.heap.size) _ (by omega)).below hE4.size)⟩

end Go.Proofs.YtkjkfgmoogbdiaaGreatDoor.Url

namespace Go.Proofs.YtkjkfgmoogbdiaaGreatDoor.Org
open Go.RowKit Go.Shelf Url
attribute [local go_sem] Oper.semAt_some

/-- An origin as a value. -/
def orgV (s h : List UInt8) (p c : Int) : Value := .agg #[.string ⟨s.toArray⟩, .string ⟨h.toArray⟩, .int .i64 p, .int .i64 c]
/-- Block B holds an origin's cells. -/
def OB (B : Nat) (cs : Array Value) (X : World) : Prop := X.heap[B]? = some (.cells cs 184 (0, 0))
theorem OB.box {B : Nat} {cs : Array Value} {X : World} (h : OB B cs X) : Box B cs X := fun i x hx => by
  simp only [World.cell?, show X.heap[B]? = _ from h]; exact hx
theorem OB.frozen {B : Nat} {cs : Array Value} {X : World} (h : OB B cs X) (i : Nat) : X.frozen? ⟨B, i, none⟩ = false := by
  simp [World.frozen?, show X.heap[B]? = _ from h]
theorem OB.on {B : Nat} {cs : Array Value} {X Y : World} (h : OB B cs X) (hk : Below X.heap.size X Y) : OB B cs Y := (hk.block B (Array.getElem?_eq_some_iff.1 h).1).trans h
theorem OB.new (w : World) (cs : Array Value) : OB w.heap.size cs (w.alloc (.cells cs 184)) := World.alloc_heap_new w _
theorem OB.set {B : Nat} {cs : Array Value} {X : World} (h : OB B cs X) (i : Nat) (v : Value) : OB B (cs.setIfInBounds i v) (X.setCell ⟨B, i, none⟩ v) := by
  obtain ⟨hlt, hk⟩ := Array.getElem?_eq_some_iff.1 h
  show (X.heap.modify B _)[B]? = _
  rw [Array.getElem?_eq_getElem (by rw [Array.size_modify]; exact hlt), Array.getElem_modify_self, hk]
  rfl
/-- All four cells set, one by one. -/
theorem OB.put {B : Nat} {X : World} {a0 a1 a2 a3 : Value} (h : OB B #[a0, a1, a2, a3] X) (v0 v1 v2 v3 : Value) :
    ∃ Y, (((X.setCell ⟨B, 0, none⟩ v0).setCell ⟨B, 1, none⟩ v1).setCell ⟨B, 2, none⟩ v2).setCell ⟨B, 3, none⟩ v3 = Y ∧
      OB B #[v0, v1, v2, v3] Y ∧ (∀ S : Nat → Prop, ¬ S B → Keep S X Y) ∧ ∀ M, M ≤ B → Below M X Y := by
  have h8 := (((h.set 0 v0).set 1 v1).set 2 v2).set 3 v3
  simp only [List.setIfInBounds_toArray, List.set_cons_zero, List.set_cons_succ] at h8
  refine ⟨_, rfl, h8, fun S hS => ?_, fun M hM => ?_⟩
  · exact (Keep.setCell _ _ _ hS).trans ((Keep.setCell _ _ _ hS).trans ((Keep.setCell _ _ _ hS).trans (Keep.setCell _ _ _ hS)))
  · exact ((((Below.refl M X).setCell (p := ⟨B, 0, none⟩) hM v0).setCell (p := ⟨B, 1, none⟩) hM v1).setCell (p := ⟨B, 2, none⟩) hM v2).setCell (p := ⟨B, 3, none⟩) hM v3
theorem size_org : (Tryz.prog.info? 184).map (·.size) = some 4 := by kernel_rfl
/-- An origin that lies in the result's cell is handed over. -/
theorem ret_org {fn : Func} {p : Tmp} (h : fn.results = #[.cell p 184]) (tmps : Array Value) (w : World) (B : Nat) (cs : Array Value) (hp : tmps.getD p undef = .pointer (some ⟨B, 0, none⟩)) (hU : OB B cs w) (hs : cs.size = 4) :
    (results fn tmps).run Tryz.prog w = .ok (.agg cs) w :=
  results_cell_row h tmps w B _ cs (0, 0) _ hp hU Tryz.underlying184 rfl (by rw [size_org, hs])
theorem ret_org2 {fn : Func} {p u : Tmp} (h : fn.results = #[.cell p 184, .tmp u]) (tmps : Array Value) (w : World) (B : Nat) (cs : Array Value) (hp : tmps.getD p undef = .pointer (some ⟨B, 0, none⟩)) (hU : OB B cs w) (hs : cs.size = 4) :
    (results fn tmps).run Tryz.prog w = .ok (.tuple #[.agg cs, tmps.getD u undef]) w := by
  rw [results_cell_tmp h, hp]
  simp [asAddr, Result.andThen, run_loadVar_row w B 184 _ cs (0, 0) _ hU Tryz.underlying184 rfl (by rw [size_org, hs])]

/-- '[]byte(s)' of a string: its bytes in new memory. -/
theorem conv_back (w : World) (s : ByteArray) : (convert 9 30 (.string s)).run Tryz.prog w = .ok (.slice (some ⟨w.heap.size, 0, none⟩) s.size (grownCap w s.size 0 5)) (Lib.bytesWorld w 5 s) :=
  Lib.run_convert_string_bytes w 9 30 5 s Tryz.underlying9 Tryz.underlying30 Tryz.underlying5
theorem conv_new (w : World) (l : List UInt8) (hl : l.length ≤ 1099511627776) : ∃ c W, (convert 9 30 (.string ⟨l.toArray⟩)).run Tryz.prog w = .ok (.slice (some ⟨w.heap.size, 0, none⟩) l.length c) W ∧
    By W (.slice (some ⟨w.heap.size, 0, none⟩) l.length c) l ∧ Below w.heap.size w W ∧ W.heap.size = w.heap.size + 1 := by
  refine ⟨_, _, conv_back w ⟨l.toArray⟩, ?_, ⟨rfl, rfl, rfl, by rw [Lib.bytesWorld_size]; omega, fun k hk => Lib.bytesWorld_at_old w _ _ k hk⟩, Lib.bytesWorld_size w _ _⟩
  refine By.of rfl (grownCap_ge w _ _ _) (grownCap_le_maxLen w _ 0 _ (by unfold maxLen; show l.length ≤ _; omega)) (fun h => by cases h) ?_
  exact fun _ => ⟨w.heap.size, 0, rfl, fun i hi => by
    rw [numsL_getD _ i hi, Nat.zero_add]
    exact Lib.bytesWorld_cell w _ ⟨l.toArray⟩ i hi⟩

set_option maxRecDepth 100000 in
set_option maxHeartbeats 8000000 in
/-- A URL's origin. -/
theorem Of_any (u : U) (v : Value) (w : World) (h : UrlIn w v u) :
    Calls Tryz.prog 134 #[v] w fun e w' => e = .returned (orgV u.scheme u.host u.port 0) ∧ Below w.heap.size w w' := by
  obtain ⟨q0, n0, c0, q1, n1, c1, q3, n3, c3, q4, n4, c4, q5, n5, c5, rfl, h0, h1, -, -, -⟩ := h
  obtain ⟨X, hX⟩ : ∃ X, (w.alloc (.cells #[.slice q0 n0 c0, .slice q1 n1 c1, .int .i64 u.port, .slice q3 n3 c3, .slice q4 n4 c4, .slice q5 n5 c5, .bool u.hq, .bool u.hf] 208)).alloc (.cells #[.string ⟨#[]⟩, .string ⟨#[]⟩, .int .i64 0, .int .i64 0] 184) = X := ⟨_, rfl⟩
  have B1 := (Below.refl _ w).alloc (Nat.le_refl _) (.cells #[.slice q0 n0 c0, .slice q1 n1 c1, .int .i64 u.port, .slice q3 n3 c3, .slice q4 n4 c4, .slice q5 n5 c5, .bool u.hq, .bool u.hf] 208)
  have B2 : Below w.heap.size w X := by rw [← hX]; exact B1.alloc B1.size _
  have hb : Box w.heap.size #[.slice q0 n0 c0, .slice q1 n1 c1, .int .i64 u.port, .slice q3 n3 c3, .slice q4 n4 c4, .slice q5 n5 c5, .bool u.hq, .bool u.hf] X := by rw [← hX]; exact (Box.new w _ _).on ((Below.refl _ _).alloc (Nat.le_refl _) _)
  have hO : OB (w.heap.size + 1) #[.string ⟨#[]⟩, .string ⟨#[]⟩, .int .i64 0, .int .i64 0] X := by
    have := OB.new (w.alloc (.cells #[.slice q0 n0 c0, .slice q1 n1 c1, .int .i64 u.port, .slice q3 n3 c3, .slice q4 n4 c4, .slice q5 n5 c5, .bool u.hq, .bool u.hf] 208)) #[.string ⟨#[]⟩, .string ⟨#[]⟩, .int .i64 0, .int .i64 0]
    rw [World.size_alloc] at this
    rw [← hX]; exact this
  have k0 := conv_bytes (c := c0) (h0.on B2).at.2.2.2.2 (h0.on B2).at.1
  have k1 := conv_bytes (c := c1) (h1.on B2).at.2.2.2.2 (h1.on B2).at.1
  have b0 := hb 0 _ rfl
  have b1 := hb 1 _ rfl
  have b2 := hb 2 _ rfl
  have z0 := hO.box 0 _ rfl
  have z1 := hO.box 1 _ rfl
  have z2 := hO.box 2 _ rfl
  have z3 := hO.box 3 _ rfl
  have f0 := hO.frozen 0
  have f1 := hO.frozen 1
  have f2 := hO.frozen 2
  have f3 := hO.frozen 3
  clear h0 h1 B1 hb
  have HX := Lib.hid hX
  clear hX
  go_enter Tryz.func134, Tryz.ntmps134
  go_wp2_with fail
  rw [HX.out]
  go_wp2
  rw [k0]
  go_wp2
  obtain ⟨Y, hY, hU, hkY, hbY⟩ := OB.put hO (.string ⟨u.scheme.toArray⟩) (.string ⟨u.host.toArray⟩) (.int .i64 u.port) (.int .i64 0)
  rw [hY]
  (try simp only [Exit.inBlock, Exit.then])
  refine bodyPost_ret (ret_org rfl _ _ (w.heap.size + 1) _ rfl hU rfl) rfl ?_
  exact ⟨rfl, B2.trans (hbY _ (Nat.le_succ _))⟩

set_option maxRecDepth 100000 in
set_option maxHeartbeats 8000000 in
/-- A closed origin. -/
theorem Closed_any (n : Int) (w : World) :
    Calls Tryz.prog 147 #[.int .i64 n] w fun e w' => e = .returned (if n < 1 then .tuple #[orgV [] [] 0 0, .int .i64 13] else .tuple #[orgV [] [] 0 n, .int .i64 0]) ∧ Below w.heap.size w w' := by
  have B1 := fun cs => (Below.refl _ w).alloc (Nat.le_refl _) (.cells cs 184)
  by_cases hn : n < 1
  · have d1 : decide (n < 1) = true := by simp; omega
    rw [if_pos hn]
    clear hn
    go_enter Tryz.func147, Tryz.ntmps147
    go_wp2
    refine bodyPost_ret (ret_org2 rfl _ _ w.heap.size _ rfl (OB.new w _) rfl) rfl ?_
    exact ⟨rfl, B1 _⟩
  · have d1 : decide (n < 1) = false := by simp; omega
    rw [if_neg hn]
    clear hn
    go_enter Tryz.func147, Tryz.ntmps147
    go_wp2
    refine bodyPost_ret (ret_org2 rfl _ _ w.heap.size _ rfl (OB.new w _) rfl) rfl ?_
    exact ⟨rfl, B1 _⟩

theorem str_app (a b : List UInt8) : (⟨a.toArray⟩ ++ ⟨b.toArray⟩ : ByteArray) = ⟨(a ++ b).toArray⟩ := by
  apply ByteArray.ext; simp
/-- strconv.Itoa at what is not below 0. -/
theorem Itoa_any (n : Nat) (w : World) (hn : n ≤ 9223372036854775807) (hG : Gl w) :
    Calls Tryz.prog 135 #[.int .i64 (n : Int)] w fun e w' => e = .returned (.string ⟨(digL n).toArray⟩) ∧ Below w.heap.size w w' := by
  refine (Tryz.strconv_Itoa (n : Int) (by omega) (by omega) w hG.2).mono ?_
  rintro e w' ⟨rfl, k, os, rfl⟩
  refine ⟨by rw [Lib.itoa_nonneg, dig_dec10], ?_⟩
  have h := Url.below_drewN w k
  refine ⟨h.os, h.tape, h.output, ?_, fun j hj => ?_⟩
  · have := h.size; unfold Sort.grow; simp only [Array.size_append]; omega
  · unfold Sort.grow
    show ((w.drewN k).heap ++ os)[j]? = _
    have hlt : j < (w.drewN k).heap.size := Nat.lt_of_lt_of_le hj h.size
    rw [Array.getElem?_append_left hlt]
    exact h.block j hj

set_option maxRecDepth 100000 in
set_option maxHeartbeats 8000000 in
/-- A server's text. -/
theorem Text_server (u : U) (hok : Ok u) (w : World) (hG : Gl w) :
    Calls Tryz.prog 110 #[orgV u.scheme u.host u.port 0] w fun e w' => e = .returned (.string ⟨(placeU u).toArray⟩) ∧ Below w.heap.size w w' := by
  unfold orgV
  obtain ⟨X, hX⟩ : ∃ X, w.alloc (.cells #[.string ⟨u.scheme.toArray⟩, .string ⟨u.host.toArray⟩, .int .i64 u.port, .int .i64 0] 184) = X := ⟨_, rfl⟩
  have B1 : Below w.heap.size w X := by rw [← hX]; exact (Below.refl _ w).alloc (Nat.le_refl _) _
  have hO : OB w.heap.size #[.string ⟨u.scheme.toArray⟩, .string ⟨u.host.toArray⟩, .int .i64 u.port, .int .i64 0] X := by rw [← hX]; exact OB.new w _
  have hsne : ¬ u.scheme = [] := by rcases hok.scheme with h | h <;> (rw [h]; decide)
  have HLS := Lib.hid (low_scheme u hok)
  have hsl : u.scheme.length ≤ 5 := by rcases hok.scheme with h | h <;> (rw [h]; decide)
  have hp2 := hok.port2
  have hhl : u.host.length ≤ 253 := by
    have h := hok.host
    unfold Host.parseE at h
    split at h
    · cases h
    · omega
  have hdl := dig_len u.port hp2
  have l1 : u.scheme.length ≤ 9223372036854775804 := by omega
  have l2 : u.scheme.length + 3 + u.host.length ≤ 9223372036854775807 := by omega
  have l3 : u.scheme.length + 3 + u.host.length ≤ 9223372036854775806 := by omega
  have l4 : u.scheme.length + 3 + u.host.length + 1 + (digL u.port).length ≤ 9223372036854775807 := by omega
  have HPT := Lib.hid (show placeU u = u.scheme ++ [58, 47, 47] ++ u.host ++ (if u.port = ownP u.scheme then [] else 58 :: digL u.port) from rfl)
  have HX := Lib.hid hX
  have HG := Lib.hid hG
  clear hX hok hG
  generalize placeU u = PL at *
  generalize u.scheme = S at *
  generalize u.host = H at *
  generalize u.port = p at *
  go_enter Tryz.func110, Tryz.ntmps110
  go_wp2_with fail
  rw [HX.out]
  refine pregion_any (Box w.heap.size #[.string ⟨S.toArray⟩, .string ⟨H.toArray⟩, .int .i64 p, .int .i64 0]) (by kernel_rfl) ?_
  have hS0 : Box w.heap.size #[.string ⟨S.toArray⟩, .string ⟨H.toArray⟩, .int .i64 p, .int .i64 0] X.drew := hO.box
  have hBd : Below w.heap.size w X.drew := B1.drew
  clear hO B1 HX
  generalize X.drew = Y at *
  refine wpAnyH_take (i := 0) (v := (.pointer (some ⟨w.heap.size, 2, none⟩))) rfl (by kernel_rfl) (by kernel_rfl) (by kernel_rfl) (fun _ _ _ h => h) (.inl ⟨by kernel_rfl, ?_⟩) hS0 ?_
  · rintro w h; go_simp <;> omega
  refine plist #[true, false, false, false, false, false, false, false] (by kernel_rfl) ?_
  refine wpAnyH_take (i := 1) (v := (.int .i64 p)) rfl (by kernel_rfl) (by kernel_rfl) (by kernel_rfl) (fun _ _ _ h => h) (.inl ⟨by kernel_rfl, ?_⟩) hS0 ?_
  · rintro w h; have h' := h 2 _ rfl; go_simp <;> omega
  refine plist #[true, true, false, false, false, false, false, false] (by kernel_rfl) ?_
  refine wpAnyH_take (i := 2) (v := (.pointer (some ⟨w.heap.size, 0, none⟩))) rfl (by kernel_rfl) (by kernel_rfl) (by kernel_rfl) (fun _ _ _ h => h) (.inl ⟨by kernel_rfl, ?_⟩) hS0 ?_
  · rintro w h; go_simp <;> omega
  refine plist #[true, true, true, false, false, false, false, false] (by kernel_rfl) ?_
  refine wpAnyH_take (i := 3) (v := (.string ⟨S.toArray⟩)) rfl (by kernel_rfl) (by kernel_rfl) (by kernel_rfl) (fun _ _ _ h => h) (.inl ⟨by kernel_rfl, ?_⟩) hS0 ?_
  · rintro w h; have h' := h 0 _ rfl; go_simp <;> omega
  refine plist #[true, true, true, true, false, false, false, false] (by kernel_rfl) ?_
  obtain ⟨c, Z, hrun, hby, hbel, -⟩ := conv_new Y S (by omega)
  refine pone 4 (by kernel_rfl) rfl fun K hK => ?_
  go_simp
  have hS1 := hS0.on hbel
  have hB1 := hBd.trans (hbel.mono hBd.size)
  refine hK _ _ hS1 ?_
  clear hK K
  refine plist #[true, true, true, true, true, false, false, false] (by kernel_rfl) ?_
  have con := Own_any (some ⟨Y.heap.size, 0, none⟩) S.length c S Z rfl (by omega) hby.at.2.2.2.2
  rw [HLS.out] at con
  refine pone 5 (by kernel_rfl) rfl fun K hK => ?_
  go_simp
  refine con.mono ?_
  rintro e V ⟨rfl, hb⟩
  have hS2 := hS1.on hb
  have hB2 := hB1.trans (hb.mono hB1.size)
  clear con hS0 hS1 hbel hby hrun hb hBd hB1
  refine hK _ _ hS2 ?_
  clear hK K
  refine plist #[true, true, true, true, true, true, false, false] (by kernel_rfl) ?_
  by_cases hpo : p = ownP S
  · have e5 : ((p : Int) == (ownP S : Int)) = true := by rw [beq_iff_eq]; omega
    have HR := Lib.hid (show PL = S ++ [58, 47, 47] ++ H by rw [HPT.out, if_pos hpo, List.append_nil])
    refine pone 6 (by kernel_rfl) rfl fun K hK => ?_
    go_simp
    refine hK _ _ hS2 ?_
    clear hK K
    refine plist #[true, true, true, true, true, true, true, false] (by kernel_rfl) ?_
    refine pone 7 (by kernel_rfl) rfl fun K hK => ?_
    go_simp
    refine hK _ _ hS2 ?_
    clear hK K
    refine pdone (by kernel_rfl) ?_ _
    have c0 := hS2 0 _ rfl
    have c1 := hS2 1 _ rfl
    clear hpo
    go_wp2
    go_ret
    exact ⟨congrArg (fun s => Ending.returned (Value.string s)) (by rw [HR.out, ← str_app, ← str_app]), hB2⟩
  · have e5 : ((p : Int) == (ownP S : Int)) = false := by rw [beq_eq_false_iff_ne]; omega
    have HR := Lib.hid (show PL = S ++ [58, 47, 47] ++ H ++ [58] ++ digL p by rw [HPT.out, if_neg hpo]; simp)
    refine pone 6 (by kernel_rfl) rfl fun K hK => ?_
    go_simp
    refine hK _ _ hS2 ?_
    clear hK K
    refine plist #[true, true, true, true, true, true, true, false] (by kernel_rfl) ?_
    refine pone 7 (by kernel_rfl) rfl fun K hK => ?_
    go_simp
    refine hK _ _ hS2 ?_
    clear hK K
    refine pdone (by kernel_rfl) ?_ _
    clear hpo
    go_wp2_with fail
    refine pregion_any (Box w.heap.size #[.string ⟨S.toArray⟩, .string ⟨H.toArray⟩, .int .i64 p, .int .i64 0]) (by kernel_rfl) ?_
    have hS3 : Box w.heap.size #[.string ⟨S.toArray⟩, .string ⟨H.toArray⟩, .int .i64 p, .int .i64 0] V.drew := hS2
    have hB3 : Below w.heap.size w V.drew := hB2.drew
    clear hS2 hB2 e5
    generalize V.drew = T at *
    refine wpAnyH_take (i := 0) (v := (.pointer (some ⟨w.heap.size, 0, none⟩))) rfl (by kernel_rfl) (by kernel_rfl) (by kernel_rfl) (fun _ _ _ h => h) (.inl ⟨by kernel_rfl, ?_⟩) hS3 ?_
    · rintro w h; go_simp <;> omega
    refine plist #[true, false, false, false, false, false, false, false, false, false, false, false] (by kernel_rfl) ?_
    refine wpAnyH_take (i := 1) (v := (.string ⟨S.toArray⟩)) rfl (by kernel_rfl) (by kernel_rfl) (by kernel_rfl) (fun _ _ _ h => h) (.inl ⟨by kernel_rfl, ?_⟩) hS3 ?_
    · rintro w h; have h' := h 0 _ rfl; go_simp <;> omega
    refine plist #[true, true, false, false, false, false, false, false, false, false, false, false] (by kernel_rfl) ?_
    refine wpAnyH_take (i := 2) (v := (.string (⟨S.toArray⟩ ++ ⟨#[58, 47, 47]⟩))) rfl (by kernel_rfl) (by kernel_rfl) (by kernel_rfl) (fun _ _ _ h => h) (.inl ⟨by kernel_rfl, ?_⟩) hS3 ?_
    · rintro w h; go_simp <;> omega
    refine plist #[true, true, true, false, false, false, false, false, false, false, false, false] (by kernel_rfl) ?_
    refine wpAnyH_take (i := 3) (v := (.pointer (some ⟨w.heap.size, 1, none⟩))) rfl (by kernel_rfl) (by kernel_rfl) (by kernel_rfl) (fun _ _ _ h => h) (.inl ⟨by kernel_rfl, ?_⟩) hS3 ?_
    · rintro w h; go_simp <;> omega
    refine plist #[true, true, true, true, false, false, false, false, false, false, false, false] (by kernel_rfl) ?_
    refine wpAnyH_take (i := 4) (v := (.string ⟨H.toArray⟩)) rfl (by kernel_rfl) (by kernel_rfl) (by kernel_rfl) (fun _ _ _ h => h) (.inl ⟨by kernel_rfl, ?_⟩) hS3 ?_
    · rintro w h; have h' := h 1 _ rfl; go_simp <;> omega
    refine plist #[true, true, true, true, true, false, false, false, false, false, false, false] (by kernel_rfl) ?_
    refine wpAnyH_take (i := 5) (v := (.string (⟨S.toArray⟩ ++ ⟨#[58, 47, 47]⟩ ++ ⟨H.toArray⟩))) rfl (by kernel_rfl) (by kernel_rfl) (by kernel_rfl) (fun _ _ _ h => h) (.inl ⟨by kernel_rfl, ?_⟩) hS3 ?_
    · rintro w h; go_simp <;> omega
    refine plist #[true, true, true, true, true, true, false, false, false, false, false, false] (by kernel_rfl) ?_
    refine wpAnyH_take (i := 6) (v := (.string (⟨S.toArray⟩ ++ ⟨#[58, 47, 47]⟩ ++ ⟨H.toArray⟩ ++ ⟨#[58]⟩))) rfl (by kernel_rfl) (by kernel_rfl) (by kernel_rfl) (fun _ _ _ h => h) (.inl ⟨by kernel_rfl, ?_⟩) hS3 ?_
    · rintro w h; go_simp <;> omega
    refine plist #[true, true, true, true, true, true, true, false, false, false, false, false] (by kernel_rfl) ?_
    refine wpAnyH_take (i := 7) (v := (.pointer (some ⟨w.heap.size, 2, none⟩))) rfl (by kernel_rfl) (by kernel_rfl) (by kernel_rfl) (fun _ _ _ h => h) (.inl ⟨by kernel_rfl, ?_⟩) hS3 ?_
    · rintro w h; go_simp <;> omega
    refine plist #[true, true, true, true, true, true, true, true, false, false, false, false] (by kernel_rfl) ?_
    refine wpAnyH_take (i := 8) (v := (.int .i64 p)) rfl (by kernel_rfl) (by kernel_rfl) (by kernel_rfl) (fun _ _ _ h => h) (.inl ⟨by kernel_rfl, ?_⟩) hS3 ?_
    · rintro w h; have h' := h 2 _ rfl; go_simp <;> omega
    refine plist #[true, true, true, true, true, true, true, true, true, false, false, false] (by kernel_rfl) ?_
    have con := Itoa_any p T (by omega) (HG.out.on hB3)
    refine pone 9 (by kernel_rfl) rfl fun K hK => ?_
    go_simp
    refine con.mono ?_
    rintro e V' ⟨rfl, hb⟩
    have hS4 := hS3.on hb
    have hB4 := hB3.trans (hb.mono hB3.size)
    clear con hS3 hb hB3
    refine hK _ _ hS4 ?_
    clear hK K
    refine plist #[true, true, true, true, true, true, true, true, true, true, false, false] (by kernel_rfl) ?_
    refine pone 10 (by kernel_rfl) rfl fun K hK => ?_
    go_simp
    rw [if_neg (by omega), Oper.upon_value]
    refine hK _ _ hS4 ?_
    clear hK K
    refine plist #[true, true, true, true, true, true, true, true, true, true, true, false] (by kernel_rfl) ?_
    refine pone 11 (by kernel_rfl) rfl fun K hK => ?_
    go_simp
    refine hK _ _ hS4 ?_
    clear hK K
    refine pdone (by kernel_rfl) ?_ _
    clear hS4
    go_wp2
    go_ret
    exact ⟨congrArg (fun s => Ending.returned (Value.string s)) (by rw [HR.out, ← str_app, ← str_app, ← str_app, ← str_app]), hB4⟩

end Go.Proofs.YtkjkfgmoogbdiaaGreatDoor.Org
