/- The texts that these laws rest on, put together, part 6. Conditions: as each says. -/
import Derived.Test.YtedglpfdibamdaaGreatDoorBaseE
namespace Go.Proofs.YtedglpfdibamdaaGreatDoor.Pol
open Go.RowKit Go.Shelf Url Org Frm Cls Lbl
attribute [local go_sem] Oper.semAt_some
set_option linter.unusedVariables false
theorem ret_srcs1 {fn : Func} {p : Tmp} (h : fn.results = #[.cell p 36]) (tmps : Array Value) (w : World) (B : Nat) (v : Value) (hp : tmps.getD p undef = .pointer (some ⟨B, 0, none⟩)) (hU : Boxed w B 36 v) :
    (results fn tmps).run Tryz.prog w = .ok (.agg #[v]) w :=
  results_cell_row h tmps w B _ #[v] (0, 0) _ hp hU Tryz.underlying36 rfl (by kernel_rfl)
theorem ret_frm1 {fn : Func} {p : Tmp} (h : fn.results = #[.cell p 31]) (tmps : Array Value) (w : World) (B : Nat) (v : Value) (hp : tmps.getD p undef = .pointer (some ⟨B, 0, none⟩)) (hU : Boxed w B 31 v) :
    (results fn tmps).run Tryz.prog w = .ok (.agg #[v]) w :=
  results_cell_row h tmps w B _ #[v] (0, 0) _ hp hU Tryz.underlying31 rfl (by kernel_rfl)
set_option maxRecDepth 100000 in
set_option maxHeartbeats 4000000 in
theorem allSources_any (w : World) :
    Calls Tryz.prog 25 #[] w fun e w' => ∃ q n c, e = .returned (.agg #[.slice q n c]) ∧ SrcsIs w' (.agg #[.slice q n c]) [allS] ∧ Below w.heap.size w w' := by
  have b0 := (Boxed.new w 36 (.slice (some ⟨w.heap.size + 1, 0, none⟩) 1 1)).alloc (.cells #[.int .i64 1, .string ⟨#[]⟩, .string ⟨#[]⟩, .int .i64 0, .int .i64 0, .string ⟨#[]⟩] 82)
  have s0 := SB.new (w.alloc (.cells #[.slice (some ⟨w.heap.size + 1, 0, none⟩) 1 1] 36)) #[.int .i64 1, .string ⟨#[]⟩, .string ⟨#[]⟩, .int .i64 0, .int .i64 0, .string ⟨#[]⟩]
  rw [World.size_alloc] at s0
  have A1 := ((Below.refl _ w).alloc (Nat.le_refl _) (.cells #[.slice (some ⟨w.heap.size + 1, 0, none⟩) 1 1] 36)).alloc (by simp) (.cells #[.int .i64 1, .string ⟨#[]⟩, .string ⟨#[]⟩, .int .i64 0, .int .i64 0, .string ⟨#[]⟩] 82)
  go_enter Tryz.func25, Tryz.ntmps25
  go_wp2
  refine bodyPost_ret (ret_srcs1 rfl _ _ w.heap.size _ rfl b0) rfl ?_
  refine ⟨some ⟨w.heap.size + 1, 0, none⟩, 1, 1, rfl, ⟨_, _, _, rfl, (fun h => by cases h), Nat.le_refl _, rfl, fun _ => ⟨w.heap.size + 1, 0, rfl, s0.lt, fun i x hx j v hv => ?_⟩⟩, A1⟩
  have hi : i = 0 := by have := (List.getElem?_eq_some_iff.1 hx).1; simp at this; exact this
  subst hi
  obtain rfl : allS = x := by simpa using hx
  have hall : cellsP (srcP allS) = [.int .i64 1, .string ⟨#[]⟩, .string ⟨#[]⟩, .int .i64 0, .int .i64 0, .string ⟨#[]⟩] := rfl
  rw [hall] at hv
  rw [show (0 + 0 * 6 + j) = j by omega]
  exact s0.box j v (by simpa using hv)
theorem prin_place (u : U) (hok : Ok u) (hl : (placeU u).length ≤ 4096) : prinB (placeU u) = true := by
  unfold prinB
  rw [Q_server 9223372036854775807 u hok hl]
  exact decide_eq_true rfl
theorem single_prin (p : List UInt8) (hp : prinB p = true) : singleR p = .inr [[p]] := by
  have hc : ofC [p] = .inr [p] := by
    unfold ofC
    rw [if_pos (by simp [hp]), show sortR [p] = [p] from rfl, if_pos (by simp)]
  have hk := (of_ok _ _ hc).1
  unfold singleR
  rw [hc]
  exact ofF_self _ (one_ok _ hk)
def srvB : QO → Bool
  | some (.inr _) => true
  | _ => false
theorem URL_q (o : QO) (h : OkQ o) (w : World) (hG : Gl w) :
    Calls Tryz.prog 48 #[orgQ o] w fun e w' => ∃ (q0 : Option Addr) (n0 c0 : Nat) (q1 : Option Addr) (n1 c1 : Nat) (p : Int) (q3 : Option Addr) (n3 c3 : Nat) (q4 : Option Addr) (n4 c4 : Nat) (q5 : Option Addr) (n5 c5 : Nat) (hq hf : Bool),
      e = .returned (.tuple #[.agg #[.slice q0 n0 c0, .slice q1 n1 c1, .int .i64 p, .slice q3 n3 c3, .slice q4 n4 c4, .slice q5 n5 c5, .bool hq, .bool hf], .bool (srvB o)]) ∧ Below w.heap.size w w' := by
  cases o with
  | none =>
    refine (URL_bad ⟨#[]⟩ ⟨#[]⟩ 0 0 [] w hG (by decide) (fun u hu => by cases hu) (fun W _ => Org.Text_zero W)).mono ?_
    rintro e w' ⟨rfl, hb⟩
    exact ⟨_, _, _, _, _, _, _, _, _, _, _, _, _, _, _, _, _, _, rfl, hb⟩
  | some x => cases x with
    | inl n =>
      have hc := closed_text n h.1.2
      refine (URL_bad ⟨#[]⟩ ⟨#[]⟩ 0 (n : Int) (textO (.inl n)) w hG (by have := hc.1; omega) hc.2 (fun W hW => Text_closed n h.1.1 h.1.2 W hW)).mono ?_
      rintro e w' ⟨rfl, hb⟩
      exact ⟨_, _, _, _, _, _, _, _, _, _, _, _, _, _, _, _, _, _, rfl, hb⟩
    | inr u =>
      have hok : Ok u := h.1
      have hl : (placeU u).length ≤ 1218 := h.2
      refine (URL_server (rootU u) (root_ok u hok) w hG (by rw [root_text, List.length_append]; simp only [List.length_cons, List.length_nil]; omega)).mono ?_
      rintro e w' ⟨v, rfl, ⟨q0, n0, c0, q1, n1, c1, q3, n3, c3, q4, n4, c4, q5, n5, c5, rfl, -⟩, hb⟩
      exact ⟨_, _, _, _, _, _, _, _, _, _, _, _, _, _, _, _, _, _, rfl, hb⟩
set_option maxRecDepth 100000 in
set_option maxHeartbeats 8000000 in
theorem ownPriv_any (o : QO) (w : World) (h : OkQ o) (hG : Gl w) :
    Calls Tryz.prog 24 #[orgQ o] w fun e w' => ∃ q n c, e = .returned (.agg #[.slice q n c]) ∧ FrmIs w' (.agg #[.slice q n c]) (ownF o) ∧ (∀ a, q = some a → w.heap.size ≤ a.block) ∧ Below w.heap.size w w' := by
  obtain ⟨⟨⟨s, g⟩, ⟨p, m⟩⟩, h1⟩ : ∃ y, partsQ o = y := ⟨_, rfl⟩
  have e1 : orgQ o = .agg #[.string ⟨s.toArray⟩, .string ⟨g.toArray⟩, .int .i64 p, .int .i64 m] := by unfold orgQ orgV; rw [h1]
  have c1 : cellsQ o = #[.string ⟨s.toArray⟩, .string ⟨g.toArray⟩, .int .i64 p, .int .i64 m] := by unfold cellsQ orgC; rw [h1]
  obtain ⟨W, hW⟩ : ∃ W, (w.alloc (.cells #[.string ⟨s.toArray⟩, .string ⟨g.toArray⟩, .int .i64 p, .int .i64 m] 25)).alloc (.cells #[.slice none 0 0] 31) = W := ⟨_, rfl⟩
  have A1 : Below w.heap.size w W := hW ▸ ((Below.refl _ w).alloc (Nat.le_refl _) _).alloc (by simp) _
  have b1 : OB w.heap.size #[.string ⟨s.toArray⟩, .string ⟨g.toArray⟩, .int .i64 p, .int .i64 m] W := hW ▸ (OB.new w _).on (below_alloc _)
  have bR : Boxed W (w.heap.size + 1) 31 (.slice none 0 0) := by
    have := Boxed.new (w.alloc (.cells #[.string ⟨s.toArray⟩, .string ⟨g.toArray⟩, .int .i64 p, .int .i64 m] 25)) 31 (.slice none 0 0)
    rw [World.size_alloc] at this
    exact hW ▸ this
  have con := URL_q o h W (hG.on A1)
  rw [e1] at con ⊢
  have x0 := b1.box 0 _ rfl
  have x1 := b1.box 1 _ rfl
  have x2 := b1.box 2 _ rfl
  have x3 := b1.box 3 _ rfl
  have HW := Lib.hid hW
  have HG := Lib.hid (hG.on A1)
  have HTX := Lib.hid (show ∀ u, o = some (.inr u) → ∀ W, Gl W → Calls Tryz.prog 11 #[.agg #[.string ⟨s.toArray⟩, .string ⟨g.toArray⟩, .int .i64 p, .int .i64 m]] W fun e w' => e = .returned (.string ⟨(placeU u).toArray⟩) ∧ Below W.heap.size W w' from fun u hu W hgw => by
    subst hu
    have := Text_server u h.1 W hgw
    rw [← e1]
    exact this)
  have HOW := Lib.hid (show ∀ u, o = some (.inr u) → (placeU u).length ≤ 1300 ∧ singleR (placeU u) = .inr [[placeU u]] from fun u hu => by
    subst hu
    have hl : (placeU u).length ≤ 1218 := h.2
    exact ⟨by omega, single_prin _ (prin_place u h.1 (by omega))⟩)
  clear hW hG h h1 e1 c1
  cases hs : srvB o with
  | false =>
    rw [hs] at con
    have HO := Lib.hid (show ownF o = [] by
      cases o with
      | none => rfl
      | some x => cases x with
        | inl n => rfl
        | inr u => cases hs)
    clear hs HTX HOW
    go_enter Tryz.func24, Tryz.ntmps24
    go_wp2_with fail
    rw [HW.out]
    go_wp2_with fail
    refine con.mono ?_
    rintro e w2 ⟨q0, n0, c0, q1, n1, c1, pu, q3, n3, c3, q4, n4, c4, q5, n5, c5, hq, hf, rfl, hb⟩
    have A2 := A1.trans (hb.mono A1.size)
    have b2 := (Keep.of_below hb).boxed bR bR.lt
    have hba := below_alloc (w := w2) (.cells #[.slice q0 n0 c0, .slice q1 n1 c1, .int .i64 pu, .slice q3 n3 c3, .slice q4 n4 c4, .slice q5 n5 c5, .bool hq, .bool hf] 100)
    have A3 := A2.trans (hba.mono A2.size)
    have b3 := (Keep.of_below hba).boxed b2 b2.lt
    have con2 := Always_any (w2.alloc (.cells #[.slice q0 n0 c0, .slice q1 n1 c1, .int .i64 pu, .slice q3 n3 c3, .slice q4 n4 c4, .slice q5 n5 c5, .bool hq, .bool hf] 100))
    clear con hb x0 x1 x2 x3 b1 bR b2 hba A1 A2
    go_wp2_with fail
    refine con2.mono ?_
    rintro e w4 ⟨rfl, hb⟩
    have A4 := A3.trans (hb.mono A3.size)
    have b4 := (Keep.of_below hb).boxed b3 b3.lt
    have kf := b4.frozen
    have kc := b4.cell
    have b5 := b4.set (.slice none 0 0)
    clear con2 hb b3 A3
    go_wp2
    refine bodyPost_ret (ret_frm1 rfl _ _ (w.heap.size + 1) _ rfl b5) rfl ?_
    exact ⟨none, 0, 0, rfl, by rw [HO.out]; exact frm_nil _, (fun a ha => by cases ha), A4.setCell (by simp) _⟩
  | true =>
    rw [hs] at con
    obtain ⟨u, hu⟩ : ∃ u, o = some (.inr u) := by
      cases o with
      | none => cases hs
      | some x => cases x with
        | inl n => cases hs
        | inr u => exact ⟨u, rfl⟩
    have HT := Lib.hid (HTX.out u hu)
    obtain ⟨hpl, hsg⟩ := HOW.out u hu
    have HO := Lib.hid (show ownF o = [[placeU u]] by rw [hu]; rfl)
    have HPL := Lib.hid hpl
    have HSG := Lib.hid hsg
    clear hs HTX HOW hu hpl hsg
    go_enter Tryz.func24, Tryz.ntmps24
    go_wp2_with fail
    rw [HW.out]
    go_wp2_with fail
    refine con.mono ?_
    rintro e w2 ⟨q0, n0, c0, q1, n1, c1, pu, q3, n3, c3, q4, n4, c4, q5, n5, c5, hq, hf, rfl, hb⟩
    have A2 := A1.trans (hb.mono A1.size)
    have b2 := (Keep.of_below hb).boxed bR bR.lt
    have o2 := b1.on hb
    have hba := below_alloc (w := w2) (.cells #[.slice q0 n0 c0, .slice q1 n1 c1, .int .i64 pu, .slice q3 n3 c3, .slice q4 n4 c4, .slice q5 n5 c5, .bool hq, .bool hf] 100)
    have A3 := A2.trans (hba.mono A2.size)
    have b3 := (Keep.of_below hba).boxed b2 b2.lt
    have o3 := o2.on hba
    have g3 := HG.out.on ((hb.trans (hba.mono hb.size)))
    have con2 := HT.out _ g3
    clear con hb x0 x1 x2 x3 b1 bR b2 hba A1 A2 o2
    have x0 := o3.box 0 _ rfl
    have x1 := o3.box 1 _ rfl
    have x2 := o3.box 2 _ rfl
    have x3 := o3.box 3 _ rfl
    go_wp2_with fail
    refine con2.mono ?_
    rintro e w4 ⟨rfl, hb⟩
    have A4 := A3.trans (hb.mono A3.size)
    have b4 := (Keep.of_below hb).boxed b3 b3.lt
    have HA4 := Lib.hid A4.size
    have con3 := Prv.Own_any (placeU u) w4 HPL.out (g3.on hb)
    rw [HSG.out] at con3
    unfold FrmOut at con3
    simp only [frmE, frmV] at con3
    clear con2 hb b3 A3 x0 x1 x2 x3 o3 HG g3
    go_wp2_with fail
    refine con3.mono ?_
    rintro e w5 ⟨qf, nf, cf, rfl, hF, hq5, hb⟩
    have A5 := A4.trans (hb.mono A4.size)
    have b5 := (Keep.of_below hb).boxed b4 b4.lt
    have hl4 := b4.lt
    have hba := below_alloc (w := w5) (.cells #[.slice qf nf cf] 31)
    have A6 := A5.trans (hba.mono A5.size)
    have b6 := (Keep.of_below hba).boxed b5 b5.lt
    have x6 := (Boxed.new w5 31 (.slice qf nf cf)).cell
    have F6 := hF.below hba
    have kf := b6.frozen
    have kc := b6.cell
    have b7 := b6.set (.slice qf nf cf)
    have F7 := F6.set (u' := .slice qf nf cf) b6 (fun x h => by cases h) (fun a ha => by have := hq5 a ha; omega)
    have A7 := A6.setCell (p := ⟨w.heap.size + 1, 0, none⟩) (by simp) (.slice qf nf cf)
    have HQ5 := Lib.hid (show ∀ a, qf = some a → w.heap.size ≤ a.block from fun a ha => Nat.le_trans HA4.out (hq5 a ha))
    clear con3 hb b4 b5 hF F6 hba A4 A5 hq5
    go_wp2
    refine bodyPost_ret (ret_frm1 rfl _ _ (w.heap.size + 1) _ rfl b7) rfl ?_
    exact ⟨qf, nf, cf, rfl, by rw [HO.out]; exact F7, HQ5.out, A7⟩
end Go.Proofs.YtedglpfdibamdaaGreatDoor.Pol
namespace Go.Proofs.YtedglpfdibamdaaGreatDoor.Pol
open Go.RowKit Go.Shelf Url Org Frm Cls Lbl
attribute [local go_sem] Oper.semAt_some
set_option linter.unusedVariables false
theorem PL.put {B : Nat} {X : World} {a0 a1 a2 a3 a4 a5 a6 a7 a8 : Value} (h : PL B #[a0, a1, a2, a3, a4, a5, a6, a7, a8] X) (v0 v1 v2 v3 v4 v5 v6 v7 v8 : Value) :
    ∃ Y, ((((((((X.setCell ⟨B, 0, none⟩ v0).setCell ⟨B, 1, none⟩ v1).setCell ⟨B, 2, none⟩ v2).setCell ⟨B, 3, none⟩ v3).setCell ⟨B, 4, none⟩ v4).setCell ⟨B, 5, none⟩ v5).setCell ⟨B, 6, none⟩ v6).setCell ⟨B, 7, none⟩ v7).setCell ⟨B, 8, none⟩ v8 = Y ∧
      PL B #[v0, v1, v2, v3, v4, v5, v6, v7, v8] Y ∧ (∀ S : Nat → Prop, ¬ S B → Keep S X Y) ∧ ∀ M, M ≤ B → Below M X Y := by
  have h8 := ((((((((h.set 0 v0).set 1 v1).set 2 v2).set 3 v3).set 4 v4).set 5 v5).set 6 v6).set 7 v7).set 8 v8
  simp only [List.setIfInBounds_toArray, List.set_cons_zero, List.set_cons_succ] at h8
  refine ⟨_, rfl, h8, fun S hS => ?_, fun M hM => ?_⟩
  · exact ((((((((Keep.setCell _ _ _ hS).trans (Keep.setCell _ _ _ hS)).trans (Keep.setCell _ _ _ hS)).trans (Keep.setCell _ _ _ hS)).trans (Keep.setCell _ _ _ hS)).trans (Keep.setCell _ _ _ hS)).trans (Keep.setCell _ _ _ hS)).trans (Keep.setCell _ _ _ hS)).trans (Keep.setCell _ _ _ hS)
  · exact (((((((((Below.refl M X).setCell (p := ⟨B, 0, none⟩) hM v0).setCell (p := ⟨B, 1, none⟩) hM v1).setCell (p := ⟨B, 2, none⟩) hM v2).setCell (p := ⟨B, 3, none⟩) hM v3).setCell (p := ⟨B, 4, none⟩) hM v4).setCell (p := ⟨B, 5, none⟩) hM v5).setCell (p := ⟨B, 6, none⟩) hM v6).setCell (p := ⟨B, 7, none⟩) hM v7).setCell (p := ⟨B, 8, none⟩) hM v8
theorem ret_pol1 {fn : Func} {p : Tmp} (h : fn.results = #[.cell p 38]) (tmps : Array Value) (w : World) (B : Nat) (cs : Array Value) (hp : tmps.getD p undef = .pointer (some ⟨B, 0, none⟩)) (hU : PL B cs w) (hs : cs.size = 9) :
    (results fn tmps).run Tryz.prog w = .ok (.agg cs) w :=
  results_cell_row h tmps w B _ cs (0, 0) _ hp hU Tryz.underlying38 rfl (by rw [size_pol, hs])
theorem z9_slc : Slc #[.slice none 0 0, .slice none 0 0, .slice none 0 0, .slice none 0 0, .slice none 0 0, .slice none 0 0, .slice none 0 0, .slice none 0 0, .slice none 0 0] := fun i x hx => by
  rcases (show i = 0 ∨ i = 1 ∨ i = 2 ∨ i = 3 ∨ i = 4 ∨ i = 5 ∨ i = 6 ∨ i = 7 ∨ i = 8 ∨ 9 ≤ i by omega) with rfl | rfl | rfl | rfl | rfl | rfl | rfl | rfl | rfl | h
  all_goals first | exact ⟨(none, 0, 0), (Option.some.inj hx).symm⟩ | (rw [Array.getElem?_eq_none (by simpa using h)] at hx; cases hx)
theorem frm_nil_off {w : World} {q : Option Addr} {n c : Nat} (h : FrmIs w (.agg #[.slice q n c]) []) (B : Nat) : OffT B (q, n, c) := fun a ha h0 => by
  have h1 := h.row.2.2.len
  have h2 : 0 < n := h0
  simp at h1
  omega
theorem frm_nil_offL {w : World} {v : Value} (h : LabIs w v ⟨[], []⟩) (B : Nat) : (∀ q n c q' n' c', v = .agg #[.slice q n c, .slice q' n' c'] → OffT B (q, n, c)) ∧ (∀ q n c q' n' c', v = .agg #[.slice q n c, .slice q' n' c'] → OffT B (q', n', c')) := by
  obtain ⟨q1, n1, c1, q2, n2, c2, rfl, h1, h2⟩ := h
  exact ⟨fun q n c q' n' c' e => by cases e; exact frm_nil_off h1 B, fun q n c q' n' c' e => by cases e; exact frm_nil_off h2 B⟩
theorem shut_off {w : World} {z y : T3} (h : LabIs w (.agg #[vT z, vT y]) ⟨[[]], []⟩) {N : Nat} (hz : ∀ a, z.1 = some a → N ≤ a.block) (B : Nat) (hB : B < N) : OffT B z ∧ OffT B y := by
  obtain ⟨q1, n1, c1, q2, n2, c2, e, h1, h2⟩ := h
  obtain ⟨e1, e2⟩ := agg_two e
  refine ⟨fun a ha _ => by have := hz a ha; omega, ?_⟩
  obtain ⟨yq, yn, yc⟩ := y
  cases e2
  exact frm_nil_off h2 B
set_option maxRecDepth 100000 in
set_option maxHeartbeats 4000000 in
theorem Shut_new (w : World) : Calls Tryz.prog 14 #[] w fun e w' => ∃ z y : T3, e = .returned (.agg #[vT z, vT y]) ∧ LabIs w' (.agg #[vT z, vT y]) ⟨[[]], []⟩ ∧ (∀ a, z.1 = some a → w.heap.size ≤ a.block) ∧ Below w.heap.size w w' := by
  obtain ⟨W1, hW1⟩ : ∃ W1, w.alloc (.cells #[.slice none 0 0, .slice none 0 0] 33) = W1 := ⟨_, rfl⟩
  have A1 : Below w.heap.size w W1 := hW1 ▸ below_alloc _
  have b1 : LB w.heap.size #[.slice none 0 0, .slice none 0 0] W1 := hW1 ▸ LB.new w _
  have HW1 := Lib.hid hW1
  have HL1 := Lib.hid b1.lt
  clear hW1
  go_enter Tryz.func14, Tryz.ntmps14
  go_wp2_with fail
  rw [HW1.out]
  clear HW1
  have con := Never_new W1
  refine con.mono ?_
  rintro e w2 ⟨rfl, fS, hb⟩
  have nS : ∀ a, (some ⟨W1.heap.size + 1, 0, none⟩ : Option Addr) = some a → 0 < 1 → a.block ≠ w.heap.size := fun a h _ => by cases h; have := HL1.out; have := A1.size; simp only; omega
  have hNS := Lib.hid (show w.heap.size ≤ W1.heap.size + 1 by have := A1.size; omega)
  obtain ⟨zS, hzS⟩ : ∃ z, W1.heap.size + 1 = z := ⟨_, rfl⟩
  rw [hzS] at fS nS hNS ⊢
  clear hzS
  have b2 := b1.on hb
  have A2 := A1.trans (hb.mono A1.size)
  replace HL1 := Lib.hid b2.lt
  clear con hb b1
  have con := Always_any w2
  go_wp2_with fail
  refine con.mono ?_
  rintro e w3 ⟨rfl, hb⟩
  have fI : FrmIs w3 (.agg #[.slice none 0 0]) [] := frm_nil _
  have nI : ∀ a, (none : Option Addr) = some a → 0 < 0 → a.block ≠ w.heap.size := fun a h => by cases h
  replace fS := fS.below hb
  have b3 := b2.on hb
  have A3 := A2.trans (hb.mono A2.size)
  replace HL1 := Lib.hid b3.lt
  clear con hb b2
  have kf0 := b3.frozen 0
  have kf1 := b3.frozen 1
  have z0 := b3.box 0 _ rfl
  have z1 := b3.box 1 _ rfl
  obtain ⟨Y, hY, b4, hk, hB4⟩ := b3.put (.slice (some ⟨zS, 0, none⟩) 1 1) (.slice none 0 0)
  have HY := Lib.hid hY
  have rS := FrmIs.off fS b3 nS (hk _ (by simp))
  have rI := FrmIs.off fI b3 nI (hk _ (by simp))
  clear hY fS fI nS nI
  go_wp2
  rw [HY.out]
  refine bodyPost_ret (ret_lab rfl _ _ w.heap.size _ rfl b4 rfl) rfl ?_
  exact ⟨(some ⟨zS, 0, none⟩, 1, 1), (none, 0, 0), rfl, ⟨_, _, _, _, _, _, rfl, rS, rI⟩, fun a ha => by cases ha; exact hNS.out, A3.trans (hB4 _ (Nat.le_refl _))⟩
set_option maxRecDepth 100000 in
set_option maxHeartbeats 16000000 in
theorem Plain_new (o : QO) (w : World) (h : OkQ o) (hG : Gl w) :
    Calls Tryz.prog 8 #[orgQ o] w fun e w' => ∃ z : N9, e = .returned (.agg z.arr) ∧ z.Is w' (plainP o) ∧ (∀ B, B < w.heap.size → z.Off B) ∧ Below w.heap.size w w' := by
  have HOW := Lib.hid (fun W (hg : Gl W) => ownPriv_any o W h hg)
  obtain ⟨⟨⟨s, g⟩, ⟨p, m⟩⟩, h1⟩ : ∃ y, partsQ o = y := ⟨_, rfl⟩
  have e1 : orgQ o = .agg #[.string ⟨s.toArray⟩, .string ⟨g.toArray⟩, .int .i64 p, .int .i64 m] := by unfold orgQ orgV; rw [h1]
  rw [e1] at HOW ⊢
  obtain ⟨W0, hW0⟩ : ∃ Z, (w.alloc (.cells #[.string ⟨s.toArray⟩, .string ⟨g.toArray⟩, .int .i64 p, .int .i64 m] 25)).alloc (.cells #[.slice none 0 0, .slice none 0 0, .slice none 0 0, .slice none 0 0, .slice none 0 0, .slice none 0 0, .slice none 0 0, .slice none 0 0, .slice none 0 0] 38) = Z := ⟨_, rfl⟩
  have A : Below w.heap.size w W0 := hW0 ▸ ((Below.refl _ w).alloc (Nat.le_refl _) _).alloc (by simp) _
  have Q : OB w.heap.size #[.string ⟨s.toArray⟩, .string ⟨g.toArray⟩, .int .i64 p, .int .i64 m] W0 := hW0 ▸ (OB.new w _).on (below_alloc _)
  have bP : PL (w.heap.size + 1) #[.slice none 0 0, .slice none 0 0, .slice none 0 0, .slice none 0 0, .slice none 0 0, .slice none 0 0, .slice none 0 0, .slice none 0 0, .slice none 0 0] W0 := by
    have := PL.new (w.alloc (.cells #[.string ⟨s.toArray⟩, .string ⟨g.toArray⟩, .int .i64 p, .int .i64 m] 25)) #[.slice none 0 0, .slice none 0 0, .slice none 0 0, .slice none 0 0, .slice none 0 0, .slice none 0 0, .slice none 0 0, .slice none 0 0, .slice none 0 0]
    rw [World.size_alloc] at this
    exact hW0 ▸ this
  have HW0 := Lib.hid hW0
  have HG := Lib.hid hG
  obtain ⟨W, hW⟩ : ∃ Z, W0.drew = Z := ⟨_, rfl⟩
  have hb : Below W0.heap.size W0 W := hW ▸ ⟨rfl, rfl, rfl, Nat.le_refl _, fun _ _ => rfl⟩
  replace A := A.trans (hb.mono A.size)
  replace Q := Q.on hb
  replace bP := bP.on hb
  have HW := Lib.hid hW
  have HLT := Lib.hid (show w.heap.size + 1 < W.heap.size from bP.lt)
  clear hW hW0 hb hG h h1 e1
  go_enter Tryz.func8, Tryz.ntmps8
  go_wp2_with fail
  refine pregion_any (fun X => X.cell? ⟨w.heap.size, 0, none⟩ = some (.string ⟨s.toArray⟩) ∧ X.cell? ⟨w.heap.size, 1, none⟩ = some (.string ⟨g.toArray⟩) ∧ X.cell? ⟨w.heap.size, 2, none⟩ = some (.int .i64 p) ∧ X.cell? ⟨w.heap.size, 3, none⟩ = some (.int .i64 m)) (by kernel_rfl) ?_
  rw [HW0.out, HW.out]
  refine wpAnyH_take (i := 3) (v := (.agg #[.string ⟨s.toArray⟩, .string ⟨g.toArray⟩, .int .i64 p, .int .i64 m])) rfl (by kernel_rfl) (by kernel_rfl) (by kernel_rfl) (fun _ _ _ h => h) (.inl ⟨by kernel_rfl, ?_⟩) ⟨Q.box 0 _ rfl, Q.box 1 _ rfl, Q.box 2 _ rfl, Q.box 3 _ rfl⟩ ?_
  · rintro w ⟨h1, h2, h3, h4⟩; go_simp <;> omega
  refine plist #[false, false, false, true, false, false, false, false, false] (by kernel_rfl) ?_
  have con := Open_any W
  refine pone 0 (by kernel_rfl) rfl fun K hK => ?_
  go_simp
  refine con.mono ?_
  rintro e Wa ⟨v, rfl, id, hb⟩
  have ido := fun B => frm_nil_offL id B
  obtain ⟨qdz, ndz, cdz, qdy, ndy, cdy, rfl⟩ := lab_form id
  have A2 := A.trans (hb.mono A.size)
  clear A
  have A := A2
  clear A2
  replace Q := Q.on hb
  replace bP := bP.on hb
  replace HLT := Lib.hid (Nat.lt_of_lt_of_le HLT.out hb.size)
  clear con hb 
  refine hK _ _ ⟨Q.box 0 _ rfl, Q.box 1 _ rfl, Q.box 2 _ rfl, Q.box 3 _ rfl⟩ ?_
  clear hK K
  refine plist #[true, false, false, true, false, false, false, false, false] (by kernel_rfl) ?_
  have con := Open_any Wa
  refine pone 1 (by kernel_rfl) rfl fun K hK => ?_
  go_simp
  refine con.mono ?_
  rintro e Wb ⟨v, rfl, ic, hb⟩
  have ico := fun B => frm_nil_offL ic B
  obtain ⟨qcz, ncz, ccz, qcy, ncy, ccy, rfl⟩ := lab_form ic
  have A2 := A.trans (hb.mono A.size)
  clear A
  have A := A2
  clear A2
  replace Q := Q.on hb
  replace bP := bP.on hb
  replace HLT := Lib.hid (Nat.lt_of_lt_of_le HLT.out hb.size)
  replace id := id.below hb
  clear con hb 
  refine hK _ _ ⟨Q.box 0 _ rfl, Q.box 1 _ rfl, Q.box 2 _ rfl, Q.box 3 _ rfl⟩ ?_
  clear hK K
  refine plist #[true, true, false, true, false, false, false, false, false] (by kernel_rfl) ?_
  have con := Shut_new Wb
  refine pone 2 (by kernel_rfl) rfl fun K hK => ?_
  go_simp
  refine con.mono ?_
  rintro e Wc ⟨⟨qrz, nrz, crz⟩, ⟨qry, nry, cry⟩, rfl, ir, iro, hb⟩
  have iro2 := Lib.hid (fun B (hB : B ≤ w.heap.size + 1) => shut_off ir iro B (by have := HLT.out; omega))
  have A2 := A.trans (hb.mono A.size)
  clear A
  have A := A2
  clear A2
  replace Q := Q.on hb
  replace bP := bP.on hb
  replace HLT := Lib.hid (Nat.lt_of_lt_of_le HLT.out hb.size)
  replace id := id.below hb
  replace ic := ic.below hb
  simp only [vT] at ir ⊢
  clear con hb iro
  refine hK _ _ ⟨Q.box 0 _ rfl, Q.box 1 _ rfl, Q.box 2 _ rfl, Q.box 3 _ rfl⟩ ?_
  clear hK K
  refine plist #[true, true, true, true, false, false, false, false, false] (by kernel_rfl) ?_
  have con := HOW.out Wc (HG.out.on A)
  refine pone 4 (by kernel_rfl) rfl fun K hK => ?_
  go_simp
  refine con.mono ?_
  rintro e Wd ⟨qpz, npz, cpz, rfl, ip, ipo, hb⟩
  have ipo2 := Lib.hid (show ∀ B, B ≤ w.heap.size + 1 → OffT B (qpz, npz, cpz) from fun B hB a ha _ => by have h1 := ipo a ha; have := HLT.out; omega)
  have A2 := A.trans (hb.mono A.size)
  clear A
  have A := A2
  clear A2
  replace Q := Q.on hb
  replace bP := bP.on hb
  replace HLT := Lib.hid (Nat.lt_of_lt_of_le HLT.out hb.size)
  replace id := id.below hb
  replace ic := ic.below hb
  replace ir := ir.below hb
  clear con hb ipo
  refine hK _ _ ⟨Q.box 0 _ rfl, Q.box 1 _ rfl, Q.box 2 _ rfl, Q.box 3 _ rfl⟩ ?_
  clear hK K
  refine plist #[true, true, true, true, true, false, false, false, false] (by kernel_rfl) ?_
  have con := allSources_any Wd
  refine pone 5 (by kernel_rfl) rfl fun K hK => ?_
  go_simp
  refine con.mono ?_
  rintro e We ⟨qkz, nkz, ckz, rfl, ik, hb⟩
  have A2 := A.trans (hb.mono A.size)
  clear A
  have A := A2
  clear A2
  replace Q := Q.on hb
  replace bP := bP.on hb
  replace HLT := Lib.hid (Nat.lt_of_lt_of_le HLT.out hb.size)
  replace id := id.below hb
  replace ic := ic.below hb
  replace ir := ir.below hb
  replace ip := ip.below hb
  clear con hb 
  refine hK _ _ ⟨Q.box 0 _ rfl, Q.box 1 _ rfl, Q.box 2 _ rfl, Q.box 3 _ rfl⟩ ?_
  clear hK K
  refine plist #[true, true, true, true, true, true, false, false, false] (by kernel_rfl) ?_
  have con := allSources_any We
  refine pone 6 (by kernel_rfl) rfl fun K hK => ?_
  go_simp
  refine con.mono ?_
  rintro e Wf ⟨qfz, nfz, cfz, rfl, il, hb⟩
  have A2 := A.trans (hb.mono A.size)
  clear A
  have A := A2
  clear A2
  replace Q := Q.on hb
  replace bP := bP.on hb
  replace HLT := Lib.hid (Nat.lt_of_lt_of_le HLT.out hb.size)
  replace id := id.below hb
  replace ic := ic.below hb
  replace ir := ir.below hb
  replace ip := ip.below hb
  replace ik := ik.below hb
  clear con hb 
  refine hK _ _ ⟨Q.box 0 _ rfl, Q.box 1 _ rfl, Q.box 2 _ rfl, Q.box 3 _ rfl⟩ ?_
  clear hK K
  refine plist #[true, true, true, true, true, true, true, false, false] (by kernel_rfl) ?_
  refine wpAnyH_take (i := 7) (v := (.agg #[.slice qdz ndz cdz, .slice qdy ndy cdy, .slice qcz ncz ccz, .slice qcy ncy ccy, .slice qrz nrz crz, .slice qry nry cry, .slice qpz npz cpz, .slice qkz nkz ckz, .slice qfz nfz cfz])) rfl (by kernel_rfl) (by kernel_rfl) (by kernel_rfl) (fun _ _ _ h => h) (.inl ⟨by kernel_rfl, ?_⟩) ⟨Q.box 0 _ rfl, Q.box 1 _ rfl, Q.box 2 _ rfl, Q.box 3 _ rfl⟩ ?_
  · rintro w ⟨h1, h2, h3, h4⟩; go_simp <;> omega
  have z0 := bP.box 0 _ rfl
  have z1 := bP.box 1 _ rfl
  have z2 := bP.box 2 _ rfl
  have z3 := bP.box 3 _ rfl
  have z4 := bP.box 4 _ rfl
  have z5 := bP.box 5 _ rfl
  have z6 := bP.box 6 _ rfl
  have z7 := bP.box 7 _ rfl
  have z8 := bP.box 8 _ rfl
  have f0 := bP.frozen 0
  have f1 := bP.frozen 1
  have f2 := bP.frozen 2
  have f3 := bP.frozen 3
  have f4 := bP.frozen 4
  have f5 := bP.frozen 5
  have f6 := bP.frozen 6
  have f7 := bP.frozen 7
  have f8 := bP.frozen 8
  obtain ⟨Y, hY, bY, hkY, hBY⟩ := bP.put (.slice qdz ndz cdz) (.slice qdy ndy cdy) (.slice qcz ncz ccz) (.slice qcy ncy ccy) (.slice qrz nrz crz) (.slice qry nry cry) (.slice qpz npz cpz) (.slice qkz nkz ckz) (.slice qfz nfz cfz)
  have hk := hkY (fun b => b ≠ w.heap.size + 1) (by simp)
  have QY : OB w.heap.size #[.string ⟨s.toArray⟩, .string ⟨g.toArray⟩, .int .i64 p, .int .i64 m] Y := (hk.block _ Q.lt (show ¬ w.heap.size = w.heap.size + 1 by omega)).trans Q
  have sz := z9_slc
  have PO : ∀ B, B ≤ w.heap.size + 1 → N9.Off ⟨(qdz, ndz, cdz), (qdy, ndy, cdy), (qcz, ncz, ccz), (qcy, ncy, ccy), (qrz, nrz, crz), (qry, nry, cry), (qpz, npz, cpz), (qkz, nkz, ckz), (qfz, nfz, cfz)⟩ B := fun B hB => ⟨(ido B).1 _ _ _ _ _ _ rfl, (ido B).2 _ _ _ _ _ _ rfl, (ico B).1 _ _ _ _ _ _ rfl, (ico B).2 _ _ _ _ _ _ rfl, (iro2.out B hB).1, (iro2.out B hB).2, ipo2.out B hB⟩
  have po := PO _ (Nat.le_refl _)
  have PY : N9.Is ⟨(qdz, ndz, cdz), (qdy, ndy, cdy), (qcz, ncz, ccz), (qcy, ncy, ccy), (qrz, nrz, crz), (qry, nry, cry), (qpz, npz, cpz), (qkz, nkz, ckz), (qfz, nfz, cfz)⟩ Y (plainP o) := ⟨lab_off (z := (qdz, ndz, cdz)) (y := (qdy, ndy, cdy)) id bP sz po.d0 po.d1 hk, lab_off (z := (qcz, ncz, ccz)) (y := (qcy, ncy, ccy)) ic bP sz po.c0 po.c1 hk, lab_off (z := (qrz, nrz, crz)) (y := (qry, nry, cry)) ir bP sz po.r0 po.r1 hk, frm_off (z := (qpz, npz, cpz)) ip bP sz po.p0 hk, srcs_off ik bP sz hk, srcs_off il bP sz hk⟩
  have HPO := Lib.hid PO
  have HY := Lib.hid hY
  have HPY := Lib.hid PY
  have AY := A.trans ((hBY _ (Nat.le_succ _)))
  clear hY hkY hBY hk PY id ic ir ip ik il ido ico iro2 ipo2 bP sz Q A PO po
  refine plist #[true, true, true, true, true, true, true, true, false] (by kernel_rfl) ?_
  refine pone 8 (by kernel_rfl) rfl fun K hK => ?_
  go_simp
  rw [HY.out]
  refine hK _ _ ⟨QY.box 0 _ rfl, QY.box 1 _ rfl, QY.box 2 _ rfl, QY.box 3 _ rfl⟩ ?_
  clear hK K
  refine pdone (by kernel_rfl) ?_ _
  go_wp2
  exact bodyPost_ret (ret_pol1 rfl _ _ (w.heap.size + 1) _ rfl bY rfl) rfl ⟨_, rfl, HPY.out, fun B hB => HPO.out B (by omega), AY⟩
theorem Plain_any (o : QO) (w : World) (h : OkQ o) (hG : Gl w) :
    Calls Tryz.prog 8 #[orgQ o] w fun e w' => ∃ v, e = .returned v ∧ PolIs w' v (plainP o) ∧ Below w.heap.size w w' :=
  (Plain_new o w h hG).mono fun e w' ⟨z, he, hz, _, hb⟩ => ⟨_, he, hz.pol, hb⟩
end Go.Proofs.YtedglpfdibamdaaGreatDoor.Pol
namespace Go.Proofs.YtedglpfdibamdaaGreatDoor.Pol
open Go.RowKit Go.Shelf Url Org Frm Cls Lbl
attribute [local go_sem] Oper.semAt_some
set_option linter.unusedVariables false
theorem values_len (l : List Hdr.Fld) (name : List UInt8) : (Hdr.valuesL l name).length ≤ l.length := by
  unfold Hdr.valuesL
  rw [List.length_map]
  exact List.length_filter_le _ _
theorem values_mem (l : List Hdr.Fld) (name x : List UInt8) (hs : ∀ f ∈ l, f.1.length ≤ 1300 ∧ f.2.length ≤ 1300) (h : x ∈ Hdr.valuesL l name) : x.length ≤ 1300 := by
  unfold Hdr.valuesL at h
  obtain ⟨f, hf, rfl⟩ := List.mem_map.1 h
  exact (hs f (List.mem_filter.1 hf).1).2
theorem boxed_ne {w : World} {b P : Nat} {t : TypeId} {v : Value} {cs : Array Value} (h : Boxed w b t v) (hP : PL P cs w) (ht : t ≠ 38) : b ≠ P := fun e => by
  subst e
  have h2 : w.heap[b]? = some (.cells cs 38 (0, 0)) := hP
  have h1 : w.heap[b]? = some (.cells #[v] t (0, 0)) := h
  rw [h1] at h2
  cases h2
  exact ht rfl
set_option maxRecDepth 100000 in
set_option maxHeartbeats 8000000 in
theorem takeLab_raw (b P off : Nat) (name : List UInt8) (cs : Array Value) (q : Option Addr) (n c B : Nat) (l : List Hdr.Fld) (w : World)
    (hH : Hdr.HdrIn B w q n c l) (hn : n ≤ 64) (hs : ∀ f ∈ l, f.1.length ≤ 1300 ∧ f.2.length ≤ 1300) (hnm : name.length ≤ 1000) (hc : Clo w b name 105 50 106 ⟨P, off, none⟩) (hP : PL P cs w) (hsl : Slc cs) (u0 u1 : T3) (h0 : cs[off]? = some (vT u0)) (h1 : cs[off + 1]? = some (vT u1)) (hG : Gl w) :
    Calls Tryz.prog 79 #[.agg #[.slice q n c], .pointer (some ⟨b, 0, none⟩), .pointer (some ⟨b + 1, 0, none⟩), .pointer (some ⟨b + 2, 0, none⟩)] w fun e w' => ∃ en : Int, e = .returned (.int .i64 en) ∧ Keep (fun k => k ≠ P) w w' ∧
      ((Hdr.valuesL l name = [] ∧ en = 0 ∧ PL P cs w') ∨ (∃ x, Hdr.valuesL l name = [x] ∧ en = labE (parseL x) ∧ ∃ z y : T3, PL P ((cs.setIfInBounds off (vT z)).setIfInBounds (off + 1) (vT y)) w' ∧ LabIs w' (.agg #[vT z, vT y]) (labV (parseL x)) ∧ (∀ a, z.1 = some a → 0 < z.2.1 → w.heap.size ≤ a.block) ∧ (∀ a, y.1 = some a → 0 < y.2.1 → w.heap.size ≤ a.block)) ∨ (2 ≤ (Hdr.valuesL l name).length ∧ en = 5)) := by
  have hAL := below_alloc (w := w) (.cells #[.slice q n c] 42)
  have con := Hdr.Values_any B q n c l name (w.alloc (.cells #[.slice q n c] 42)) (hH.below hAL) (by omega) (fun f hf => ⟨by have := (hs f hf).1; omega, by have := (hs f hf).2; omega⟩) (by omega)
  have x0 := (Boxed.new w 42 (.slice q n c)).cell
  have hc1 := hc.on hAL
  have x1 := hc1.name.cell
  have hln := hH.len
  have HVL := Lib.hid (show (Hdr.valuesL l name).length ≤ 64 by have := values_len l name; omega)
  have HVM := Lib.hid (fun x h => values_mem l name x hs h)
  have HG := Lib.hid hG
  have HNE := Lib.hid (show b + 1 ≠ P ∧ b + 2 ≠ P from ⟨boxed_ne hc.parse hP (by decide), boxed_ne hc.place hP (by decide)⟩)
  have HK := Lib.hid (fun (w' : World) (hb : Below w.heap.size w w') => (Keep.of_below hb).mono (T := fun k => k ≠ P) fun k hk _ => hk)
  have HP0 := Lib.hid hP.lt
  generalize Hdr.valuesL l name = xs at *
  clear hH hs hln hG
  go_enter Tryz.func79, Tryz.ntmps79
  go_wp2_with fail
  refine con.mono ?_
  rintro e w2 ⟨gf, lb, RB, rfl, eg, hi, hRl, hb⟩
  have A2 := hAL.trans (hb.mono hAL.size)
  have con2 := Collect_txt gf lb xs RB w2 eg hi hRl (by have := HVL.out; omega)
  clear con hb x0 x1 hc1 hAL eg hi hRl
  go_wp2_with fail
  refine con2.mono ?_
  rintro e w3 ⟨qx, cx, rfl, hT, hTn, hb⟩
  have A := A2.trans (hb.mono A2.size)
  have HTN := Lib.hid (show ∀ a, qx = some a → w.heap.size ≤ a.block from fun a ha => Nat.le_trans A2.size (hTn a ha))
  replace hc := hc.on A
  replace hP := hP.on A
  have HPL := Lib.hid (show P < w3.heap.size from hP.lt)
  clear con2 hb hTn A2
  match hx : xs, hT, HVL, HVM with
  | [], hT, HVL, HVM =>
    have HX := Lib.hid hx
    clear hx
    clear hT HTN hc HNE HG
    go_wp2
    go_ret
    exact ⟨0, rfl, HK.out _ A, .inl ⟨HX.out, rfl, hP⟩⟩
  | x :: y :: r, hT, HVL, HVM =>
    have e0 : (((x :: y :: r).length : Int) == 0) = false := by rw [beq_eq_false_iff_ne]; simp only [List.length_cons]; omega
    have e1 : (((x :: y :: r).length : Int) == 1) = false := by rw [beq_eq_false_iff_ne]; simp only [List.length_cons]; omega
    have HL2 := Lib.hid (show 2 ≤ xs.length by rw [hx]; simp)
    clear hx
    generalize (x :: y :: r).length = m at *
    clear hT HTN hc HNE HG hP HPL
    go_wp2
    go_ret
    exact ⟨5, rfl, HK.out _ A, .inr (.inr ⟨HL2.out, rfl⟩)⟩
  | [x], hT, HVL, HVM =>
      have HX := Lib.hid hx
      clear hx
      obtain ⟨g, o, rfl, hgl, hcell⟩ := hT.2 (by simp)
      obtain ⟨qv, cv, x4, hby⟩ := hcell 0 x rfl
      rw [Nat.add_zero] at x4
      have hxl : x.length ≤ 1300 := HVM.out x (by simp)
      have HGP := Lib.hid (show g ≠ P by have h1 : w.heap.size ≤ g := HTN.out _ rfl; have := HP0.out; omega)
      obtain ⟨WD, hWD⟩ : ∃ Z, w3.drew = Z := ⟨_, rfl⟩
      have hb : Below w3.heap.size w3 WD := hWD ▸ ⟨rfl, rfl, rfl, Nat.le_refl _, fun _ _ => rfl⟩
      replace A := A.trans (hb.mono A.size)
      replace hc := hc.on hb
      replace hP := hP.on hb
      replace hby := hby.on hb
      replace x4 := (World.cell?_of_block (hb.block g hgl)).trans x4
      replace hgl := Nat.lt_of_lt_of_le hgl hb.size
      replace HPL := Lib.hid (show P < WD.heap.size from hP.lt)
      have HWD := Lib.hid A.size
      have HDW := Lib.hid hWD
      have x2 := hc.place.cell
      have x3 := hc.parse.cell
      clear hT hcell HTN hWD hb
      simp only [List.length_cons, List.length_nil, Nat.zero_add]
      go_wp2_with fail
      refine pregion_any (fun X => X.cell? ⟨b + 2, 0, none⟩ = some (.pointer (some ⟨P, off, none⟩)) ∧ X.cell? ⟨b + 1, 0, none⟩ = some (.func (.func 50) #[] #[]) ∧ X.cell? ⟨g, o, none⟩ = some (.slice qv x.length cv)) (by kernel_rfl) ?_
      rw [HDW.out]
      refine wpAnyH_take (i := 0) (v := (.pointer (some ⟨P, off, none⟩))) rfl (by kernel_rfl) (by kernel_rfl) (by kernel_rfl) (fun _ _ _ h => h) (.inl ⟨by kernel_rfl, ?_⟩) ⟨x2, x3, x4⟩ ?_
      · rintro w ⟨h1, h2, h3⟩; go_simp <;> omega
      refine plist #[true, false, false, false, false, false, false, false, false, false, false, false] (by kernel_rfl) ?_
      refine wpAnyH_take (i := 1) (v := (.func (.func 50) #[] #[])) rfl (by kernel_rfl) (by kernel_rfl) (by kernel_rfl) (fun _ _ _ h => h) (.inl ⟨by kernel_rfl, ?_⟩) ⟨x2, x3, x4⟩ ?_
      · rintro w ⟨h1, h2, h3⟩; go_simp <;> omega
      refine plist #[true, true, false, false, false, false, false, false, false, false, false, false] (by kernel_rfl) ?_
      refine wpAnyH_take (i := 2) (v := (.slice (some ⟨g, o, none⟩) 1 cx)) rfl (by kernel_rfl) (by kernel_rfl) (by kernel_rfl) (fun _ _ _ h => h) (.inl ⟨by kernel_rfl, ?_⟩) ⟨x2, x3, x4⟩ ?_
      · rintro w ⟨h1, h2, h3⟩; go_simp <;> omega
      refine plist #[true, true, true, false, false, false, false, false, false, false, false, false] (by kernel_rfl) ?_
      refine wpAnyH_take (i := 3) (v := (.pointer (some ⟨g, o, none⟩))) rfl (by kernel_rfl) (by kernel_rfl) (by kernel_rfl) (fun _ _ _ h => h) (.inl ⟨by kernel_rfl, ?_⟩) ⟨x2, x3, x4⟩ ?_
      · rintro w ⟨h1, h2, h3⟩; go_simp <;> omega
      refine plist #[true, true, true, true, false, false, false, false, false, false, false, false] (by kernel_rfl) ?_
      refine wpAnyH_take (i := 4) (v := (.slice qv x.length cv)) rfl (by kernel_rfl) (by kernel_rfl) (by kernel_rfl) (fun _ _ _ h => h) (.inl ⟨by kernel_rfl, ?_⟩) ⟨x2, x3, x4⟩ ?_
      · rintro w ⟨h1, h2, h3⟩; go_simp <;> omega
      refine plist #[true, true, true, true, true, false, false, false, false, false, false, false] (by kernel_rfl) ?_
      have con := Lbl.Parse_any qv x.length cv x WD hby (by omega) (fun _ => ⟨by have := (Frm.at_len 59 x).1; omega, by have := (Frm.at_len 59 x).2; omega⟩) (HG.out.on A)
      refine pone 5 (by kernel_rfl) rfl fun K hK => ?_
      go_simp
      refine con.mono ?_
      rintro e w5 ⟨q1, n1, c1, q2, n2, c2, rfl, f1, f2, m1, m2, hb⟩
      have A5 := A.trans (hb.mono A.size)
      replace hc := hc.on hb
      replace hP := hP.on hb
      have x2 := hc.place.cell
      have x3 := hc.parse.cell
      have x4 := (World.cell?_of_block (hb.block g hgl)).trans x4
      have hb5 := Lib.hid hb.size
      clear con hb 
      refine hK _ _ ⟨x2, x3, x4⟩ ?_
      clear hK K
      refine plist #[true, true, true, true, true, true, false, false, false, false, false, false] (by kernel_rfl) ?_
      refine wpAnyH_take (i := 6) (v := (.tuple #[.agg #[.slice q1 n1 c1, .slice q2 n2 c2], .int .i64 (labE (parseL x))])) rfl (by kernel_rfl) (by kernel_rfl) (by kernel_rfl) (fun _ _ _ h => h) (.inl ⟨by kernel_rfl, ?_⟩) ⟨x2, x3, x4⟩ ?_
      · rintro w ⟨h1, h2, h3⟩; go_simp <;> omega
      refine plist #[true, true, true, true, true, true, true, false, false, false, false, false] (by kernel_rfl) ?_
      refine wpAnyH_take (i := 7) (v := (.agg #[.slice q1 n1 c1, .slice q2 n2 c2])) rfl (by kernel_rfl) (by kernel_rfl) (by kernel_rfl) (fun _ _ _ h => h) (.inl ⟨by kernel_rfl, ?_⟩) ⟨x2, x3, x4⟩ ?_
      · rintro w ⟨h1, h2, h3⟩; go_simp <;> omega
      refine plist #[true, true, true, true, true, true, true, true, false, false, false, false] (by kernel_rfl) ?_
      refine wpAnyH_take (i := 8) (v := (.int .i64 (labE (parseL x)))) rfl (by kernel_rfl) (by kernel_rfl) (by kernel_rfl) (fun _ _ _ h => h) (.inl ⟨by kernel_rfl, ?_⟩) ⟨x2, x3, x4⟩ ?_
      · rintro w ⟨h1, h2, h3⟩; go_simp <;> omega
      refine plist #[true, true, true, true, true, true, true, true, true, false, false, false] (by kernel_rfl) ?_
      refine wpAnyH_take (i := 9) (v := (.pointer (some ⟨P, off, none⟩))) rfl (by kernel_rfl) (by kernel_rfl) (by kernel_rfl) (fun _ _ _ h => h) (.inl ⟨by kernel_rfl, ?_⟩) ⟨x2, x3, x4⟩ ?_
      · rintro w ⟨h1, h2, h3⟩; go_simp <;> omega
      have z0 := hP.box off _ h0
      have g0 := hP.frozen off
      have z1 := hP.box (off + 1) _ h1
      have g1 := hP.frozen (off + 1)
      simp only [vT] at z0 z1
      obtain ⟨Y, hY⟩ : ∃ Y, (w5.setCell ⟨P, off, none⟩ (.slice q1 n1 c1)).setCell ⟨P, off + 1, none⟩ (.slice q2 n2 c2) = Y := ⟨_, rfl⟩
      have bY : PL P ((cs.setIfInBounds off (.slice q1 n1 c1)).setIfInBounds (off + 1) (.slice q2 n2 c2)) Y := hY ▸ (hP.set off _).set (off + 1) _
      have hkY : Keep (fun k => k ≠ P) w5 Y := hY ▸ (Keep.setCell _ _ _ (by simp)).trans (Keep.setCell _ _ _ (by simp))
      have r1 := lab_off (z := (q1, n1, c1)) (y := (q2, n2, c2)) (l := labV (parseL x)) ⟨q1, n1, c1, q2, n2, c2, rfl, f1, f2⟩ hP hsl (fun a ha h0 => by have := m1 a ha h0; have := HPL.out; omega) (fun a ha h0 => by have := m2 a ha h0; have := HPL.out; omega) hkY
      have HM1 := Lib.hid (fun a ha h0 => Nat.le_trans HWD.out (m1 a ha h0))
      have HM2 := Lib.hid (fun a ha h0 => Nat.le_trans HWD.out (m2 a ha h0))
      have y2 := (hkY.boxed hc.place HNE.out.2).cell
      have y3 := (hkY.boxed hc.parse HNE.out.1).cell
      have y4 := (World.cell?_of_block (hkY.block g (Nat.lt_of_lt_of_le hgl hb5.out) HGP.out)).trans x4
      have HR1 := Lib.hid r1
      have HY := Lib.hid hY
      clear hY r1 f1 f2 m1 m2 x2 x3 x4 hc hP
      refine plist #[true, true, true, true, true, true, true, true, true, true, false, false] (by kernel_rfl) ?_
      refine pone 10 (by kernel_rfl) rfl fun K hK => ?_
      go_simp
      rw [HY.out]
      refine hK _ _ ⟨y2, y3, y4⟩ ?_
      clear hK K
      clear z0 g0 z1 g1
      refine plist #[true, true, true, true, true, true, true, true, true, true, true, false] (by kernel_rfl) ?_
      refine pone 11 (by kernel_rfl) rfl fun K hK => ?_
      go_simp
      refine hK _ _ ⟨y2, y3, y4⟩ ?_
      clear hK K
      refine pdone (by kernel_rfl) ?_ _
      go_wp2
      go_ret
      exact ⟨_, rfl, (HK.out _ A5).trans hkY, .inr (.inl ⟨x, HX.out, rfl, (q1, n1, c1), (q2, n2, c2), bY, HR1.out, HM1.out, HM2.out⟩)⟩
set_option maxRecDepth 100000 in
set_option maxHeartbeats 8000000 in
theorem takeFrm_raw (b P off : Nat) (name : List UInt8) (cs : Array Value) (q : Option Addr) (n c B : Nat) (l : List Hdr.Fld) (w : World)
    (hH : Hdr.HdrIn B w q n c l) (hn : n ≤ 64) (hs : ∀ f ∈ l, f.1.length ≤ 1300 ∧ f.2.length ≤ 1300) (hnm : name.length ≤ 1000) (hc : Clo w b name 108 52 109 ⟨P, off, none⟩) (hP : PL P cs w) (hsl : Slc cs) (u0 : T3) (h0 : cs[off]? = some (vT u0)) (hG : Gl w) :
    Calls Tryz.prog 82 #[.agg #[.slice q n c], .pointer (some ⟨b, 0, none⟩), .pointer (some ⟨b + 1, 0, none⟩), .pointer (some ⟨b + 2, 0, none⟩)] w fun e w' => ∃ en : Int, e = .returned (.int .i64 en) ∧ Keep (fun k => k ≠ P) w w' ∧
      ((Hdr.valuesL l name = [] ∧ en = 0 ∧ PL P cs w') ∨ (∃ x, Hdr.valuesL l name = [x] ∧ en = frmE (parseF x) ∧ ∃ z : T3, PL P (cs.setIfInBounds off (vT z)) w' ∧ FrmIs w' (.agg #[vT z]) (frmV (parseF x)) ∧ (∀ a, z.1 = some a → 0 < z.2.1 → w.heap.size ≤ a.block)) ∨ (2 ≤ (Hdr.valuesL l name).length ∧ en = 5)) := by
  have hAL := below_alloc (w := w) (.cells #[.slice q n c] 42)
  have con := Hdr.Values_any B q n c l name (w.alloc (.cells #[.slice q n c] 42)) (hH.below hAL) (by omega) (fun f hf => ⟨by have := (hs f hf).1; omega, by have := (hs f hf).2; omega⟩) (by omega)
  have x0 := (Boxed.new w 42 (.slice q n c)).cell
  have hc1 := hc.on hAL
  have x1 := hc1.name.cell
  have hln := hH.len
  have HVL := Lib.hid (show (Hdr.valuesL l name).length ≤ 64 by have := values_len l name; omega)
  have HVM := Lib.hid (fun x h => values_mem l name x hs h)
  have HG := Lib.hid hG
  have HNE := Lib.hid (show b + 1 ≠ P ∧ b + 2 ≠ P from ⟨boxed_ne hc.parse hP (by decide), boxed_ne hc.place hP (by decide)⟩)
  have HK := Lib.hid (fun (w' : World) (hb : Below w.heap.size w w') => (Keep.of_below hb).mono (T := fun k => k ≠ P) fun k hk _ => hk)
  have HP0 := Lib.hid hP.lt
  generalize Hdr.valuesL l name = xs at *
  clear hH hs hln hG
  go_enter Tryz.func82, Tryz.ntmps82
  go_wp2_with fail
  refine con.mono ?_
  rintro e w2 ⟨gf, lb, RB, rfl, eg, hi, hRl, hb⟩
  have A2 := hAL.trans (hb.mono hAL.size)
  have con2 := Collect_txt gf lb xs RB w2 eg hi hRl (by have := HVL.out; omega)
  clear con hb x0 x1 hc1 hAL eg hi hRl
  go_wp2_with fail
  refine con2.mono ?_
  rintro e w3 ⟨qx, cx, rfl, hT, hTn, hb⟩
  have A := A2.trans (hb.mono A2.size)
  have HTN := Lib.hid (show ∀ a, qx = some a → w.heap.size ≤ a.block from fun a ha => Nat.le_trans A2.size (hTn a ha))
  replace hc := hc.on A
  replace hP := hP.on A
  have HPL := Lib.hid (show P < w3.heap.size from hP.lt)
  clear con2 hb hTn A2
  match hx : xs, hT, HVL, HVM with
  | [], hT, HVL, HVM =>
    have HX := Lib.hid hx
    clear hx
    clear hT HTN hc HNE HG
    go_wp2
    go_ret
    exact ⟨0, rfl, HK.out _ A, .inl ⟨HX.out, rfl, hP⟩⟩
  | x :: y :: r, hT, HVL, HVM =>
    have e0 : (((x :: y :: r).length : Int) == 0) = false := by rw [beq_eq_false_iff_ne]; simp only [List.length_cons]; omega
    have e1 : (((x :: y :: r).length : Int) == 1) = false := by rw [beq_eq_false_iff_ne]; simp only [List.length_cons]; omega
    have HL2 := Lib.hid (show 2 ≤ xs.length by rw [hx]; simp)
    clear hx
    generalize (x :: y :: r).length = m at *
    clear hT HTN hc HNE HG hP HPL
    go_wp2
    go_ret
    exact ⟨5, rfl, HK.out _ A, .inr (.inr ⟨HL2.out, rfl⟩)⟩
  | [x], hT, HVL, HVM =>
      have HX := Lib.hid hx
      clear hx
      obtain ⟨g, o, rfl, hgl, hcell⟩ := hT.2 (by simp)
      obtain ⟨qv, cv, x4, hby⟩ := hcell 0 x rfl
      rw [Nat.add_zero] at x4
      have hxl : x.length ≤ 1300 := HVM.out x (by simp)
      have HGP := Lib.hid (show g ≠ P by have h1 : w.heap.size ≤ g := HTN.out _ rfl; have := HP0.out; omega)
      obtain ⟨WD, hWD⟩ : ∃ Z, w3.drew = Z := ⟨_, rfl⟩
      have hb : Below w3.heap.size w3 WD := hWD ▸ ⟨rfl, rfl, rfl, Nat.le_refl _, fun _ _ => rfl⟩
      replace A := A.trans (hb.mono A.size)
      replace hc := hc.on hb
      replace hP := hP.on hb
      replace hby := hby.on hb
      replace x4 := (World.cell?_of_block (hb.block g hgl)).trans x4
      replace hgl := Nat.lt_of_lt_of_le hgl hb.size
      replace HPL := Lib.hid (show P < WD.heap.size from hP.lt)
      have HWD := Lib.hid A.size
      have HDW := Lib.hid hWD
      have x2 := hc.place.cell
      have x3 := hc.parse.cell
      clear hT hcell HTN hWD hb
      simp only [List.length_cons, List.length_nil, Nat.zero_add]
      go_wp2_with fail
      refine pregion_any (fun X => X.cell? ⟨b + 2, 0, none⟩ = some (.pointer (some ⟨P, off, none⟩)) ∧ X.cell? ⟨b + 1, 0, none⟩ = some (.func (.func 52) #[] #[]) ∧ X.cell? ⟨g, o, none⟩ = some (.slice qv x.length cv)) (by kernel_rfl) ?_
      rw [HDW.out]
      refine wpAnyH_take (i := 0) (v := (.pointer (some ⟨P, off, none⟩))) rfl (by kernel_rfl) (by kernel_rfl) (by kernel_rfl) (fun _ _ _ h => h) (.inl ⟨by kernel_rfl, ?_⟩) ⟨x2, x3, x4⟩ ?_
      · rintro w ⟨h1, h2, h3⟩; go_simp <;> omega
      refine plist #[true, false, false, false, false, false, false, false, false, false, false, false] (by kernel_rfl) ?_
      refine wpAnyH_take (i := 1) (v := (.func (.func 52) #[] #[])) rfl (by kernel_rfl) (by kernel_rfl) (by kernel_rfl) (fun _ _ _ h => h) (.inl ⟨by kernel_rfl, ?_⟩) ⟨x2, x3, x4⟩ ?_
      · rintro w ⟨h1, h2, h3⟩; go_simp <;> omega
      refine plist #[true, true, false, false, false, false, false, false, false, false, false, false] (by kernel_rfl) ?_
      refine wpAnyH_take (i := 2) (v := (.slice (some ⟨g, o, none⟩) 1 cx)) rfl (by kernel_rfl) (by kernel_rfl) (by kernel_rfl) (fun _ _ _ h => h) (.inl ⟨by kernel_rfl, ?_⟩) ⟨x2, x3, x4⟩ ?_
      · rintro w ⟨h1, h2, h3⟩; go_simp <;> omega
      refine plist #[true, true, true, false, false, false, false, false, false, false, false, false] (by kernel_rfl) ?_
      refine wpAnyH_take (i := 3) (v := (.pointer (some ⟨g, o, none⟩))) rfl (by kernel_rfl) (by kernel_rfl) (by kernel_rfl) (fun _ _ _ h => h) (.inl ⟨by kernel_rfl, ?_⟩) ⟨x2, x3, x4⟩ ?_
      · rintro w ⟨h1, h2, h3⟩; go_simp <;> omega
      refine plist #[true, true, true, true, false, false, false, false, false, false, false, false] (by kernel_rfl) ?_
      refine wpAnyH_take (i := 4) (v := (.slice qv x.length cv)) rfl (by kernel_rfl) (by kernel_rfl) (by kernel_rfl) (fun _ _ _ h => h) (.inl ⟨by kernel_rfl, ?_⟩) ⟨x2, x3, x4⟩ ?_
      · rintro w ⟨h1, h2, h3⟩; go_simp <;> omega
      refine plist #[true, true, true, true, true, false, false, false, false, false, false, false] (by kernel_rfl) ?_
      have con := Frm.Parse_any qv x.length cv x WD hby (.inl (by omega)) (HG.out.on A)
      refine pone 5 (by kernel_rfl) rfl fun K hK => ?_
      go_simp
      refine con.mono ?_
      rintro e w5 ⟨q1, n1, c1, rfl, f1, m1, hb⟩
      have A5 := A.trans (hb.mono A.size)
      replace hc := hc.on hb
      replace hP := hP.on hb
      have x2 := hc.place.cell
      have x3 := hc.parse.cell
      have x4 := (World.cell?_of_block (hb.block g hgl)).trans x4
      have hb5 := Lib.hid hb.size
      clear con hb 
      refine hK _ _ ⟨x2, x3, x4⟩ ?_
      clear hK K
      refine plist #[true, true, true, true, true, true, false, false, false, false, false, false] (by kernel_rfl) ?_
      refine wpAnyH_take (i := 6) (v := (.tuple #[.agg #[.slice q1 n1 c1], .int .i64 (frmE (parseF x))])) rfl (by kernel_rfl) (by kernel_rfl) (by kernel_rfl) (fun _ _ _ h => h) (.inl ⟨by kernel_rfl, ?_⟩) ⟨x2, x3, x4⟩ ?_
      · rintro w ⟨h1, h2, h3⟩; go_simp <;> omega
      refine plist #[true, true, true, true, true, true, true, false, false, false, false, false] (by kernel_rfl) ?_
      refine wpAnyH_take (i := 7) (v := (.agg #[.slice q1 n1 c1])) rfl (by kernel_rfl) (by kernel_rfl) (by kernel_rfl) (fun _ _ _ h => h) (.inl ⟨by kernel_rfl, ?_⟩) ⟨x2, x3, x4⟩ ?_
      · rintro w ⟨h1, h2, h3⟩; go_simp <;> omega
      refine plist #[true, true, true, true, true, true, true, true, false, false, false, false] (by kernel_rfl) ?_
      refine wpAnyH_take (i := 8) (v := (.int .i64 (frmE (parseF x)))) rfl (by kernel_rfl) (by kernel_rfl) (by kernel_rfl) (fun _ _ _ h => h) (.inl ⟨by kernel_rfl, ?_⟩) ⟨x2, x3, x4⟩ ?_
      · rintro w ⟨h1, h2, h3⟩; go_simp <;> omega
      refine plist #[true, true, true, true, true, true, true, true, true, false, false, false] (by kernel_rfl) ?_
      refine wpAnyH_take (i := 9) (v := (.pointer (some ⟨P, off, none⟩))) rfl (by kernel_rfl) (by kernel_rfl) (by kernel_rfl) (fun _ _ _ h => h) (.inl ⟨by kernel_rfl, ?_⟩) ⟨x2, x3, x4⟩ ?_
      · rintro w ⟨h1, h2, h3⟩; go_simp <;> omega
      have z0 := hP.box off _ h0
      have g0 := hP.frozen off
      simp only [vT] at z0
      obtain ⟨Y, hY⟩ : ∃ Y, w5.setCell ⟨P, off, none⟩ (.slice q1 n1 c1) = Y := ⟨_, rfl⟩
      have bY : PL P (cs.setIfInBounds off (.slice q1 n1 c1)) Y := hY ▸ hP.set off _
      have hkY : Keep (fun k => k ≠ P) w5 Y := hY ▸ Keep.setCell _ _ _ (by simp)
      have r1 := frm_off (z := (q1, n1, c1)) f1 hP hsl (fun a ha h0 => by have := m1 a ha; have := HPL.out; omega) hkY
      have HM1 := Lib.hid (fun a (ha : q1 = some a) (_ : 0 < n1) => Nat.le_trans HWD.out (m1 a ha))
      have y2 := (hkY.boxed hc.place HNE.out.2).cell
      have y3 := (hkY.boxed hc.parse HNE.out.1).cell
      have y4 := (World.cell?_of_block (hkY.block g (Nat.lt_of_lt_of_le hgl hb5.out) HGP.out)).trans x4
      have HR1 := Lib.hid r1
      have HY := Lib.hid hY
      clear hY r1 f1 m1 x2 x3 x4 hc hP
      refine plist #[true, true, true, true, true, true, true, true, true, true, false, false] (by kernel_rfl) ?_
      refine pone 10 (by kernel_rfl) rfl fun K hK => ?_
      go_simp
      rw [HY.out]
      refine hK _ _ ⟨y2, y3, y4⟩ ?_
      clear hK K
      clear z0 g0
      refine plist #[true, true, true, true, true, true, true, true, true, true, true, false] (by kernel_rfl) ?_
      refine pone 11 (by kernel_rfl) rfl fun K hK => ?_
      go_simp
      refine hK _ _ ⟨y2, y3, y4⟩ ?_
      clear hK K
      refine pdone (by kernel_rfl) ?_ _
      go_wp2
      go_ret
      exact ⟨_, rfl, (HK.out _ A5).trans hkY, .inr (.inl ⟨x, HX.out, rfl, (q1, n1, c1), bY, HR1.out, HM1.out⟩)⟩
set_option maxRecDepth 100000 in
set_option maxHeartbeats 8000000 in
theorem takeSrc_raw (b P off : Nat) (name : List UInt8) (cs : Array Value) (q : Option Addr) (n c B : Nat) (l : List Hdr.Fld) (w : World)
    (hH : Hdr.HdrIn B w q n c l) (hn : n ≤ 64) (hs : ∀ f ∈ l, f.1.length ≤ 1300 ∧ f.2.length ≤ 1300) (hnm : name.length ≤ 1000) (hc : Clo w b name 56 19 111 ⟨P, off, none⟩) (hP : PL P cs w) (hsl : Slc cs) (u0 : T3) (h0 : cs[off]? = some (vT u0)) (hG : Gl w) :
    Calls Tryz.prog 85 #[.agg #[.slice q n c], .pointer (some ⟨b, 0, none⟩), .pointer (some ⟨b + 1, 0, none⟩), .pointer (some ⟨b + 2, 0, none⟩)] w fun e w' => ∃ en : Int, e = .returned (.int .i64 en) ∧ Keep (fun k => k ≠ P) w w' ∧
      ((Hdr.valuesL l name = [] ∧ en = 0 ∧ PL P cs w') ∨ (∃ x, Hdr.valuesL l name = [x] ∧ en = sE (parseS x) ∧ ∃ z : T3, PL P (cs.setIfInBounds off (vT z)) w' ∧ SrcsIs w' (.agg #[vT z]) (sV (parseS x))) ∨ (2 ≤ (Hdr.valuesL l name).length ∧ en = 5)) := by
  have hAL := below_alloc (w := w) (.cells #[.slice q n c] 42)
  have con := Hdr.Values_any B q n c l name (w.alloc (.cells #[.slice q n c] 42)) (hH.below hAL) (by omega) (fun f hf => ⟨by have := (hs f hf).1; omega, by have := (hs f hf).2; omega⟩) (by omega)
  have x0 := (Boxed.new w 42 (.slice q n c)).cell
  have hc1 := hc.on hAL
  have x1 := hc1.name.cell
  have hln := hH.len
  have HVL := Lib.hid (show (Hdr.valuesL l name).length ≤ 64 by have := values_len l name; omega)
  have HVM := Lib.hid (fun x h => values_mem l name x hs h)
  have HG := Lib.hid hG
  have HNE := Lib.hid (show b + 1 ≠ P ∧ b + 2 ≠ P from ⟨boxed_ne hc.parse hP (by decide), boxed_ne hc.place hP (by decide)⟩)
  have HK := Lib.hid (fun (w' : World) (hb : Below w.heap.size w w') => (Keep.of_below hb).mono (T := fun k => k ≠ P) fun k hk _ => hk)
  have HP0 := Lib.hid hP.lt
  generalize Hdr.valuesL l name = xs at *
  clear hH hs hln hG
  go_enter Tryz.func85, Tryz.ntmps85
  go_wp2_with fail
  refine con.mono ?_
  rintro e w2 ⟨gf, lb, RB, rfl, eg, hi, hRl, hb⟩
  have A2 := hAL.trans (hb.mono hAL.size)
  have con2 := Collect_txt gf lb xs RB w2 eg hi hRl (by have := HVL.out; omega)
  clear con hb x0 x1 hc1 hAL eg hi hRl
  go_wp2_with fail
  refine con2.mono ?_
  rintro e w3 ⟨qx, cx, rfl, hT, hTn, hb⟩
  have A := A2.trans (hb.mono A2.size)
  have HTN := Lib.hid (show ∀ a, qx = some a → w.heap.size ≤ a.block from fun a ha => Nat.le_trans A2.size (hTn a ha))
  replace hc := hc.on A
  replace hP := hP.on A
  have HPL := Lib.hid (show P < w3.heap.size from hP.lt)
  clear con2 hb hTn A2
  match hx : xs, hT, HVL, HVM with
  | [], hT, HVL, HVM =>
    have HX := Lib.hid hx
    clear hx
    clear hT HTN hc HNE HG
    go_wp2
    go_ret
    exact ⟨0, rfl, HK.out _ A, .inl ⟨HX.out, rfl, hP⟩⟩
  | x :: y :: r, hT, HVL, HVM =>
    have e0 : (((x :: y :: r).length : Int) == 0) = false := by rw [beq_eq_false_iff_ne]; simp only [List.length_cons]; omega
    have e1 : (((x :: y :: r).length : Int) == 1) = false := by rw [beq_eq_false_iff_ne]; simp only [List.length_cons]; omega
    have HL2 := Lib.hid (show 2 ≤ xs.length by rw [hx]; simp)
    clear hx
    generalize (x :: y :: r).length = m at *
    clear hT HTN hc HNE HG hP HPL
    go_wp2
    go_ret
    exact ⟨5, rfl, HK.out _ A, .inr (.inr ⟨HL2.out, rfl⟩)⟩
  | [x], hT, HVL, HVM =>
      have HX := Lib.hid hx
      clear hx
      obtain ⟨g, o, rfl, hgl, hcell⟩ := hT.2 (by simp)
      obtain ⟨qv, cv, x4, hby⟩ := hcell 0 x rfl
      rw [Nat.add_zero] at x4
      have hxl : x.length ≤ 1300 := HVM.out x (by simp)
      have HGP := Lib.hid (show g ≠ P by have h1 : w.heap.size ≤ g := HTN.out _ rfl; have := HP0.out; omega)
      obtain ⟨WD, hWD⟩ : ∃ Z, w3.drew = Z := ⟨_, rfl⟩
      have hb : Below w3.heap.size w3 WD := hWD ▸ ⟨rfl, rfl, rfl, Nat.le_refl _, fun _ _ => rfl⟩
      replace A := A.trans (hb.mono A.size)
      replace hc := hc.on hb
      replace hP := hP.on hb
      replace hby := hby.on hb
      replace x4 := (World.cell?_of_block (hb.block g hgl)).trans x4
      replace hgl := Nat.lt_of_lt_of_le hgl hb.size
      replace HPL := Lib.hid (show P < WD.heap.size from hP.lt)
      have HWD := Lib.hid A.size
      have HDW := Lib.hid hWD
      have x2 := hc.place.cell
      have x3 := hc.parse.cell
      clear hT hcell HTN hWD hb
      simp only [List.length_cons, List.length_nil, Nat.zero_add]
      go_wp2_with fail
      refine pregion_any (fun X => X.cell? ⟨b + 2, 0, none⟩ = some (.pointer (some ⟨P, off, none⟩)) ∧ X.cell? ⟨b + 1, 0, none⟩ = some (.func (.func 19) #[] #[]) ∧ X.cell? ⟨g, o, none⟩ = some (.slice qv x.length cv)) (by kernel_rfl) ?_
      rw [HDW.out]
      refine wpAnyH_take (i := 0) (v := (.pointer (some ⟨P, off, none⟩))) rfl (by kernel_rfl) (by kernel_rfl) (by kernel_rfl) (fun _ _ _ h => h) (.inl ⟨by kernel_rfl, ?_⟩) ⟨x2, x3, x4⟩ ?_
      · rintro w ⟨h1, h2, h3⟩; go_simp <;> omega
      refine plist #[true, false, false, false, false, false, false, false, false, false, false, false] (by kernel_rfl) ?_
      refine wpAnyH_take (i := 1) (v := (.func (.func 19) #[] #[])) rfl (by kernel_rfl) (by kernel_rfl) (by kernel_rfl) (fun _ _ _ h => h) (.inl ⟨by kernel_rfl, ?_⟩) ⟨x2, x3, x4⟩ ?_
      · rintro w ⟨h1, h2, h3⟩; go_simp <;> omega
      refine plist #[true, true, false, false, false, false, false, false, false, false, false, false] (by kernel_rfl) ?_
      refine wpAnyH_take (i := 2) (v := (.slice (some ⟨g, o, none⟩) 1 cx)) rfl (by kernel_rfl) (by kernel_rfl) (by kernel_rfl) (fun _ _ _ h => h) (.inl ⟨by kernel_rfl, ?_⟩) ⟨x2, x3, x4⟩ ?_
      · rintro w ⟨h1, h2, h3⟩; go_simp <;> omega
      refine plist #[true, true, true, false, false, false, false, false, false, false, false, false] (by kernel_rfl) ?_
      refine wpAnyH_take (i := 3) (v := (.pointer (some ⟨g, o, none⟩))) rfl (by kernel_rfl) (by kernel_rfl) (by kernel_rfl) (fun _ _ _ h => h) (.inl ⟨by kernel_rfl, ?_⟩) ⟨x2, x3, x4⟩ ?_
      · rintro w ⟨h1, h2, h3⟩; go_simp <;> omega
      refine plist #[true, true, true, true, false, false, false, false, false, false, false, false] (by kernel_rfl) ?_
      refine wpAnyH_take (i := 4) (v := (.slice qv x.length cv)) rfl (by kernel_rfl) (by kernel_rfl) (by kernel_rfl) (fun _ _ _ h => h) (.inl ⟨by kernel_rfl, ?_⟩) ⟨x2, x3, x4⟩ ?_
      · rintro w ⟨h1, h2, h3⟩; go_simp <;> omega
      refine plist #[true, true, true, true, true, false, false, false, false, false, false, false] (by kernel_rfl) ?_
      have con := ParseSources_any qv x.length cv x WD hby (by omega) (pieces_short x (by omega)) (HG.out.on A)
      refine pone 5 (by kernel_rfl) rfl fun K hK => ?_
      go_simp
      refine con.mono ?_
      rintro e w5 ⟨q1, n1, c1, rfl, f1, hb⟩
      have A5 := A.trans (hb.mono A.size)
      replace hc := hc.on hb
      replace hP := hP.on hb
      have x2 := hc.place.cell
      have x3 := hc.parse.cell
      have x4 := (World.cell?_of_block (hb.block g hgl)).trans x4
      have hb5 := Lib.hid hb.size
      clear con hb 
      refine hK _ _ ⟨x2, x3, x4⟩ ?_
      clear hK K
      refine plist #[true, true, true, true, true, true, false, false, false, false, false, false] (by kernel_rfl) ?_
      refine wpAnyH_take (i := 6) (v := (.tuple #[.agg #[.slice q1 n1 c1], .int .i64 (sE (parseS x))])) rfl (by kernel_rfl) (by kernel_rfl) (by kernel_rfl) (fun _ _ _ h => h) (.inl ⟨by kernel_rfl, ?_⟩) ⟨x2, x3, x4⟩ ?_
      · rintro w ⟨h1, h2, h3⟩; go_simp <;> omega
      refine plist #[true, true, true, true, true, true, true, false, false, false, false, false] (by kernel_rfl) ?_
      refine wpAnyH_take (i := 7) (v := (.agg #[.slice q1 n1 c1])) rfl (by kernel_rfl) (by kernel_rfl) (by kernel_rfl) (fun _ _ _ h => h) (.inl ⟨by kernel_rfl, ?_⟩) ⟨x2, x3, x4⟩ ?_
      · rintro w ⟨h1, h2, h3⟩; go_simp <;> omega
      refine plist #[true, true, true, true, true, true, true, true, false, false, false, false] (by kernel_rfl) ?_
      refine wpAnyH_take (i := 8) (v := (.int .i64 (sE (parseS x)))) rfl (by kernel_rfl) (by kernel_rfl) (by kernel_rfl) (fun _ _ _ h => h) (.inl ⟨by kernel_rfl, ?_⟩) ⟨x2, x3, x4⟩ ?_
      · rintro w ⟨h1, h2, h3⟩; go_simp <;> omega
      refine plist #[true, true, true, true, true, true, true, true, true, false, false, false] (by kernel_rfl) ?_
      refine wpAnyH_take (i := 9) (v := (.pointer (some ⟨P, off, none⟩))) rfl (by kernel_rfl) (by kernel_rfl) (by kernel_rfl) (fun _ _ _ h => h) (.inl ⟨by kernel_rfl, ?_⟩) ⟨x2, x3, x4⟩ ?_
      · rintro w ⟨h1, h2, h3⟩; go_simp <;> omega
      have z0 := hP.box off _ h0
      have g0 := hP.frozen off
      simp only [vT] at z0
      obtain ⟨Y, hY⟩ : ∃ Y, w5.setCell ⟨P, off, none⟩ (.slice q1 n1 c1) = Y := ⟨_, rfl⟩
      have bY : PL P (cs.setIfInBounds off (.slice q1 n1 c1)) Y := hY ▸ hP.set off _
      have hkY : Keep (fun k => k ≠ P) w5 Y := hY ▸ Keep.setCell _ _ _ (by simp)
      have r1 := srcs_off f1 hP hsl hkY
      have y2 := (hkY.boxed hc.place HNE.out.2).cell
      have y3 := (hkY.boxed hc.parse HNE.out.1).cell
      have y4 := (World.cell?_of_block (hkY.block g (Nat.lt_of_lt_of_le hgl hb5.out) HGP.out)).trans x4
      have HR1 := Lib.hid r1
      have HY := Lib.hid hY
      clear hY r1 f1 x2 x3 x4 hc hP
      refine plist #[true, true, true, true, true, true, true, true, true, true, false, false] (by kernel_rfl) ?_
      refine pone 10 (by kernel_rfl) rfl fun K hK => ?_
      go_simp
      rw [HY.out]
      refine hK _ _ ⟨y2, y3, y4⟩ ?_
      clear hK K
      clear z0 g0
      refine plist #[true, true, true, true, true, true, true, true, true, true, true, false] (by kernel_rfl) ?_
      refine pone 11 (by kernel_rfl) rfl fun K hK => ?_
      go_simp
      refine hK _ _ ⟨y2, y3, y4⟩ ?_
      clear hK K
      refine pdone (by kernel_rfl) ?_ _
      go_wp2
      go_ret
      exact ⟨_, rfl, (HK.out _ A5).trans hkY, .inr (.inl ⟨x, HX.out, rfl, (q1, n1, c1), bY, HR1.out⟩)⟩
end Go.Proofs.YtedglpfdibamdaaGreatDoor.Pol
namespace Go.Proofs.YtedglpfdibamdaaGreatDoor.Pol
open Go.RowKit Go.Shelf Url Org Frm Cls Lbl
set_option linter.unusedVariables false
def mapR {α β : Type} (r : Sum Int α) (f : α → β) : Sum Int β := match r with | .inl e => .inl e | .inr x => .inr (f x)
def stepF (l : List Hdr.Fld) : Nat → PolP → Sum Int PolP
  | 0, p => mapR (oneR l dataS parseL p.data) fun d => { p with data := d }
  | 1, p => mapR (oneR l ctxS parseL p.ctx) fun d => { p with ctx := d }
  | 2, p => mapR (oneR l clrS parseL p.clr) fun d => { p with clr := d }
  | 3, p => mapR (oneR l prvS parseF p.prv) fun d => { p with prv := d }
  | 4, p => mapR (oneR l conS parseS p.con) fun d => { p with con := d }
  | _, p => mapR (oneR l frmS parseS p.frm) fun d => { p with frm := d }
def finF (o : QO) (p : PolP) : Sum Int PolP := if (impB (ownF o) p.prv && flowsB p.ctx p.clr) = true then .inr p else .inl 17
def goF (l : List Hdr.Fld) (o : QO) : List Nat → PolP → Sum Int PolP
  | [], p => finF o p
  | k :: ks, p => match stepF l k p with
    | .inl e => .inl e
    | .inr p' => goF l o ks p'
theorem of_go (l : List Hdr.Fld) (o : QO) : ofP l o = goF l o [0, 1, 2, 3, 4, 5] (plainP o) := by
  unfold ofP
  cases h0 : oneR l dataS parseL (plainP o).data with
  | inl e => simp only [goF, stepF, mapR, h0]
  | inr d =>
    cases h1 : oneR l ctxS parseL (plainP o).ctx with
    | inl e => simp only [goF, stepF, mapR, h0, h1]
    | inr c =>
      cases h2 : oneR l clrS parseL (plainP o).clr with
      | inl e => simp only [goF, stepF, mapR, h0, h1, h2]
      | inr r =>
        cases h3 : oneR l prvS parseF (plainP o).prv with
        | inl e => simp only [goF, stepF, mapR, h0, h1, h2, h3]
        | inr v =>
          cases h4 : oneR l conS parseS (plainP o).con with
          | inl e => simp only [goF, stepF, mapR, h0, h1, h2, h3, h4]
          | inr k =>
            cases h5 : oneR l frmS parseS (plainP o).frm with
            | inl e => simp only [goF, stepF, mapR, h0, h1, h2, h3, h4, h5]
            | inr f => simp only [goF, stepF, mapR, h0, h1, h2, h3, h4, h5, finF]
theorem parseL_ne (t : List UInt8) (e : Int) (h : parseL t = .inl e) : e ≠ 0 := by
  unfold parseL at h
  split at h
  · cases h; decide
  · split at h
    · split at h
      · rename_i hp
        cases h
        rcases parseF_no _ _ hp with h | h <;> omega
      · cases h
    · split at h
      · rename_i hp
        cases h
        rcases parseF_no _ _ hp with h | h <;> omega
      · split at h
        · rename_i hp
          cases h
          rcases parseF_no _ _ hp with h | h <;> omega
        · cases h
    · cases h; decide
theorem parseF_ne (t : List UInt8) (e : Int) (h : parseF t = .inl e) : e ≠ 0 := by
  rcases parseF_no _ _ h with h | h <;> omega
theorem one_nil {α : Type} (l : List Hdr.Fld) (name : List UInt8) (parse : List UInt8 → Sum Int α) (old : α) (h : Hdr.valuesL l name = []) : oneR l name parse old = .inr old := by unfold oneR; rw [h]
theorem one_one {α : Type} (l : List Hdr.Fld) (name : List UInt8) (parse : List UInt8 → Sum Int α) (old : α) (x : List UInt8) (h : Hdr.valuesL l name = [x]) : oneR l name parse old = parse x := by unfold oneR; rw [h]
theorem one_two {α : Type} (l : List Hdr.Fld) (name : List UInt8) (parse : List UInt8 → Sum Int α) (old : α) (h : 2 ≤ (Hdr.valuesL l name).length) : oneR l name parse old = .inl 5 := by
  unfold oneR
  split
  · rename_i h1; rw [h1] at h; simp at h
  · rename_i h1; rw [h1] at h; simp at h
  · rfl
theorem map_ok {α : Type} (P : α → Prop) (Q : PolP → Prop) (l : List Hdr.Fld) (name : List UInt8) (parse : List UInt8 → Sum Int α) (old : α) (f : α → PolP) (p' : PolP) (h0 : P old) (hp : ∀ v ∈ Hdr.valuesL l name, ∀ y, parse v = .inr y → P y) (hQ : ∀ x, P x → Q (f x)) (h : mapR (oneR l name parse old) f = .inr p') : Q p' := by
  unfold mapR at h
  split at h
  · cases h
  · rename_i x hx
    cases h
    exact hQ x (one_in P l name parse old x h0 hp hx)
theorem step_ok (l : List Hdr.Fld) (hl : ∀ f ∈ l, f.2.length ≤ 1300) (k : Nat) (p p' : PolP) (hp : POk p) (h : stepF l k p = .inr p') : POk p' := by
  have hv : ∀ name, ∀ v ∈ Hdr.valuesL l name, v.length ≤ 1300 := fun name v hv => by
    unfold Hdr.valuesL at hv
    obtain ⟨f, hf, rfl⟩ := List.mem_map.1 hv
    exact hl f (List.mem_filter.1 hf).1
  unfold stepF at h
  split at h
  · exact map_ok LOk POk l dataS parseL p.data (fun d => { p with data := d }) p' hp.data (fun v _ y hy => parse_labOk v y hy) (fun x hx => ⟨hx, hp.ctx, hp.clr, hp.prv, hp.con, hp.frm⟩) h
  · exact map_ok LOk POk l ctxS parseL p.ctx (fun d => { p with ctx := d }) p' hp.ctx (fun v _ y hy => parse_labOk v y hy) (fun x hx => ⟨hp.data, hx, hp.clr, hp.prv, hp.con, hp.frm⟩) h
  · exact map_ok LOk POk l clrS parseL p.clr (fun d => { p with clr := d }) p' hp.clr (fun v _ y hy => parse_labOk v y hy) (fun x hx => ⟨hp.data, hp.ctx, hx, hp.prv, hp.con, hp.frm⟩) h
  · exact map_ok (fun f => f.length ≤ 16) POk l prvS parseF p.prv (fun d => { p with prv := d }) p' hp.prv (fun v _ y hy => (parseF_ok v y hy).few) (fun x hx => ⟨hp.data, hp.ctx, hp.clr, hx, hp.con, hp.frm⟩) h
  · exact map_ok (fun x : List (List UInt8) => (∀ c ∈ x, SrcOk c) ∧ x.length ≤ 32) POk l conS parseS p.con (fun d => { p with con := d }) p' hp.con (fun v hm y hy => parse_in v y (hv _ v hm) hy) (fun x hx => ⟨hp.data, hp.ctx, hp.clr, hp.prv, hx, hp.frm⟩) h
  · exact map_ok (fun x : List (List UInt8) => (∀ c ∈ x, SrcOk c) ∧ x.length ≤ 32) POk l frmS parseS p.frm (fun d => { p with frm := d }) p' hp.frm (fun v hm y hy => parse_in v y (hv _ v hm) hy) (fun x hx => ⟨hp.data, hp.ctx, hp.clr, hp.prv, hp.con, hx⟩) h
def PAt2 (R P : Nat) (p : PolP) (w : World) : Prop := ∃ z : N9, PL P z.arr w ∧ z.Is w p ∧ z.Off P ∧ z.Off R
theorem N9.Is.off {z : N9} {w w' : World} {p : PolP} {B : Nat} {cs : Array Value} (h : z.Is w p) (hB : PL B cs w) (hs : Slc cs) (hO : z.Off B) (hk : Keep (fun b => b ≠ B) w w') : z.Is w' p :=
  ⟨lab_off h.d hB hs hO.d0 hO.d1 hk, lab_off h.c hB hs hO.c0 hO.c1 hk, lab_off h.r hB hs hO.r0 hO.r1 hk, frm_off h.v hB hs hO.p0 hk, srcs_off h.k hB hs hk, srcs_off h.f hB hs hk⟩
theorem PAt2.keep {R P Q : Nat} {p : PolP} {w w' : World} (h : PAt2 R P p w) (hb : Below w.heap.size w w') : PAt2 R P p w' := by
  obtain ⟨z, h1, h2, h3, h4⟩ := h
  exact ⟨z, h1.on hb, h2.below hb, h3, h4⟩
def StepOut (l : List Hdr.Fld) (k R P : Nat) (p : PolP) (w : World) (e : Ending) (w' : World) : Prop :=
  Keep (fun b => b ≠ P) w w' ∧ ((∃ en : Int, e = .returned (.int .i64 en) ∧ en ≠ 0 ∧ stepF l k p = .inl en) ∨ (e = .returned (.int .i64 0) ∧ ∃ p', stepF l k p = .inr p' ∧ PAt2 R P p' w'))
theorem step0_any (b P R : Nat) (q : Option Addr) (n c B : Nat) (l : List Hdr.Fld) (p : PolP) (w : World)
    (hH : Hdr.HdrIn B w q n c l) (hn : n ≤ 64) (hs : ∀ f ∈ l, f.1.length ≤ 1300 ∧ f.2.length ≤ 1300) (hc : Clo w b dataS 105 50 106 ⟨P, 0, none⟩) (hP : PAt2 R P p w) (hR : R < w.heap.size) (hG : Gl w) :
    Calls Tryz.prog 79 #[.agg #[.slice q n c], .pointer (some ⟨b, 0, none⟩), .pointer (some ⟨b + 1, 0, none⟩), .pointer (some ⟨b + 2, 0, none⟩)] w (StepOut l 0 R P p w) := by
  obtain ⟨z, h1, h2, h3, h4⟩ := hP
  have hPl := h1.lt
  refine (takeLab_raw b P 0 dataS z.arr q n c B l w hH hn hs (by decide) hc h1 (arr_slc z) z.d0 z.d1 rfl rfl hG).mono ?_
  rintro e w' ⟨en, rfl, hk, h⟩
  have hI := h2.off h1 (arr_slc z) h3 hk
  refine ⟨hk, ?_⟩
  rcases h with ⟨hx, rfl, hP'⟩ | ⟨x, hx, rfl, z', y', hP', hL, m1, m2⟩ | ⟨h2, rfl⟩
  · refine .inr ⟨rfl, p, ?_, z, hP', hI, h3, h4⟩
    show mapR (oneR l dataS parseL p.data) _ = _
    rw [one_nil _ _ _ _ hx]
    rfl
  · cases hr : parseL x with
    | inl e' =>
      refine .inl ⟨e', rfl, parseL_ne _ _ hr, ?_⟩
      show mapR (oneR l dataS parseL p.data) _ = _
      rw [one_one _ _ _ _ x hx, hr]
      rfl
    | inr v =>
      have hP2 : PL P ((z.arr.setIfInBounds 0 (vT z')).setIfInBounds 1 (vT y')) w' := hP'
      have e2 : ((z.arr.setIfInBounds 0 (vT z')).setIfInBounds 1 (vT y')) = N9.arr { z with d0 := z', d1 := y' } := by
        unfold N9.arr
        simp only [List.setIfInBounds_toArray, List.set_cons_zero, List.set_cons_succ]
      rw [e2] at hP2
      refine .inr ⟨rfl, { p with data := v }, ?_, { z with d0 := z', d1 := y' }, hP2, ⟨by rw [hr] at hL; exact hL, hI.c, hI.r, hI.v, hI.k, hI.f⟩, ⟨(fun aa ha h0 => by have := m1 aa ha h0; omega), (fun aa ha h0 => by have := m2 aa ha h0; omega), h3.c0, h3.c1, h3.r0, h3.r1, h3.p0⟩, ⟨(fun aa ha h0 => by have := m1 aa ha h0; omega), (fun aa ha h0 => by have := m2 aa ha h0; omega), h4.c0, h4.c1, h4.r0, h4.r1, h4.p0⟩⟩
      show mapR (oneR l dataS parseL p.data) _ = _
      rw [one_one _ _ _ _ x hx, hr]
      rfl
  · refine .inl ⟨5, rfl, by decide, ?_⟩
    show mapR (oneR l dataS parseL p.data) _ = _
    rw [one_two _ _ _ _ h2]
    rfl
theorem step1_any (b P R : Nat) (q : Option Addr) (n c B : Nat) (l : List Hdr.Fld) (p : PolP) (w : World)
    (hH : Hdr.HdrIn B w q n c l) (hn : n ≤ 64) (hs : ∀ f ∈ l, f.1.length ≤ 1300 ∧ f.2.length ≤ 1300) (hc : Clo w b ctxS 105 50 106 ⟨P, 2, none⟩) (hP : PAt2 R P p w) (hR : R < w.heap.size) (hG : Gl w) :
    Calls Tryz.prog 79 #[.agg #[.slice q n c], .pointer (some ⟨b, 0, none⟩), .pointer (some ⟨b + 1, 0, none⟩), .pointer (some ⟨b + 2, 0, none⟩)] w (StepOut l 1 R P p w) := by
  obtain ⟨z, h1, h2, h3, h4⟩ := hP
  have hPl := h1.lt
  refine (takeLab_raw b P 2 ctxS z.arr q n c B l w hH hn hs (by decide) hc h1 (arr_slc z) z.c0 z.c1 rfl rfl hG).mono ?_
  rintro e w' ⟨en, rfl, hk, h⟩
  have hI := h2.off h1 (arr_slc z) h3 hk
  refine ⟨hk, ?_⟩
  rcases h with ⟨hx, rfl, hP'⟩ | ⟨x, hx, rfl, z', y', hP', hL, m1, m2⟩ | ⟨h2, rfl⟩
  · refine .inr ⟨rfl, p, ?_, z, hP', hI, h3, h4⟩
    show mapR (oneR l ctxS parseL p.ctx) _ = _
    rw [one_nil _ _ _ _ hx]
    rfl
  · cases hr : parseL x with
    | inl e' =>
      refine .inl ⟨e', rfl, parseL_ne _ _ hr, ?_⟩
      show mapR (oneR l ctxS parseL p.ctx) _ = _
      rw [one_one _ _ _ _ x hx, hr]
      rfl
    | inr v =>
      have hP2 : PL P ((z.arr.setIfInBounds 2 (vT z')).setIfInBounds 3 (vT y')) w' := hP'
      have e2 : ((z.arr.setIfInBounds 2 (vT z')).setIfInBounds 3 (vT y')) = N9.arr { z with c0 := z', c1 := y' } := by
        unfold N9.arr
        simp only [List.setIfInBounds_toArray, List.set_cons_zero, List.set_cons_succ]
      rw [e2] at hP2
      refine .inr ⟨rfl, { p with ctx := v }, ?_, { z with c0 := z', c1 := y' }, hP2, ⟨hI.d, by rw [hr] at hL; exact hL, hI.r, hI.v, hI.k, hI.f⟩, ⟨h3.d0, h3.d1, (fun aa ha h0 => by have := m1 aa ha h0; omega), (fun aa ha h0 => by have := m2 aa ha h0; omega), h3.r0, h3.r1, h3.p0⟩, ⟨h4.d0, h4.d1, (fun aa ha h0 => by have := m1 aa ha h0; omega), (fun aa ha h0 => by have := m2 aa ha h0; omega), h4.r0, h4.r1, h4.p0⟩⟩
      show mapR (oneR l ctxS parseL p.ctx) _ = _
      rw [one_one _ _ _ _ x hx, hr]
      rfl
  · refine .inl ⟨5, rfl, by decide, ?_⟩
    show mapR (oneR l ctxS parseL p.ctx) _ = _
    rw [one_two _ _ _ _ h2]
    rfl
theorem step2_any (b P R : Nat) (q : Option Addr) (n c B : Nat) (l : List Hdr.Fld) (p : PolP) (w : World)
    (hH : Hdr.HdrIn B w q n c l) (hn : n ≤ 64) (hs : ∀ f ∈ l, f.1.length ≤ 1300 ∧ f.2.length ≤ 1300) (hc : Clo w b clrS 105 50 106 ⟨P, 4, none⟩) (hP : PAt2 R P p w) (hR : R < w.heap.size) (hG : Gl w) :
    Calls Tryz.prog 79 #[.agg #[.slice q n c], .pointer (some ⟨b, 0, none⟩), .pointer (some ⟨b + 1, 0, none⟩), .pointer (some ⟨b + 2, 0, none⟩)] w (StepOut l 2 R P p w) := by
  obtain ⟨z, h1, h2, h3, h4⟩ := hP
  have hPl := h1.lt
  refine (takeLab_raw b P 4 clrS z.arr q n c B l w hH hn hs (by decide) hc h1 (arr_slc z) z.r0 z.r1 rfl rfl hG).mono ?_
  rintro e w' ⟨en, rfl, hk, h⟩
  have hI := h2.off h1 (arr_slc z) h3 hk
  refine ⟨hk, ?_⟩
  rcases h with ⟨hx, rfl, hP'⟩ | ⟨x, hx, rfl, z', y', hP', hL, m1, m2⟩ | ⟨h2, rfl⟩
  · refine .inr ⟨rfl, p, ?_, z, hP', hI, h3, h4⟩
    show mapR (oneR l clrS parseL p.clr) _ = _
    rw [one_nil _ _ _ _ hx]
    rfl
  · cases hr : parseL x with
    | inl e' =>
      refine .inl ⟨e', rfl, parseL_ne _ _ hr, ?_⟩
      show mapR (oneR l clrS parseL p.clr) _ = _
      rw [one_one _ _ _ _ x hx, hr]
      rfl
    | inr v =>
      have hP2 : PL P ((z.arr.setIfInBounds 4 (vT z')).setIfInBounds 5 (vT y')) w' := hP'
      have e2 : ((z.arr.setIfInBounds 4 (vT z')).setIfInBounds 5 (vT y')) = N9.arr { z with r0 := z', r1 := y' } := by
        unfold N9.arr
        simp only [List.setIfInBounds_toArray, List.set_cons_zero, List.set_cons_succ]
      rw [e2] at hP2
      refine .inr ⟨rfl, { p with clr := v }, ?_, { z with r0 := z', r1 := y' }, hP2, ⟨hI.d, hI.c, by rw [hr] at hL; exact hL, hI.v, hI.k, hI.f⟩, ⟨h3.d0, h3.d1, h3.c0, h3.c1, (fun aa ha h0 => by have := m1 aa ha h0; omega), (fun aa ha h0 => by have := m2 aa ha h0; omega), h3.p0⟩, ⟨h4.d0, h4.d1, h4.c0, h4.c1, (fun aa ha h0 => by have := m1 aa ha h0; omega), (fun aa ha h0 => by have := m2 aa ha h0; omega), h4.p0⟩⟩
      show mapR (oneR l clrS parseL p.clr) _ = _
      rw [one_one _ _ _ _ x hx, hr]
      rfl
  · refine .inl ⟨5, rfl, by decide, ?_⟩
    show mapR (oneR l clrS parseL p.clr) _ = _
    rw [one_two _ _ _ _ h2]
    rfl
theorem step3_any (b P R : Nat) (q : Option Addr) (n c B : Nat) (l : List Hdr.Fld) (p : PolP) (w : World)
    (hH : Hdr.HdrIn B w q n c l) (hn : n ≤ 64) (hs : ∀ f ∈ l, f.1.length ≤ 1300 ∧ f.2.length ≤ 1300) (hc : Clo w b prvS 108 52 109 ⟨P, 6, none⟩) (hP : PAt2 R P p w) (hR : R < w.heap.size) (hG : Gl w) :
    Calls Tryz.prog 82 #[.agg #[.slice q n c], .pointer (some ⟨b, 0, none⟩), .pointer (some ⟨b + 1, 0, none⟩), .pointer (some ⟨b + 2, 0, none⟩)] w (StepOut l 3 R P p w) := by
  obtain ⟨z, h1, h2, h3, h4⟩ := hP
  have hPl := h1.lt
  refine (takeFrm_raw b P 6 prvS z.arr q n c B l w hH hn hs (by decide) hc h1 (arr_slc z) z.p0 rfl hG).mono ?_
  rintro e w' ⟨en, rfl, hk, h⟩
  have hI := h2.off h1 (arr_slc z) h3 hk
  refine ⟨hk, ?_⟩
  rcases h with ⟨hx, rfl, hP'⟩ | ⟨x, hx, rfl, z', hP', hL, m1⟩ | ⟨h2, rfl⟩
  · refine .inr ⟨rfl, p, ?_, z, hP', hI, h3, h4⟩
    show mapR (oneR l prvS parseF p.prv) _ = _
    rw [one_nil _ _ _ _ hx]
    rfl
  · cases hr : parseF x with
    | inl e' =>
      refine .inl ⟨e', rfl, parseF_ne _ _ hr, ?_⟩
      show mapR (oneR l prvS parseF p.prv) _ = _
      rw [one_one _ _ _ _ x hx, hr]
      rfl
    | inr v =>
      have hP2 : PL P (z.arr.setIfInBounds 6 (vT z')) w' := hP'
      have e2 : (z.arr.setIfInBounds 6 (vT z')) = N9.arr { z with p0 := z' } := by
        unfold N9.arr
        simp only [List.setIfInBounds_toArray, List.set_cons_zero, List.set_cons_succ]
      rw [e2] at hP2
      refine .inr ⟨rfl, { p with prv := v }, ?_, { z with p0 := z' }, hP2, ⟨hI.d, hI.c, hI.r, by rw [hr] at hL; exact hL, hI.k, hI.f⟩, ⟨h3.d0, h3.d1, h3.c0, h3.c1, h3.r0, h3.r1, (fun aa ha h0 => by have := m1 aa ha h0; omega)⟩, ⟨h4.d0, h4.d1, h4.c0, h4.c1, h4.r0, h4.r1, (fun aa ha h0 => by have := m1 aa ha h0; omega)⟩⟩
      show mapR (oneR l prvS parseF p.prv) _ = _
      rw [one_one _ _ _ _ x hx, hr]
      rfl
  · refine .inl ⟨5, rfl, by decide, ?_⟩
    show mapR (oneR l prvS parseF p.prv) _ = _
    rw [one_two _ _ _ _ h2]
    rfl
theorem step4_any (b P R : Nat) (q : Option Addr) (n c B : Nat) (l : List Hdr.Fld) (p : PolP) (w : World)
    (hH : Hdr.HdrIn B w q n c l) (hn : n ≤ 64) (hs : ∀ f ∈ l, f.1.length ≤ 1300 ∧ f.2.length ≤ 1300) (hc : Clo w b conS 56 19 111 ⟨P, 7, none⟩) (hP : PAt2 R P p w) (hR : R < w.heap.size) (hG : Gl w) :
    Calls Tryz.prog 85 #[.agg #[.slice q n c], .pointer (some ⟨b, 0, none⟩), .pointer (some ⟨b + 1, 0, none⟩), .pointer (some ⟨b + 2, 0, none⟩)] w (StepOut l 4 R P p w) := by
  obtain ⟨z, h1, h2, h3, h4⟩ := hP
  have hPl := h1.lt
  refine (takeSrc_raw b P 7 conS z.arr q n c B l w hH hn hs (by decide) hc h1 (arr_slc z) z.k0 rfl hG).mono ?_
  rintro e w' ⟨en, rfl, hk, h⟩
  have hI := h2.off h1 (arr_slc z) h3 hk
  refine ⟨hk, ?_⟩
  rcases h with ⟨hx, rfl, hP'⟩ | ⟨x, hx, rfl, z', hP', hL⟩ | ⟨h2, rfl⟩
  · refine .inr ⟨rfl, p, ?_, z, hP', hI, h3, h4⟩
    show mapR (oneR l conS parseS p.con) _ = _
    rw [one_nil _ _ _ _ hx]
    rfl
  · cases hr : parseS x with
    | inl e' =>
      refine .inl ⟨e', rfl, parse_errS _ _ hr, ?_⟩
      show mapR (oneR l conS parseS p.con) _ = _
      rw [one_one _ _ _ _ x hx, hr]
      rfl
    | inr v =>
      have hP2 : PL P (z.arr.setIfInBounds 7 (vT z')) w' := hP'
      have e2 : (z.arr.setIfInBounds 7 (vT z')) = N9.arr { z with k0 := z' } := by
        unfold N9.arr
        simp only [List.setIfInBounds_toArray, List.set_cons_zero, List.set_cons_succ]
      rw [e2] at hP2
      refine .inr ⟨rfl, { p with con := v }, ?_, { z with k0 := z' }, hP2, ⟨hI.d, hI.c, hI.r, hI.v, by rw [hr] at hL; exact hL, hI.f⟩, ⟨h3.d0, h3.d1, h3.c0, h3.c1, h3.r0, h3.r1, h3.p0⟩, ⟨h4.d0, h4.d1, h4.c0, h4.c1, h4.r0, h4.r1, h4.p0⟩⟩
      show mapR (oneR l conS parseS p.con) _ = _
      rw [one_one _ _ _ _ x hx, hr]
      rfl
  · refine .inl ⟨5, rfl, by decide, ?_⟩
    show mapR (oneR l conS parseS p.con) _ = _
    rw [one_two _ _ _ _ h2]
    rfl
theorem step5_any (b P R : Nat) (q : Option Addr) (n c B : Nat) (l : List Hdr.Fld) (p : PolP) (w : World)
    (hH : Hdr.HdrIn B w q n c l) (hn : n ≤ 64) (hs : ∀ f ∈ l, f.1.length ≤ 1300 ∧ f.2.length ≤ 1300) (hc : Clo w b frmS 56 19 111 ⟨P, 8, none⟩) (hP : PAt2 R P p w) (hR : R < w.heap.size) (hG : Gl w) :
    Calls Tryz.prog 85 #[.agg #[.slice q n c], .pointer (some ⟨b, 0, none⟩), .pointer (some ⟨b + 1, 0, none⟩), .pointer (some ⟨b + 2, 0, none⟩)] w (StepOut l 5 R P p w) := by
  obtain ⟨z, h1, h2, h3, h4⟩ := hP
  have hPl := h1.lt
  refine (takeSrc_raw b P 8 frmS z.arr q n c B l w hH hn hs (by decide) hc h1 (arr_slc z) z.f0 rfl hG).mono ?_
  rintro e w' ⟨en, rfl, hk, h⟩
  have hI := h2.off h1 (arr_slc z) h3 hk
  refine ⟨hk, ?_⟩
  rcases h with ⟨hx, rfl, hP'⟩ | ⟨x, hx, rfl, z', hP', hL⟩ | ⟨h2, rfl⟩
  · refine .inr ⟨rfl, p, ?_, z, hP', hI, h3, h4⟩
    show mapR (oneR l frmS parseS p.frm) _ = _
    rw [one_nil _ _ _ _ hx]
    rfl
  · cases hr : parseS x with
    | inl e' =>
      refine .inl ⟨e', rfl, parse_errS _ _ hr, ?_⟩
      show mapR (oneR l frmS parseS p.frm) _ = _
      rw [one_one _ _ _ _ x hx, hr]
      rfl
    | inr v =>
      have hP2 : PL P (z.arr.setIfInBounds 8 (vT z')) w' := hP'
      have e2 : (z.arr.setIfInBounds 8 (vT z')) = N9.arr { z with f0 := z' } := by
        unfold N9.arr
        simp only [List.setIfInBounds_toArray, List.set_cons_zero, List.set_cons_succ]
      rw [e2] at hP2
      refine .inr ⟨rfl, { p with frm := v }, ?_, { z with f0 := z' }, hP2, ⟨hI.d, hI.c, hI.r, hI.v, hI.k, by rw [hr] at hL; exact hL⟩, ⟨h3.d0, h3.d1, h3.c0, h3.c1, h3.r0, h3.r1, h3.p0⟩, ⟨h4.d0, h4.d1, h4.c0, h4.c1, h4.r0, h4.r1, h4.p0⟩⟩
      show mapR (oneR l frmS parseS p.frm) _ = _
      rw [one_one _ _ _ _ x hx, hr]
      rfl
  · refine .inl ⟨5, rfl, by decide, ?_⟩
    show mapR (oneR l frmS parseS p.frm) _ = _
    rw [one_two _ _ _ _ h2]
    rfl
end Go.Proofs.YtedglpfdibamdaaGreatDoor.Pol
namespace Go.Proofs.YtedglpfdibamdaaGreatDoor.Pol
open Go.RowKit Go.Shelf Url Org Frm Cls Lbl
attribute [local go_sem] Oper.semAt_some
set_option linter.unusedVariables false
theorem ret_pol2 {fn : Func} {p u : Tmp} (h : fn.results = #[.cell p 38, .tmp u]) (tmps : Array Value) (w : World) (B : Nat) (cs : Array Value) (hp : tmps.getD p undef = .pointer (some ⟨B, 0, none⟩)) (hU : PL B cs w) (hs : cs.size = 9) :
    (results fn tmps).run Tryz.prog w = .ok (.tuple #[.agg cs, tmps.getD u undef]) w := by
  rw [results_cell_tmp h, hp]
  simp [asAddr, Result.andThen, run_loadVar_row w B 38 _ cs (0, 0) _ hU Tryz.underlying38 rfl (by rw [size_pol, hs])]
theorem pol_zero (w : World) : PolIs w (.agg #[.slice none 0 0, .slice none 0 0, .slice none 0 0, .slice none 0 0, .slice none 0 0, .slice none 0 0, .slice none 0 0, .slice none 0 0, .slice none 0 0]) zeroP :=
  ⟨_, _, _, _, _, _, _, _, _, rfl, lab_open w, lab_open w, lab_open w, frm_nil w, ⟨none, 0, 0, rfl, fun _ => rfl, Nat.le_refl _, SrcIn.nil _ _⟩, ⟨none, 0, 0, rfl, fun _ => rfl, Nat.le_refl _, SrcIn.nil _ _⟩⟩
theorem hdr_keep {B P : Nat} {w w' : World} {q : Option Addr} {n c : Nat} {l : List Hdr.Fld} (h : Hdr.HdrIn B w q n c l) (hq : ∀ a, q = some a → 0 < n → a.block ≠ P) (hk : Keep (fun b => b ≠ P) w w') : Hdr.HdrIn B w' q n c l := by
  refine ⟨h.1, h.2.1, h.2.2.1, fun h0 => ?_⟩
  obtain ⟨g, o, rfl, hB, hg, hc⟩ := h.2.2.2 h0
  have hb := hk.block g hg (hq _ rfl h0)
  have hcell : ∀ j, w'.cell? ⟨g, j, none⟩ = w.cell? ⟨g, j, none⟩ := fun j => by simp only [World.cell?, hb]
  exact ⟨g, o, rfl, hB, Nat.lt_of_lt_of_le hg hk.size, fun i z hz => by rw [hcell, hcell]; exact hc i z hz⟩
theorem hdr_lt {B : Nat} {w : World} {q : Option Addr} {n c : Nat} {l : List Hdr.Fld} (h : Hdr.HdrIn B w q n c l) : ∀ a, q = some a → 0 < n → a.block < w.heap.size := fun a ha h0 => by
  obtain ⟨g, o, rfl, _, hg, _⟩ := h.2.2.2 h0
  cases ha
  exact hg
theorem off_of {z y : N9} {B : Nat} (e : z.arr = y.arr) (h : y.Off B) : z.Off B := by
  have e' : z = y := by
    obtain ⟨a0, a1, a2, a3, a4, a5, a6, a7, a8⟩ := z
    obtain ⟨b0, b1, b2, b3, b4, b5, b6, b7, b8⟩ := y
    have hv : ∀ x y : T3, vT x = vT y → x = y := fun x y h => by
      obtain ⟨x1, x2, x3⟩ := x
      obtain ⟨y1, y2, y3⟩ := y
      cases h
      rfl
    have h := List.cons.inj (Array.mk.inj e)
    simp only [List.cons.injEq] at h
    obtain ⟨h0, h1, h2, h3, h4, h5, h6, h7, h8, _⟩ := h
    rw [hv _ _ h0, hv _ _ h1, hv _ _ h2, hv _ _ h3, hv _ _ h4, hv _ _ h5, hv _ _ h6, hv _ _ h7, hv _ _ h8]
  rw [e']; exact h
theorem keep_below {P M : Nat} {w w' : World} (h : Keep (fun b => b ≠ P) w w') (hP : M ≤ P) (hM : M ≤ w.heap.size) : Below M w w' := (h.mono (T := fun b => b < M) fun b _ hb => by omega).below hM
theorem small_ok {p : PolP} (h : POk p) : Few p.ctx ∧ Few p.clr ∧ p.prv.length ≤ 1000 := ⟨lok_few h.ctx, lok_few h.clr, Nat.le_trans h.prv (by decide)⟩
set_option maxRecDepth 100000 in
set_option maxHeartbeats 64000000 in
theorem Of_any (B : Nat) (q : Option Addr) (n c : Nat) (l : List Hdr.Fld) (o : QO) (w : World) (h : Hdr.HdrIn B w q n c l) (hl : n ≤ 64) (hs : ∀ f ∈ l, f.1.length ≤ 1300 ∧ f.2.length ≤ 1300) (ho : OkQ o) (hG : Gl w) :
    Calls Tryz.prog 9 #[.agg #[.slice q n c], orgQ o] w (PolOut (ofP l o) w) := by
  have HPL := Lib.hid (fun W (hg : Gl W) => Plain_new o W ho hg)
  obtain ⟨⟨⟨s, g⟩, ⟨pp, m⟩⟩, e1⟩ : ∃ y, partsQ o = y := ⟨_, rfl⟩
  have e2 : orgQ o = .agg #[.string ⟨s.toArray⟩, .string ⟨g.toArray⟩, .int .i64 pp, .int .i64 m] := by unfold orgQ orgV; rw [e1]
  rw [e2] at HPL ⊢
  obtain ⟨R0, hR0⟩ : ∃ r, ofP l o = r := ⟨_, rfl⟩
  rw [hR0]
  have HGO := Lib.hid (show R0 = goF l o [0, 1, 2, 3, 4, 5] (plainP o) from hR0.symm.trans (of_go l o))
  obtain ⟨W, hW⟩ : ∃ Z, ((w.alloc (.cells #[.slice q n c] 42)).alloc (.cells #[.string ⟨s.toArray⟩, .string ⟨g.toArray⟩, .int .i64 pp, .int .i64 m] 25)).alloc (.cells #[.slice none 0 0, .slice none 0 0, .slice none 0 0, .slice none 0 0, .slice none 0 0, .slice none 0 0, .slice none 0 0, .slice none 0 0, .slice none 0 0] 38) = Z := ⟨_, rfl⟩
  have A : Below w.heap.size w W := hW ▸ (((Below.refl _ w).alloc (Nat.le_refl _) _).alloc (by simp) _).alloc (by simp; omega) _
  have bH : Boxed W w.heap.size 42 (.slice q n c) := hW ▸ ((Boxed.new w _ _).alloc _).alloc _
  have Q : OB (w.heap.size + 1) #[.string ⟨s.toArray⟩, .string ⟨g.toArray⟩, .int .i64 pp, .int .i64 m] W := by
    have := (OB.new (w.alloc (.cells #[.slice q n c] 42)) #[.string ⟨s.toArray⟩, .string ⟨g.toArray⟩, .int .i64 pp, .int .i64 m]).on (below_alloc (.cells #[.slice none 0 0, .slice none 0 0, .slice none 0 0, .slice none 0 0, .slice none 0 0, .slice none 0 0, .slice none 0 0, .slice none 0 0, .slice none 0 0] 38))
    rw [World.size_alloc] at this
    exact hW ▸ this
  have bRw : PL (w.heap.size + 2) #[.slice none 0 0, .slice none 0 0, .slice none 0 0, .slice none 0 0, .slice none 0 0, .slice none 0 0, .slice none 0 0, .slice none 0 0, .slice none 0 0] W := by
    have := PL.new ((w.alloc (.cells #[.slice q n c] 42)).alloc (.cells #[.string ⟨s.toArray⟩, .string ⟨g.toArray⟩, .int .i64 pp, .int .i64 m] 25)) #[.slice none 0 0, .slice none 0 0, .slice none 0 0, .slice none 0 0, .slice none 0 0, .slice none 0 0, .slice none 0 0, .slice none 0 0, .slice none 0 0]
    rw [World.size_alloc, World.size_alloc] at this
    exact hW ▸ this
  have hsW : W.heap.size = w.heap.size + 3 := by rw [← hW]; simp
  have hHl := hdr_lt h
  have hH := h.below A
  have HG := Lib.hid hG
  have HNL := Lib.hid hl
  have HSL := Lib.hid hs
  have HW := Lib.hid hW
  have HOWN := Lib.hid (own_len o)
  have HPOK := Lib.hid (plain_ok o)
  have x0 := Q.box 0 _ rfl
  have x1 := Q.box 1 _ rfl
  have x2 := Q.box 2 _ rfl
  have x3 := Q.box 3 _ rfl
  have con := HPL.out W (HG.out.on A)
  clear hW h e1 e2 hR0 hG hs ho Q HPL hl
  go_enter Tryz.func9, Tryz.ntmps9
  go_wp2_with fail
  rw [HW.out]
  go_wp2_with fail
  refine con.mono ?_
  rintro e w1 ⟨⟨⟨zqd0, znd0, zcd0⟩, ⟨zqd1, znd1, zcd1⟩, ⟨zqc0, znc0, zcc0⟩, ⟨zqc1, znc1, zcc1⟩, ⟨zqr0, znr0, zcr0⟩, ⟨zqr1, znr1, zcr1⟩, ⟨zqp0, znp0, zcp0⟩, ⟨zqk0, znk0, zck0⟩, ⟨zqf0, znf0, zcf0⟩⟩, rfl, hI, hO, hb⟩
  simp only [N9.arr, vT]
  have A1 := A.trans (hb.mono A.size)
  have hs1 := hb.size
  have hOR := Lib.hid (hO (w.heap.size + 2) (by omega))
  replace bH := (Keep.of_below hb).boxed bH bH.lt
  replace bRw := bRw.on hb
  replace hH := hH.below hb
  obtain ⟨P, hP⟩ : ∃ x, w1.heap.size = x := ⟨_, rfl⟩
  have hPw : w.heap.size ≤ P := by omega
  have hRP : w.heap.size + 2 ≠ P := by omega
  have hHP : w.heap.size ≠ P := by omega
  have hpl0 := PL.new w1 #[.slice zqd0 znd0 zcd0, .slice zqd1 znd1 zcd1, .slice zqc0 znc0 zcc0, .slice zqc1 znc1 zcc1, .slice zqr0 znr0 zcr0, .slice zqr1 znr1 zcr1, .slice zqp0 znp0 zcp0, .slice zqk0 znk0 zck0, .slice zqf0 znf0 zcf0]
  have hpn := PAt.new hI
  obtain ⟨w2, hw2⟩ : ∃ Z, (w1.alloc (.cells #[.slice zqd0 znd0 zcd0, .slice zqd1 znd1 zcd1, .slice zqc0 znc0 zcc0, .slice zqc1 znc1 zcc1, .slice zqr0 znr0 zcr0, .slice zqr1 znr1 zcr1, .slice zqp0 znp0 zcp0, .slice zqk0 znk0 zck0, .slice zqf0 znf0 zcf0] 38)).alloc (.cells #[.slice zqp0 znp0 zcp0] 31) = Z := ⟨_, rfl⟩
  have x6 := hpl0.box 6 _ rfl
  have hb2 : Below w1.heap.size w1 w2 := hw2 ▸ ((Below.refl _ w1).alloc (Nat.le_refl _) _).alloc (by simp) _
  have bP2 : PL P #[.slice zqd0 znd0 zcd0, .slice zqd1 znd1 zcd1, .slice zqc0 znc0 zcc0, .slice zqc1 znc1 zcc1, .slice zqr0 znr0 zcr0, .slice zqr1 znr1 zcr1, .slice zqp0 znp0 zcp0, .slice zqk0 znk0 zck0, .slice zqf0 znf0 zcf0] w2 := hP ▸ hw2 ▸ hpl0.on (below_alloc _)
  have bO2 : Boxed w2 (P + 1) 31 (.slice zqp0 znp0 zcp0) := by
    have := Boxed.new (w1.alloc (.cells #[.slice zqd0 znd0 zcd0, .slice zqd1 znd1 zcd1, .slice zqc0 znc0 zcc0, .slice zqc1 znc1 zcc1, .slice zqr0 znr0 zcr0, .slice zqr1 znr1 zcr1, .slice zqp0 znp0 zcp0, .slice zqk0 znk0 zck0, .slice zqf0 znf0 zcf0] 38)) 31 (.slice zqp0 znp0 zcp0)
    rw [World.size_alloc, hP] at this
    exact hw2 ▸ this
  have hI2 := hI.below hb2
  have hOP : N9.Off ⟨(zqd0, znd0, zcd0), (zqd1, znd1, zcd1), (zqc0, znc0, zcc0), (zqc1, znc1, zcc1), (zqr0, znr0, zcr0), (zqr1, znr1, zcr1), (zqp0, znp0, zcp0), (zqk0, znk0, zck0), (zqf0, znf0, zcf0)⟩ P := by
    obtain ⟨zz, e3, _, e4⟩ := hpn
    have e5 : N9.arr ⟨(zqd0, znd0, zcd0), (zqd1, znd1, zcd1), (zqc0, znc0, zcc0), (zqc1, znc1, zcc1), (zqr0, znr0, zcr0), (zqr1, znr1, zcr1), (zqp0, znp0, zcp0), (zqk0, znk0, zck0), (zqf0, znf0, zcf0)⟩ = zz.arr := by
      have h1 : PL w1.heap.size (N9.arr ⟨(zqd0, znd0, zcd0), (zqd1, znd1, zcd1), (zqc0, znc0, zcc0), (zqc1, znc1, zcc1), (zqr0, znr0, zcr0), (zqr1, znr1, zcr1), (zqp0, znp0, zcp0), (zqk0, znk0, zck0), (zqf0, znf0, zcf0)⟩) (w1.alloc (.cells (N9.arr ⟨(zqd0, znd0, zcd0), (zqd1, znd1, zcd1), (zqc0, znc0, zcc0), (zqc1, znc1, zcc1), (zqr0, znr0, zcr0), (zqr1, znr1, zcr1), (zqp0, znp0, zcp0), (zqk0, znk0, zck0), (zqf0, znf0, zcf0)⟩) 38)) := PL.new w1 _
      have h2 := h1.symm.trans e3
      cases h2
      rfl
    exact hP ▸ off_of e5 e4
  have hs2 : w2.heap.size = P + 2 := by rw [← hw2, ← hP]; simp
  have A2 := A1.trans (hb2.mono A1.size)
  replace bH := (Keep.of_below hb2).boxed bH bH.lt
  replace bRw := bRw.on hb2
  replace hH := hH.below hb2
  have hpa : PAt2 (w.heap.size + 2) P (plainP o) w2 := ⟨⟨(zqd0, znd0, zcd0), (zqd1, znd1, zcd1), (zqc0, znc0, zcc0), (zqc1, znc1, zcc1), (zqr0, znr0, zcr0), (zqr1, znr1, zcr1), (zqp0, znp0, zcp0), (zqk0, znk0, zck0), (zqf0, znf0, zcf0)⟩, bP2, hI2, hOP, hOR.out⟩
  have hOF : FrmIs w2 (.agg #[.slice zqp0 znp0 zcp0]) (ownF o) := hI2.v
  have HOO := Lib.hid hOP.p0
  have HW2 := Lib.hid hw2
  have HPP := Lib.hid hP
  have con2 := fields_any P w2
  clear con hb x0 x1 x2 x3 hI hO hpl0 hpn hw2 hb2 bP2 hI2 hOP hOR A A1 hs1 hP HW
  go_wp2_with fail
  rewrite [HPP.out, HW2.out]
  clear x6
  go_wp2_with fail
  refine con2.mono ?_
  rintro e wd ⟨g, rfl, hgl, ⟨b0, b1, b2, b3, b4, b5, hF, ⟨h0, k0⟩, ⟨h1, k1⟩, ⟨h2, k2⟩, ⟨h3, k3⟩, ⟨h4, k4⟩, ⟨h5, k5⟩⟩, hb⟩
  have hBd := A2.trans (hb.mono A2.size)
  replace bH := (Keep.of_below hb).boxed bH bH.lt
  replace bRw := bRw.on hb
  replace hH := hH.below hb
  replace bO2 := (Keep.of_below hb).boxed bO2 bO2.lt
  replace hOF := hOF.below hb
  have hpd := hpa.keep (Q := 0) hb
  have hgP : g ≠ P := by omega
  have hsd := hb.size
  have HHQ := Lib.hid (show ∀ a, q = some a → 0 < n → a.block ≠ P from fun a ha h0 => by have := hHl a ha h0; omega)
  have HRW := Lib.hid (show w.heap.size + 2 < wd.heap.size by omega)
  have HGO2 := Lib.hid (show R0 = goF l o (List.drop 0 [0, 1, 2, 3, 4, 5]) (plainP o) from HGO.out)
  clear con2 hb hpa HW2 A2 HGO hHl HPP
  go_wp2_with fail
  go_loopw [17] (fun i wr => ∃ k : Nat, ∃ p : PolP, k ≤ 6 ∧ i = .int .i64 k ∧ Hid (R0 = goF l o (List.drop k [0, 1, 2, 3, 4, 5]) p) ∧ Hid (POk p) ∧ PAt2 (w.heap.size + 2) P p wr ∧ Keep (fun b => b ≠ P) wd wr) (fun i _ => 6 - (intOf i).toNat)
  case atStart => exact ⟨0, plainP o, by omega, rfl, HGO2, HPOK, hpd, Keep.refl _ _⟩
  case round =>
    obtain ⟨k, p, hk, rfl, HR, HOK, hp, hK⟩ := hrel
    have hpd0 := Lib.hid hpd
    clear hpd HGO2 HPOK
    by_cases hlt : k < 6
    · rcases (show k = 0 ∨ k = 1 ∨ k = 2 ∨ k = 3 ∨ k = 4 ∨ k = 5 by omega) with hk0 | hk0 | hk0 | hk0 | hk0 | hk0
      · have HKK := Lib.hid hk0
        clear hk0
        have xk : wr.cell? ⟨g, k, none⟩ = some (cloV 79 b0) := by
          rw [HKK.out]
          exact (hF.keep hK hgP).box 0 _ rfl
        have con := step0_any b0 P (w.heap.size + 2) q n c B l p wr (hdr_keep hH HHQ.out hK) HNL.out HSL.out (k0.keep hK (by have := h0; omega)) hp (Nat.lt_of_lt_of_le HRW.out hK.size) (HG.out.on (hBd.trans (keep_below hK hPw hBd.size)))
        have hstp := Lib.hid (show ∀ r, stepF l 0 p = r → R0 = match r with | .inl e => .inl e | .inr p' => goF l o (List.drop (k + 1) [0, 1, 2, 3, 4, 5]) p' from fun r hr => by
          rw [HR.out, HKK.out]
          show goF l o (0 :: List.drop (0 + 1) [0, 1, 2, 3, 4, 5]) p = _
          conv => lhs; unfold goF
          rw [hr])
        have hbx := (hK.boxed bH hHP).cell
        unfold cloV at xk
        clear k0 k1 k2 k3 k4 k5 hF hH
        go_wp2_with fail
        refine con.mono ?_
        rintro e w5 ⟨hk5, (⟨en, rfl, hne, hst⟩ | ⟨rfl, p', hst, hp5⟩)⟩
        · have HR2 := Lib.hid (show R0 = .inl en from hstp.out _ hst)
          have K5 := hK.trans hk5
          have d2 : ((en : Int) != 0) = true := by rw [bne_iff_ne]; exact hne
          have bR := bRw.keep K5 hRP
          have B5 := hBd.trans (keep_below K5 hPw hBd.size)
          clear hp hst hne xk hbx con hK hk5 K5 bRw hstp HR
          have z0 := bR.box 0 _ rfl
          have z1 := bR.box 1 _ rfl
          have z2 := bR.box 2 _ rfl
          have z3 := bR.box 3 _ rfl
          have z4 := bR.box 4 _ rfl
          have z5 := bR.box 5 _ rfl
          have z6 := bR.box 6 _ rfl
          have z7 := bR.box 7 _ rfl
          have z8 := bR.box 8 _ rfl
          have f0 := bR.frozen 0
          have f1 := bR.frozen 1
          have f2 := bR.frozen 2
          have f3 := bR.frozen 3
          have f4 := bR.frozen 4
          have f5 := bR.frozen 5
          have f6 := bR.frozen 6
          have f7 := bR.frozen 7
          have f8 := bR.frozen 8
          obtain ⟨Y, hY, bY, hkY, hBY⟩ := bR.put (.slice none 0 0) (.slice none 0 0) (.slice none 0 0) (.slice none 0 0) (.slice none 0 0) (.slice none 0 0) (.slice none 0 0) (.slice none 0 0) (.slice none 0 0)
          have HY := Lib.hid hY
          clear hY hkY bR
          go_wp2
          rw [HY.out]
          (try simp only [Exit.inBlock, Exit.then])
          refine bodyPost_ret (ret_pol2 rfl _ _ (w.heap.size + 2) _ rfl bY rfl) rfl ?_
          rw [HR2.out]
          exact ⟨_, rfl, pol_zero _, B5.trans (hBY _ (by omega))⟩
        · have HR2 := Lib.hid (show R0 = goF l o (List.drop (k + 1) [0, 1, 2, 3, 4, 5]) p' from hstp.out _ hst)
          have HOK2 := Lib.hid (step_ok l (fun f hf => (HSL.out f hf).2) 0 p p' HOK.out hst)
          have K5 := hK.trans hk5
          clear hp hst xk hbx con hK hk5 hstp
          go_wp2
          go_roundw
          case rel => exact ⟨k + 1, p', by omega, by go_num, HR2, HOK2, hp5, K5⟩
          case measure => simp [intOf]; omega
      · have HKK := Lib.hid hk0
        clear hk0
        have xk : wr.cell? ⟨g, k, none⟩ = some (cloV 79 b1) := by
          rw [HKK.out]
          exact (hF.keep hK hgP).box 1 _ rfl
        have con := step1_any b1 P (w.heap.size + 2) q n c B l p wr (hdr_keep hH HHQ.out hK) HNL.out HSL.out (k1.keep hK (by have := h1; omega)) hp (Nat.lt_of_lt_of_le HRW.out hK.size) (HG.out.on (hBd.trans (keep_below hK hPw hBd.size)))
        have hstp := Lib.hid (show ∀ r, stepF l 1 p = r → R0 = match r with | .inl e => .inl e | .inr p' => goF l o (List.drop (k + 1) [0, 1, 2, 3, 4, 5]) p' from fun r hr => by
          rw [HR.out, HKK.out]
          show goF l o (1 :: List.drop (1 + 1) [0, 1, 2, 3, 4, 5]) p = _
          conv => lhs; unfold goF
          rw [hr])
        have hbx := (hK.boxed bH hHP).cell
        unfold cloV at xk
        clear k0 k1 k2 k3 k4 k5 hF hH
        go_wp2_with fail
        refine con.mono ?_
        rintro e w5 ⟨hk5, (⟨en, rfl, hne, hst⟩ | ⟨rfl, p', hst, hp5⟩)⟩
        · have HR2 := Lib.hid (show R0 = .inl en from hstp.out _ hst)
          have K5 := hK.trans hk5
          have d2 : ((en : Int) != 0) = true := by rw [bne_iff_ne]; exact hne
          have bR := bRw.keep K5 hRP
          have B5 := hBd.trans (keep_below K5 hPw hBd.size)
          clear hp hst hne xk hbx con hK hk5 K5 bRw hstp HR
          have z0 := bR.box 0 _ rfl
          have z1 := bR.box 1 _ rfl
          have z2 := bR.box 2 _ rfl
          have z3 := bR.box 3 _ rfl
          have z4 := bR.box 4 _ rfl
          have z5 := bR.box 5 _ rfl
          have z6 := bR.box 6 _ rfl
          have z7 := bR.box 7 _ rfl
          have z8 := bR.box 8 _ rfl
          have f0 := bR.frozen 0
          have f1 := bR.frozen 1
          have f2 := bR.frozen 2
          have f3 := bR.frozen 3
          have f4 := bR.frozen 4
          have f5 := bR.frozen 5
          have f6 := bR.frozen 6
          have f7 := bR.frozen 7
          have f8 := bR.frozen 8
          obtain ⟨Y, hY, bY, hkY, hBY⟩ := bR.put (.slice none 0 0) (.slice none 0 0) (.slice none 0 0) (.slice none 0 0) (.slice none 0 0) (.slice none 0 0) (.slice none 0 0) (.slice none 0 0) (.slice none 0 0)
          have HY := Lib.hid hY
          clear hY hkY bR
          go_wp2
          rw [HY.out]
          (try simp only [Exit.inBlock, Exit.then])
          refine bodyPost_ret (ret_pol2 rfl _ _ (w.heap.size + 2) _ rfl bY rfl) rfl ?_
          rw [HR2.out]
          exact ⟨_, rfl, pol_zero _, B5.trans (hBY _ (by omega))⟩
        · have HR2 := Lib.hid (show R0 = goF l o (List.drop (k + 1) [0, 1, 2, 3, 4, 5]) p' from hstp.out _ hst)
          have HOK2 := Lib.hid (step_ok l (fun f hf => (HSL.out f hf).2) 1 p p' HOK.out hst)
          have K5 := hK.trans hk5
          clear hp hst xk hbx con hK hk5 hstp
          go_wp2
          go_roundw
          case rel => exact ⟨k + 1, p', by omega, by go_num, HR2, HOK2, hp5, K5⟩
          case measure => simp [intOf]; omega
      · have HKK := Lib.hid hk0
        clear hk0
        have xk : wr.cell? ⟨g, k, none⟩ = some (cloV 79 b2) := by
          rw [HKK.out]
          exact (hF.keep hK hgP).box 2 _ rfl
        have con := step2_any b2 P (w.heap.size + 2) q n c B l p wr (hdr_keep hH HHQ.out hK) HNL.out HSL.out (k2.keep hK (by have := h2; omega)) hp (Nat.lt_of_lt_of_le HRW.out hK.size) (HG.out.on (hBd.trans (keep_below hK hPw hBd.size)))
        have hstp := Lib.hid (show ∀ r, stepF l 2 p = r → R0 = match r with | .inl e => .inl e | .inr p' => goF l o (List.drop (k + 1) [0, 1, 2, 3, 4, 5]) p' from fun r hr => by
          rw [HR.out, HKK.out]
          show goF l o (2 :: List.drop (2 + 1) [0, 1, 2, 3, 4, 5]) p = _
          conv => lhs; unfold goF
          rw [hr])
        have hbx := (hK.boxed bH hHP).cell
        unfold cloV at xk
        clear k0 k1 k2 k3 k4 k5 hF hH
        go_wp2_with fail
        refine con.mono ?_
        rintro e w5 ⟨hk5, (⟨en, rfl, hne, hst⟩ | ⟨rfl, p', hst, hp5⟩)⟩
        · have HR2 := Lib.hid (show R0 = .inl en from hstp.out _ hst)
          have K5 := hK.trans hk5
          have d2 : ((en : Int) != 0) = true := by rw [bne_iff_ne]; exact hne
          have bR := bRw.keep K5 hRP
          have B5 := hBd.trans (keep_below K5 hPw hBd.size)
          clear hp hst hne xk hbx con hK hk5 K5 bRw hstp HR
          have z0 := bR.box 0 _ rfl
          have z1 := bR.box 1 _ rfl
          have z2 := bR.box 2 _ rfl
          have z3 := bR.box 3 _ rfl
          have z4 := bR.box 4 _ rfl
          have z5 := bR.box 5 _ rfl
          have z6 := bR.box 6 _ rfl
          have z7 := bR.box 7 _ rfl
          have z8 := bR.box 8 _ rfl
          have f0 := bR.frozen 0
          have f1 := bR.frozen 1
          have f2 := bR.frozen 2
          have f3 := bR.frozen 3
          have f4 := bR.frozen 4
          have f5 := bR.frozen 5
          have f6 := bR.frozen 6
          have f7 := bR.frozen 7
          have f8 := bR.frozen 8
          obtain ⟨Y, hY, bY, hkY, hBY⟩ := bR.put (.slice none 0 0) (.slice none 0 0) (.slice none 0 0) (.slice none 0 0) (.slice none 0 0) (.slice none 0 0) (.slice none 0 0) (.slice none 0 0) (.slice none 0 0)
          have HY := Lib.hid hY
          clear hY hkY bR
          go_wp2
          rw [HY.out]
          (try simp only [Exit.inBlock, Exit.then])
          refine bodyPost_ret (ret_pol2 rfl _ _ (w.heap.size + 2) _ rfl bY rfl) rfl ?_
          rw [HR2.out]
          exact ⟨_, rfl, pol_zero _, B5.trans (hBY _ (by omega))⟩
        · have HR2 := Lib.hid (show R0 = goF l o (List.drop (k + 1) [0, 1, 2, 3, 4, 5]) p' from hstp.out _ hst)
          have HOK2 := Lib.hid (step_ok l (fun f hf => (HSL.out f hf).2) 2 p p' HOK.out hst)
          have K5 := hK.trans hk5
          clear hp hst xk hbx con hK hk5 hstp
          go_wp2
          go_roundw
          case rel => exact ⟨k + 1, p', by omega, by go_num, HR2, HOK2, hp5, K5⟩
          case measure => simp [intOf]; omega
      · have HKK := Lib.hid hk0
        clear hk0
        have xk : wr.cell? ⟨g, k, none⟩ = some (cloV 82 b3) := by
          rw [HKK.out]
          exact (hF.keep hK hgP).box 3 _ rfl
        have con := step3_any b3 P (w.heap.size + 2) q n c B l p wr (hdr_keep hH HHQ.out hK) HNL.out HSL.out (k3.keep hK (by have := h3; omega)) hp (Nat.lt_of_lt_of_le HRW.out hK.size) (HG.out.on (hBd.trans (keep_below hK hPw hBd.size)))
        have hstp := Lib.hid (show ∀ r, stepF l 3 p = r → R0 = match r with | .inl e => .inl e | .inr p' => goF l o (List.drop (k + 1) [0, 1, 2, 3, 4, 5]) p' from fun r hr => by
          rw [HR.out, HKK.out]
          show goF l o (3 :: List.drop (3 + 1) [0, 1, 2, 3, 4, 5]) p = _
          conv => lhs; unfold goF
          rw [hr])
        have hbx := (hK.boxed bH hHP).cell
        unfold cloV at xk
        clear k0 k1 k2 k3 k4 k5 hF hH
        go_wp2_with fail
        refine con.mono ?_
        rintro e w5 ⟨hk5, (⟨en, rfl, hne, hst⟩ | ⟨rfl, p', hst, hp5⟩)⟩
        · have HR2 := Lib.hid (show R0 = .inl en from hstp.out _ hst)
          have K5 := hK.trans hk5
          have d2 : ((en : Int) != 0) = true := by rw [bne_iff_ne]; exact hne
          have bR := bRw.keep K5 hRP
          have B5 := hBd.trans (keep_below K5 hPw hBd.size)
          clear hp hst hne xk hbx con hK hk5 K5 bRw hstp HR
          have z0 := bR.box 0 _ rfl
          have z1 := bR.box 1 _ rfl
          have z2 := bR.box 2 _ rfl
          have z3 := bR.box 3 _ rfl
          have z4 := bR.box 4 _ rfl
          have z5 := bR.box 5 _ rfl
          have z6 := bR.box 6 _ rfl
          have z7 := bR.box 7 _ rfl
          have z8 := bR.box 8 _ rfl
          have f0 := bR.frozen 0
          have f1 := bR.frozen 1
          have f2 := bR.frozen 2
          have f3 := bR.frozen 3
          have f4 := bR.frozen 4
          have f5 := bR.frozen 5
          have f6 := bR.frozen 6
          have f7 := bR.frozen 7
          have f8 := bR.frozen 8
          obtain ⟨Y, hY, bY, hkY, hBY⟩ := bR.put (.slice none 0 0) (.slice none 0 0) (.slice none 0 0) (.slice none 0 0) (.slice none 0 0) (.slice none 0 0) (.slice none 0 0) (.slice none 0 0) (.slice none 0 0)
          have HY := Lib.hid hY
          clear hY hkY bR
          go_wp2
          rw [HY.out]
          (try simp only [Exit.inBlock, Exit.then])
          refine bodyPost_ret (ret_pol2 rfl _ _ (w.heap.size + 2) _ rfl bY rfl) rfl ?_
          rw [HR2.out]
          exact ⟨_, rfl, pol_zero _, B5.trans (hBY _ (by omega))⟩
        · have HR2 := Lib.hid (show R0 = goF l o (List.drop (k + 1) [0, 1, 2, 3, 4, 5]) p' from hstp.out _ hst)
          have HOK2 := Lib.hid (step_ok l (fun f hf => (HSL.out f hf).2) 3 p p' HOK.out hst)
          have K5 := hK.trans hk5
          clear hp hst xk hbx con hK hk5 hstp
          go_wp2
          go_roundw
          case rel => exact ⟨k + 1, p', by omega, by go_num, HR2, HOK2, hp5, K5⟩
          case measure => simp [intOf]; omega
      · have HKK := Lib.hid hk0
        clear hk0
        have xk : wr.cell? ⟨g, k, none⟩ = some (cloV 85 b4) := by
          rw [HKK.out]
          exact (hF.keep hK hgP).box 4 _ rfl
        have con := step4_any b4 P (w.heap.size + 2) q n c B l p wr (hdr_keep hH HHQ.out hK) HNL.out HSL.out (k4.keep hK (by have := h4; omega)) hp (Nat.lt_of_lt_of_le HRW.out hK.size) (HG.out.on (hBd.trans (keep_below hK hPw hBd.size)))
        have hstp := Lib.hid (show ∀ r, stepF l 4 p = r → R0 = match r with | .inl e => .inl e | .inr p' => goF l o (List.drop (k + 1) [0, 1, 2, 3, 4, 5]) p' from fun r hr => by
          rw [HR.out, HKK.out]
          show goF l o (4 :: List.drop (4 + 1) [0, 1, 2, 3, 4, 5]) p = _
          conv => lhs; unfold goF
          rw [hr])
        have hbx := (hK.boxed bH hHP).cell
        unfold cloV at xk
        clear k0 k1 k2 k3 k4 k5 hF hH
        go_wp2_with fail
        refine con.mono ?_
        rintro e w5 ⟨hk5, (⟨en, rfl, hne, hst⟩ | ⟨rfl, p', hst, hp5⟩)⟩
        · have HR2 := Lib.hid (show R0 = .inl en from hstp.out _ hst)
          have K5 := hK.trans hk5
          have d2 : ((en : Int) != 0) = true := by rw [bne_iff_ne]; exact hne
          have bR := bRw.keep K5 hRP
          have B5 := hBd.trans (keep_below K5 hPw hBd.size)
          clear hp hst hne xk hbx con hK hk5 K5 bRw hstp HR
          have z0 := bR.box 0 _ rfl
          have z1 := bR.box 1 _ rfl
          have z2 := bR.box 2 _ rfl
          have z3 := bR.box 3 _ rfl
          have z4 := bR.box 4 _ rfl
          have z5 := bR.box 5 _ rfl
          have z6 := bR.box 6 _ rfl
          have z7 := bR.box 7 _ rfl
          have z8 := bR.box 8 _ rfl
          have f0 := bR.frozen 0
          have f1 := bR.frozen 1
          have f2 := bR.frozen 2
          have f3 := bR.frozen 3
          have f4 := bR.frozen 4
          have f5 := bR.frozen 5
          have f6 := bR.frozen 6
          have f7 := bR.frozen 7
          have f8 := bR.frozen 8
          obtain ⟨Y, hY, bY, hkY, hBY⟩ := bR.put (.slice none 0 0) (.slice none 0 0) (.slice none 0 0) (.slice none 0 0) (.slice none 0 0) (.slice none 0 0) (.slice none 0 0) (.slice none 0 0) (.slice none 0 0)
          have HY := Lib.hid hY
          clear hY hkY bR
          go_wp2
          rw [HY.out]
          (try simp only [Exit.inBlock, Exit.then])
          refine bodyPost_ret (ret_pol2 rfl _ _ (w.heap.size + 2) _ rfl bY rfl) rfl ?_
          rw [HR2.out]
          exact ⟨_, rfl, pol_zero _, B5.trans (hBY _ (by omega))⟩
        · have HR2 := Lib.hid (show R0 = goF l o (List.drop (k + 1) [0, 1, 2, 3, 4, 5]) p' from hstp.out _ hst)
          have HOK2 := Lib.hid (step_ok l (fun f hf => (HSL.out f hf).2) 4 p p' HOK.out hst)
          have K5 := hK.trans hk5
          clear hp hst xk hbx con hK hk5 hstp
          go_wp2
          go_roundw
          case rel => exact ⟨k + 1, p', by omega, by go_num, HR2, HOK2, hp5, K5⟩
          case measure => simp [intOf]; omega
      · have HKK := Lib.hid hk0
        clear hk0
        have xk : wr.cell? ⟨g, k, none⟩ = some (cloV 85 b5) := by
          rw [HKK.out]
          exact (hF.keep hK hgP).box 5 _ rfl
        have con := step5_any b5 P (w.heap.size + 2) q n c B l p wr (hdr_keep hH HHQ.out hK) HNL.out HSL.out (k5.keep hK (by have := h5; omega)) hp (Nat.lt_of_lt_of_le HRW.out hK.size) (HG.out.on (hBd.trans (keep_below hK hPw hBd.size)))
        have hstp := Lib.hid (show ∀ r, stepF l 5 p = r → R0 = match r with | .inl e => .inl e | .inr p' => goF l o (List.drop (k + 1) [0, 1, 2, 3, 4, 5]) p' from fun r hr => by
          rw [HR.out, HKK.out]
          show goF l o (5 :: List.drop (5 + 1) [0, 1, 2, 3, 4, 5]) p = _
          conv => lhs; unfold goF
          rw [hr])
        have hbx := (hK.boxed bH hHP).cell
        unfold cloV at xk
        clear k0 k1 k2 k3 k4 k5 hF hH
        go_wp2_with fail
        refine con.mono ?_
        rintro e w5 ⟨hk5, (⟨en, rfl, hne, hst⟩ | ⟨rfl, p', hst, hp5⟩)⟩
        · have HR2 := Lib.hid (show R0 = .inl en from hstp.out _ hst)
          have K5 := hK.trans hk5
          have d2 : ((en : Int) != 0) = true := by rw [bne_iff_ne]; exact hne
          have bR := bRw.keep K5 hRP
          have B5 := hBd.trans (keep_below K5 hPw hBd.size)
          clear hp hst hne xk hbx con hK hk5 K5 bRw hstp HR
          have z0 := bR.box 0 _ rfl
          have z1 := bR.box 1 _ rfl
          have z2 := bR.box 2 _ rfl
          have z3 := bR.box 3 _ rfl
          have z4 := bR.box 4 _ rfl
          have z5 := bR.box 5 _ rfl
          have z6 := bR.box 6 _ rfl
          have z7 := bR.box 7 _ rfl
          have z8 := bR.box 8 _ rfl
          have f0 := bR.frozen 0
          have f1 := bR.frozen 1
          have f2 := bR.frozen 2
          have f3 := bR.frozen 3
          have f4 := bR.frozen 4
          have f5 := bR.frozen 5
          have f6 := bR.frozen 6
          have f7 := bR.frozen 7
          have f8 := bR.frozen 8
          obtain ⟨Y, hY, bY, hkY, hBY⟩ := bR.put (.slice none 0 0) (.slice none 0 0) (.slice none 0 0) (.slice none 0 0) (.slice none 0 0) (.slice none 0 0) (.slice none 0 0) (.slice none 0 0) (.slice none 0 0)
          have HY := Lib.hid hY
          clear hY hkY bR
          go_wp2
          rw [HY.out]
          (try simp only [Exit.inBlock, Exit.then])
          refine bodyPost_ret (ret_pol2 rfl _ _ (w.heap.size + 2) _ rfl bY rfl) rfl ?_
          rw [HR2.out]
          exact ⟨_, rfl, pol_zero _, B5.trans (hBY _ (by omega))⟩
        · have HR2 := Lib.hid (show R0 = goF l o (List.drop (k + 1) [0, 1, 2, 3, 4, 5]) p' from hstp.out _ hst)
          have HOK2 := Lib.hid (step_ok l (fun f hf => (HSL.out f hf).2) 5 p p' HOK.out hst)
          have K5 := hK.trans hk5
          clear hp hst xk hbx con hK hk5 hstp
          go_wp2
          go_roundw
          case rel => exact ⟨k + 1, p', by omega, by go_num, HR2, HOK2, hp5, K5⟩
          case measure => simp [intOf]; omega
    · have HKK := Lib.hid (show k = 6 by omega)
      have HR2 := Lib.hid (show R0 = finF o p by rw [HR.out, HKK.out]; rfl)
      have hdn : decide ((k : Int) < 6) = false := by simp; omega
      obtain ⟨hfc, hfr, hpv⟩ := small_ok HOK.out
      obtain ⟨⟨⟨yqd0, ynd0, ycd0⟩, ⟨yqd1, ynd1, ycd1⟩, ⟨yqc0, ync0, ycc0⟩, ⟨yqc1, ync1, ycc1⟩, ⟨yqr0, ynr0, ycr0⟩, ⟨yqr1, ynr1, ycr1⟩, ⟨yqp0, ynp0, ycp0⟩, ⟨yqk0, ynk0, yck0⟩, ⟨yqf0, ynf0, ycf0⟩⟩, j1, j2, j3, j4⟩ := hp
      have bO := hK.boxed bO2 (show P + 1 ≠ P by omega)
      obtain ⟨zz0, e3, _⟩ := id hpd0.out
      have hOw := frm_off (z := (zqp0, znp0, zcp0)) hOF e3 (arr_slc zz0) HOO.out hK
      have bR := bRw.keep hK hRP
      have Bk := hBd.trans (keep_below hK hPw hBd.size)
      have xo := bO.cell
      have y0 := j1.box 0 _ rfl
      have y1 := j1.box 1 _ rfl
      have y2 := j1.box 2 _ rfl
      have y3 := j1.box 3 _ rfl
      have y4 := j1.box 4 _ rfl
      have y5 := j1.box 5 _ rfl
      have y6 := j1.box 6 _ rfl
      have y7 := j1.box 7 _ rfl
      have y8 := j1.box 8 _ rfl
      have con := Prv.Covers_any (.agg #[.slice zqp0 znp0 zcp0]) (.agg #[.slice yqp0 ynp0 ycp0]) (ownF o) p.prv wr hOw j2.v (Nat.le_trans HOWN.out (by decide)) hpv
      have HJ := Lib.hid (show N9.Is ⟨(yqd0, ynd0, ycd0), (yqd1, ynd1, ycd1), (yqc0, ync0, ycc0), (yqc1, ync1, ycc1), (yqr0, ynr0, ycr0), (yqr1, ynr1, ycr1), (yqp0, ynp0, ycp0), (yqk0, ynk0, yck0), (yqf0, ynf0, ycf0)⟩ wr p from j2)
      have HJR := Lib.hid (show N9.Off ⟨(yqd0, ynd0, ycd0), (yqd1, ynd1, ycd1), (yqc0, ync0, ycc0), (yqc1, ync1, ycc1), (yqr0, ynr0, ycr0), (yqr1, ynr1, ycr1), (yqp0, ynp0, ycp0), (yqk0, ynk0, yck0), (yqf0, ynf0, ycf0)⟩ (w.heap.size + 2) from j4)
      have HFC := Lib.hid hfc
      have HFR := Lib.hid hfr
      have HPB := Lib.hid (show PL P #[.slice yqd0 ynd0 ycd0, .slice yqd1 ynd1 ycd1, .slice yqc0 ync0 ycc0, .slice yqc1 ync1 ycc1, .slice yqr0 ynr0 ycr0, .slice yqr1 ynr1 ycr1, .slice yqp0 ynp0 ycp0, .slice yqk0 ynk0 yck0, .slice yqf0 ynf0 ycf0] wr from j1)
      clear k0 k1 k2 k3 k4 k5 hF hH bH hK HR j1 j2 j3 j4 hOw bO bO2 hOF e3 hfc hfr hpv HOK hlt
      cases hcv : impB (ownF o) p.prv with
      | false =>
        rw [hcv] at con
        have HR3 := Lib.hid (show R0 = .inl 17 by rw [HR2.out]; unfold finF; rw [hcv]; rfl)
        clear hcv
        go_wp2_with fail
        refine con.mono ?_
        rintro e w5 ⟨rfl, hb⟩
        have B5 := Bk.trans (hb.mono Bk.size)
        replace bR := bR.on hb
        clear con hb y0 y1 y2 y3 y4 y5 y6 y7 y8 xo bRw
        have z0 := bR.box 0 _ rfl
        have z1 := bR.box 1 _ rfl
        have z2 := bR.box 2 _ rfl
        have z3 := bR.box 3 _ rfl
        have z4 := bR.box 4 _ rfl
        have z5 := bR.box 5 _ rfl
        have z6 := bR.box 6 _ rfl
        have z7 := bR.box 7 _ rfl
        have z8 := bR.box 8 _ rfl
        have f0 := bR.frozen 0
        have f1 := bR.frozen 1
        have f2 := bR.frozen 2
        have f3 := bR.frozen 3
        have f4 := bR.frozen 4
        have f5 := bR.frozen 5
        have f6 := bR.frozen 6
        have f7 := bR.frozen 7
        have f8 := bR.frozen 8
        obtain ⟨Y, hY, bY, hkY, hBY⟩ := bR.put (.slice none 0 0) (.slice none 0 0) (.slice none 0 0) (.slice none 0 0) (.slice none 0 0) (.slice none 0 0) (.slice none 0 0) (.slice none 0 0) (.slice none 0 0)
        have HY := Lib.hid hY
        clear hY hkY bR
        go_wp2
        rw [HY.out]
        (try simp only [Exit.inBlock, Exit.then])
        refine bodyPost_ret (ret_pol2 rfl _ _ (w.heap.size + 2) _ rfl bY rfl) rfl ?_
        rw [HR3.out]
        exact ⟨_, rfl, pol_zero _, B5.trans (hBY _ (by omega))⟩
      | true =>
        rw [hcv] at con
        have HCV := Lib.hid hcv
        clear hcv
        go_wp2_with fail
        refine con.mono ?_
        rintro e w5 ⟨rfl, hb⟩
        have B5 := Bk.trans (hb.mono Bk.size)
        replace bR := bR.on hb
        have PB := HPB.out.on hb
        have J5 := HJ.out.below hb
        clear con hb y0 y1 y2 y3 y4 y5 y6 y7 y8 xo bRw
        have y2 := PB.box 2 _ rfl
        have y3 := PB.box 3 _ rfl
        have y4 := PB.box 4 _ rfl
        have y5 := PB.box 5 _ rfl
        have con := Lbl.Flows_any (.agg #[.slice yqc0 ync0 ycc0, .slice yqc1 ync1 ycc1]) (.agg #[.slice yqr0 ynr0 ycr0, .slice yqr1 ynr1 ycr1]) p.ctx p.clr w5 J5.c J5.r HFC.out HFR.out
        cases hfl : flowsB p.ctx p.clr with
        | false =>
          rw [hfl] at con
          have HR3 := Lib.hid (show R0 = .inl 17 by rw [HR2.out]; unfold finF; rw [HCV.out, hfl]; rfl)
          clear hfl
          go_wp2_with fail
          refine con.mono ?_
          rintro e w6 ⟨rfl, hb⟩
          have B6 := B5.trans (hb.mono B5.size)
          replace bR := bR.on hb
          clear con hb y2 y3 y4 y5 PB J5 HJ HPB B5
          have z0 := bR.box 0 _ rfl
          have z1 := bR.box 1 _ rfl
          have z2 := bR.box 2 _ rfl
          have z3 := bR.box 3 _ rfl
          have z4 := bR.box 4 _ rfl
          have z5 := bR.box 5 _ rfl
          have z6 := bR.box 6 _ rfl
          have z7 := bR.box 7 _ rfl
          have z8 := bR.box 8 _ rfl
          have f0 := bR.frozen 0
          have f1 := bR.frozen 1
          have f2 := bR.frozen 2
          have f3 := bR.frozen 3
          have f4 := bR.frozen 4
          have f5 := bR.frozen 5
          have f6 := bR.frozen 6
          have f7 := bR.frozen 7
          have f8 := bR.frozen 8
          obtain ⟨Y, hY, bY, hkY, hBY⟩ := bR.put (.slice none 0 0) (.slice none 0 0) (.slice none 0 0) (.slice none 0 0) (.slice none 0 0) (.slice none 0 0) (.slice none 0 0) (.slice none 0 0) (.slice none 0 0)
          have HY := Lib.hid hY
          clear hY hkY bR
          go_wp2
          rw [HY.out]
          (try simp only [Exit.inBlock, Exit.then])
          refine bodyPost_ret (ret_pol2 rfl _ _ (w.heap.size + 2) _ rfl bY rfl) rfl ?_
          rw [HR3.out]
          exact ⟨_, rfl, pol_zero _, B6.trans (hBY _ (by omega))⟩
        | true =>
          rw [hfl] at con
          have HR3 := Lib.hid (show R0 = .inr p by rw [HR2.out]; unfold finF; rw [HCV.out, hfl]; rfl)
          clear hfl
          go_wp2_with fail
          refine con.mono ?_
          rintro e w6 ⟨rfl, hb⟩
          have B6 := B5.trans (hb.mono B5.size)
          replace bR := bR.on hb
          replace PB := PB.on hb
          have J6 := J5.below hb
          clear con hb y2 y3 y4 y5 J5 HJ HPB B5
          have y0 := PB.box 0 _ rfl
          have y1 := PB.box 1 _ rfl
          have y2 := PB.box 2 _ rfl
          have y3 := PB.box 3 _ rfl
          have y4 := PB.box 4 _ rfl
          have y5 := PB.box 5 _ rfl
          have y6 := PB.box 6 _ rfl
          have y7 := PB.box 7 _ rfl
          have y8 := PB.box 8 _ rfl
          have z0 := bR.box 0 _ rfl
          have z1 := bR.box 1 _ rfl
          have z2 := bR.box 2 _ rfl
          have z3 := bR.box 3 _ rfl
          have z4 := bR.box 4 _ rfl
          have z5 := bR.box 5 _ rfl
          have z6 := bR.box 6 _ rfl
          have z7 := bR.box 7 _ rfl
          have z8 := bR.box 8 _ rfl
          have f0 := bR.frozen 0
          have f1 := bR.frozen 1
          have f2 := bR.frozen 2
          have f3 := bR.frozen 3
          have f4 := bR.frozen 4
          have f5 := bR.frozen 5
          have f6 := bR.frozen 6
          have f7 := bR.frozen 7
          have f8 := bR.frozen 8
          obtain ⟨Y, hY, bY, hkY, hBY⟩ := bR.put (.slice yqd0 ynd0 ycd0) (.slice yqd1 ynd1 ycd1) (.slice yqc0 ync0 ycc0) (.slice yqc1 ync1 ycc1) (.slice yqr0 ynr0 ycr0) (.slice yqr1 ynr1 ycr1) (.slice yqp0 ynp0 ycp0) (.slice yqk0 ynk0 yck0) (.slice yqf0 ynf0 ycf0)
          have HY := Lib.hid hY
          have JY := Lib.hid (J6.off bR z9_slc HJR.out (hkY _ (by simp)))
          clear hY hkY bR J6 PB
          go_wp2
          rw [HY.out]
          (try simp only [Exit.inBlock, Exit.then])
          refine bodyPost_ret (ret_pol2 rfl _ _ (w.heap.size + 2) _ rfl bY rfl) rfl ?_
          rw [HR3.out]
          exact ⟨_, rfl, JY.out.pol, B6.trans (hBY _ (by omega))⟩
end Go.Proofs.YtedglpfdibamdaaGreatDoor.Pol
namespace Go.Proofs.YtedglpfdibamdaaGreatDoor.Pol
open Go.RowKit Go.Shelf Url Org Frm Cls Lbl
attribute [local go_sem] Oper.semAt_some
set_option linter.unusedVariables false
def liveS : List UInt8 := [115, 101, 108, 102, 32, 42, 46, 97, 46, 111, 114, 103]
def liveX : List UInt8 := [104, 116, 116, 112, 58, 47, 47, 120, 46, 97, 46, 111, 114, 103]
def liveY : List UInt8 := [104, 116, 116, 112, 58, 47, 47, 97, 46, 111, 114, 103]
def liveQ (t : List UInt8) : QO := qOf (parseQ 1099511627776 t)
def liveOk : Bool := match parseS liveS with
  | .inl _ => false
  | .inr l => allowsB l none (liveQ liveX) && !allowsB l (liveQ liveX) (liveQ liveY) && allowsB l (liveQ liveY) (liveQ liveY)
theorem live_ok : liveOk = true := by decide +kernel
theorem live_src : ∃ l, parseS liveS = .inr l ∧ allowsB l none (liveQ liveX) = true ∧ allowsB l (liveQ liveX) (liveQ liveY) = false ∧ allowsB l (liveQ liveY) (liveQ liveY) = true := by
  have h := live_ok
  unfold liveOk at h
  split at h
  · cases h
  · rename_i l hl
    simp only [Bool.and_eq_true, Bool.not_eq_true'] at h
    exact ⟨l, hl, h.1.1, h.1.2, h.2⟩
theorem parse_live (t : List UInt8) (q : Option Addr) (n c : Nat) (w : World) (hby : By w (.slice q n c) t) (hG : Gl w) (ht : t.length ≤ 300) :
    Calls Tryz.prog 23 #[.slice q n c] w fun e w' => e = .returned (.tuple #[orgQ (liveQ t), .int .i64 (qE (parseQ 1099511627776 t))]) ∧ Below w.heap.size w w' := by
  have h1 := hby.at.1
  have con := Parse_any q n c t w hby (by omega) hG (fun u hu => by have := text_len _ u hu; omega)
  rw [ret_q] at con
  exact con
theorem org_none : orgQ none = .agg #[.string ⟨#[]⟩, .string ⟨#[]⟩, .int .i64 0, .int .i64 0] := rfl
set_option maxRecDepth 100000 in
set_option maxHeartbeats 16000000 in
theorem lives_any (w : World) (hG : Gl w) : Calls Tryz.prog 6 #[] w fun e w' => e = .returned (.bool true) ∧ Below w.heap.size w w' := by
  have kc := fun (w : World) (C : Array Value) (n c : Nat) => Lib.run_convert_bytes_const (P := Tryz.prog) w 22 5 C n c Tryz.underlying22 Tryz.underlying5
  obtain ⟨l, hl, a1, a2, a3⟩ := live_src
  obtain ⟨hok, hl32⟩ := parse_in liveS l (by decide) hl
  obtain ⟨X0, hX0⟩ : ∃ Z, w.alloc (.cells #[.int .u8 115, .int .u8 101, .int .u8 108, .int .u8 102, .int .u8 32, .int .u8 42, .int .u8 46, .int .u8 97, .int .u8 46, .int .u8 111, .int .u8 114, .int .u8 103] 5 (12, 13)) = Z := ⟨_, rfl⟩
  have B_0 : Below w.heap.size w X0 := by rw [← hX0]; exact below_alloc _
  have hby : By X0 (.slice (some ⟨w.heap.size, 0, none⟩) 12 12) liveS := by rw [← hX0]; exact by_lit w #[.int .u8 115, .int .u8 101, .int .u8 108, .int .u8 102, .int .u8 32, .int .u8 42, .int .u8 46, .int .u8 97, .int .u8 46, .int .u8 111, .int .u8 114, .int .u8 103] liveS (12, 13) 12 rfl rfl (by decide)
  have con := ParseSources_any (some ⟨w.heap.size, 0, none⟩) 12 12 liveS X0 hby (by omega) (pieces_short liveS (by decide)) (hG.on B_0)
  rw [hl] at con
  have HOX := Lib.hid (show OkQ (liveQ liveX) from q_okQ liveX (by decide))
  have HOY := Lib.hid (show OkQ (liveQ liveY) from q_okQ liveY (by decide))
  have HOK := Lib.hid hok
  have HX0 := Lib.hid hX0
  have HG := Lib.hid hG
  have A1 := Lib.hid a1
  have A2' := Lib.hid a2
  have A3 := Lib.hid a3
  clear hX0 hby hG hl hok a1 a2 a3
  go_enter Tryz.func6, Tryz.ntmps6
  go_wp2_with fail
  rw [HX0.out]
  refine con.mono ?_
  rintro e X1 ⟨q, n, c, rfl, hS, hb⟩
  have B_1 := B_0.trans (hb.mono B_0.size)
  simp only [sE, sV] at hS ⊢
  clear con hb B_0 HX0
  obtain ⟨bs, hbs⟩ : ∃ b, X1.heap.size = b := ⟨_, rfl⟩
  obtain ⟨X2, hX2⟩ : ∃ Z, X1.alloc (.cells #[.slice q n c] 36) = Z := ⟨_, rfl⟩
  have hb : Below X1.heap.size X1 X2 := by rw [← hX2]; exact below_alloc _
  have S8 : SX bs q n c l X2 := by rw [← hX2, ← hbs]; exact SX.new hS
  have B_2 := B_1.trans (hb.mono B_1.size)
  have HX2 := Lib.hid hX2
  have HBS := Lib.hid hbs
  clear hX2 hbs hS hb B_1
  have kx := kc (X1.alloc (.cells #[.slice q n c] 36)) #[.int .u8 104, .int .u8 116, .int .u8 116, .int .u8 112, .int .u8 58, .int .u8 47, .int .u8 47, .int .u8 120, .int .u8 46, .int .u8 97, .int .u8 46, .int .u8 111, .int .u8 114, .int .u8 103] 14 14
  rewrite [World.size_alloc] at kx
  obtain ⟨ba, hba⟩ : ∃ b, X1.heap.size + 1 = b := ⟨_, rfl⟩
  have hbz : X2.heap.size = ba := by rw [← HX2.out, World.size_alloc]; exact hba
  obtain ⟨X3, hX⟩ : ∃ Z, X2.alloc (.cells #[.int .u8 104, .int .u8 116, .int .u8 116, .int .u8 112, .int .u8 58, .int .u8 47, .int .u8 47, .int .u8 120, .int .u8 46, .int .u8 97, .int .u8 46, .int .u8 111, .int .u8 114, .int .u8 103] 5 (14, 15)) = Z := ⟨_, rfl⟩
  have hb : Below X2.heap.size X2 X3 := by rw [← hX]; exact below_alloc _
  have hby : By X3 (.slice (some ⟨ba, 0, none⟩) 14 14) liveX := by rw [← hX, ← hbz]; exact by_lit X2 #[.int .u8 104, .int .u8 116, .int .u8 116, .int .u8 112, .int .u8 58, .int .u8 47, .int .u8 47, .int .u8 120, .int .u8 46, .int .u8 97, .int .u8 46, .int .u8 111, .int .u8 114, .int .u8 103] liveX (14, 15) 14 rfl rfl (by decide)
  have Bb := B_2.trans (hb.mono B_2.size)
  have con := parse_live liveX (some ⟨ba, 0, none⟩) 14 14 X3 hby (HG.out.on Bb) (by decide)
  generalize liveQ liveX = oX at *
  obtain ⟨⟨⟨sX, gX⟩, ⟨pX, mX⟩⟩, hp⟩ : ∃ x, partsQ oX = x := ⟨_, rfl⟩
  have HQX := Lib.hid (show orgQ oX = .agg #[.string ⟨sX.toArray⟩, .string ⟨gX.toArray⟩, .int .i64 pX, .int .i64 mX] by unfold orgQ orgV; rw [hp])
  rw [HQX.out] at con
  have HXa := Lib.hid hX
  have HBa := Lib.hid hba
  replace S8 := S8.on hb
  clear hX hba hby hb hp hbz
  go_wp2_with fail
  rewrite [HBa.out, HX2.out, HBS.out, HXa.out]
  clear kx
  refine con.mono ?_
  rintro e X4 ⟨rfl, hb⟩
  have Bc := Bb.trans (hb.mono Bb.size)
  replace S8 := S8.on hb
  clear con hb HXa HBa Bb HX2 HBS
  obtain ⟨bX, hbb⟩ : ∃ b, X4.heap.size = b := ⟨_, rfl⟩
  obtain ⟨X5, hX⟩ : ∃ Z, X4.alloc (.cells #[.string ⟨sX.toArray⟩, .string ⟨gX.toArray⟩, .int .i64 pX, .int .i64 mX] 25) = Z := ⟨_, rfl⟩
  have hb : Below X4.heap.size X4 X5 := by rw [← hX]; exact below_alloc _
  have QX : OB bX #[.string ⟨sX.toArray⟩, .string ⟨gX.toArray⟩, .int .i64 pX, .int .i64 mX] X5 := by rw [← hX, ← hbb]; exact OB.new _ _
  have B_5 := Bc.trans (hb.mono Bc.size)
  have HXb := Lib.hid hX
  have HBb := Lib.hid hbb
  replace S8 := S8.on hb
  clear hX hbb hb Bc
  have kx := kc (X4.alloc (.cells #[.string ⟨sX.toArray⟩, .string ⟨gX.toArray⟩, .int .i64 pX, .int .i64 mX] 25)) #[.int .u8 104, .int .u8 116, .int .u8 116, .int .u8 112, .int .u8 58, .int .u8 47, .int .u8 47, .int .u8 97, .int .u8 46, .int .u8 111, .int .u8 114, .int .u8 103] 12 12
  rewrite [World.size_alloc] at kx
  obtain ⟨ba, hba⟩ : ∃ b, X4.heap.size + 1 = b := ⟨_, rfl⟩
  have hbz : X5.heap.size = ba := by rw [← HXb.out, World.size_alloc]; exact hba
  obtain ⟨X6, hX⟩ : ∃ Z, X5.alloc (.cells #[.int .u8 104, .int .u8 116, .int .u8 116, .int .u8 112, .int .u8 58, .int .u8 47, .int .u8 47, .int .u8 97, .int .u8 46, .int .u8 111, .int .u8 114, .int .u8 103] 5 (12, 13)) = Z := ⟨_, rfl⟩
  have hb : Below X5.heap.size X5 X6 := by rw [← hX]; exact below_alloc _
  have hby : By X6 (.slice (some ⟨ba, 0, none⟩) 12 12) liveY := by rw [← hX, ← hbz]; exact by_lit X5 #[.int .u8 104, .int .u8 116, .int .u8 116, .int .u8 112, .int .u8 58, .int .u8 47, .int .u8 47, .int .u8 97, .int .u8 46, .int .u8 111, .int .u8 114, .int .u8 103] liveY (12, 13) 12 rfl rfl (by decide)
  have Bb := B_5.trans (hb.mono B_5.size)
  have con := parse_live liveY (some ⟨ba, 0, none⟩) 12 12 X6 hby (HG.out.on Bb) (by decide)
  generalize liveQ liveY = oY at *
  obtain ⟨⟨⟨sY, gY⟩, ⟨pY, mY⟩⟩, hp⟩ : ∃ x, partsQ oY = x := ⟨_, rfl⟩
  have HQY := Lib.hid (show orgQ oY = .agg #[.string ⟨sY.toArray⟩, .string ⟨gY.toArray⟩, .int .i64 pY, .int .i64 mY] by unfold orgQ orgV; rw [hp])
  rw [HQY.out] at con
  have HXa := Lib.hid hX
  have HBa := Lib.hid hba
  replace S8 := S8.on hb
  replace QX := QX.on hb
  clear hX hba hby hb hp hbz
  go_wp2_with fail
  rewrite [HBa.out, HXb.out, HBb.out, HXa.out]
  clear kx
  refine con.mono ?_
  rintro e X7 ⟨rfl, hb⟩
  have Bc := Bb.trans (hb.mono Bb.size)
  replace S8 := S8.on hb
  replace QX := QX.on hb
  clear con hb HXa HBa Bb HXb HBb
  obtain ⟨bY, hbb⟩ : ∃ b, X7.heap.size = b := ⟨_, rfl⟩
  obtain ⟨X8, hX⟩ : ∃ Z, X7.alloc (.cells #[.string ⟨sY.toArray⟩, .string ⟨gY.toArray⟩, .int .i64 pY, .int .i64 mY] 25) = Z := ⟨_, rfl⟩
  have hb : Below X7.heap.size X7 X8 := by rw [← hX]; exact below_alloc _
  have QY : OB bY #[.string ⟨sY.toArray⟩, .string ⟨gY.toArray⟩, .int .i64 pY, .int .i64 mY] X8 := by rw [← hX, ← hbb]; exact OB.new _ _
  have B_8 := Bc.trans (hb.mono Bc.size)
  have HXb := Lib.hid hX
  have HBb := Lib.hid hbb
  replace S8 := S8.on hb
  replace QX := QX.on hb
  clear hX hbb hb Bc
  have HAX := Lib.hid (fun W (h : SrcsIs W (.agg #[.slice q n c]) l) (hg : Gl W) => Allows_any q n c l none oX W h hl32 HOK.out trivial HOX.out hg)
  have HAY := Lib.hid (fun W (h : SrcsIs W (.agg #[.slice q n c]) l) (hg : Gl W) => Allows_any q n c l oX oY W h hl32 HOK.out HOX.out HOY.out hg)
  have HAZ := Lib.hid (fun W (h : SrcsIs W (.agg #[.slice q n c]) l) (hg : Gl W) => Allows_any q n c l oY oY W h hl32 HOK.out HOY.out HOY.out hg)
  rw [org_none, HQX.out, A1.out] at HAX
  rw [HQX.out, HQY.out, A2'.out] at HAY
  rw [HQY.out, A3.out] at HAZ
  have A := B_8
  have r0 := S8.c0
  have r1 := QX.box 0 _ rfl
  have r2 := QX.box 1 _ rfl
  have r3 := QX.box 2 _ rfl
  have r4 := QX.box 3 _ rfl
  rewrite [← HXb.out] at r0 r1 r2 r3 r4
  have con := HAX.out X8 S8.2 (HG.out.on A)
  clear B_8 A1 A2' A3 HQX HQY HOX HOY HOK HAX
  go_wp2_with fail
  rewrite [HXb.out, HBb.out]
  refine con.mono ?_
  clear r0 r1 r2 r3 r4 HXb HBb
  rintro e Wa ⟨rfl, hb⟩
  have A2 := A.trans (hb.mono A.size)
  clear A
  have A := A2
  clear A2
  replace S8 := S8.on hb
  replace QX := QX.on hb
  replace QY := QY.on hb
  clear con hb
  have r0 := S8.c0
  have r1 := QX.box 0 _ rfl
  have r2 := QX.box 1 _ rfl
  have r3 := QX.box 2 _ rfl
  have r4 := QX.box 3 _ rfl
  have r5 := QY.box 0 _ rfl
  have r6 := QY.box 1 _ rfl
  have r7 := QY.box 2 _ rfl
  have r8 := QY.box 3 _ rfl
  have con := HAY.out Wa S8.2 (HG.out.on A)
  clear HAY
  go_wp2_with fail
  refine con.mono ?_
  clear r0 r1 r2 r3 r4 r5 r6 r7 r8
  rintro e Wb ⟨rfl, hb⟩
  have A2 := A.trans (hb.mono A.size)
  clear A
  have A := A2
  clear A2
  replace S8 := S8.on hb
  replace QX := QX.on hb
  replace QY := QY.on hb
  clear con hb
  have r0 := S8.c0
  have r1 := QX.box 0 _ rfl
  have r2 := QX.box 1 _ rfl
  have r3 := QX.box 2 _ rfl
  have r4 := QX.box 3 _ rfl
  have r5 := QY.box 0 _ rfl
  have r6 := QY.box 1 _ rfl
  have r7 := QY.box 2 _ rfl
  have r8 := QY.box 3 _ rfl
  have con := HAZ.out Wb S8.2 (HG.out.on A)
  clear HAZ
  go_wp2_with fail
  refine con.mono ?_
  clear r0 r1 r2 r3 r4 r5 r6 r7 r8
  rintro e Wc ⟨rfl, hb⟩
  have A2 := A.trans (hb.mono A.size)
  clear A
  have A := A2
  clear A2
  replace S8 := S8.on hb
  replace QX := QX.on hb
  replace QY := QY.on hb
  clear con hb
  go_wp2
  go_ret
  exact ⟨rfl, A⟩
end Go.Proofs.YtedglpfdibamdaaGreatDoor.Pol
