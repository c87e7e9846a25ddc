/- host.Within. Conditions: texts are of at most 2^40 bytes. -/
import Derived.Test.YtcahakelihigdaaHostF
namespace Go.Proofs.Ytcahakelihigdaa.Host
open Go.RowKit Go.Shelf
attribute [local go_sem] Oper.semAt_some

/-- What lies while what is above is gone through. -/
def WinE (w : World) (v : Value) (d : List UInt8) (pre : List (List UInt8)) (W : World) : Prop :=
  Boxed W w.heap.size 22 v ∧ Boxed W (w.heap.size + 1) 4 (.bool false) ∧ pre.contains d = false ∧ Below w.heap.size w W
def WinX (w : World) (d : List UInt8) (xs : List (List UInt8)) (_ : List (List UInt8)) (W : World) : Prop :=
  Boxed W (w.heap.size + 1) 4 (.bool true) ∧ xs.contains d = true ∧ Below w.heap.size w W

set_option maxRecDepth 100000 in
set_option maxHeartbeats 4000000 in
theorem Within_any (q qd : Option Addr) (n c m cd : Nat) (l d : List UInt8) (w : World) (hl : l.length = n) (hd : d.length = m) (hn : n ≤ 1099511627775) (h : Lib.BytesIn w q n (Lib.numsL l)) (h' : Lib.BytesIn w qd m (Lib.numsL d)) :
    Calls Try.prog 16 #[.slice q n c, .slice qd m cd] w fun e w' => e = .returned (.bool (withinB l d)) ∧ Below w.heap.size w w' := by
  refine (callsIn_wide (n := 1)).1 ?_
  refine callsIn_of_wp_marks Try.func16 rfl trivial ?_ rfl
  simp only [Try.ntmps16, List.size_toArray, List.length_cons, List.length_nil, Nat.reduceAdd, Nat.reduceSub, Array.replicate_succ, Array.replicate_zero, List.push_toArray, List.append_toArray, List.nil_append, List.cons_append]
  obtain ⟨W0, hW0⟩ : ∃ W0, (w.alloc (.cells #[.slice qd m cd] 22)).alloc (.cells #[.bool false] 4) = W0 := ⟨_, rfl⟩
  have b0 : Boxed W0 w.heap.size 22 (.slice qd m cd) := hW0 ▸ (Boxed.new w _ _).alloc _
  have b1 : Boxed W0 (w.heap.size + 1) 4 (.bool false) := by
    have := Boxed.new (w.alloc (.cells #[.slice qd m cd] 22)) 4 (.bool false)
    rw [World.size_alloc] at this
    exact hW0 ▸ this
  have hB0 : Below w.heap.size w W0 := hW0 ▸ ((Below.refl _ w).alloc (Nat.le_refl _) _).alloc (by simp) _
  have hs0 : W0.heap.size = w.heap.size + 2 := by rw [← hW0]; simp
  have hb0 := bytes_keep h (Keep.of_below hB0) (fun a h1 h2 => bytes_lt h a h1 h2)
  have con := Up_any q n c l W0 hl hn hb0
  have HW0 := Lib.hid hW0
  have hqd := bytes_lt h'
  have HWI := Lib.hid (show withinB l d = (upL l).contains d from rfl)
  clear h hW0 hb0 hl
  generalize upL l = xs at *
  generalize withinB l d = wb at *
  gi_wp2_with fail
  rw [HW0.out]
  refine ⟨trivial, (callsIn_wide.2 con).mono ?_⟩
  rintro e W1 ⟨gf, lb, RB, rfl, eg, hit, hRl, hnf, hbel⟩
  rw [hs0] at hRl
  replace b0 := (Keep.of_below hbel).boxed b0 (by omega)
  replace b1 := (Keep.of_below hbel).boxed b1 (by omega)
  have hB1 := hB0.trans (hbel.mono hB0.size)
  have hs1 := hbel.size
  rw [hs0] at hs1
  clear con hbel HW0 hB0 hs0
  gi_wp2
  refine rf_law (gf := gf) (lb := lb) rfl eg
    hit (Keep.refl _ _) (fun b hb => (hRl b hb).2) (fun x args G W h => by obtain ⟨v, rfl, _⟩ := h; rfl)
    (EvI W1 (WinE w (.slice qd m cd) d)) (EvX W1 (WinX w d xs)) (EvI_abide ?e1) (EvX_abide ?e2)
    ⟨(fun _ h => h.elim), Keep.refl _ _, b0, b1, rfl, hB1⟩ ?round ?done ?stop
  case e1 =>
    rintro pre A B hk ⟨h1, h2, h3, h4⟩
    exact ⟨hk.boxed h1 (by omega), hk.boxed h2 (by omega), h3, h4.trans ((hk.mono fun b _ hb => by omega).below h4.size)⟩
  case e2 =>
    rintro pre A B hk ⟨h1, h3, h4⟩
    exact ⟨hk.boxed h1 (by omega), h3, h4.trans ((hk.mono fun b _ hb => by omega).below h4.size)⟩
  case round =>
    rintro ll pre x rest Pv G args Wr hll hxs ⟨hge, hK1, hE1, hE2, hE3, hE4⟩ hPl hGl hPb hGP ⟨p, rfl, hp, rfl⟩
    have hxm : x ∈ xs := by rw [hxs]; simp
    obtain ⟨qx, cx, rfl, _, hnc, hcm, hbs, hblk⟩ := row_open hp
    clear hxs
    gi_wp2
    refine ⟨Keep.refl _ _, fun W2 hk2 hs2 r hr => ?_⟩
    have k2 : Keep (fun b => b < W1.heap.size) Wr W2 := hk2.mono fun b _ hb h => by omega
    have f1 := k2.boxed hE1 (by omega)
    have f2 := k2.boxed hE2 (by omega)
    have gx : Keep (fun b => (Value.slice qx x.length cx).ownBlock = some b) Wr W2 := hk2.mono fun b _ hb h => hGl (h ▸ hb)
    have hbs2 : Lib.BytesIn W2 qx x.length (Lib.numsL x) := bytes_keep hbs gx (fun a ha _ => (hblk a ha).2.2)
    have hs2' := hE4.size
    have hW2 := hE4.trans ((k2.mono fun b _ h => by omega).below hE4.size)
    have hbd2 := bytes_keep h' (Keep.of_below hW2) (fun a h1 h2 => hqd a h1 h2)
    have con2 := Try.bytes_Equal_all qx qd x.length cx m cd (Lib.numsL x) (Lib.numsL d) W2 (by rw [Lib.numsL_length]) (by rw [Lib.numsL_length, hd]) hbs2 hbd2
    rw [bytes_eq] at con2
    have c1 := f1.cell
    have c2 := f2.cell
    have z2 := f2.frozen
    have hK2 := hK1.trans (hk2.mono fun _ _ h => h.elim)
    clear hbs hp hbs2 hblk hk2 gx hbd2
    by_cases hxd : x = d
    · have HB := Lib.hid (show xs.contains d = true by rw [List.contains_iff_mem, ← hxd]; exact hxm)
      rw [decide_eq_true hxd] at con2
      clear hxd hxm
      gi_wp2_with fail
      refine ⟨trivial, rfl, (CallsIn.inRound ll (callsIn_wide.2 con2)).mono ?_⟩
      rintro e w' ⟨rfl, hw⟩
      subst hw
      clear con2
      gi_wp2
      refine ⟨Keep.setCell _ _ _ (fun h => ?_), rfl, fun b hb => hge b hb.1, hK2.trans (Keep.setCell _ _ _ (fun h => h)), f2.set _, HB.out, hW2.setCell (p := ⟨w.heap.size + 1, 0, none⟩) (Nat.le_succ _) _⟩
      rcases h with h | h
      · have := (hRl _ h).1; simp only at this; omega
      · have := hge _ h.1; simp only at this; omega
    · have HB := Lib.hid (show (pre ++ [x]).contains d = false by
        have hxd' : ¬ d = x := fun h => hxd h.symm
        rw [Bool.eq_false_iff] at hE3 ⊢
        intro hc
        rw [List.contains_iff_mem, List.mem_append] at hc
        rcases hc with hc | hc
        · exact hE3 (List.contains_iff_mem.2 hc)
        · exact hxd' (by simpa using hc))
      rw [decide_eq_false hxd] at con2
      clear hxd hxm
      gi_wp2_with fail
      refine ⟨trivial, rfl, (CallsIn.inRound ll (callsIn_wide.2 con2)).mono ?_⟩
      rintro e w' ⟨rfl, hw⟩
      subst hw
      clear con2
      gi_wp2
      exact ⟨Keep.refl _ _, fun b hb => hge b hb.1, hK2, f1, f2, HB.out, hW2⟩
  case done =>
    rintro D Pv Wd hD hPD hPl ⟨hge, hK1, hE1, hE2, hE3, hE4⟩ hK
    have c2 := hE2.cell
    have z2 := hE2.frozen
    gi_wp2
    have hKd : (Wd.setCell ⟨w.heap.size + 1, 0, none⟩ (.bool false)).heap[D]? = some (.deferred (some [])) := (Keep.setCell (S := fun b => b = D) Wd ⟨w.heap.size + 1, 0, none⟩ _ (show ¬ w.heap.size + 1 = D by omega)).heap rfl hK
    have kp : ∀ (S : Nat → Prop) (W : World), ¬ S D → Keep S W (W.putObj D (.deferred none)) := fun S W h => Keep.putObj _ _ _ h
    refine ⟨by simp, .inl ⟨_, _, rfl, run_takeDeferred hKd, ?_⟩⟩
    refine ⟨_, results_bool rfl _ _ (w.heap.size + 1) _ rfl ((kp (fun b => b = w.heap.size + 1) _ (by omega)).boxed (hE2.set _) rfl).cell, ?_, ?_⟩
    · rw [HWI.out, hE3]
    · have h5 := hE4.setCell (p := ⟨w.heap.size + 1, 0, none⟩) (Nat.le_succ _) (.bool false)
      exact h5.trans ((kp (fun b => b < w.heap.size) _ (by omega)).below h5.size)
  case stop =>
    rintro D cc pre rest Pv Wd hD hPD hPl hxs ⟨rfl, hge, hK1, hE1, hE3, hE4⟩ hK
    have kp : ∀ (S : Nat → Prop) (W : World), ¬ S D → Keep S W (W.putObj D (.deferred none)) := fun S W h => Keep.putObj _ _ _ h
    clear hxs
    gi_wp2
    refine ⟨by simp, .inl ⟨_, _, rfl, run_takeDeferred hK, ?_⟩⟩
    refine ⟨_, results_bool rfl _ _ (w.heap.size + 1) _ rfl ((kp (fun b => b = w.heap.size + 1) _ (by omega)).boxed hE1 rfl).cell, ?_, ?_⟩
    · rw [HWI.out, hE3]
    · exact hE4.trans ((kp (fun b => b < w.heap.size) _ (by omega)).below hE4.size)

end Go.Proofs.Ytcahakelihigdaa.Host
