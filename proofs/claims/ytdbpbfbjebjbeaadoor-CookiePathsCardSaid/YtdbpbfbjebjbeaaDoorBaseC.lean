/- The texts that these laws rest on, put together, part 3. Conditions: as each says. -/
import Derived.Test.YtdbpbfbjebjbeaaDoorBaseB
import Derived.Lib.Join
import Derived.Deep.DeepCutAuto

namespace Go.Proofs.YtdbpbfbjebjbeaaDoor.Host
open Go.RowKit Go.Shelf
attribute [local go_sem] Oper.semAt_some

theorem Up1_iter (w0 : World) : IterC Tryd.prog 90 #[] RowArg [] (fun _ => False) w0 := by
  intro l' J Jx W hW hJ hJx hY h0
  refine (callsIn_wide (n := 1)).1 ?_
  refine callsIn_of_wp Tryd.func90 rfl trivial ?_ rfl
  simp only [Tryd.ntmps90, List.size_toArray, List.length_cons, List.length_nil, Nat.reduceAdd, Nat.reduceSub, Array.replicate_succ, Array.replicate_zero, List.push_toArray, List.append_toArray, List.nil_append, List.cons_append]
  gi_wp2
  refine bodyPost_end (results_none rfl _ _ _) rfl ?_
  exact ⟨⟨_, rfl⟩, fun _ => False, fun _ h => h.elim, .inl h0⟩

/-- An iterator that tells these texts, its memory its own. -/
def UpOut (xs : List (List UInt8)) (w : World) (e : Ending) (w' : World) : Prop :=
  ∃ (gf : Nat) (lb : Array Value) (RB : Nat → Prop), e = .returned (.func (.func gf) #[] lb) ∧ (∀ args w, (callFunc gf args).run Tryd.prog w = .ok (.enter gf args) w) ∧ IterC Tryd.prog gf lb RowArg xs RB w' ∧
    (∀ b, RB b → w.heap.size ≤ b ∧ b < w'.heap.size) ∧ (∀ w'' : World, (binOp .eql 86 (.func (.func gf) #[] lb) .nilFunc).run Tryd.prog w'' = .ok (.bool false) w'') ∧ Below w.heap.size w w'
theorem out_nothing {xs : List (List UInt8)} {w w' : World} (h : xs = []) (hb : Below w.heap.size w w') : UpOut xs w (.returned (.func (.func 90) #[] #[])) w' := by
  subst h
  exact ⟨_, _, _, rfl, enters_of Tryd.func90 (by kernel_rfl) rfl, Up1_iter w', fun _ h => h.elim, fun _ => by kernel_rfl, hb⟩
theorem bytes_eq (xs ys : List UInt8) : (Lib.bytesOf (Lib.numsL xs) == Lib.bytesOf (Lib.numsL ys)) = decide (xs = ys) := by
  rw [Lib.bytesOf_numsL, Lib.bytesOf_numsL, Bool.eq_iff_iff, beq_iff_eq, decide_eq_true_iff]

theorem can_at {l : List UInt8} {n : Int} {w w' : World} {e : Ending} (h : CanOut l w e w') (hn : parseE l = n) (h0 : n ≠ 0) :
    ∃ q c, e = .returned (.tuple #[.slice q 0 c, .int .i64 n]) ∧ (q = none → c = 0) ∧ Below w.heap.size w w' := by
  subst hn
  obtain ⟨v, rfl, hr, hb⟩ := h
  have hc : canL l = [] := by unfold canL; rw [if_neg h0]
  rw [hc] at hr
  have hr' : w'.ownsRow w.heap.size 5 1 v 0 ((Lib.numsL []).map (Value.int .u8)) := hr
  obtain ⟨q, c, rfl, _⟩ := row_open hr'
  exact ⟨q, c, rfl, fun h => by subst h; exact (row_nil hr').2, hb⟩
theorem can_at0 {l : List UInt8} {n : Nat} {w w' : World} {e : Ending} (h : CanOut l w e w') (hn : parseE l = 0) (hl : l.length = n) :
    ∃ q c, e = .returned (.tuple #[.slice q n c, .int .i64 0]) ∧ (q = none → n = 0 ∧ c = 0) ∧ n ≤ c ∧ w'.ownsRow w.heap.size 5 1 (.slice q n c) n ((Lib.numsL (lowL l)).map (Value.int .u8)) ∧ Below w.heap.size w w' := by
  obtain ⟨v, rfl, hr, hb⟩ := h
  have hc : canL l = lowL l := by unfold canL; rw [if_pos hn]; rfl
  rw [hc, lowL_length, hl] at hr
  obtain ⟨q, c, rfl, _, h1, _⟩ := row_open hr
  exact ⟨q, c, by rw [hn], fun h => by subst h; exact row_nil hr, h1, hr, hb⟩

set_option maxRecDepth 100000 in
set_option maxHeartbeats 4000000 in
theorem Up_any (q : Option Addr) (n c : Nat) (l : List UInt8) (w : World) (hl : l.length = n) (hn : n ≤ 1099511627775) (h : Lib.BytesIn w q n (Lib.numsL l)) :
    Calls Tryd.prog 64 #[.slice q n c] w fun e w' => UpOut (upL l) w e w' := by
  have con := Parse_any q n c l w hl (by omega) h
  have HL := Lib.hid hl
  by_cases h0 : parseE l = 0
  · have HP := Lib.hid h0
    have U1 := Lib.hid (fun hlow => upX_up l h0 hlow)
    have hq := bytes_lt h
    by_cases hlow : lowL l = l
    · have HU := Lib.hid (U1.out hlow)
      have HW := Lib.hid hlow
      have con2 := fun (p1 : Option Addr) c1 W hb1 hb2 => Tryd.bytes_Equal_all p1 q n c1 n c (Lib.numsL l) (Lib.numsL l) W (by rw [Lib.numsL_length, hl]) (by rw [Lib.numsL_length, hl]) hb1 hb2
      rw [bytes_eq, decide_eq_true rfl] at con2
      clear hl h0 hlow U1
      go_enter Tryd.func64, Tryd.ntmps64
      go_wp2_with fail
      refine con.mono ?_
      intro e w2 ho
      obtain ⟨q2, c2, rfl, hq2, hc2, hrow2, hb2⟩ := can_at0 ho HP.out HL.out
      rw [HW.out] at hrow2
      have hbx := (row_open hrow2)
      obtain ⟨_, _, hcl, _, _, _, hbs2, hblk2⟩ := hbx
      cases hcl
      have bx := Boxed.new w2 22 (.slice q2 n c2)
      have hb3 := hb2.alloc hb2.size (.cells #[.slice q2 n c2] 22)
      have hbs3 := bytes_keep hbs2 (Keep.alloc (fun _ => True) w2 (.cells #[.slice q2 n c2] 22)) (fun _ _ _ => trivial)
      have hbs3' := bytes_keep h (Keep.of_below hb3) (fun a h1 h2 => hq a h1 h2)
      have hrow3 := hrow2.alloc (.cells #[.slice q2 n c2] 22)
      have con3 := con2 q2 c2 _ hbs3 hbs3'
      obtain ⟨W3, hW3⟩ : ∃ W3, w2.alloc (.cells #[.slice q2 n c2] 22) = W3 := ⟨_, rfl⟩
      rw [hW3] at bx hb3 hbs3 hbs3' hrow3 con3
      have HW3 := Lib.hid hW3
      have con4 := Address_any q2 n c2 l W3 HL.out (by omega) hbs3
      have cx := bx.cell
      have hs3 := hb3.size
      have hs2 := hb2.size
      have hs23 : W3.heap.size = w2.heap.size + 1 := by rw [← hW3]; simp
      clear ho con con2 hrow2 hbs2 hb2 h hblk2 hbs3' hW3
      go_wp2_with fail
      rw [HW3.out]
      refine con3.mono ?_
      rintro e w' ⟨rfl, hw⟩
      subst hw
      clear con3
      go_wp2_with fail
      refine con4.mono ?_
      rintro e w4 ⟨rfl, hb4⟩
      have k4 : ∀ S : Nat → Prop, (∀ b, S b → b < w'.heap.size) → Keep S w' w4 := fun S hS => (Keep.of_below hb4).mono fun b _ h => hS b h
      have bx4 := (Keep.of_below hb4).boxed bx bx.lt
      have hrow4 := (Keep.of_below hb4).row hrow3 (fun b hb => (hrow3.lt b hb).2)
      have hb04 := hb3.trans (hb4.mono hs3)
      have hs4 := hb4.size
      generalize addressB l = ad at *
      clear con4 hrow3 hbs3 bx cx k4
      go_wp2
      go_ret
      have bg := Boxed.new w4 4 (.bool (!ad))
      have bx5 := bx4.alloc (.cells #[.bool (!ad)] 4)
      have hrow5 := hrow4.alloc (.cells #[.bool (!ad)] 4)
      have hb5 := hb04.alloc hb04.size (.cells #[.bool (!ad)] 4)
      obtain ⟨_, _, hcl, _, _, _, hbs5, hblk5⟩ := row_open hrow5
      cases hcl
      have hrl := fun b hb => hrow5.lt b hb
      have hs5 : (w4.alloc (.cells #[.bool (!ad)] 4)).heap.size = w4.heap.size + 1 := by simp
      generalize w4.alloc (.cells #[.bool (!ad)] 4) = W5 at *
      have hRl : ∀ b, (b = w2.heap.size ∨ b = w4.heap.size ∨ (Value.slice q2 n c2).ownBlock = some b) → w.heap.size ≤ b ∧ b < W5.heap.size := fun b hb => by
        rcases hb with rfl | rfl | hb
        · exact ⟨hs2, bx5.lt⟩
        · exact ⟨by omega, bg.lt⟩
        · exact hrl b hb
      refine ⟨91, _, fun b => b = w2.heap.size ∨ b = w4.heap.size ∨ (Value.slice q2 n c2).ownBlock = some b, rfl, enters_of Tryd.func91 (by kernel_rfl) rfl, ?_, hRl, fun _ => by kernel_rfl, hb5⟩
      rw [HU.out]
      exact Up2_iter w2.heap.size w4.heap.size q2 n c2 l (!ad) _ W5 HL.out hn hc2 hq2 hbs5 (fun a ha _ => .inr (.inr (hblk5 a ha).2.2)) bx5 (.inl rfl) bg (.inr (.inl rfl)) (fun b hb => (hRl b hb).2)
    · have HU := Lib.hid (show upL l = [] by unfold upL; rw [if_neg (fun h => hlow h.2)])
      have con2 := fun (p1 : Option Addr) c1 W hb1 hb2 => Tryd.bytes_Equal_all p1 q n c1 n c (Lib.numsL (lowL l)) (Lib.numsL l) W (by rw [Lib.numsL_length, lowL_length, hl]) (by rw [Lib.numsL_length, hl]) hb1 hb2
      rw [bytes_eq, decide_eq_false hlow] at con2
      clear hl h0 hlow U1
      go_enter Tryd.func64, Tryd.ntmps64
      go_wp2_with fail
      refine con.mono ?_
      intro e w2 ho
      obtain ⟨q2, c2, rfl, hq2, hc2, hrow2, hb2⟩ := can_at0 ho HP.out HL.out
      obtain ⟨_, _, hcl, _, _, _, hbs2, hblk2⟩ := row_open hrow2
      cases hcl
      have bx := Boxed.new w2 22 (.slice q2 n c2)
      have hb3 := hb2.alloc hb2.size (.cells #[.slice q2 n c2] 22)
      have hbs3 := bytes_keep hbs2 (Keep.alloc (fun _ => True) w2 (.cells #[.slice q2 n c2] 22)) (fun _ _ _ => trivial)
      have hbs3' := bytes_keep h (Keep.of_below hb3) (fun a h1 h2 => hq a h1 h2)
      have con3 := con2 q2 c2 _ hbs3 hbs3'
      clear ho con con2 hrow2 hbs2 hb2 h hblk2 hbs3' hbs3
      go_wp2_with fail
      refine con3.mono ?_
      rintro e w' ⟨rfl, hw⟩
      subst hw
      clear con3
      go_wp2
      go_ret
      exact out_nothing HU.out hb3
  · have H := Lib.hid (show upL l = [] by unfold upL; rw [if_neg (fun h => h0 h.1)])
    obtain ⟨pe, hpe⟩ : ∃ pe, parseE l = pe := ⟨_, rfl⟩
    rw [hpe] at h0
    have HP := Lib.hid hpe
    have e1 : (pe == 0) = false := by rw [beq_eq_false_iff_ne]; exact h0
    have e2 : (pe != 0) = true := by unfold bne; rw [e1]; rfl
    have H0 := Lib.hid h0
    clear hl h hpe h0
    go_enter Tryd.func64, Tryd.ntmps64
    go_wp2_with fail
    refine con.mono ?_
    intro e w2 ho
    obtain ⟨q2, c2, rfl, _, hb2⟩ := can_at ho HP.out H0.out
    clear ho con
    go_wp2
    go_ret
    exact out_nothing H.out (hb2.alloc hb2.size _)

end Go.Proofs.YtdbpbfbjebjbeaaDoor.Host

namespace Go.Proofs.YtdbpbfbjebjbeaaDoor.Host
open Go.RowKit Go.Shelf
attribute [local go_sem] Oper.semAt_some

/-- What lies while what is above is gone through. -/
def WinE (w : World) (v : Value) (d : List UInt8) (pre : List (List UInt8)) (W : World) : Prop :=
  Boxed W w.heap.size 22 v ∧ Boxed W (w.heap.size + 1) 4 (.bool false) ∧ pre.contains d = false ∧ Below w.heap.size w W
def WinX (w : World) (d : List UInt8) (xs : List (List UInt8)) (_ : List (List UInt8)) (W : World) : Prop :=
  Boxed W (w.heap.size + 1) 4 (.bool true) ∧ xs.contains d = true ∧ Below w.heap.size w W

set_option maxRecDepth 100000 in
set_option maxHeartbeats 4000000 in
theorem Within_any (q qd : Option Addr) (n c m cd : Nat) (l d : List UInt8) (w : World) (hl : l.length = n) (hd : d.length = m) (hn : n ≤ 1099511627775) (h : Lib.BytesIn w q n (Lib.numsL l)) (h' : Lib.BytesIn w qd m (Lib.numsL d)) :
    Calls Tryd.prog 39 #[.slice q n c, .slice qd m cd] w fun e w' => e = .returned (.bool (withinB l d)) ∧ Below w.heap.size w w' := by
  refine (callsIn_wide (n := 1)).1 ?_
  refine callsIn_of_wp_marks Tryd.func39 rfl trivial ?_ rfl
  simp only [Tryd.ntmps39, List.size_toArray, List.length_cons, List.length_nil, Nat.reduceAdd, Nat.reduceSub, Array.replicate_succ, Array.replicate_zero, List.push_toArray, List.append_toArray, List.nil_append, List.cons_append]
  obtain ⟨W0, hW0⟩ : ∃ W0, (w.alloc (.cells #[.slice qd m cd] 22)).alloc (.cells #[.bool false] 4) = W0 := ⟨_, rfl⟩
  have b0 : Boxed W0 w.heap.size 22 (.slice qd m cd) := hW0 ▸ (Boxed.new w _ _).alloc _
  have b1 : Boxed W0 (w.heap.size + 1) 4 (.bool false) := by
    have := Boxed.new (w.alloc (.cells #[.slice qd m cd] 22)) 4 (.bool false)
    rw [World.size_alloc] at this
    exact hW0 ▸ this
  have hB0 : Below w.heap.size w W0 := hW0 ▸ ((Below.refl _ w).alloc (Nat.le_refl _) _).alloc (by simp) _
  have hs0 : W0.heap.size = w.heap.size + 2 := by rw [← hW0]; simp
  have hb0 := bytes_keep h (Keep.of_below hB0) (fun a h1 h2 => bytes_lt h a h1 h2)
  have con := Up_any q n c l W0 hl hn hb0
  have HW0 := Lib.hid hW0
  have hqd := bytes_lt h'
  have HWI := Lib.hid (show withinB l d = (upL l).contains d from rfl)
  clear h hW0 hb0 hl
  generalize upL l = xs at *
  generalize withinB l d = wb at *
  gi_wp2_with fail
  rw [HW0.out]
  refine ⟨trivial, (callsIn_wide.2 con).mono ?_⟩
  rintro e W1 ⟨gf, lb, RB, rfl, eg, hit, hRl, hnf, hbel⟩
  rw [hs0] at hRl
  replace b0 := (Keep.of_below hbel).boxed b0 (by omega)
  replace b1 := (Keep.of_below hbel).boxed b1 (by omega)
  have hB1 := hB0.trans (hbel.mono hB0.size)
  have hs1 := hbel.size
  rw [hs0] at hs1
  clear con hbel HW0 hB0 hs0
  gi_wp2
  refine rf_law (gf := gf) (lb := lb) rfl eg
    hit (Keep.refl _ _) (fun b hb => (hRl b hb).2) (fun x args G W h => by obtain ⟨v, rfl, _⟩ := h; rfl)
    (EvI W1 (WinE w (.slice qd m cd) d)) (EvX W1 (WinX w d xs)) (EvI_abide ?e1) (EvX_abide ?e2)
    ⟨(fun _ h => h.elim), Keep.refl _ _, b0, b1, rfl, hB1⟩ ?round ?done ?stop
  case e1 =>
    rintro pre A B hk ⟨h1, h2, h3, h4⟩
    exact ⟨hk.boxed h1 (by omega), hk.boxed h2 (by omega), h3, h4.trans ((hk.mono fun b _ hb => by omega).below h4.size)⟩
  case e2 =>
    rintro pre A B hk ⟨h1, h3, h4⟩
    exact ⟨hk.boxed h1 (by omega), h3, h4.trans ((hk.mono fun b _ hb => by omega).below h4.size)⟩
  case round =>
    rintro ll pre x rest Pv G args Wr hll hxs ⟨hge, hK1, hE1, hE2, hE3, hE4⟩ hPl hGl hPb hGP ⟨p, rfl, hp, rfl⟩
    have hxm : x ∈ xs := by rw [hxs]; simp
    obtain ⟨qx, cx, rfl, _, hnc, hcm, hbs, hblk⟩ := row_open hp
    clear hxs
    gi_wp2
    refine ⟨Keep.refl _ _, fun W2 hk2 hs2 r hr => ?_⟩
    have k2 : Keep (fun b => b < W1.heap.size) Wr W2 := hk2.mono fun b _ hb h => by omega
    have f1 := k2.boxed hE1 (by omega)
    have f2 := k2.boxed hE2 (by omega)
    have gx : Keep (fun b => (Value.slice qx x.length cx).ownBlock = some b) Wr W2 := hk2.mono fun b _ hb h => hGl (h ▸ hb)
    have hbs2 : Lib.BytesIn W2 qx x.length (Lib.numsL x) := bytes_keep hbs gx (fun a ha _ => (hblk a ha).2.2)
    have hs2' := hE4.size
    have hW2 := hE4.trans ((k2.mono fun b _ h => by omega).below hE4.size)
    have hbd2 := bytes_keep h' (Keep.of_below hW2) (fun a h1 h2 => hqd a h1 h2)
    have con2 := Tryd.bytes_Equal_all qx qd x.length cx m cd (Lib.numsL x) (Lib.numsL d) W2 (by rw [Lib.numsL_length]) (by rw [Lib.numsL_length, hd]) hbs2 hbd2
    rw [bytes_eq] at con2
    have c1 := f1.cell
    have c2 := f2.cell
    have z2 := f2.frozen
    have hK2 := hK1.trans (hk2.mono fun _ _ h => h.elim)
    clear hbs hp hbs2 hblk hk2 gx hbd2
    by_cases hxd : x = d
    · have HB := Lib.hid (show xs.contains d = true by rw [List.contains_iff_mem, ← hxd]; exact hxm)
      rw [decide_eq_true hxd] at con2
      clear hxd hxm
      gi_wp2_with fail
      refine ⟨trivial, rfl, (CallsIn.inRound ll (callsIn_wide.2 con2)).mono ?_⟩
      rintro e w' ⟨rfl, hw⟩
      subst hw
      clear con2
      gi_wp2
      refine ⟨Keep.setCell _ _ _ (fun h => ?_), rfl, fun b hb => hge b hb.1, hK2.trans (Keep.setCell _ _ _ (fun h => h)), f2.set _, HB.out, hW2.setCell (p := ⟨w.heap.size + 1, 0, none⟩) (Nat.le_succ _) _⟩
      rcases h with h | h
      · have := (hRl _ h).1; simp only at this; omega
      · have := hge _ h.1; simp only at this; omega
    · have HB := Lib.hid (show (pre ++ [x]).contains d = false by
        have hxd' : ¬ d = x := fun h => hxd h.symm
        rw [Bool.eq_false_iff] at hE3 ⊢
        intro hc
        rw [List.contains_iff_mem, List.mem_append] at hc
        rcases hc with hc | hc
        · exact hE3 (List.contains_iff_mem.2 hc)
        · exact hxd' (by simpa using hc))
      rw [decide_eq_false hxd] at con2
      clear hxd hxm
      gi_wp2_with fail
      refine ⟨trivial, rfl, (CallsIn.inRound ll (callsIn_wide.2 con2)).mono ?_⟩
      rintro e w' ⟨rfl, hw⟩
      subst hw
      clear con2
      gi_wp2
      exact ⟨Keep.refl _ _, fun b hb => hge b hb.1, hK2, f1, f2, HB.out, hW2⟩
  case done =>
    rintro D Pv Wd hD hPD hPl ⟨hge, hK1, hE1, hE2, hE3, hE4⟩ hK
    have c2 := hE2.cell
    have z2 := hE2.frozen
    gi_wp2
    have hKd : (Wd.setCell ⟨w.heap.size + 1, 0, none⟩ (.bool false)).heap[D]? = some (.deferred (some [])) := (Keep.setCell (S := fun b => b = D) Wd ⟨w.heap.size + 1, 0, none⟩ _ (show ¬ w.heap.size + 1 = D by omega)).heap rfl hK
    have kp : ∀ (S : Nat → Prop) (W : World), ¬ S D → Keep S W (W.putObj D (.deferred none)) := fun S W h => Keep.putObj _ _ _ h
    refine ⟨by simp, .inl ⟨_, _, rfl, run_takeDeferred hKd, ?_⟩⟩
    refine ⟨_, results_bool rfl _ _ (w.heap.size + 1) _ rfl ((kp (fun b => b = w.heap.size + 1) _ (by omega)).boxed (hE2.set _) rfl).cell, ?_, ?_⟩
    · rw [HWI.out, hE3]
    · have h5 := hE4.setCell (p := ⟨w.heap.size + 1, 0, none⟩) (Nat.le_succ _) (.bool false)
      exact h5.trans ((kp (fun b => b < w.heap.size) _ (by omega)).below h5.size)
  case stop =>
    rintro D cc pre rest Pv Wd hD hPD hPl hxs ⟨rfl, hge, hK1, hE1, hE3, hE4⟩ hK
    have kp : ∀ (S : Nat → Prop) (W : World), ¬ S D → Keep S W (W.putObj D (.deferred none)) := fun S W h => Keep.putObj _ _ _ h
    clear hxs
    gi_wp2
    refine ⟨by simp, .inl ⟨_, _, rfl, run_takeDeferred hK, ?_⟩⟩
    refine ⟨_, results_bool rfl _ _ (w.heap.size + 1) _ rfl ((kp (fun b => b = w.heap.size + 1) _ (by omega)).boxed hE1 rfl).cell, ?_, ?_⟩
    · rw [HWI.out, hE3]
    · exact hE4.trans ((kp (fun b => b < w.heap.size) _ (by omega)).below hE4.size)

end Go.Proofs.YtdbpbfbjebjbeaaDoor.Host

namespace Go.Proofs.YtdbpbfbjebjbeaaDoor.Url
open Go.RowKit Go.Shelf

/-- v is a row of the slices vs, each a row of one's own that reads as the word of ks at its place. -/
def RowsOf (W : World) (base : Nat) (v : Value) (vs : List Value) (ks : List (List UInt8)) : Prop :=
  W.ownsRow base 22 1 v ks.length vs ∧ ∀ (i : Nat) (x : Value) (k : List UInt8), vs[i]? = some x → ks[i]? = some k → W.ownsRow base 5 1 x k.length (byV k)
/-- The blocks of a row of rows. -/
def KB (v : Value) (vs : List Value) (b : Nat) : Prop := v.ownBlock = some b ∨ ∃ x ∈ vs, x.ownBlock = some b
theorem RowsOf.len {W : World} {base : Nat} {v : Value} {vs : List Value} {ks : List (List UInt8)} (h : RowsOf W base v vs ks) : vs.length = ks.length := by
  have := h.1.1; omega
theorem RowsOf.nil (W : World) (base : Nat) : RowsOf W base (.slice none 0 0) [] [] := ⟨World.ownsRow_nil _ _ _ _, fun i x k h => by simp at h⟩
theorem RowsOf.lt {W : World} {base : Nat} {v : Value} {vs : List Value} {ks : List (List UInt8)} (h : RowsOf W base v vs ks) : ∀ b, KB v vs b → base ≤ b ∧ b < W.heap.size := by
  rintro b (hb | ⟨x, hx, hb⟩)
  · exact h.1.lt b hb
  · obtain ⟨i, hi, rfl⟩ := List.mem_iff_getElem.1 hx
    have hk : i < ks.length := by rw [← h.len]; exact hi
    exact (h.2 i _ _ (List.getElem?_eq_getElem hi) (List.getElem?_eq_getElem hk)).lt b hb
theorem RowsOf.keep {S : Nat → Prop} {W W' : World} {base : Nat} {v : Value} {vs : List Value} {ks : List (List UInt8)} (h : RowsOf W base v vs ks) (hk : Keep S W W') (hS : ∀ b, KB v vs b → S b) : RowsOf W' base v vs ks :=
  ⟨hk.row h.1 fun b hb => hS b (.inl hb), fun i x k hi hj => hk.row (h.2 i x k hi hj) fun b hb => hS b (.inr ⟨x, List.mem_of_getElem? hi, hb⟩)⟩
/-- A box of another type is none of the blocks. -/
theorem RowsOf.not_box {W : World} {base B : Nat} {t : TypeId} {u v : Value} {vs : List Value} {ks : List (List UInt8)} (h : RowsOf W base v vs ks) (hB : Boxed W B t u) (h1 : t ≠ 22) (h2 : t ≠ 5) : ¬ KB v vs B := by
  rintro (hb | ⟨x, hx, hb⟩)
  · exact hB.not_row h1 h.1 hb.symm
  · obtain ⟨i, hi, rfl⟩ := List.mem_iff_getElem.1 hx
    have hk : i < ks.length := by rw [← h.len]; exact hi
    exact hB.not_row h2 (h.2 i _ _ (List.getElem?_eq_getElem hi) (List.getElem?_eq_getElem hk)) hb.symm
theorem byte_row_ne {W : World} {base base' g m n : Nat} {v x : Value} {xs ys : List Value} (h : W.ownsRow base 22 1 v n xs) (h' : W.ownsRow base' 5 1 x m ys) (hb : v.ownBlock = some g) : x.ownBlock ≠ some g := fun he => by
  rcases h.2 with ⟨rfl, _⟩ | ⟨g1, cap1, cur1, rfl, _, hg1, _⟩
  · simp [Value.ownBlock] at hb
  · rcases h'.2 with ⟨rfl, _⟩ | ⟨g2, cap2, cur2, rfl, _, hg2, _⟩
    · simp [Value.ownBlock] at he
    · obtain rfl : g1 = g := by simpa [Value.ownBlock] using hb
      obtain rfl : g2 = g1 := by simpa [Value.ownBlock] using he
      rw [hg1] at hg2
      injection hg2 with hg2
      injection hg2 with _ hg2
      exact absurd hg2 (by decide)
/-- One slice less. -/
theorem RowsOf.dropLast {W : World} {base n c : Nat} {q : Option Addr} {vs : List Value} {ks : List (List UInt8)} (h : RowsOf W base (.slice q n c) vs ks) : n = ks.length ∧ RowsOf W base (.slice q (n - 1) c) vs.dropLast ks.dropLast := by
  have hl := h.len
  have hn : n = ks.length := by
    rcases h.1.2 with ⟨he, hz⟩ | ⟨g, cap, cur, he, _⟩
    · cases he; omega
    · cases he; rfl
  refine ⟨hn, ?_, fun i x k hi hj => ?_⟩
  · refine ⟨by rw [List.length_dropLast, List.length_dropLast]; omega, ?_⟩
    rcases h.1.2 with ⟨he, hz⟩ | ⟨g, cap, cur, he, hb, hg, h1, h2, h3, h4⟩
    · cases he
      exact .inl ⟨by simp, by rw [List.length_dropLast]; omega⟩
    · cases he
      refine .inr ⟨g, c, cur, by rw [List.length_dropLast], hb, hg, by rw [List.length_dropLast]; omega, h2, h3, ?_⟩
      rw [List.length_dropLast, ← h4, List.dropLast_eq_take]
      simp only [Nat.mul_one, List.take_take, List.length_take]
      have hm : ks.length ≤ cur.size := by omega
      have hcs : cur.toList.length = cur.size := rfl
      congr 1; omega
  · rw [List.getElem?_dropLast] at hi hj
    split at hi
    · split at hj
      · exact h.2 i x k hi hj
      · cases hj
    · cases hi

theorem join_lib (c : UInt8) : ∀ R : List (List UInt8), Lib.join R [c] = Ref.joinL c R
  | [] => rfl
  | [p] => Lib.join_one p [c]
  | p :: q :: r => by
    have ih := join_lib c (q :: r)
    rw [Lib.join_cons] at ih ⊢
    show p ++ Lib.joinTail [c] (q :: r) = p ++ c :: Ref.joinL c (q :: r)
    rw [← ih]
    simp [Lib.joinTail]
theorem lens_weight : ∀ R : List (List UInt8), Lib.lens R + R.length = weightL R
  | [] => rfl
  | p :: r => by
    have ih := lens_weight r
    simp only [Lib.lens, List.map_cons, List.sum_cons, List.length_cons, weightL] at ih ⊢
    omega
theorem By.holds {w : World} {v : Value} {l : List UInt8} (h : By w v l) : Lib.HoldsBytes w v l := by
  obtain ⟨q, c, rfl, h1, h2, h3, h4⟩ := h
  refine ⟨q, c, rfl, fun hq => List.eq_nil_of_length_eq_zero (by have := h3 hq; omega), fun a ha i x hx => ?_⟩
  subst ha
  have hi : i < l.length := (List.getElem?_eq_some_iff.1 hx).1
  obtain ⟨b, o, he, hc⟩ := h4.at (by omega)
  cases he
  rw [Go.WideShapes.add_plain, hc i hi, numsL_getD _ _ hi, List.getD, hx]; rfl
theorem By.fresh {B : Nat} {w : World} {v : Value} {l : List UInt8} (h : Lib.FreshBytes B w v l) : By w v l := by
  obtain ⟨g, cap, zs, rfl, _, h1, h2, h3, h4, h5, h6, _⟩ := h
  refine ⟨_, cap, rfl, h1, h2, (fun h => by cases h), fun _ => ⟨g, 0, rfl, fun i hi => ?_⟩⟩
  rw [Nat.zero_add, h6 i (by omega), numsL_getD _ _ hi, ← h5]
  have hz : i < zs.length := by omega
  have hr := h4 _ (List.getElem_mem hz)
  have hi' : i < (Lib.bytesOf (zs.take l.length)).length := by rw [Lib.bytesOf_length, List.length_take]; omega
  rw [List.getD, List.getElem?_eq_getElem hz, List.getD, List.getElem?_eq_getElem hi']
  simp only [Option.getD_some, Lib.bytesOf, List.getElem_map, List.getElem_take, UInt8.toNat_ofNat']
  congr 2; omega

set_option maxHeartbeats 1000000 in
theorem Join_any (base c n : Nat) (q : Option Addr) (vs : List Value) (ks : List (List UInt8)) (sv : Value) (w : World) (h : RowsOf w base (.slice q n c) vs ks) (hs : By w sv [47]) (hw : weightL ks ≤ 1099511627776) :
    Calls Tryd.prog 57 #[.slice q n c, sv] w fun e w' => ∃ v, e = .returned v ∧ By w' v (Ref.joinL 47 ks) ∧ Below w.heap.size w w' := by
  have hlen := h.len
  have hwt := lens_weight ks
  have key : ks ≠ [] → ∃ g, q = some ⟨g, 0, none⟩ ∧ n = ks.length ∧ n ≤ c ∧ ∀ (i : Nat) x, vs[i]? = some x → w.cell? ⟨g, i, none⟩ = some x := by
    intro hne
    have hpos : 0 < ks.length := List.length_pos_iff.2 hne
    rcases h.1.2 with ⟨he, hz⟩ | ⟨g, cap, cur, he, hb, hg, h1, h2, h3, h4⟩
    · omega
    · cases he
      refine ⟨g, rfl, rfl, h1, fun i x hx => ?_⟩
      have hi : i < vs.length := (List.getElem?_eq_some_iff.1 hx).1
      have : (cur.toList.take (ks.length * 1))[i]? = some x := by rw [h4]; exact hx
      rw [List.getElem?_take, if_pos (by omega)] at this
      simp only [World.cell?, hg]
      simpa using this
  rcases Nat.lt_or_ge 1 ks.length with h2 | h2
  · obtain ⟨g, rfl, hn, hnc, hc⟩ := key (by intro e; rw [e] at h2; simp at h2)
    have hP : Lib.PartsAt w ⟨g, 0, none⟩ vs ks := ⟨hlen, fun i x hx => by rw [Go.WideShapes.add_plain, Nat.zero_add]; exact hc i x hx, fun i x k hx hk => (By.row (h.2 i x k hx hk)).holds⟩
    refine (Tryd.bytes_Join_many g 0 n c vs ks sv [47] w hn.symm (by omega) hP hnc hs.holds (by omega) (by simp; omega)).mono ?_
    rintro e w' ⟨v, he, hf, hb⟩
    rw [join_lib] at hf
    exact ⟨v, he, By.fresh hf, hb⟩
  · match ks, h2 with
    | [], _ =>
      have hn : n = 0 := by
        rcases h.1.2 with ⟨he, _⟩ | ⟨g, cap, cur, he, _⟩
        · cases he; rfl
        · cases he; rfl
      subst hn
      refine (Tryd.bytes_Join_none q c sv w).mono ?_
      rintro e w' ⟨rfl, rfl⟩
      exact ⟨_, rfl, By.of rfl (Nat.le_refl _) (Nat.zero_le _) (fun _ => rfl) (Lib.BytesIn.nil _ _ _), (Below.refl _ _).alloc (Nat.le_refl _) _⟩
    | [k], _ =>
      obtain ⟨g, rfl, hn, hnc, hc⟩ := key (by simp)
      obtain rfl : n = 1 := hn
      obtain ⟨x, rfl⟩ : ∃ x, vs = [x] := by
        match vs, hlen with
        | [x], _ => exact ⟨x, rfl⟩
      have hb := By.row (h.2 0 x k rfl rfl)
      have hcell := hc 0 x rfl
      obtain ⟨p0, c0, rfl, h5, h6, h7, h8⟩ := hb.holds |> fun _ => hb
      rcases Nat.eq_zero_or_pos k.length with hk | hk
      · have hk' : k = [] := List.eq_nil_of_length_eq_zero hk
        subst hk'
        refine (Tryd.bytes_Join_one_empty g 0 c p0 c0 sv w hcell).mono ?_
        rintro e w' ⟨rfl, rfl⟩
        exact ⟨_, rfl, by_nil _, Below.refl _ _⟩
      · obtain ⟨b, o, rfl, hcc⟩ := h8.at hk
        refine (Tryd.bytes_Join_one g 0 c ⟨b, o, none⟩ c0 k sv w hcell (fun i y hy => by
          have hi : i < k.length := (List.getElem?_eq_some_iff.1 hy).1
          rw [Go.WideShapes.add_plain, hcc i hi, numsL_getD _ _ hi, List.getD, hy]; rfl) hk (by simp [weightL] at hw; omega)).mono ?_
        rintro e w' ⟨v, he, hf, hb'⟩
        exact ⟨v, he, By.fresh hf, hb'⟩

/-- The pieces behind the first one. -/
def tailsX (pre : List (Nat × List UInt8)) : List (List UInt8) := (pre.map Prod.snd).tail
theorem tails_snoc (pre : List (Nat × List UInt8)) (x : Nat × List UInt8) (h : pre ≠ []) : tailsX (pre ++ [x]) = tailsX pre ++ [x.2] := by
  unfold tailsX
  rw [List.map_append, List.map_singleton, List.tail_append_of_ne_nil (by simpa using h)]
theorem tails_one (x : Nat × List UInt8) : tailsX ([] ++ [x]) = [] := rfl
theorem forms_snoc : ∀ (l : List (List UInt8)) (p : List UInt8) (cs : List (List UInt8)) (c : List UInt8), formsL l = some cs → formL 1 p = some c → formsL (l ++ [p]) = some (cs ++ [c])
  | [], p, cs, c, h, hp => by
    rw [formsL] at h; cases h
    rw [List.nil_append, formsL, hp]; rfl
  | a :: r, p, cs, c, h, hp => by
    rw [formsL] at h
    obtain ⟨d, hd, h⟩ := Option.bind_eq_some_iff.1 h
    obtain ⟨ds, hds, rfl⟩ := Option.map_eq_some_iff.1 h
    rw [List.cons_append, formsL, hd, Option.bind_some, forms_snoc r p ds c hds hp]; rfl
theorem forms_bad : ∀ (l r : List (List UInt8)) (p : List UInt8), formL 1 p = none → formsL (l ++ p :: r) = none
  | [], r, p, hp => by rw [List.nil_append, formsL, hp]; rfl
  | a :: t, r, p, hp => by
    rw [List.cons_append, formsL, forms_bad t r p hp]
    cases formL 1 a <;> rfl
theorem stack_snoc (cs : List (List UInt8)) (c : List UInt8) : stackL [] (cs ++ [c]) = if c = [46] then stackL [] cs else if c = [46, 46] then (stackL [] cs).dropLast else stackL [] cs ++ [c] := by
  rw [stack_app, stackL, stackL]
theorem last_snoc (cs : List (List UInt8)) (c : List UInt8) : (cs ++ [c]).getLastD [] = c := by simp
theorem path_split (l : List UInt8) (h : l = [] ∨ ∃ r, l = 47 :: r) : pathL l = (formsL (Ref.splitL 47 l).tail).map fun cs => 47 :: Ref.joinL 47 (dotsL cs) := by
  rcases h with rfl | ⟨r, rfl⟩
  · rfl
  · rw [Ref.split_is]; rfl
theorem tails_split (l : List UInt8) : tailsX (splitX 47 l) = (Ref.splitL 47 l).tail := by
  unfold tailsX; rw [Host.splitX_snd]

end Go.Proofs.YtdbpbfbjebjbeaaDoor.Url

namespace Go.Proofs.YtdbpbfbjebjbeaaDoor.Url
open Go.RowKit Go.Shelf
attribute [local go_sem] Oper.semAt_some

theorem info_sl : (Tryd.prog.info? 22).map (fun i => (i.zero, i.size, i.bytes)) = some (some (.slice none 0 0), 1, 24) := by kernel_rfl
/-- A path and an error's number, out of their cells. -/
theorem results_path {fn : Func} {p r : Tmp} (h : fn.results = #[.cell p 22, .cell r 26]) (tmps : Array Value) (w : World) (B C : Nat) (v u : Value) (hp : tmps.getD p undef = .pointer (some ⟨B, 0, none⟩)) (hr : tmps.getD r undef = .pointer (some ⟨C, 0, none⟩)) (hb : w.cell? ⟨B, 0, none⟩ = some v) (hc : w.cell? ⟨C, 0, none⟩ = some u) :
    (results fn tmps).run Tryd.prog w = .ok (.tuple #[v, u]) w := by
  have hp' : tmps[p]?.getD undef = .pointer (some ⟨B, 0, none⟩) := by simpa using hp
  have hr' : tmps[r]?.getD undef = .pointer (some ⟨C, 0, none⟩) := by simpa using hr
  have ha : ∀ w', (isAgg 22).run Tryd.prog w' = .ok false w' := Tryd.isAgg22
  have hd : ∀ w', (isAgg 26).run Tryd.prog w' = .ok false w' := Tryd.isAgg26
  have hl : (load ⟨B, 0, none⟩).run Tryd.prog w = .ok v w := by simp [go_sem, hb]
  have hm : (load ⟨C, 0, none⟩).run Tryd.prog w = .ok u w := by simp [go_sem, hc]
  simp [results, h, hp', hr', asAddr, loadVar, ha, hd, hl, hm, Result.andThen]

theorem own_len (q : Option Addr) (n m c d : Nat) : (Value.slice q n c).ownBlock = (Value.slice q m d).ownBlock := by cases q <;> rfl
theorem rows_slice {W : World} {base : Nat} {v : Value} {vs : List Value} {ks : List (List UInt8)} (h : RowsOf W base v vs ks) : ∃ q c, v = .slice q ks.length c ∧ ks.length ≤ c ∧ c ≤ maxLen := by
  rcases h.1.2 with ⟨rfl, hz⟩ | ⟨g, cap, cur, rfl, _, _, h1, h2, _⟩
  · exact ⟨none, 0, by rw [hz], by omega, Nat.zero_le _⟩
  · exact ⟨_, cap, rfl, h1, h2⟩
theorem conv_bytes {W : World} {q : Option Addr} {n c : Nat} {l : List UInt8} (h : Lib.BytesIn W q n (Lib.numsL l)) (hl : l.length = n) : (convert 22 9 (.slice q n c)).run Tryd.prog W = .ok (.string ⟨l.toArray⟩) W := by
  have h := h.convert (P := Tryd.prog) (by rw [Lib.numsL_length, hl]) c 22 5 9 Tryd.underlying22 Tryd.underlying5 Tryd.underlying9
  rwa [strOfNums_numsL] at h
theorem stack_len : ∀ (ps st : List (List UInt8)), (stackL st ps).length ≤ st.length + ps.length
  | [], st => by simp [stackL]
  | p :: r, st => by
    rw [stackL]
    have ih := stack_len r (if p = [46] then st else if p = [46, 46] then st.dropLast else st ++ [p])
    have hs : (if p = [46] then st else if p = [46, 46] then st.dropLast else st ++ [p]).length ≤ st.length + 1 := by
      split
      · omega
      · split
        · rw [List.length_dropLast]; omega
        · simp
    rw [List.length_cons]; omega

theorem wpListIn_append_by {F : Fence} {nF : Nat} {ops : Array Oper} {rest : List Oper} {o : Oper} {a : Act} {w : World} {Q : Exit → Act → World → Prop} (hgd : o.guard = none) (s x : Operand)
    (ho : o.op = .call { callee := .builtin .append, args := #[s, x], argTypes := #[22, 22] })
    (base : Nat) (v : Value) (n : Nat) (xs : List Value) (hs : a.eval s = v) (hown : w.ownsRow base 5 1 v n xs) (vx : Value) (bs : List UInt8) (hx : a.eval x = vx) (hb : By w vx bs) (h47 : n + bs.length ≤ 140737488355328) (hbase : base ≤ w.heap.size)
    (h : ∀ v' w', w'.ownsRow base 5 1 v' (n + bs.length) (xs ++ byV bs) → w.grownBy w' v.ownBlock → wpListIn F nF Tryd.prog ops Q rest (a.put o.dst v') w') : wpListIn F nF Tryd.prog ops Q (o :: rest) a w := by
  refine wpListIn_plain hgd fun K hK => ?_
  obtain ⟨v', w', hr, h1, h2⟩ := run_append_by o.type base v n xs w hown vx bs hb h47 hbase
  unfold Oper.wpIn
  refine ⟨by simp [Oper.about, ho, resolve, Target.leads, Sem.run_pure], ?_⟩
  rw [Oper.semAt_plain F _ _ (by rw [ho]; intro c hc'; cases hc')]
  simp [execOp, ho, resolve, invoke, builtin, hs, hx, hr, Result.andThen]
  exact hK _ _ (h v' w' h1 h2)
/-- A new row of one byte is one's own. -/
theorem own_lit (w : World) (b : UInt8) : (w.alloc (.cells #[.int .u8 (b.toNat : Int)] 5)).ownsRow w.heap.size 5 1 (.slice (some ⟨w.heap.size, 0, none⟩) 1 1) 1 (byV [b]) :=
  ⟨rfl, .inr ⟨w.heap.size, 1, #[.int .u8 (b.toNat : Int)], rfl, Nat.le_refl _, World.alloc_heap_new w _, Nat.le_refl _, by decide, rfl, rfl⟩⟩

/-- What lies while the pieces are gone through. -/
def PthI (w W1 : World) (pre : List (Nat × List UInt8)) (Pv : Nat → Prop) (W : World) : Prop :=
  ∃ cs v vs, Boxed W w.heap.size 22 (.slice none 0 0) ∧ Boxed W (w.heap.size + 1) 26 (.int .i64 0) ∧ Boxed W (w.heap.size + 1 + 1) 77 v ∧ Boxed W (w.heap.size + 1 + 1 + 1) 4 (.bool (dotB (cs.getLastD []))) ∧
    RowsOf W W1.heap.size v vs (stackL [] cs) ∧ (∀ b, KB v vs b → ¬ Pv b) ∧ (∀ b, Pv b → W1.heap.size ≤ b) ∧ Keep (fun _ => False) W1 W ∧ Hid (formsL (tailsX pre) = some cs) ∧ cs.length ≤ pre.length ∧ Below w.heap.size w W
theorem PthI_abide {w W1 : World} (h : w.heap.size + 4 ≤ W1.heap.size) : Abide (PthI w W1) := by
  rintro pre Pv Pv' A B ⟨cs, v, vs, h1, h2, h3, h4, h5, h6, h7, h8, h9, h10, h11⟩ hk hp
  have kk : ∀ b, b < W1.heap.size → ¬ Pv b := fun b hb hn => by have := h7 b hn; omega
  have hs := h8.size
  refine ⟨cs, v, vs, hk.boxed h1 (kk _ (by omega)), hk.boxed h2 (kk _ (by omega)), hk.boxed h3 (kk _ (by omega)), hk.boxed h4 (kk _ (by omega)), h5.keep hk h6, fun b hb hp' => ?_, fun b hb => ?_, h8.trans (hk.mono fun _ _ h => h.elim), h9, h10, h11.trans ((hk.mono fun b _ hb => kk b (by omega)).below h11.size)⟩
  · rcases (hp b hp').1 with h' | h'
    · exact h6 b hb h'
    · have := (h5.lt b hb).2; omega
  · rcases (hp b hb).1 with h' | h'
    · exact h7 b h'
    · omega
/-- What lies behind a piece that has no form. -/
def PthE (w : World) (l : List UInt8) (_ : List (Nat × List UInt8)) (W : World) : Prop :=
  Boxed W w.heap.size 22 (.slice none 0 0) ∧ Boxed W (w.heap.size + 1) 26 (.int .i64 2) ∧ Hid (pathL l = none) ∧ Below w.heap.size w W

set_option maxRecDepth 100000 in
set_option maxHeartbeats 8000000 in
theorem canonOfPath_any (q : Option Addr) (n c : Nat) (l : List UInt8) (w : World) (hby : By w (.slice q n c) l) (hn : n ≤ 1048576) (hform : l = [] ∨ ∃ r, l = 47 :: r) :
    Calls Tryd.prog 36 #[.slice q n c] w fun e w' => Pct.TextPost (pathL l) w e w' := by
  obtain ⟨i1, hi1, hz0, hz1, hz2⟩ := info_parts info_sl
  refine (callsIn_wide (n := 1)).1 ?_
  refine callsIn_of_wp_marks Tryd.func36 rfl trivial ?_ rfl
  simp only [Tryd.ntmps36, List.size_toArray, List.length_cons, List.length_nil, Nat.reduceAdd, Nat.reduceSub, Array.replicate_succ, Array.replicate_zero, List.push_toArray, List.append_toArray, List.nil_append, List.cons_append]
  obtain ⟨W0', hW0', b0, b1, b2, b3, hs0', hk0⟩ := four_boxes w 22 26 77 4 (.slice none 0 0) (.int .i64 0) (.slice none 0 0) (.bool false)
  clear hW0' b0 b1 b2 b3 hs0' hk0
  obtain ⟨W0, hW0⟩ : ∃ W0, (((w.alloc (.cells #[.slice none 0 0] 22)).alloc (.cells #[.int .i64 0] 26)).alloc (.cells #[.slice none 0 0] 77)).alloc (.cells #[.bool false] 4) = W0 := ⟨_, rfl⟩
  have b0 : Boxed W0 w.heap.size 22 (.slice none 0 0) := hW0 ▸ (((Boxed.new w _ _).alloc _).alloc _).alloc _
  have b1 : Boxed W0 (w.heap.size + 1) 26 (.int .i64 0) := by
    have := ((Boxed.new (w.alloc (.cells #[.slice none 0 0] 22)) 26 (.int .i64 0)).alloc (.cells #[.slice none 0 0] 77)).alloc (.cells #[.bool false] 4)
    rw [World.size_alloc] at this
    exact hW0 ▸ this
  have b2 : Boxed W0 (w.heap.size + 1 + 1) 77 (.slice none 0 0) := by
    have := (Boxed.new ((w.alloc (.cells #[.slice none 0 0] 22)).alloc (.cells #[.int .i64 0] 26)) 77 (.slice none 0 0)).alloc (.cells #[.bool false] 4)
    rw [World.size_alloc, World.size_alloc] at this
    exact hW0 ▸ this
  have b3 : Boxed W0 (w.heap.size + 1 + 1 + 1) 4 (.bool false) := by
    have := Boxed.new (((w.alloc (.cells #[.slice none 0 0] 22)).alloc (.cells #[.int .i64 0] 26)).alloc (.cells #[.slice none 0 0] 77)) 4 (.bool false)
    rw [World.size_alloc, World.size_alloc, World.size_alloc] at this
    exact hW0 ▸ this
  have hB0 : Below w.heap.size w W0 := hW0 ▸ ((((Below.refl _ w).alloc (Nat.le_refl _) _).alloc (by simp) _).alloc (by simp only [World.size_alloc]; omega) _).alloc (by simp only [World.size_alloc]; omega) _
  have hs0 : W0.heap.size = w.heap.size + 1 + 1 + 1 + 1 := by rw [← hW0]; simp
  obtain ⟨hl, hnc0, hcm0, hnil0, h⟩ := hby.at
  have hb0 := bytes_on h hB0
  have con := Split_any q n c 47 l W0 hl (by omega) hb0
  have hsmall := splitX_small 47 l n hl
  have hlenX := splitX_len 47 l
  have hnum := splitX_num 47 l
  rw [hl] at hlenX
  have HW0 := Lib.hid hW0
  have HPS := Lib.hid (path_split l hform)
  have HTS := Lib.hid (tails_split l)
  have HWT := Lib.hid (weight_split 47 l)
  have HL := Lib.hid hl
  clear hW0 hb0 hl hby h hform
  gi_wp2_with fail
  rw [HW0.out]
  refine ⟨trivial, (callsIn_wide.2 con).mono ?_⟩
  rintro e W1 ⟨B, v', rfl, hB, hBc, hrow, hBl, hbel⟩
  have hit := Split_iter (by omega) hB hBc hrow
  have hRl0 : ∀ b, (b = B ∨ b = W0.heap.size ∨ v'.ownBlock = some b) → w.heap.size + 4 ≤ b ∧ b < W1.heap.size := fun b hb => by
    rcases hb with rfl | rfl | hb
    · exact ⟨by omega, hB.lt⟩
    · exact ⟨by omega, hBc.lt⟩
    · have := hrow.lt b hb; exact ⟨by omega, this.2⟩
  obtain ⟨RB, hRB⟩ : ∃ RB : Nat → Prop, RB = fun b => b = B ∨ b = W0.heap.size ∨ v'.ownBlock = some b := ⟨_, rfl⟩
  rw [← hRB, hs0] at hit
  have hRl : ∀ b, RB b → w.heap.size + 4 ≤ b ∧ b < W1.heap.size := fun b hb => hRl0 b (by rw [hRB] at hb; exact hb)
  clear hRB hRl0
  replace b0 := (Keep.of_below hbel).boxed b0 (by omega)
  replace b1 := (Keep.of_below hbel).boxed b1 (by omega)
  replace b2 := (Keep.of_below hbel).boxed b2 (by omega)
  replace b3 := (Keep.of_below hbel).boxed b3 (by omega)
  have hB1 := hB0.trans (hbel.mono hB0.size)
  have hs1 := hbel.size
  clear con hB hBc hrow hBl hbel HW0 hB0
  generalize splitX 47 l = xs at *
  gi_wp2
  rw [hs0] at hs1
  clear hs0
  refine rf_law (gf := 47) (lb := #[.pointer (some ⟨B, 0, none⟩), .pointer (some ⟨w.heap.size + 1 + 1 + 1 + 1, 0, none⟩)]) rfl (enters_of Tryd.func47 (by kernel_rfl) rfl)
    hit (Keep.refl _ _) (fun b hb => (hRl b hb).2) (fun x args G W h => by obtain ⟨v, rfl, _⟩ := h; rfl)
    (PthI w W1) (Host.EvX W1 (PthE w l)) (PthI_abide hs1) (Host.EvX_abide ?e2)
    ⟨[], .slice none 0 0, [], b0, b1, b2, b3, RowsOf.nil _ _, (fun _ _ h => h), (fun _ h => h.elim), Keep.refl _ _, Lib.hid rfl, Nat.zero_le _, hB1⟩ ?round ?done ?stop
  case e2 =>
    rintro pre A B hk ⟨h1, h2, h3, h4⟩
    exact ⟨hk.boxed h1 (by omega), hk.boxed h2 (by omega), h3, h4.trans ((hk.mono fun b _ hb => by omega).below h4.size)⟩
  case round =>
    rintro ll pre ⟨xi, x⟩ rest Pv G args Wr hll hxs ⟨cs, v, vs, hE0, hE1, hE2, hE3, hR, hnk, hge, hK1, HF, hcl, hE8⟩ hPl hGl hPb hGP ⟨p, rfl, hp, rfl⟩
    have hxm : (xi, x) ∈ xs := by rw [hxs]; simp
    have hxl := hsmall _ hxm
    have hxi := hnum pre (xi, x) rest hxs
    simp only at hxl hp hxi
    subst hxi
    obtain ⟨qx, cx, rfl, _, hnc, hcm, hbs, hblk⟩ := row_open hp
    have hlen : pre.length + rest.length + 1 = xs.length := by rw [hxs]; simp; omega
    gi_wp2
    refine ⟨Keep.refl _ _, fun W2 hk2 hs2 r hr => ?_⟩
    have k2 : Keep (fun b => b < W1.heap.size) Wr W2 := hk2.mono fun b _ hb h => by omega
    have kP : Keep (fun b => ¬ Pv b) Wr W2 := hk2.mono fun b _ hb h => hb (h ▸ hPl)
    have f0 := k2.boxed hE0 (by omega)
    have f1 := k2.boxed hE1 (by omega)
    have f2 := k2.boxed hE2 (by omega)
    have f3 := k2.boxed hE3 (by omega)
    have hR2 := hR.keep kP hnk
    have gx : Keep (fun b => (Value.slice qx x.length cx).ownBlock = some b) Wr W2 := hk2.mono fun b _ hb h => hGl (h ▸ hb)
    have hbs2 : Lib.BytesIn W2 qx x.length (Lib.numsL x) := bytes_keep hbs gx (fun a ha _ => (hblk a ha).2.2)
    have hW2 := hE8.trans ((k2.mono fun b _ h => by omega).below hE8.size)
    have hs2' := hE8.size
    have hK2 := hK1.trans (hk2.mono fun _ _ h => h.elim)
    have hPl2 : ∀ b, Pv b → b < W2.heap.size := fun b hb => by rw [hs2]; exact hPb b hb
    have con2 := Pct.Canon_any qx x.length cx x 1 W2 rfl (by omega) hbs2
    have hszW := hW2.size
    have hs12 := hK2.size
    clear hbs hp hbs2 hblk hk2 gx hE0 hE1 hE2 hE3 hR kP k2 hK1 hE8
    by_cases hp0 : pre = []
    · have e0 : ((pre.length : Int) == 0) = true := by rw [beq_iff_eq, hp0]; rfl
      have HF2 := Lib.hid (show formsL (tailsX (pre ++ [(pre.length, x)])) = some cs by rw [hp0, tails_one]; have := HF.out; rw [hp0] at this; exact this)
      have hcl2 : cs.length ≤ (pre ++ [(pre.length, x)]).length := by rw [List.length_append]; omega
      clear con2 hxs
      gi_wp2
      exact ⟨Keep.refl _ _, cs, v, vs, f0, f1, f2, f3, hR2, fun b hb h => hnk b hb h.1, fun b hb => hge b hb.1, hK2, HF2, hcl2, hW2⟩
    · have e0 : ((pre.length : Int) == 0) = false := by
        rw [beq_eq_false_iff_ne]
        have := List.length_pos_iff.2 hp0
        omega
      have HXS := Lib.hid (show tailsX xs = tailsX pre ++ x :: rest.map Prod.snd by
        rw [hxs]; unfold tailsX
        rw [List.map_append, List.tail_append_of_ne_nil (by simpa using hp0)]; rfl)
      have HTS1 := Lib.hid (tails_snoc pre (pre.length, x) hp0)
      clear hxs hp0
      cases hf : formL 1 x with
      | none =>
        have HPN := Lib.hid (show pathL l = none by rw [HPS.out, ← HTS.out, HXS.out, forms_bad _ _ _ hf]; rfl)
        have hf' : (Pct.itemsL x).map (Pct.canL 1) = none := hf
        rw [hf'] at con2
        clear hf hf' HXS HTS1
        gi_wp2_with fail
        refine ⟨trivial, rfl, (CallsIn.inRound ll (callsIn_wide.2 con2)).mono ?_⟩
        rintro e W3 ⟨v3, n3, rfl, hn3, hr3, hb3⟩
        obtain rfl : n3 = 2 := hn3.out
        obtain ⟨q3, c3, rfl, _, _, _, _, _⟩ := row_open hr3
        have g0 := (Keep.of_below hb3).boxed f0 f0.lt
        have g1 := (Keep.of_below hb3).boxed f1 f1.lt
        have x0 := g0.cell
        have x1 := g1.cell
        have z0 := g0.frozen
        have z1 := g1.frozen
        have hW3 := hW2.trans (hb3.mono hszW)
        clear con2 hr3 hn3 f2 f3 hR2
        gi_wp2
        have kst : ∀ S : Nat → Prop, ¬ S w.heap.size → ¬ S (w.heap.size + 1) → Keep S W3 ((W3.setCell ⟨w.heap.size, 0, none⟩ (.slice none 0 0)).setCell ⟨w.heap.size + 1, 0, none⟩ (.int .i64 2)) := fun S h h' => (Keep.setCell _ _ _ h).trans (Keep.setCell _ _ _ h')
        refine ⟨((Keep.of_below hb3).mono fun b hb _ => hb).trans (kst _ (fun h => ?_) (fun h => ?_)), rfl, fun b hb => hge b hb.1, (hK2.trans ((Keep.of_below hb3).mono fun _ _ h => h.elim)).trans (kst _ (fun h => h) (fun h => h)), ?_, ?_, HPN.out, ?_⟩
        · rcases h with h | h
          · have := (hRl _ h).1; omega
          · have := hge _ h.1; omega
        · rcases h with h | h
          · have := (hRl _ h).1; omega
          · have := hge _ h.1; omega
        · exact (Keep.setCell (S := fun b => b = w.heap.size) _ ⟨w.heap.size + 1, 0, none⟩ _ (by simp)).boxed (g0.set _) rfl
        · exact ((Keep.setCell (S := fun b => b = w.heap.size + 1) W3 ⟨w.heap.size, 0, none⟩ _ (by simp)).boxed g1 rfl).set _
        · exact (hW3.setCell (p := ⟨w.heap.size, 0, none⟩) (Nat.le_refl _) _).setCell (p := ⟨w.heap.size + 1, 0, none⟩) (Nat.le_succ _) _
      | some cc =>
        have hf' : (Pct.itemsL x).map (Pct.canL 1) = some cc := hf
        rw [hf'] at con2
        have HF2 := Lib.hid (show formsL (tailsX (pre ++ [(pre.length, x)])) = some (cs ++ [cc]) by rw [HTS1.out]; exact forms_snoc _ _ _ _ HF.out hf)
        have hcl2 : (cs ++ [cc]).length ≤ (pre ++ [(pre.length, x)]).length := by rw [List.length_append, List.length_append]; simp; omega
        have hkl := stack_len cs []
        clear hf hf' HXS HTS1 HF
        obtain ⟨qv, cv, rfl, hv1, hv2⟩ := rows_slice hR2
        obtain ⟨ks, hks⟩ : ∃ ks, stackL [] cs = ks := ⟨_, rfl⟩
        rw [hks] at hR2 hv1 hkl hnk f2
        have HKS := Lib.hid hks
        have HSN := Lib.hid (stack_snoc cs cc)
        rw [hks] at HSN
        have HLN := Lib.hid (last_snoc cs cc)
        obtain ⟨m, hm⟩ : ∃ m, ks.length = m := ⟨_, rfl⟩
        rw [hm] at hv1 hkl hnk f2 hR2
        have HM := Lib.hid hm
        simp only [List.length_nil, Nat.zero_add] at hkl
        clear hks
        gi_wp2_with fail
        refine ⟨trivial, rfl, (CallsIn.inRound ll (callsIn_wide.2 con2)).mono ?_⟩
        rintro e W3 ⟨v3, n3, rfl, hn3, hr3, hb3⟩
        obtain rfl : n3 = 0 := hn3.out
        replace hr3 : W3.ownsRow W2.heap.size 5 1 v3 cc.length (byV cc) := hr3
        obtain ⟨q3, c3, rfl, _, _, _, hbb, hblk3⟩ := row_open hr3
        have hcv := conv_bytes (c := c3) hbb rfl
        have g0 := (Keep.of_below hb3).boxed f0 f0.lt
        have g1 := (Keep.of_below hb3).boxed f1 f1.lt
        have g2 := (Keep.of_below hb3).boxed f2 f2.lt
        have g3 := (Keep.of_below hb3).boxed f3 f3.lt
        have hR3 := hR2.keep (Keep.of_below hb3) (fun b hb => (hR2.lt b hb).2)
        have x2 := g2.cell
        have x3 := g3.cell
        have z2 := g2.frozen
        have z3 := g3.frozen
        have hW3 := hW2.trans (hb3.mono hszW)
        have hs23 := hb3.size
        have hK3 : Keep (fun _ => False) W1 W3 := hK2.trans ((Keep.of_below hb3).mono fun _ _ h => h.elim)
        have hkk : Keep (fun b => RB b ∨ Pv b ∧ ¬(Value.slice qx x.length cx).ownBlock = some b) W2 W3 := (Keep.of_below hb3).mono fun b hb _ => hb
        have hPl3 : ∀ b, Pv b → b < W2.heap.size := hPl2
        have hnb : ∀ b, b < w.heap.size + 4 → ¬ (RB b ∨ Pv b ∧ ¬(Value.slice qx x.length cx).ownBlock = some b) := fun b hb h => by
          rcases h with h | h
          · have := (hRl _ h).1; omega
          · have := hge _ h.1; omega
        clear con2 hn3 f0 f1 f2 f3 hR2 hbb hblk3
        by_cases h1 : cc = [46]
        · have e1 : (cc == ([46] : List UInt8)) = true := by rw [beq_iff_eq]; exact h1
          have HSK := Lib.hid (show stackL [] (cs ++ [cc]) = ks by rw [HSN.out, if_pos h1])
          have HDT := Lib.hid (show dotB ((cs ++ [cc]).getLastD []) = true by rw [HLN.out, h1]; decide)
          clear h1 HSN HLN
          gi_wp2
          have kst : ∀ S : Nat → Prop, ¬ S (w.heap.size + 1 + 1 + 1) → Keep S W3 (W3.setCell ⟨w.heap.size + 1 + 1 + 1, 0, none⟩ (.bool true)) := fun S h => Keep.setCell _ _ _ h
          refine ⟨hkk.trans (kst _ (hnb _ (by omega))), cs ++ [cc], _, vs, (kst (fun b => b = w.heap.size) (by omega)).boxed g0 rfl, (kst (fun b => b = w.heap.size + 1) (by omega)).boxed g1 rfl, (kst (fun b => b = w.heap.size + 1 + 1) (by omega)).boxed g2 rfl, ?_, ?_, fun b hb h => hnk b hb h.1, fun b hb => hge b hb.1, hK3.trans (kst _ (fun h => h)), HF2, hcl2, hW3.setCell (p := ⟨w.heap.size + 1 + 1 + 1, 0, none⟩) (show w.heap.size ≤ w.heap.size + 1 + 1 + 1 by omega) _⟩
          · rw [HDT.out]; exact g3.set _
          · rw [HSK.out]; exact hR3.keep (kst (fun b => b ≠ w.heap.size + 1 + 1 + 1) (fun h => h rfl)) (fun b hb => by have := (hR3.lt b hb).1; omega)
        · have e1 : (cc == ([46] : List UInt8)) = false := by rw [beq_eq_false_iff_ne]; exact h1
          by_cases h2 : cc = [46, 46]
          · have e2 : (cc == ([46, 46] : List UInt8)) = true := by rw [beq_iff_eq]; exact h2
            have HSK := Lib.hid (show stackL [] (cs ++ [cc]) = ks.dropLast by rw [HSN.out, if_neg h1, if_pos h2])
            have HDT := Lib.hid (show dotB ((cs ++ [cc]).getLastD []) = true by rw [HLN.out, h2]; decide)
            have hmx : (max ((m : Int) - 1) 0).toNat = m - 1 := by omega
            have HMX := Lib.hid hmx
            clear h1 h2 HSN HLN hmx
            gi_wp2
            rw [HMX.out]
            have kst : ∀ S : Nat → Prop, ¬ S (w.heap.size + 1 + 1) → ¬ S (w.heap.size + 1 + 1 + 1) → Keep S W3 ((W3.setCell ⟨w.heap.size + 1 + 1, 0, none⟩ (.slice qv (m - 1) cv)).setCell ⟨w.heap.size + 1 + 1 + 1, 0, none⟩ (.bool true)) := fun S h h' => (Keep.setCell _ _ _ h).trans (Keep.setCell _ _ _ h')
            have hRd := (hR3.dropLast).2
            refine ⟨hkk.trans (kst _ (hnb _ (by omega)) (hnb _ (by omega))), cs ++ [cc], _, vs.dropLast, (kst (fun b => b = w.heap.size) (by omega) (by omega)).boxed g0 rfl, (kst (fun b => b = w.heap.size + 1) (by omega) (by omega)).boxed g1 rfl,
              (Keep.setCell (S := fun b => b = w.heap.size + 1 + 1) _ ⟨w.heap.size + 1 + 1 + 1, 0, none⟩ _ (by simp)).boxed (g2.set _) rfl, ?_, ?_, fun b hb h => hnk b ?_ h.1, fun b hb => hge b hb.1, hK3.trans (kst _ (fun h => h) (fun h => h)), HF2, hcl2,
              (hW3.setCell (p := ⟨w.heap.size + 1 + 1, 0, none⟩) (show w.heap.size ≤ w.heap.size + 1 + 1 by omega) _).setCell (p := ⟨w.heap.size + 1 + 1 + 1, 0, none⟩) (show w.heap.size ≤ w.heap.size + 1 + 1 + 1 by omega) _⟩
            · rw [HDT.out]; exact ((Keep.setCell (S := fun b => b = w.heap.size + 1 + 1 + 1) W3 ⟨w.heap.size + 1 + 1, 0, none⟩ _ (by simp)).boxed g3 rfl).set _
            · rw [HSK.out]; exact hRd.keep (kst (fun b => b ≠ w.heap.size + 1 + 1 ∧ b ≠ w.heap.size + 1 + 1 + 1) (fun h => h.1 rfl) (fun h => h.2 rfl)) (fun b hb => by have := (hRd.lt b hb).1; omega)
            · rcases hb with hb | ⟨y, hy, hb⟩
              · exact .inl ((own_len qv _ _ _ _).symm.trans hb)
              · exact .inr ⟨y, List.dropLast_subset _ hy, hb⟩
          · have e2 : (cc == ([46, 46] : List UInt8)) = false := by rw [beq_eq_false_iff_ne]; exact h2
            have HSK := Lib.hid (show stackL [] (cs ++ [cc]) = ks ++ [cc] by rw [HSN.out, if_neg h1, if_neg h2])
            have HDT := Lib.hid (show dotB ((cs ++ [cc]).getLastD []) = false by rw [HLN.out]; unfold dotB; simp [h1, h2])
            clear h1 h2 HSN HLN
            gi_wp2_with (gi_at_builtin; go_must (refine wpListIn_append_own_at _ rfl _ _ 77 rfl W1.heap.size 22 i1 (.slice none 0 0) 1 24 Tryd.underlying77 hi1 hz0 hz1 hz2 rfl (by decide) _ _ _ rfl (hR3.1.alloc _) ⟨W3.heap.size, 0, none⟩ 1 1 [.slice q3 cc.length c3] rfl rfl (cell_one_new _ _ _) (by simp [Value.oneCell']) (by rw [HM.out]; unfold maxLen; omega) (by rw [HM.out]; omega) (by simp; omega) ?_); intro v' w4 hown' hgrow _ hat; obtain ⟨g', cap', rfl⟩ := ownsRow_succ hown'; obtain ⟨hv1', hv2', hr2', hkk'⟩ := Pct.appended_keep (S := fun b => b ≠ w.heap.size + 1 + 1 ∧ ¬ (Value.slice qv m cv).ownBlock = some b) g2 (by decide) hR3.1 (fun h => h.1 rfl) (fun b hb h => h.2 hb) hown' hgrow; have hc1 := hv1'.cell; have hf1 := hv1'.frozen; have hx4 := (g3.alloc (.cells #[.slice q3 cc.length c3] 22)).kept hgrow (g3.not_row (by decide) hR3.1); have hx4c := hx4.cell; have hx4f := hx4.frozen)
            rw [hm] at hkk' hv2' hr2' hat
            have hol : ∀ b, (Value.slice qv m cv).ownBlock = some b → W1.heap.size ≤ b := fun b hb => (hR3.1.lt b hb).1
            have hx5 := (Keep.setCell (S := fun b => b = w.heap.size + 1 + 1 + 1) w4 ⟨w.heap.size + 1 + 1, 0, none⟩ (.slice (some ⟨g', 0, none⟩) (m + 1) cap') (by simp)).boxed hx4 rfl
            have k35 : ∀ S : Nat → Prop, (∀ b, S b → b ≠ w.heap.size + 1 + 1 ∧ b ≠ w.heap.size + 1 + 1 + 1 ∧ ¬ (Value.slice qv m cv).ownBlock = some b) → Keep S W3 ((w4.setCell ⟨w.heap.size + 1 + 1, 0, none⟩ (.slice (some ⟨g', 0, none⟩) (m + 1) cap')).setCell ⟨w.heap.size + 1 + 1 + 1, 0, none⟩ (.bool false)) := fun S hS =>
              (hkk'.mono fun b _ hb => ⟨(hS b hb).1, (hS b hb).2.2⟩).trans (Keep.setCell _ _ _ fun h => (hS _ h).2.1 rfl)
            have hs14 : w.heap.size + 4 ≤ W1.heap.size := hs1
            have hlt2 : (vs ++ [Value.slice q3 cc.length c3]).length = (ks ++ [cc]).length := by rw [List.length_append, List.length_append, hR3.len]; rfl
            have hvl := hR3.len
            refine ⟨hkk.trans (k35 _ fun b hb => ?_), cs ++ [cc], _, vs ++ [.slice q3 cc.length c3], (k35 (fun b => b = w.heap.size) (fun b hb => ⟨by omega, by omega, fun h => by have := hol b h; omega⟩)).boxed g0 rfl, (k35 (fun b => b = w.heap.size + 1) (fun b hb => ⟨by omega, by omega, fun h => by have := hol b h; omega⟩)).boxed g1 rfl,
              (Keep.setCell (S := fun b => b = w.heap.size + 1 + 1) _ ⟨w.heap.size + 1 + 1 + 1, 0, none⟩ _ (by simp)).boxed hv2' rfl, ?_, ?_, ?_, fun b hb => hge b hb.1, hK3.trans (k35 _ fun b hb => hb.elim), HF2, hcl2, hW3.trans ((k35 (fun b => b < w.heap.size) (fun b hb => ⟨by omega, by omega, fun h => by have := hol b h; omega⟩)).below hW3.size)⟩
            · refine ⟨fun h => hnb b (by omega) hb, fun h => hnb b (by omega) hb, fun h => ?_⟩
              rcases hb with hb | hb
              · have := (hRl b hb).2; have := hol b h; omega
              · exact hnk b (.inl h) hb.1
            · rw [HDT.out]; exact hx5.set _
            · rw [HSK.out]
              refine ⟨?_, fun i y k hi hk => ?_⟩
              · rw [List.length_append, HM.out]
                exact (Keep.setCell (S := fun b => b ≠ w.heap.size + 1 + 1 + 1) _ ⟨w.heap.size + 1 + 1 + 1, 0, none⟩ _ (fun h => h rfl)).row hr2' (fun b hb => by have := (hr2'.lt b hb).1; omega)
              · have keepRow : ∀ (z : Value) (kz : List UInt8), W3.ownsRow W1.heap.size 5 1 z kz.length (byV kz) → ((w4.setCell ⟨w.heap.size + 1 + 1, 0, none⟩ (.slice (some ⟨g', 0, none⟩) (m + 1) cap')).setCell ⟨w.heap.size + 1 + 1 + 1, 0, none⟩ (.bool false)).ownsRow W1.heap.size 5 1 z kz.length (byV kz) := fun z kz hz =>
                  (k35 (fun b => z.ownBlock = some b) fun b hb => ⟨by have := (hz.lt b hb).1; omega, by have := (hz.lt b hb).1; omega, fun h => byte_row_ne hR3.1 hz h hb⟩).row hz (fun b hb => hb)
                rcases Nat.lt_or_ge i vs.length with hlt | hlt
                · rw [List.getElem?_append_left hlt] at hi
                  rw [List.getElem?_append_left (by omega)] at hk
                  exact keepRow y k (hR3.2 i y k hi hk)
                · rw [List.getElem?_append_right hlt] at hi
                  rw [List.getElem?_append_right (by omega)] at hk
                  have hi0 : i - vs.length = 0 := by
                    have := (List.getElem?_eq_some_iff.1 hi).1
                    simpa using this
                  rw [hi0] at hi
                  rw [show i - ks.length = 0 by omega] at hk
                  cases hi
                  cases hk
                  exact keepRow _ _ (row_base hr3 hs12)
            · rintro b (hb | ⟨y, hy, hb⟩) h
              · rcases hat with h' | h'
                · exact hnk b (.inl (h' ▸ hb)) h.1
                · rw [h'] at hb
                  cases hb
                  have := hPl3 _ h.1
                  simp at this
                  omega
              · rcases List.mem_append.1 hy with hy | hy
                · exact hnk b (.inr ⟨y, hy, hb⟩) h.1
                · rw [List.mem_singleton.1 hy] at hb
                  have h5 := (hr3.lt b hb).1
                  have h6 := hPl3 b h.1
                  omega
  case done =>
    rintro D Pv Wd hD hPD hPl ⟨cs, v, vs, hE0, hE1, hE2, hE3, hR, hnk, hge, hK1, HF, hcl, hE8⟩ hK
    have hF := HF.out
    rw [HTS.out] at hF
    have HP := Lib.hid (show pathL l = some (47 :: Ref.joinL 47 (dotsL cs)) by rw [HPS.out, hF]; rfl)
    have hw1 := weight_forms _ _ hF
    have hw2 : weightL (Ref.splitL 47 l).tail ≤ weightL (Ref.splitL 47 l) := by
      cases Ref.splitL 47 l with
      | nil => exact Nat.le_refl _
      | cons p r => rw [List.tail_cons, weightL]; omega
    have hw3 := weight_dots cs
    have hwd : weightL (dotsL cs) ≤ 4194304 := by have := HWT.out; have := HL.out; omega
    have hwj := weight_join 47 (dotsL cs)
    obtain ⟨qv, cv, rfl, hv1, hv2⟩ := rows_slice hR
    have HDL := Lib.hid (show dotsL cs = stackL [] cs ++ (if dotB (cs.getLastD []) = true then [[]] else []) from rfl)
    have hkl := stack_len cs []
    have hcx : cs.length ≤ n + 1 := Nat.le_trans hcl hlenX
    obtain ⟨ks, hks⟩ : ∃ ks, stackL [] cs = ks := ⟨_, rfl⟩
    rw [hks] at hR hv1 hkl hnk hE2
    have HKS := Lib.hid hks
    simp only [List.length_nil, Nat.zero_add] at hkl
    have hDl := hPl D hPD
    have hszd := hE8.size
    have hs1d := hK1.size
    have hgD := hge D hPD
    have y0 := hE0.cell
    have y1 := hE1.cell
    have y2 := hE2.cell
    have y3 := hE3.cell
    have u0 := hE0.frozen
    have u1 := hE1.frozen
    have u2 := hE2.frozen
    clear hks hF hw1 hw2 hw3 HF HTS HPS HWT hcl hlenX
    generalize dotB (cs.getLastD []) = dt at *
    cases dt with
    | false =>
      have HDK := Lib.hid (show dotsL cs = ks by rw [HDL.out, HKS.out]; simp)
      rw [HDK.out] at hwd hwj
      rw [HDK.out] at HP
      clear HDK HDL HKS
      have z2 : ∀ o, (Wd.alloc o).cell? ⟨w.heap.size + 1 + 1, 0, none⟩ = some (.slice qv ks.length cv) := fun o => (hE2.alloc o).cell
      have hlit := by_lit Wd #[.int .u8 47] [47] (0, 0) 1 rfl rfl (by decide)
      have hown := own_lit Wd 47
      have hBl := (Below.refl Wd.heap.size Wd).alloc (Nat.le_refl _) (.cells #[.int .u8 47] 5)
      have conJ := Join_any W1.heap.size cv (ks.length) qv (vs) (ks) (.slice (some ⟨Wd.heap.size, 0, none⟩) 1 1) (Wd.alloc (.cells #[.int .u8 47] 5)) (hR.keep (Keep.alloc (fun _ => True) _ _) (fun _ _ => trivial)) hlit (by omega)
      have hWs : (Wd.alloc (.cells #[.int .u8 47] 5)).heap.size = Wd.heap.size + 1 := by simp
      gi_wp2_with fail
      refine ⟨trivial, (callsIn_wide.2 conJ).mono ?_⟩
      rintro e V ⟨v5, rfl, hJ, hb5⟩
      have hownV := (Keep.of_below hb5).row hown (fun k hk => (hown.lt k hk).2)
      have hbV := hBl.trans (hb5.mono hBl.size)
      have hVs := hb5.size
      have r0 := (Keep.of_below hbV).boxed hE0 hE0.lt
      have r1 := (Keep.of_below hbV).boxed hE1 hE1.lt
      have rD := (hbV.block D (Array.getElem?_eq_some_iff.1 hK).1).trans hK
      have hE8V := hE8.trans (hbV.mono hE8.size)
      have l0 := (Array.getElem?_eq_some_iff.1 hK).1
      clear conJ hown hlit hb5 z2 hBl
      gi_wp2_with (gi_at_builtin; go_must (refine wpListIn_append_by rfl _ _ rfl Wd.heap.size _ 1 _ rfl hownV _ _ rfl hJ (by omega) hbV.size ?_); intro v6 X hr6 hg6; rw [← byV_app] at hr6; obtain ⟨q6, c6, rfl, _⟩ := row_open hr6; have k6 : ∀ S : Nat → Prop, (∀ b, S b → b < Wd.heap.size) → Keep S V X := (fun S hS => Keep.of_grownBy hg6 fun b hb h => (by have h1 := (hownV.lt b hb).1; have h2 := hS b h; omega)); have s0 := (k6 (fun b => b = w.heap.size) (fun b hb => by have := hE0.lt; omega)).boxed r0 rfl; have s1 := (k6 (fun b => b = w.heap.size + 1) (fun b hb => by have := hE1.lt; omega)).boxed r1 rfl; have sc0 := s0.cell; have sc1 := s1.cell; have sf0 := s0.frozen; have sf1 := s1.frozen)
      have k7 : ∀ S : Nat → Prop, ¬ S w.heap.size → ¬ S (w.heap.size + 1) → Keep S X ((X.setCell ⟨w.heap.size, 0, none⟩ (.slice q6 (1 + (Ref.joinL 47 (ks)).length) c6)).setCell ⟨w.heap.size + 1, 0, none⟩ (.int .i64 0)) := fun S h h' => (Keep.setCell _ _ _ h).trans (Keep.setCell _ _ _ h')
      have k8 : ∀ (S : Nat → Prop) (Y : World), ¬ S D → Keep S Y (Y.putObj D (.deferred none)) := fun S Y h => Keep.putObj _ _ _ h
      have hKd : ((X.setCell ⟨w.heap.size, 0, none⟩ (.slice q6 (1 + (Ref.joinL 47 (ks)).length) c6)).setCell ⟨w.heap.size + 1, 0, none⟩ (.int .i64 0)).heap[D]? = some (.deferred (some [])) := ((k6 (fun b => b = D) (fun b hb => by rw [hb]; exact l0)).trans (k7 (fun b => b = D) (by omega) (by omega))).heap rfl rD
      have q0 : Boxed ((X.setCell ⟨w.heap.size, 0, none⟩ (.slice q6 (1 + (Ref.joinL 47 (ks)).length) c6)).setCell ⟨w.heap.size + 1, 0, none⟩ (.int .i64 0)) w.heap.size 22 (.slice q6 (1 + (Ref.joinL 47 (ks)).length) c6) := (Keep.setCell (S := fun b => b = w.heap.size) _ ⟨w.heap.size + 1, 0, none⟩ _ (by simp)).boxed (s0.set _) rfl
      have q1 : Boxed ((X.setCell ⟨w.heap.size, 0, none⟩ (.slice q6 (1 + (Ref.joinL 47 (ks)).length) c6)).setCell ⟨w.heap.size + 1, 0, none⟩ (.int .i64 0)) (w.heap.size + 1) 26 (.int .i64 0) := ((Keep.setCell (S := fun b => b = w.heap.size + 1) X ⟨w.heap.size, 0, none⟩ _ (by simp)).boxed s1 rfl).set _
      refine ⟨by simp, .inl ⟨_, _, rfl, run_takeDeferred hKd, ?_⟩⟩
      refine ⟨_, results_path rfl _ _ w.heap.size (w.heap.size + 1) _ _ rfl rfl ((k8 (fun b => b = w.heap.size) _ (by omega)).boxed q0 rfl).cell ((k8 (fun b => b = w.heap.size + 1) _ (by omega)).boxed q1 rfl).cell, ?_⟩
      rw [HP.out]
      have hk9 : ∀ S : Nat → Prop, ¬ S w.heap.size → ¬ S (w.heap.size + 1) → ¬ S D → Keep S X (((X.setCell ⟨w.heap.size, 0, none⟩ (.slice q6 (1 + (Ref.joinL 47 (ks)).length) c6)).setCell ⟨w.heap.size + 1, 0, none⟩ (.int .i64 0)).putObj D (.deferred none)) := fun S h h' h'' => (k7 S h h').trans (k8 S _ h'')
      refine ⟨_, 0, rfl, Lib.hid rfl, ?_, ?_⟩
      · have hfin : (47 :: Ref.joinL 47 (ks)).length = 1 + (Ref.joinL 47 (ks)).length := by rw [List.length_cons]; omega
        show World.ownsRow _ w.heap.size 5 1 (.slice q6 (1 + (Ref.joinL 47 (ks)).length) c6) (47 :: Ref.joinL 47 (ks)).length (byV (47 :: Ref.joinL 47 (ks)))
        rw [hfin]
        exact row_base ((hk9 (fun b => Wd.heap.size ≤ b) (by have := hE0.lt; omega) (by have := hE1.lt; omega) (by omega)).row hr6 (fun b hb => (hr6.lt b hb).1)) (by have := hE0.lt; omega)
      · exact hE8V.trans (((k6 (fun b => b < w.heap.size) (fun b hb => by have := hE0.lt; omega)).trans (hk9 (fun b => b < w.heap.size) (by omega) (by omega) (by omega))).below hE8V.size)
    | true =>
      have HDK := Lib.hid (show dotsL cs = ks ++ [[]] by rw [HDL.out, HKS.out]; simp)
      rw [HDK.out] at hwd hwj
      rw [HDK.out] at HP
      clear HDK HDL HKS
      have hnb2 := hR.not_box hE2 (by decide) (by decide)
      gi_wp2_with (gi_at_builtin; go_must (refine wpListIn_append_own_at _ rfl _ _ 77 rfl W1.heap.size 22 i1 (.slice none 0 0) 1 24 Tryd.underlying77 hi1 hz0 hz1 hz2 rfl (by decide) _ _ _ rfl (hR.1.alloc _) ⟨Wd.heap.size, 0, none⟩ 1 1 [.slice none 0 0] rfl rfl (cell_one_new _ _ _) (by simp [Value.oneCell']) (by unfold maxLen; omega) (by omega) (by simp; omega) ?_); intro v' w4 hown' hgrow _ hat; obtain ⟨g', cap', rfl⟩ := ownsRow_succ hown'; obtain ⟨hv1', hv2', hr2', hkk'⟩ := Pct.appended_keep (S := fun b => b ≠ w.heap.size + 1 + 1 ∧ ¬ (Value.slice qv ks.length cv).ownBlock = some b) hE2 (by decide) hR.1 (fun h => h.1 rfl) (fun b hb h => h.2 hb) hown' hgrow; have hc1 := hv1'.cell; have hf1 := hv1'.frozen; have z4 : ∀ o, ((w4.setCell ⟨w.heap.size + 1 + 1, 0, none⟩ (.slice (some ⟨g', 0, none⟩) (ks.length + 1) cap')).alloc o).cell? ⟨w.heap.size + 1 + 1, 0, none⟩ = some (.slice (some ⟨g', 0, none⟩) (ks.length + 1) cap') := fun o => (hv2'.alloc o).cell)
      obtain ⟨Wc, hWc⟩ : ∃ Wc, w4.setCell ⟨w.heap.size + 1 + 1, 0, none⟩ (.slice (some ⟨g', 0, none⟩) (ks.length + 1) cap') = Wc := ⟨_, rfl⟩
      have hWcs : Wc.heap.size = w4.heap.size := by rw [← hWc]; simp [World.setCell]
      rw [hWc, ← hWcs]
      rw [hWc] at hv2' hr2' hkk' z4
      clear hWc hWcs hc1 hf1 z4 hv1' hown' hgrow
      have hol : ∀ b, (Value.slice qv ks.length cv).ownBlock = some b → W1.heap.size ≤ b := fun b hb => (hR.1.lt b hb).1
      have hC0 := hkk'.boxed hE0 ⟨by omega, fun h => by have := hol _ h; omega⟩
      have hC1 := hkk'.boxed hE1 ⟨by omega, fun h => by have := hol _ h; omega⟩
      have hC2 := hv2'
      have hCK := hkk'.heap ⟨by omega, fun h => hnk D (.inl h) hPD⟩ hK
      have hCE := hE8.trans ((hkk'.mono fun b _ hb => show b ≠ w.heap.size + 1 + 1 ∧ ¬ (Value.slice qv ks.length cv).ownBlock = some b from ⟨by omega, fun h => by have := hol _ h; omega⟩).below hE8.size)
      have hCl := hkk'.size
      have hvl := hR.len
      have hCR : RowsOf Wc W1.heap.size (.slice (some ⟨g', 0, none⟩) (ks.length + 1) cap') (vs ++ [Value.slice none 0 0]) (ks ++ [[]]) := by
        refine ⟨by rw [List.length_append]; exact hr2', fun i y k hi hk => ?_⟩
        rcases Nat.lt_or_ge i vs.length with hlt | hlt
        · rw [List.getElem?_append_left hlt] at hi
          rw [List.getElem?_append_left (by omega)] at hk
          have hz := hR.2 i y k hi hk
          exact (hkk'.mono fun b _ hb => show b ≠ w.heap.size + 1 + 1 ∧ ¬ (Value.slice qv ks.length cv).ownBlock = some b from ⟨by have := (hz.lt b hb).1; omega, fun h => byte_row_ne hR.1 hz h hb⟩).row hz (fun b hb => hb)
        · rw [List.getElem?_append_right hlt] at hi
          rw [List.getElem?_append_right (by omega)] at hk
          have hi0 : i - vs.length = 0 := by
            have := (List.getElem?_eq_some_iff.1 hi).1
            simpa using this
          rw [hi0] at hi
          rw [show i - ks.length = 0 by omega] at hk
          cases hi
          cases hk
          exact World.ownsRow_nil _ _ _ _
      have hszd' := Nat.le_trans hszd hCl
      clear hkk' hr2' hv2' hat hR hol hvl
      have z2 : ∀ o, (Wc.alloc o).cell? ⟨w.heap.size + 1 + 1, 0, none⟩ = some (.slice (some ⟨g', 0, none⟩) (ks.length + 1) cap') := fun o => (hC2.alloc o).cell
      have hlit := by_lit Wc #[.int .u8 47] [47] (0, 0) 1 rfl rfl (by decide)
      have hown := own_lit Wc 47
      have hBl := (Below.refl Wc.heap.size Wc).alloc (Nat.le_refl _) (.cells #[.int .u8 47] 5)
      have conJ := Join_any W1.heap.size cap' (ks.length + 1) (some ⟨g', 0, none⟩) (vs ++ [Value.slice none 0 0]) (ks ++ [[]]) (.slice (some ⟨Wc.heap.size, 0, none⟩) 1 1) (Wc.alloc (.cells #[.int .u8 47] 5)) (hCR.keep (Keep.alloc (fun _ => True) _ _) (fun _ _ => trivial)) hlit (by omega)
      have hWs : (Wc.alloc (.cells #[.int .u8 47] 5)).heap.size = Wc.heap.size + 1 := by simp
      refine ⟨trivial, (callsIn_wide.2 conJ).mono ?_⟩
      rintro e V ⟨v5, rfl, hJ, hb5⟩
      have hownV := (Keep.of_below hb5).row hown (fun k hk => (hown.lt k hk).2)
      have hbV := hBl.trans (hb5.mono hBl.size)
      have hVs := hb5.size
      have r0 := (Keep.of_below hbV).boxed hC0 hC0.lt
      have r1 := (Keep.of_below hbV).boxed hC1 hC1.lt
      have rD := (hbV.block D (Array.getElem?_eq_some_iff.1 hCK).1).trans hCK
      have hE8V := hCE.trans (hbV.mono hCE.size)
      have l0 := (Array.getElem?_eq_some_iff.1 hCK).1
      clear conJ hown hlit hb5 z2 hBl
      gi_wp2_with (gi_at_builtin; go_must (refine wpListIn_append_by rfl _ _ rfl Wc.heap.size _ 1 _ rfl hownV _ _ rfl hJ (by omega) hbV.size ?_); intro v6 X hr6 hg6; rw [← byV_app] at hr6; obtain ⟨q6, c6, rfl, _⟩ := row_open hr6; have k6 : ∀ S : Nat → Prop, (∀ b, S b → b < Wc.heap.size) → Keep S V X := (fun S hS => Keep.of_grownBy hg6 fun b hb h => (by have h1 := (hownV.lt b hb).1; have h2 := hS b h; omega)); have s0 := (k6 (fun b => b = w.heap.size) (fun b hb => by have := hC0.lt; omega)).boxed r0 rfl; have s1 := (k6 (fun b => b = w.heap.size + 1) (fun b hb => by have := hC1.lt; omega)).boxed r1 rfl; have sc0 := s0.cell; have sc1 := s1.cell; have sf0 := s0.frozen; have sf1 := s1.frozen)
      have k7 : ∀ S : Nat → Prop, ¬ S w.heap.size → ¬ S (w.heap.size + 1) → Keep S X ((X.setCell ⟨w.heap.size, 0, none⟩ (.slice q6 (1 + (Ref.joinL 47 (ks ++ [[]])).length) c6)).setCell ⟨w.heap.size + 1, 0, none⟩ (.int .i64 0)) := fun S h h' => (Keep.setCell _ _ _ h).trans (Keep.setCell _ _ _ h')
      have k8 : ∀ (S : Nat → Prop) (Y : World), ¬ S D → Keep S Y (Y.putObj D (.deferred none)) := fun S Y h => Keep.putObj _ _ _ h
      have hKd : ((X.setCell ⟨w.heap.size, 0, none⟩ (.slice q6 (1 + (Ref.joinL 47 (ks ++ [[]])).length) c6)).setCell ⟨w.heap.size + 1, 0, none⟩ (.int .i64 0)).heap[D]? = some (.deferred (some [])) := ((k6 (fun b => b = D) (fun b hb => by rw [hb]; exact l0)).trans (k7 (fun b => b = D) (by omega) (by omega))).heap rfl rD
      have q0 : Boxed ((X.setCell ⟨w.heap.size, 0, none⟩ (.slice q6 (1 + (Ref.joinL 47 (ks ++ [[]])).length) c6)).setCell ⟨w.heap.size + 1, 0, none⟩ (.int .i64 0)) w.heap.size 22 (.slice q6 (1 + (Ref.joinL 47 (ks ++ [[]])).length) c6) := (Keep.setCell (S := fun b => b = w.heap.size) _ ⟨w.heap.size + 1, 0, none⟩ _ (by simp)).boxed (s0.set _) rfl
      have q1 : Boxed ((X.setCell ⟨w.heap.size, 0, none⟩ (.slice q6 (1 + (Ref.joinL 47 (ks ++ [[]])).length) c6)).setCell ⟨w.heap.size + 1, 0, none⟩ (.int .i64 0)) (w.heap.size + 1) 26 (.int .i64 0) := ((Keep.setCell (S := fun b => b = w.heap.size + 1) X ⟨w.heap.size, 0, none⟩ _ (by simp)).boxed s1 rfl).set _
      refine ⟨by simp, .inl ⟨_, _, rfl, run_takeDeferred hKd, ?_⟩⟩
      refine ⟨_, results_path rfl _ _ w.heap.size (w.heap.size + 1) _ _ rfl rfl ((k8 (fun b => b = w.heap.size) _ (by omega)).boxed q0 rfl).cell ((k8 (fun b => b = w.heap.size + 1) _ (by omega)).boxed q1 rfl).cell, ?_⟩
      rw [HP.out]
      have hk9 : ∀ S : Nat → Prop, ¬ S w.heap.size → ¬ S (w.heap.size + 1) → ¬ S D → Keep S X (((X.setCell ⟨w.heap.size, 0, none⟩ (.slice q6 (1 + (Ref.joinL 47 (ks ++ [[]])).length) c6)).setCell ⟨w.heap.size + 1, 0, none⟩ (.int .i64 0)).putObj D (.deferred none)) := fun S h h' h'' => (k7 S h h').trans (k8 S _ h'')
      refine ⟨_, 0, rfl, Lib.hid rfl, ?_, ?_⟩
      · have hfin : (47 :: Ref.joinL 47 (ks ++ [[]])).length = 1 + (Ref.joinL 47 (ks ++ [[]])).length := by rw [List.length_cons]; omega
        show World.ownsRow _ w.heap.size 5 1 (.slice q6 (1 + (Ref.joinL 47 (ks ++ [[]])).length) c6) (47 :: Ref.joinL 47 (ks ++ [[]])).length (byV (47 :: Ref.joinL 47 (ks ++ [[]])))
        rw [hfin]
        exact row_base ((hk9 (fun b => Wc.heap.size ≤ b) (by have := hC0.lt; omega) (by have := hC1.lt; omega) (by omega)).row hr6 (fun b hb => (hr6.lt b hb).1)) (by have := hC0.lt; omega)
      · exact hE8V.trans (((k6 (fun b => b < w.heap.size) (fun b hb => by have := hC0.lt; omega)).trans (hk9 (fun b => b < w.heap.size) (by omega) (by omega) (by omega))).below hE8V.size)
  case stop =>
    rintro D cc pre rest Pv Wd hD hPD hPl hxs ⟨rfl, hge, hK1, hE0, hE1, HPN, hE4⟩ hK
    have kp : ∀ (S : Nat → Prop) (W : World), ¬ S D → Keep S W (W.putObj D (.deferred none)) := fun S W h => Keep.putObj _ _ _ h
    clear hxs
    have hgD := hge D hPD
    have hs1d := hK1.size
    gi_wp2
    refine ⟨by simp, .inl ⟨_, _, rfl, run_takeDeferred hK, ?_⟩⟩
    refine ⟨_, results_path rfl _ _ w.heap.size (w.heap.size + 1) _ _ rfl rfl ((kp (fun b => b = w.heap.size) _ (by omega)).boxed hE0 rfl).cell ((kp (fun b => b = w.heap.size + 1) _ (by omega)).boxed hE1 rfl).cell, ?_⟩
    rw [HPN.out]
    exact ⟨_, 2, rfl, Lib.hid rfl, World.ownsRow_nil _ _ _ _, hE4.trans ((kp (fun b => b < w.heap.size) _ (by omega)).below hE4.size)⟩

end Go.Proofs.YtdbpbfbjebjbeaaDoor.Url

namespace Go.Proofs.YtdbpbfbjebjbeaaDoor.Url
open Go.RowKit Go.Shelf
attribute [local go_sem] Oper.semAt_some

/-- A URL, or the error's number, whatever the text's length. -/
def canonU (t : List UInt8) : Sum Int U := match sepL t with
  | none => .inl 15
  | some (s, r) => if Ref.lowL s = httpS ∨ Ref.lowL s = httpsS then restU (Ref.lowL s) r else .inl 15
theorem parse_canon (t : List UInt8) (h : t.length ≤ 4096) : parseU t = canonU t := by
  unfold parseU canonU; rw [if_neg (by omega)]; rfl
theorem canon_none (t : List UInt8) (h : sepL t = none) : canonU t = .inl 15 := by unfold canonU; rw [h]
theorem own_zero (s : List UInt8) : ownP s = 0 ↔ ¬ (s = httpS ∨ s = httpsS) := by
  unfold ownP
  by_cases h1 : s = httpS
  · simp [h1]
  · by_cases h2 : s = httpsS
    · rw [if_neg h1, if_pos h2]; simp [h2]
    · rw [if_neg h1, if_neg h2]; simp [h1, h2]
theorem canon_other (t s r : List UInt8) (h : sepL t = some (s, r)) (ho : ownP (Ref.lowL s) = 0) : canonU t = .inl 15 := by
  unfold canonU; rw [h]; exact if_neg ((own_zero _).1 ho)
theorem canon_rest (t s r : List UInt8) (h : sepL t = some (s, r)) (ho : ownP (Ref.lowL s) ≠ 0) : canonU t = restU (Ref.lowL s) r := by
  unfold canonU; rw [h]; exact if_pos (Decidable.not_not.1 fun hn => ho ((own_zero _).2 hn))
theorem ahead_drop (c : UInt8) (l : List UInt8) : l.drop (aheadL c l).length = [] ∨ ∃ r, l.drop (aheadL c l).length = c :: r := by
  by_cases h : c ∈ l
  · obtain ⟨x, y, rfl, hx⟩ := List.eq_append_cons_of_mem h
    rw [(ahead_yes c x y hx).1]
    exact .inr ⟨y, by simp⟩
  · rw [(ahead_no c l h).1]
    exact .inl (by simp)
def srvL (r : List UInt8) : List UInt8 := aheadL 47 (atFst 63 (atFst 35 r))
def pthL (r : List UInt8) : List UInt8 := (atFst 63 (atFst 35 r)).drop (srvL r).length
/-- A port that is not told, or its number; 0 is none. -/
def portC (s d : List UInt8) (hp : Bool) : Int := if hp = true then (numOf 65535 d).getD 0 else (ownP s : Int)
def optC (b : Bool) (l : List UInt8) : Option (List UInt8) := if b = true then formL 2 l else some []
def portX (s d : List UInt8) (hp : Bool) : Option Nat := if 1 ≤ portC s d hp then some (portC s d hp).toNat else none
/-- What stands behind "://", as the code goes through it. -/
theorem rest_core (s r : List UInt8) (hs : s = httpS ∨ s = httpsS) : restU s r = if Host.parseE (atFst 58 (srvL r)) ≠ 0 then .inl (Host.parseE (atFst 58 (srvL r))) else
    match portX s (atSnd 58 (srvL r)) (atOk 58 (srvL r)), pathL (pthL r), optC (atOk 63 (atFst 35 r)) (atSnd 63 (atFst 35 r)), optC (atOk 35 r) (atSnd 35 r) with
    | some n, some p, some q, some f => .inr ⟨s, Ref.lowL (atFst 58 (srvL r)), n, p, q, f, atOk 63 (atFst 35 r), atOk 35 r⟩
    | _, _, _, _ => .inl 2 := by
  have e1 := (at_ahead 35 r).1
  have e2 := (at_ahead 63 (atFst 35 r)).1
  have e3 := (at_ahead 58 (srvL r)).1
  have ho : ∀ (c : UInt8) (l : List UInt8), optL (Host.tailL c l) = optC (atOk c l) (atSnd c l) ∧ (Host.tailL c l).isSome = atOk c l := fun c l => by
    rw [(at_ahead c l).2.1]
    cases atOk c l <;> exact ⟨rfl, rfl⟩
  have hp : portL s (Host.tailL 58 (srvL r)) = portX s (atSnd 58 (srvL r)) (atOk 58 (srvL r)) := by
    rw [(at_ahead 58 (srvL r)).2.1]
    unfold portX portC
    cases atOk 58 (srvL r) with
    | false =>
      have := (own_pos s hs).1
      simp only [Bool.false_eq_true, if_false]
      rw [portL, if_pos (by omega)]; simp
    | true =>
      simp only [if_true]
      rw [portL, numOf_ref]
      cases Ref.numOf 65535 (atSnd 58 (srvL r)) <;> rfl
  have x1 : aheadL 47 (aheadL 63 (aheadL 35 r)) = srvL r := by unfold srvL; rw [e2, e1]
  have x2 : (aheadL 63 (aheadL 35 r)).drop (srvL r).length = pthL r := by unfold pthL; rw [e2, e1]
  conv => lhs; unfold restU
  simp only
  rw [x1, x2, ← e3, hp, (ho 35 r).1, (ho 35 r).2, ← e1, (ho 63 _).1, (ho 63 _).2]
  rfl
theorem rest_host (s r : List UInt8) (hs : s = httpS ∨ s = httpsS) (h : Host.parseE (atFst 58 (srvL r)) ≠ 0) : restU s r = .inl (Host.parseE (atFst 58 (srvL r))) := by rw [rest_core s r hs, if_pos h]
theorem numGo_nonneg (most : Int) : ∀ (l : List UInt8) (n m : Int), Ref.numGo most l n = some m → 0 ≤ n → 0 ≤ m
  | [], n, m, h, h0 => by rw [Ref.numGo] at h; cases h; exact h0
  | b :: r, n, m, h, h0 => by
    rw [Ref.numGo] at h
    split at h
    · rename_i hc
      have := (Ref.decB_of b).1 hc.1
      exact numGo_nonneg most r _ m h (by omega)
    · cases h
theorem rest_good (s r : List UInt8) (hs : s = httpS ∨ s = httpsS) (h : Host.parseE (atFst 58 (srvL r)) = 0) (p q f : List UInt8) (h1 : portC s (atSnd 58 (srvL r)) (atOk 58 (srvL r)) ≠ 0) (h2 : pathL (pthL r) = some p) (h3 : optC (atOk 63 (atFst 35 r)) (atSnd 63 (atFst 35 r)) = some q) (h4 : optC (atOk 35 r) (atSnd 35 r) = some f) :
    ∃ n : Nat, portC s (atSnd 58 (srvL r)) (atOk 58 (srvL r)) = (n : Int) ∧ restU s r = .inr ⟨s, Ref.lowL (atFst 58 (srvL r)), n, p, q, f, atOk 63 (atFst 35 r), atOk 35 r⟩ := by
  have hge : 0 ≤ portC s (atSnd 58 (srvL r)) (atOk 58 (srvL r)) := by
    unfold portC
    split
    · rw [numOf_ref]
      cases hn : Ref.numOf 65535 (atSnd 58 (srvL r)) with
      | none => simp
      | some m =>
        unfold Ref.numOf at hn
        split at hn
        · cases hn
        · have := numGo_nonneg 65535 _ _ _ hn (by omega); simp; omega
    · omega
  refine ⟨_, (Int.toNat_of_nonneg hge).symm, ?_⟩
  have hx : portX s (atSnd 58 (srvL r)) (atOk 58 (srvL r)) = some (portC s (atSnd 58 (srvL r)) (atOk 58 (srvL r))).toNat := by unfold portX; rw [if_pos (by omega)]
  rw [rest_core s r hs, if_neg (by rw [h]; simp), hx, h2, h3, h4]
theorem rest_port (s r : List UInt8) (hs : s = httpS ∨ s = httpsS) (h : Host.parseE (atFst 58 (srvL r)) = 0) (h1 : portC s (atSnd 58 (srvL r)) (atOk 58 (srvL r)) = 0) : restU s r = .inl 2 := by
  have hx : portX s (atSnd 58 (srvL r)) (atOk 58 (srvL r)) = none := by unfold portX; rw [if_neg (by omega)]
  rw [rest_core s r hs, if_neg (by rw [h]; simp), hx]
theorem rest_path (s r : List UInt8) (hs : s = httpS ∨ s = httpsS) (h : Host.parseE (atFst 58 (srvL r)) = 0) (h2 : pathL (pthL r) = none) : restU s r = .inl 2 := by
  rw [rest_core s r hs, if_neg (by rw [h]; simp), h2]
  cases portX s (atSnd 58 (srvL r)) (atOk 58 (srvL r)) <;> rfl
theorem rest_query (s r : List UInt8) (hs : s = httpS ∨ s = httpsS) (h : Host.parseE (atFst 58 (srvL r)) = 0) (h3 : optC (atOk 63 (atFst 35 r)) (atSnd 63 (atFst 35 r)) = none) : restU s r = .inl 2 := by
  rw [rest_core s r hs, if_neg (by rw [h]; simp), h3]
  cases portX s (atSnd 58 (srvL r)) (atOk 58 (srvL r)) <;> cases pathL (pthL r) <;> rfl
theorem rest_frag (s r : List UInt8) (hs : s = httpS ∨ s = httpsS) (h : Host.parseE (atFst 58 (srvL r)) = 0) (h4 : optC (atOk 35 r) (atSnd 35 r) = none) : restU s r = .inl 2 := by
  rw [rest_core s r hs, if_neg (by rw [h]; simp), h4]
  cases portX s (atSnd 58 (srvL r)) (atOk 58 (srvL r)) <;> cases pathL (pthL r) <;> cases optC (atOk 63 (atFst 35 r)) (atSnd 63 (atFst 35 r)) <;> rfl
/-- What canonOf answers. -/
def CanonOut : Sum Int U → World → Ending → World → Prop
  | .inl n, w, e, w' => n ≠ 0 ∧ e = .returned (.tuple #[.agg zeroU, .int .i64 n]) ∧ Below w.heap.size w w'
  | .inr u, w, e, w' => ∃ v, e = .returned (.tuple #[v, .int .i64 0]) ∧ UrlIn w' v u ∧ Below w.heap.size w w'
/-- A slice of bytes is not where a URL's cells are. -/
theorem By.set {B i : Nat} {cs : Array Value} {X : World} {v u : Value} {l : List UInt8} (h : By X v l) (hU : UB B cs X) (hcs : ∀ (j : Nat) (x : Value), cs[j]? = some x → ∀ z : Int, x ≠ .int .u8 z) : By (X.setCell ⟨B, i, none⟩ u) v l := by
  obtain ⟨q, c, rfl, h2, h3, h4, h5⟩ := h
  refine ⟨q, c, rfl, h2, h3, h4, fun h0 => ?_⟩
  obtain ⟨b, o, he, hc⟩ := h5 h0
  refine ⟨b, o, he, fun j hj => ?_⟩
  have hne : b ≠ B := fun e => by
    subst e
    have h1 := hc j hj
    simp only [World.cell?, show X.heap[b]? = _ from hU] at h1
    exact hcs _ _ h1 _ rfl
  exact (World.cell?_of_block ((Keep.setCell (S := fun k => k ≠ B) X ⟨B, i, none⟩ u (fun h => h rfl)).block b (World.block_lt_of_cell? X _ (hc j hj)) hne)).trans (hc j hj)
theorem UB.other {B C i : Nat} {cs : Array Value} {X : World} (h : UB B cs X) (hne : B ≠ C) (u : Value) : UB B cs (X.setCell ⟨C, i, none⟩ u) :=
  ((Keep.setCell (S := fun k => k = B) X ⟨C, i, none⟩ u (fun h => hne h.symm)).block B h.lt rfl).trans h
theorem nb8 {a0 a1 a3 a4 a5 : Value} {p : Int} {b c : Bool} (h0 : ∃ q n c, a0 = .slice q n c) (h1 : ∃ q n c, a1 = .slice q n c) (h3 : ∃ q n c, a3 = .slice q n c) (h4 : ∃ q n c, a4 = .slice q n c) (h5 : ∃ q n c, a5 = .slice q n c) :
    ∀ (j : Nat) x, (#[a0, a1, .int .i64 p, a3, a4, a5, .bool b, .bool c] : Array Value)[j]? = some x → ∀ z, x ≠ .int .u8 z := by
  obtain ⟨_, _, _, rfl⟩ := h0
  obtain ⟨_, _, _, rfl⟩ := h1
  obtain ⟨_, _, _, rfl⟩ := h3
  obtain ⟨_, _, _, rfl⟩ := h4
  obtain ⟨_, _, _, rfl⟩ := h5
  intro j x hx z he
  subst he
  match j, hx with
  | 0, hx => simp at hx
  | 1, hx => simp at hx
  | 2, hx => simp at hx
  | 3, hx => simp at hx
  | 4, hx => simp at hx
  | 5, hx => simp at hx
  | 6, hx => simp at hx
  | 7, hx => simp at hx
  | n + 8, hx => simp at hx

end Go.Proofs.YtdbpbfbjebjbeaaDoor.Url

namespace Go.Proofs.YtdbpbfbjebjbeaaDoor.Url
open Go.RowKit Go.Shelf
attribute [local go_sem] Oper.semAt_some

theorem nbzL : ∀ (j : Nat) (x : Value), zeroU[j]? = some x → ∀ z : Int, x ≠ .int .u8 z := nb8 ⟨_, _, _, rfl⟩ ⟨_, _, _, rfl⟩ ⟨_, _, _, rfl⟩ ⟨_, _, _, rfl⟩ ⟨_, _, _, rfl⟩
/-- A slice of bytes outlives what is written where a URL's cells are. -/
theorem By.awayL {B : Nat} {cs : Array Value} {X Y : World} {v : Value} {l : List UInt8} (h : By X v l) (hU : UB B cs X) (hcs : ∀ (j : Nat) (x : Value), cs[j]? = some x → ∀ z : Int, x ≠ .int .u8 z) (hk : ∀ S : Nat → Prop, ¬ S B → Keep S X Y) : By Y v l := by
  obtain ⟨q, c, rfl, h2, h3, h4, h5⟩ := h
  refine ⟨q, c, rfl, h2, h3, h4, fun h0 => ?_⟩
  obtain ⟨b, o, he, hc⟩ := h5 h0
  refine ⟨b, o, he, fun j hj => ?_⟩
  have hne : b ≠ B := fun e => by
    subst e
    have h1 := hc j hj
    simp only [World.cell?, show X.heap[b]? = _ from hU] at h1
    exact hcs _ _ h1 _ rfl
  exact (World.cell?_of_block ((hk (fun k => k ≠ B) (fun h => h rfl)).block b (World.block_lt_of_cell? X _ (hc j hj)) hne)).trans (hc j hj)
/-- canonOf's contract. -/
def CanonOk : Prop := ∀ (q : Option Addr) (n c : Nat) (t : List UInt8) (w : World), By w (.slice q n c) t → n ≤ 4096 → Gl w → Calls Tryd.prog 16 #[.slice q n c] w fun e w' => CanonOut (canonU t) w e w'

set_option maxRecDepth 100000 in
set_option maxHeartbeats 8000000 in
theorem Parse_of (hcan : CanonOk) (q : Option Addr) (n c : Nat) (t : List UInt8) (w : World) (hby : By w (.slice q n c) t) (hn : n ≤ 4096) (hG : Gl w) (hT : ∀ u, canonU t = .inr u → (textU u).length ≤ 4096) :
    Calls Tryd.prog 8 #[.slice q n c] w fun e w' => CanonOut (canonU t) w e w' := by
  have d0 : decide ((4096 : Int) < (n : Int)) = false := by simp; omega
  obtain ⟨X0, hX0⟩ : ∃ X0, w.alloc (.cells #[.slice none 0 0, .slice none 0 0, .int .i64 0, .slice none 0 0, .slice none 0 0, .slice none 0 0, .bool false, .bool false] 31) = X0 := ⟨_, rfl⟩
  have B_0 : Below w.heap.size w X0 := by rw [← hX0]; exact (Below.refl _ w).alloc (Nat.le_refl _) _
  have U_0 : UB w.heap.size zeroU X0 := by rw [← hX0]; exact UB.new w zeroU
  have con := hcan q n c t X0 (hby.on B_0) hn (hG.on B_0)
  have hok : ∀ u, canonU t = .inr u → Ok u := fun u h => parse_ok t u (by rw [parse_canon t (by rw [hby.at.1]; exact hn)]; exact h)
  have HX0 := Lib.hid hX0
  have HG := Lib.hid hG
  clear hX0 hby hG
  cases hc : canonU t with
  | inl m =>
    rw [hc] at con
    clear hc hok hT
    go_enter Tryd.func8, Tryd.ntmps8
    go_wp2_with fail
    rw [HX0.out]
    refine con.mono ?_
    rintro e X1 ⟨hm, rfl, hb⟩
    have U_1 := U_0.on hb
    have B_1 := B_0.trans (hb.mono B_0.size)
    clear con hb U_0 B_0 HX0
    have e1 : ((m : Int) != 0) = true := by rw [bne_iff_ne]; exact hm
    have HM := Lib.hid hm
    clear hm
    unfold zeroU
    have zc : ∀ o, UB w.heap.size zeroU (X1.alloc o) := fun o => U_1.on ((Below.refl _ _).alloc (Nat.le_refl _) _)
    have zc0 := fun o => (zc o).box 0 _ rfl
    have zc1 := fun o => (zc o).box 1 _ rfl
    have zc2 := fun o => (zc o).box 2 _ rfl
    have zc3 := fun o => (zc o).box 3 _ rfl
    have zc4 := fun o => (zc o).box 4 _ rfl
    have zc5 := fun o => (zc o).box 5 _ rfl
    have zc6 := fun o => (zc o).box 6 _ rfl
    have zc7 := fun o => (zc o).box 7 _ rfl
    have zf0 := fun o => (zc o).frozen 0
    have zf1 := fun o => (zc o).frozen 1
    have zf2 := fun o => (zc o).frozen 2
    have zf3 := fun o => (zc o).frozen 3
    have zf4 := fun o => (zc o).frozen 4
    have zf5 := fun o => (zc o).frozen 5
    have zf6 := fun o => (zc o).frozen 6
    have zf7 := fun o => (zc o).frozen 7
    clear zc
    go_wp2
    have U_2 := U_1.on ((Below.refl X1.heap.size X1).alloc (Nat.le_refl _) (.cells #[.slice none 0 0, .slice none 0 0, .int .i64 0, .slice none 0 0, .slice none 0 0, .slice none 0 0, .bool false, .bool false] 31))
    have B_2 := B_1.alloc B_1.size (.cells #[.slice none 0 0, .slice none 0 0, .int .i64 0, .slice none 0 0, .slice none 0 0, .slice none 0 0, .bool false, .bool false] 31)
    obtain ⟨Y, hY, hU, hkY, hbY⟩ := UB.put (show UB w.heap.size #[.slice none 0 0, .slice none 0 0, .int .i64 0, .slice none 0 0, .slice none 0 0, .slice none 0 0, .bool false, .bool false] _ from U_2) (.slice none 0 0) (.slice none 0 0) (.int .i64 0) (.slice none 0 0) (.slice none 0 0) (.slice none 0 0) (.bool false) (.bool false)
    rw [hY]
    (try simp only [Exit.inBlock, Exit.then])
    refine bodyPost_ret (ret_url2 rfl _ _ w.heap.size _ rfl hU rfl) rfl ?_
    exact ⟨HM.out, rfl, B_2.trans (hbY _ (Nat.le_refl _))⟩
  | inr u =>
    rw [hc] at con
    have HO := Lib.hid (hok u hc)
    have HT := Lib.hid (hT u hc)
    clear hc hok hT
    go_enter Tryd.func8, Tryd.ntmps8
    go_wp2_with fail
    rw [HX0.out]
    refine con.mono ?_
    rintro e X1 ⟨v, rfl, hin, hb⟩
    have U_1 := U_0.on hb
    have B_1 := B_0.trans (hb.mono B_0.size)
    clear con hb U_0 B_0 HX0
    obtain ⟨q0, n0, c0, q1, n1, c1, q3, n3, c3, q4, n4, c4, q5, n5, c5, rfl, i0, i1, i3, i4, i5⟩ := id hin
    obtain ⟨X2, hX2⟩ : ∃ X2, X1.alloc (.cells #[.slice q0 n0 c0, .slice q1 n1 c1, .int .i64 u.port, .slice q3 n3 c3, .slice q4 n4 c4, .slice q5 n5 c5, .bool u.hq, .bool u.hf] 31) = X2 := ⟨_, rfl⟩
    have hb : Below X1.heap.size X1 X2 := by rw [← hX2]; exact (Below.refl _ _).alloc (Nat.le_refl _) _
    obtain ⟨b4, hb4⟩ : ∃ b, X1.heap.size = b := ⟨_, rfl⟩
    have W_2 : UB b4 #[.slice q0 n0 c0, .slice q1 n1 c1, .int .i64 u.port, .slice q3 n3 c3, .slice q4 n4 c4, .slice q5 n5 c5, .bool u.hq, .bool u.hf] X2 := by rw [← hX2, ← hb4]; exact UB.new X1 _
    have hne : ¬ w.heap.size = b4 := by have := U_1.lt; omega
    have hne' : ¬ b4 = w.heap.size := fun h => hne h.symm
    have U_2 := U_1.on hb
    have B_2 := B_1.trans (hb.mono B_1.size)
    have HX2 := Lib.hid hX2
    have HB4 := Lib.hid hb4
    have con := Text_any u _ X2 (hin.on hb) HO.out (HG.out.on B_2) (by have := HT.out; omega)
    have j0 := i0.on hb
    have j1 := i1.on hb
    have j3 := i3.on hb
    have j4 := i4.on hb
    have j5 := i5.on hb
    obtain ⟨L, hL⟩ : ∃ L, (textU u).length = L := ⟨_, rfl⟩
    have d1 : decide ((4096 : Int) < (L : Int)) = false := by have := HT.out; simp; omega
    rw [hL] at con
    clear hX2 hb4 U_1 B_1 hin i0 i1 i3 i4 i5 hb hL
    go_wp2_with fail
    rw [HB4.out, HX2.out]
    refine con.mono ?_
    rintro e X3 ⟨v3, rfl, hr, hb⟩
    obtain ⟨qt, ct, rfl, _, _, _, _, _⟩ := row_open hr
    have U_3 := U_2.on hb
    have W_3 := W_2.on hb
    have B_3 := B_2.trans (hb.mono B_2.size)
    have k0 := j0.on hb
    have k1 := j1.on hb
    have k3 := j3.on hb
    have k4 := j4.on hb
    have k5 := j5.on hb
    clear con hr hb U_2 W_2 B_2 j0 j1 j3 j4 j5 HX2 HB4
    have yb := W_3.box
    have yc0 := yb 0 _ rfl
    have yf0 := W_3.frozen 0
    have yc1 := yb 1 _ rfl
    have yf1 := W_3.frozen 1
    have yc2 := yb 2 _ rfl
    have yf2 := W_3.frozen 2
    have yc3 := yb 3 _ rfl
    have yf3 := W_3.frozen 3
    have yc4 := yb 4 _ rfl
    have yf4 := W_3.frozen 4
    have yc5 := yb 5 _ rfl
    have yf5 := W_3.frozen 5
    have yc6 := yb 6 _ rfl
    have yf6 := W_3.frozen 6
    have yc7 := yb 7 _ rfl
    have yf7 := W_3.frozen 7
    clear yb
    have zb := U_3.box
    have zc0 := zb 0 _ rfl
    have zf0 := U_3.frozen 0
    have zc1 := zb 1 _ rfl
    have zf1 := U_3.frozen 1
    have zc2 := zb 2 _ rfl
    have zf2 := U_3.frozen 2
    have zc3 := zb 3 _ rfl
    have zf3 := U_3.frozen 3
    have zc4 := zb 4 _ rfl
    have zf4 := U_3.frozen 4
    have zc5 := zb 5 _ rfl
    have zf5 := U_3.frozen 5
    have zc6 := zb 6 _ rfl
    have zf6 := U_3.frozen 6
    have zc7 := zb 7 _ rfl
    have zf7 := U_3.frozen 7
    clear zb
    go_wp2
    obtain ⟨Y, hY, hU, hkY, hbY⟩ := UB.put (show UB w.heap.size #[.slice none 0 0, .slice none 0 0, .int .i64 0, .slice none 0 0, .slice none 0 0, .slice none 0 0, .bool false, .bool false] _ from U_3) (.slice q0 n0 c0) (.slice q1 n1 c1) (.int .i64 u.port) (.slice q3 n3 c3) (.slice q4 n4 c4) (.slice q5 n5 c5) (.bool u.hq) (.bool u.hf)
    rw [hY]
    (try simp only [Exit.inBlock, Exit.then])
    refine bodyPost_ret (ret_url2 rfl _ _ w.heap.size _ rfl hU rfl) rfl ?_
    exact ⟨_, rfl, ⟨q0, n0, c0, q1, n1, c1, q3, n3, c3, q4, n4, c4, q5, n5, c5, rfl, k0.awayL U_3 nbzL hkY, k1.awayL U_3 nbzL hkY, k3.awayL U_3 nbzL hkY, k4.awayL U_3 nbzL hkY, k5.awayL U_3 nbzL hkY⟩, B_3.trans (hbY _ (Nat.le_refl _))⟩

end Go.Proofs.YtdbpbfbjebjbeaaDoor.Url

namespace Go.Proofs.YtdbpbfbjebjbeaaDoor.Url
open Go.RowKit Go.Shelf
attribute [local go_sem] Oper.semAt_some

theorem nbz : ∀ (j : Nat) (x : Value), zeroU[j]? = some x → ∀ z : Int, x ≠ .int .u8 z := nb8 ⟨_, _, _, rfl⟩ ⟨_, _, _, rfl⟩ ⟨_, _, _, rfl⟩ ⟨_, _, _, rfl⟩ ⟨_, _, _, rfl⟩
/-- A slice of bytes outlives what is written where a URL's cells are. -/
theorem By.away {B : Nat} {cs : Array Value} {X Y : World} {v : Value} {l : List UInt8} (h : By X v l) (hU : UB B cs X) (hcs : ∀ (j : Nat) (x : Value), cs[j]? = some x → ∀ z : Int, x ≠ .int .u8 z) (hk : ∀ S : Nat → Prop, ¬ S B → Keep S X Y) : By Y v l := by
  obtain ⟨q, c, rfl, h2, h3, h4, h5⟩ := h
  refine ⟨q, c, rfl, h2, h3, h4, fun h0 => ?_⟩
  obtain ⟨b, o, he, hc⟩ := h5 h0
  refine ⟨b, o, he, fun j hj => ?_⟩
  have hne : b ≠ B := fun e => by
    subst e
    have h1 := hc j hj
    simp only [World.cell?, show X.heap[b]? = _ from hU] at h1
    exact hcs _ _ h1 _ rfl
  exact (World.cell?_of_block ((hk (fun k => k ≠ B) (fun h => h rfl)).block b (World.block_lt_of_cell? X _ (hc j hj)) hne)).trans (hc j hj)
theorem UB.set8 {B : Nat} {X : World} {a0 a1 a2 a3 a4 a5 a6 a7 : Value} (h : UB B #[a0, a1, a2, a3, a4, a5, a6, a7] X) (v : Value) :
    UB B #[a0, a1, v, a3, a4, a5, a6, a7] (X.setCell ⟨B, 2, none⟩ v) ∧ UB B #[a0, a1, a2, v, a4, a5, a6, a7] (X.setCell ⟨B, 3, none⟩ v) ∧ UB B #[a0, a1, a2, a3, v, a5, a6, a7] (X.setCell ⟨B, 4, none⟩ v) ∧ UB B #[a0, a1, a2, a3, a4, v, a6, a7] (X.setCell ⟨B, 5, none⟩ v) := by
  have h2 := h.set 2 v; have h3 := h.set 3 v; have h4 := h.set 4 v; have h5 := h.set 5 v
  simp only [List.setIfInBounds_toArray, List.set_cons_zero, List.set_cons_succ] at h2 h3 h4 h5
  exact ⟨h2, h3, h4, h5⟩

set_option maxRecDepth 100000 in
set_option maxHeartbeats 16000000 in
theorem canonOf_any (q : Option Addr) (n c : Nat) (t : List UInt8) (w : World) (hby : By w (.slice q n c) t) (hn : n ≤ 4096) (hG : Gl w) :
    Calls Tryd.prog 16 #[.slice q n c] w fun e w' => CanonOut (canonU t) w e w' := by
  have kc := fun (w : World) (C : Array Value) (n c : Nat) => Lib.run_convert_bytes_const (P := Tryd.prog) w 22 5 C n c Tryd.underlying22 Tryd.underlying5
  obtain ⟨X0, hX0⟩ : ∃ X0, (w.alloc (.cells #[.slice none 0 0, .slice none 0 0, .int .i64 0, .slice none 0 0, .slice none 0 0, .slice none 0 0, .bool false, .bool false] 31)).alloc (.cells #[.int .u8 58, .int .u8 47, .int .u8 47] 5 (3, 4)) = X0 := ⟨_, rfl⟩
  have hBz := (Below.refl _ w).alloc (Nat.le_refl _) (.cells #[.slice none 0 0, .slice none 0 0, .int .i64 0, .slice none 0 0, .slice none 0 0, .slice none 0 0, .bool false, .bool false] 31)
  have B_0 : Below w.heap.size w X0 := by rw [← hX0]; exact hBz.alloc hBz.size _
  have U_0 : UB w.heap.size zeroU X0 := by rw [← hX0]; exact (UB.new w zeroU).on ((Below.refl _ _).alloc (Nat.le_refl _) _)
  have hsep : Lib.BytesIn X0 (some ⟨w.heap.size + 1, 0, none⟩) 3 (Lib.numsL sepS) := by
    have := bytes_lit (w := w.alloc (.cells #[.slice none 0 0, .slice none 0 0, .int .i64 0, .slice none 0 0, .slice none 0 0, .slice none 0 0, .bool false, .bool false] 31)) #[.int .u8 58, .int .u8 47, .int .u8 47] sepS (3, 4) rfl
    rw [World.size_alloc] at this
    rw [← hX0]; exact this
  have kc1 := kc (w.alloc (.cells #[.slice none 0 0, .slice none 0 0, .int .i64 0, .slice none 0 0, .slice none 0 0, .slice none 0 0, .bool false, .bool false] 31)) #[.int .u8 58, .int .u8 47, .int .u8 47] 3 3
  rw [World.size_alloc] at kc1
  have con := Cut_any q (some ⟨w.heap.size + 1, 0, none⟩) n c 3 t X0 (hby.on B_0) (by omega) (hG.on B_0) hsep
  have HX0 := Lib.hid hX0
  have T_0 := hby.on B_0
  have hTl := hby.at.1
  clear hX0 hBz hsep hby hG
  rcases sep_cases t with ⟨hk, hsp⟩ | ⟨k, hk, hkl, hsp⟩
  · rw [cut_none hk] at con
    have HC := Lib.hid (canon_none t hsp)
    clear hsp hk T_0
    go_enter Tryd.func16, Tryd.ntmps16
    go_wp2_with fail
    rw [HX0.out]
    refine con.mono ?_
    rintro e X1 ⟨rfl, m, hm⟩
    have hb : Below X0.heap.size X0 X1 := by rw [hm]; exact below_drewN _ _
    clear con hm kc1 HX0
    have B_1 := B_0.trans (hb.mono B_0.size)
    have U_1 := U_0.on hb
    clear U_0 B_0 hb
    have zb := U_1.box
    have zc0 := zb 0 _ rfl
    have zf0 := U_1.frozen 0
    have zc1 := zb 1 _ rfl
    have zf1 := U_1.frozen 1
    have zc2 := zb 2 _ rfl
    have zf2 := U_1.frozen 2
    have zc3 := zb 3 _ rfl
    have zf3 := U_1.frozen 3
    have zc4 := zb 4 _ rfl
    have zf4 := U_1.frozen 4
    have zc5 := zb 5 _ rfl
    have zf5 := U_1.frozen 5
    have zc6 := zb 6 _ rfl
    have zf6 := U_1.frozen 6
    have zc7 := zb 7 _ rfl
    have zf7 := U_1.frozen 7
    clear zb
    go_wp2
    obtain ⟨Y, hY, hU, hkY, hbY⟩ := UB.put (show UB w.heap.size #[.slice none 0 0, .slice none 0 0, .int .i64 0, .slice none 0 0, .slice none 0 0, .slice none 0 0, .bool false, .bool false] _ from U_1) (.slice none 0 0) (.slice none 0 0) (.int .i64 0) (.slice none 0 0) (.slice none 0 0) (.slice none 0 0) (.bool false) (.bool false)
    rw [hY]
    (try simp only [Exit.inBlock, Exit.then])
    refine bodyPost_ret (ret_url2 rfl _ _ w.heap.size _ rfl hU rfl) rfl ?_
    rw [HC.out]
    exact ⟨by decide, rfl, B_1.trans (hbY _ (Nat.le_refl _))⟩
  · rw [cut_some hk] at con
    have S_0 := T_0.take (show k ≤ n by omega)
    have R_0 := T_0.drop (show k + 3 ≤ n by omega)
    have hnr : n - (k + 3) ≤ 4096 := by omega
    have hkn : k ≤ 4096 := by omega
    generalize t.take k = s at *
    generalize t.drop (k + 3) = r at *
    generalize hqR : subA q c (k + 3) = qR at *
    generalize hnR : n - (k + 3) = nR at *
    generalize hcR : c - (k + 3) = cR at *
    have HSP := Lib.hid hsp
    clear hsp hk T_0 hkl hTl hqR hnR hcR
    obtain ⟨own, hown⟩ : ∃ o, ownP (Ref.lowL s) = o := ⟨_, rfl⟩
    have HOW := Lib.hid hown
    clear hown
    go_enter Tryd.func16, Tryd.ntmps16
    go_wp2_with fail
    rw [HX0.out]
    refine con.mono ?_
    rintro e X1 ⟨rfl, m, hm⟩
    have hb : Below X0.heap.size X0 X1 := by rw [hm]; exact below_drewN _ _
    clear con hm kc1 HX0
    have B_1 := B_0.trans (hb.mono B_0.size)
    have U_1 := U_0.on hb
    have S_1 := S_0.on hb
    have R_1 := R_0.on hb
    clear R_0 S_0 U_0 B_0 hb
    have con := Own_any q k c s X1 S_1.at.1 (by omega) S_1.at.2.2.2.2
    rw [HOW.out] at con
    by_cases ho : own = 0
    · have e0 : ((own : Int) == 0) = true := by rw [ho]; rfl
      have HC := Lib.hid (canon_other t s r HSP.out (by rw [HOW.out]; exact ho))
      clear ho
      go_wp2_with fail
      refine con.mono ?_
      rintro e X2 ⟨rfl, hb⟩
      clear con
      have B_2 := B_1.trans (hb.mono B_1.size)
      have U_2 := U_1.on hb
      have S_2 := S_1.on hb
      have R_2 := R_1.on hb
      clear R_1 S_1 U_1 B_1 hb
      have zb := U_2.box
      have zc0 := zb 0 _ rfl
      have zf0 := U_2.frozen 0
      have zc1 := zb 1 _ rfl
      have zf1 := U_2.frozen 1
      have zc2 := zb 2 _ rfl
      have zf2 := U_2.frozen 2
      have zc3 := zb 3 _ rfl
      have zf3 := U_2.frozen 3
      have zc4 := zb 4 _ rfl
      have zf4 := U_2.frozen 4
      have zc5 := zb 5 _ rfl
      have zf5 := U_2.frozen 5
      have zc6 := zb 6 _ rfl
      have zf6 := U_2.frozen 6
      have zc7 := zb 7 _ rfl
      have zf7 := U_2.frozen 7
      clear zb
      go_wp2
      obtain ⟨Y, hY, hU, hkY, hbY⟩ := UB.put (show UB w.heap.size #[.slice none 0 0, .slice none 0 0, .int .i64 0, .slice none 0 0, .slice none 0 0, .slice none 0 0, .bool false, .bool false] _ from U_2) (.slice none 0 0) (.slice none 0 0) (.int .i64 0) (.slice none 0 0) (.slice none 0 0) (.slice none 0 0) (.bool false) (.bool false)
      rw [hY]
      (try simp only [Exit.inBlock, Exit.then])
      refine bodyPost_ret (ret_url2 rfl _ _ w.heap.size _ rfl hU rfl) rfl ?_
      rw [HC.out]
      exact ⟨by decide, rfl, B_2.trans (hbY _ (Nat.le_refl _))⟩
    have e0 : ((own : Int) == 0) = false := by rw [beq_eq_false_iff_ne]; omega
    have hs0 : Ref.lowL s = httpS ∨ Ref.lowL s = httpsS := Decidable.not_not.1 fun h => ho (by rw [← HOW.out]; exact (own_zero _).2 h)
    have HS := Lib.hid hs0
    have HC := Lib.hid (canon_rest t s r HSP.out (by rw [HOW.out]; exact ho))
    clear ho HSP hs0
    go_wp2_with fail
    refine con.mono ?_
    rintro e X2 ⟨rfl, hb⟩
    clear con
    have B_2 := B_1.trans (hb.mono B_1.size)
    have U_2 := U_1.on hb
    have S_2 := S_1.on hb
    have R_2 := R_1.on hb
    clear R_1 S_1 U_1 B_1 hb
    obtain ⟨bf, hbf⟩ : ∃ b, atOk 35 (r) = b := ⟨_, rfl⟩
    have con := At_any qR nR cR (r) 35 X2 R_2.at.1 (by have := R_2.at.1; omega) R_2.at.2.1 R_2.at.2.2.2.1 R_2.at.2.2.2.2
    rw [hbf] at con
    have Hbf := Lib.hid hbf
    clear hbf
    go_wp2_with fail
    refine con.mono ?_
    rintro e X3 ⟨v1, v2, rfl, hr1, hr2, hb⟩
    clear con
    obtain ⟨nA, hnA⟩ : ∃ n, (atFst 35 (r)).length = n := ⟨_, rfl⟩
    rw [hnA] at hr1
    obtain ⟨qA, cA, rfl, _, _, _, _, _⟩ := row_open hr1
    have A_3 := By.row hr1
    have hmA : nA ≤ 4096 := by have h1 := at_len 35 (r); have h2 := R_2.at.1; omega
    clear hr1 hnA
    obtain ⟨nF, hnF⟩ : ∃ n, (atSnd 35 (r)).length = n := ⟨_, rfl⟩
    rw [hnF] at hr2
    obtain ⟨qF, cF, rfl, _, _, _, _, _⟩ := row_open hr2
    have F_3 := By.row hr2
    have hmF : nF ≤ 4096 := by have h1 := at_len 35 (r); have h2 := R_2.at.1; omega
    clear hr2 hnF
    have B_3 := B_2.trans (hb.mono B_2.size)
    have U_3 := U_2.on hb
    have S_3 := S_2.on hb
    have R_3 := R_2.on hb
    clear R_2 S_2 U_2 B_2 hb
    clear e0
    clear R_3
    obtain ⟨bq, hbq⟩ : ∃ b, atOk 63 (atFst 35 r) = b := ⟨_, rfl⟩
    have con := At_any qA nA cA (atFst 35 r) 63 X3 A_3.at.1 (by have := A_3.at.1; omega) A_3.at.2.1 A_3.at.2.2.2.1 A_3.at.2.2.2.2
    rw [hbq] at con
    have Hbq := Lib.hid hbq
    clear hbq
    go_wp2_with fail
    refine con.mono ?_
    rintro e X4 ⟨v1, v2, rfl, hr1, hr2, hb⟩
    clear con
    obtain ⟨nE, hnE⟩ : ∃ n, (atFst 63 (atFst 35 r)).length = n := ⟨_, rfl⟩
    rw [hnE] at hr1
    obtain ⟨qE, cE, rfl, _, _, _, _, _⟩ := row_open hr1
    have E_4 := By.row hr1
    have hmE : nE ≤ 4096 := by have h1 := at_len 63 (atFst 35 r); have h2 := A_3.at.1; omega
    clear hr1 hnE
    obtain ⟨nQ, hnQ⟩ : ∃ n, (atSnd 63 (atFst 35 r)).length = n := ⟨_, rfl⟩
    rw [hnQ] at hr2
    obtain ⟨qQ, cQ, rfl, _, _, _, _, _⟩ := row_open hr2
    have Q_4 := By.row hr2
    have hmQ : nQ ≤ 4096 := by have h1 := at_len 63 (atFst 35 r); have h2 := A_3.at.1; omega
    clear hr2 hnQ
    have B_4 := B_3.trans (hb.mono B_3.size)
    have U_4 := U_3.on hb
    have S_4 := S_3.on hb
    have A_4 := A_3.on hb
    have F_4 := F_3.on hb
    clear F_3 A_3 S_3 U_3 B_3 hb
    clear A_4
    have con := atSlash_any qE nE cE (atFst 63 (atFst 35 r)) X4 E_4
    go_wp2_with fail
    refine con.mono ?_
    rintro e X5 ⟨v1, v2, rfl, V_4, P_4, hb, -⟩
    have V_5 := V_4.on hb
    have P_5 := P_4.on hb
    clear con V_4 P_4
    obtain ⟨qV, cV, rfl, _⟩ := id V_5
    obtain ⟨qP, cP, rfl, _⟩ := id P_5
    have hP5 := ahead_drop 47 (atFst 63 (atFst 35 r))
    have hVl := ahead_len 47 (atFst 63 (atFst 35 r))
    have hEl := E_4.at.1
    replace V_5 : By X5 (.slice qV (srvL r).length cV) (srvL r) := V_5
    replace P_5 : By X5 (.slice qP (pthL r).length cP) (pthL r) := P_5
    have HPF := Lib.hid (show pthL r = [] ∨ ∃ x, pthL r = 47 :: x from hP5)
    have hPl : (pthL r).length ≤ 4096 := by
      have : (pthL r).length ≤ (atFst 63 (atFst 35 r)).length := by unfold pthL; rw [List.length_drop]; omega
      omega
    have hVl' : (srvL r).length ≤ 4096 := by have : (srvL r).length ≤ (atFst 63 (atFst 35 r)).length := hVl; omega
    change By X5 (.slice qV (aheadL 47 (atFst 63 (atFst 35 r))).length cV) (srvL r) at V_5
    change By X5 (.slice qP ((atFst 63 (atFst 35 r)).drop (aheadL 47 (atFst 63 (atFst 35 r))).length).length cP) (pthL r) at P_5
    obtain ⟨nV, hnV⟩ : ∃ n, (aheadL 47 (atFst 63 (atFst 35 r))).length = n := ⟨_, rfl⟩
    obtain ⟨nP, hnP⟩ : ∃ n, ((atFst 63 (atFst 35 r)).drop (aheadL 47 (atFst 63 (atFst 35 r))).length).length = n := ⟨_, rfl⟩
    rw [hnP] at P_5 ⊢
    rw [hnV] at V_5 ⊢
    have hmV : nV ≤ 4096 := by rw [← hnV]; exact hVl'
    have hmP : nP ≤ 4096 := by rw [← hnP]; exact hPl
    clear hP5 hVl hEl hPl hVl' hnV hnP
    have B_5 := B_4.trans (hb.mono B_4.size)
    have U_5 := U_4.on hb
    have S_5 := S_4.on hb
    have F_5 := F_4.on hb
    have E_5 := E_4.on hb
    have Q_5 := Q_4.on hb
    clear Q_4 E_4 F_4 S_4 U_4 B_4 hb
    clear E_5
    obtain ⟨bp, hbp⟩ : ∃ b, atOk 58 (srvL r) = b := ⟨_, rfl⟩
    have con := At_any qV nV cV (srvL r) 58 X5 V_5.at.1 (by have := V_5.at.1; omega) V_5.at.2.1 V_5.at.2.2.2.1 V_5.at.2.2.2.2
    rw [hbp] at con
    have Hbp := Lib.hid hbp
    clear hbp
    go_wp2_with fail
    refine con.mono ?_
    rintro e X6 ⟨v1, v2, rfl, hr1, hr2, hb⟩
    clear con
    obtain ⟨nN, hnN⟩ : ∃ n, (atFst 58 (srvL r)).length = n := ⟨_, rfl⟩
    rw [hnN] at hr1
    obtain ⟨qN, cN, rfl, _, _, _, _, _⟩ := row_open hr1
    have N_6 := By.row hr1
    have hmN : nN ≤ 4096 := by have h1 := at_len 58 (srvL r); have h2 := V_5.at.1; omega
    clear hr1 hnN
    obtain ⟨nD, hnD⟩ : ∃ n, (atSnd 58 (srvL r)).length = n := ⟨_, rfl⟩
    rw [hnD] at hr2
    obtain ⟨qD, cD, rfl, _, _, _, _, _⟩ := row_open hr2
    have D_6 := By.row hr2
    have hmD : nD ≤ 4096 := by have h1 := at_len 58 (srvL r); have h2 := V_5.at.1; omega
    clear hr2 hnD
    have B_6 := B_5.trans (hb.mono B_5.size)
    have U_6 := U_5.on hb
    have S_6 := S_5.on hb
    have F_6 := F_5.on hb
    have Q_6 := Q_5.on hb
    have V_6 := V_5.on hb
    have P_6 := P_5.on hb
    clear P_5 V_5 Q_5 F_5 S_5 U_5 B_5 hb
    clear V_6
    have con := Host.Parse_any qN nN cN (atFst 58 (srvL r)) X6 N_6.at.1 (by omega) N_6.at.2.2.2.2
    obtain ⟨pe, hpe⟩ : ∃ pe, Host.parseE (atFst 58 (srvL r)) = pe := ⟨_, rfl⟩
    have HPE := Lib.hid hpe
    clear hpe
    go_wp2_with fail
    refine con.mono ?_
    rintro e X7 ⟨vH, rfl, hrH, hb⟩
    rw [HPE.out]
    obtain ⟨nH, hnH⟩ : ∃ n, (Host.canL (atFst 58 (srvL r))).length = n := ⟨_, rfl⟩
    rw [hnH] at hrH
    obtain ⟨qH, cH, rfl, _, _, _, _, _⟩ := row_open hrH
    have H_7 := By.row hrH
    clear con hrH hnH
    have B_7 := B_6.trans (hb.mono B_6.size)
    have U_7 := U_6.on hb
    have S_7 := S_6.on hb
    have F_7 := F_6.on hb
    have Q_7 := Q_6.on hb
    have P_7 := P_6.on hb
    have N_7 := N_6.on hb
    have D_7 := D_6.on hb
    clear D_6 N_6 P_6 Q_6 F_6 S_6 U_6 B_6 hb
    clear N_7
    by_cases hp7 : pe = 0
    case neg =>
      have e7 : ((pe : Int) != 0) = true := by rw [bne_iff_ne]; exact hp7
      have HE := Lib.hid (show canonU t = .inl pe by rw [HC.out, rest_host _ r HS.out (by rw [HPE.out]; exact hp7), HPE.out])
      have hp8 := Lib.hid hp7
      clear HC hp7
      have zb := U_7.box
      have zc0 := zb 0 _ rfl
      have zf0 := U_7.frozen 0
      have zc1 := zb 1 _ rfl
      have zf1 := U_7.frozen 1
      have zc2 := zb 2 _ rfl
      have zf2 := U_7.frozen 2
      have zc3 := zb 3 _ rfl
      have zf3 := U_7.frozen 3
      have zc4 := zb 4 _ rfl
      have zf4 := U_7.frozen 4
      have zc5 := zb 5 _ rfl
      have zf5 := U_7.frozen 5
      have zc6 := zb 6 _ rfl
      have zf6 := U_7.frozen 6
      have zc7 := zb 7 _ rfl
      have zf7 := U_7.frozen 7
      clear zb
      go_wp2
      obtain ⟨Y, hY, hU, hkY, hbY⟩ := UB.put (show UB w.heap.size #[.slice none 0 0, .slice none 0 0, .int .i64 0, .slice none 0 0, .slice none 0 0, .slice none 0 0, .bool false, .bool false] _ from U_7) (.slice none 0 0) (.slice none 0 0) (.int .i64 0) (.slice none 0 0) (.slice none 0 0) (.slice none 0 0) (.bool false) (.bool false)
      rw [hY]
      (try simp only [Exit.inBlock, Exit.then])
      refine bodyPost_ret (ret_url2 rfl _ _ w.heap.size _ rfl hU rfl) rfl ?_
      rw [HE.out]
      exact ⟨hp8.out, rfl, B_7.trans (hbY _ (Nat.le_refl _))⟩
    subst hp7
    have HCL := Lib.hid (show Host.canL (atFst 58 (srvL r)) = Ref.lowL (atFst 58 (srvL r)) by unfold Host.canL; rw [if_pos HPE.out])
    rw [HCL.out] at H_7
    have con := Lower_any q k c s X7 S_7.at.1 (by omega) S_7.at.2.2.2.2
    go_wp2_with fail
    refine con.mono ?_
    rintro e X8 ⟨vL, rfl, hrL, hb⟩
    obtain ⟨qL, cL, rfl, _, _, _, _, _⟩ := row_open hrL
    have L_8 : By X8 (.slice qL k cL) (Ref.lowL s) := By.row hrL
    clear con hrL HCL
    have B_8 := B_7.trans (hb.mono B_7.size)
    have U_8 := U_7.on hb
    have S_8 := S_7.on hb
    have F_8 := F_7.on hb
    have Q_8 := Q_7.on hb
    have P_8 := P_7.on hb
    have D_8 := D_7.on hb
    have H_8 := H_7.on hb
    clear H_7 D_7 P_7 Q_7 F_7 S_7 U_7 B_7 hb
    have con := Own_any q k c s X8 S_8.at.1 (by omega) S_8.at.2.2.2.2
    rw [HOW.out] at con
    go_wp2_with fail
    refine con.mono ?_
    rintro e X9 ⟨rfl, hb⟩
    clear con
    have B_9 := B_8.trans (hb.mono B_8.size)
    have U_9 := U_8.on hb
    have S_9 := S_8.on hb
    have F_9 := F_8.on hb
    have Q_9 := Q_8.on hb
    have P_9 := P_8.on hb
    have D_9 := D_8.on hb
    have H_9 := H_8.on hb
    have L_9 := L_8.on hb
    clear L_8 H_8 D_8 P_8 Q_8 F_8 S_8 U_8 B_8 hb
    clear S_9
    obtain ⟨XA, hXA⟩ : ∃ XA, X9.alloc (.cells #[.slice qL k cL, .slice qH nH cH, .int .i64 own, .slice none 0 0, .slice none 0 0, .slice none 0 0, .bool bq, .bool bf] 31) = XA := ⟨_, rfl⟩
    obtain ⟨b18, hb18⟩ : ∃ b, X9.heap.size = b := ⟨_, rfl⟩
    have W_A : UB b18 #[.slice qL k cL, .slice qH nH cH, .int .i64 own, .slice none 0 0, .slice none 0 0, .slice none 0 0, .bool bq, .bool bf] XA := by rw [← hXA, ← hb18]; exact UB.new X9 _
    have hb : Below X9.heap.size X9 XA := by rw [← hXA]; exact (Below.refl _ _).alloc (Nat.le_refl _) _
    have hne : ¬ w.heap.size = b18 := by have := U_9.lt; omega
    have hne' : ¬ b18 = w.heap.size := fun h => hne h.symm
    have hle : w.heap.size ≤ b18 := by have := U_9.lt; omega
    have HXA := Lib.hid hXA
    have HB18 := Lib.hid hb18
    clear hXA hb18
    have B_A := B_9.trans (hb.mono B_9.size)
    have U_A := U_9.on hb
    have F_A := F_9.on hb
    have Q_A := Q_9.on hb
    have P_A := P_9.on hb
    have D_A := D_9.on hb
    have H_A := H_9.on hb
    have L_A := L_9.on hb
    clear L_9 H_9 D_9 P_9 Q_9 F_9 U_9 B_9 hb
    cases bp with
    | false =>
      clear D_A
      have HPO := Lib.hid (show portC (Ref.lowL s) (atSnd 58 (srvL r)) (atOk 58 (srvL r)) = (own : Int) by rw [Hbp.out]; unfold portC; rw [if_neg (by decide), HOW.out])
      go_wp2_with fail
      rw [HB18.out, HXA.out]
      have con := canonOfPath_any qP nP cP (pthL r) XA P_A (by omega) HPF.out
      refine con.mono ?_
      rintro e XC ⟨vW, ep, rfl, hep, hr, hb⟩
      have HEP : Hid (ep = if (pathL (pthL r)).isSome then 0 else 2) := hep
      replace hr : XC.ownsRow XA.heap.size 5 1 vW ((pathL (pthL r)).getD []).length (byV ((pathL (pthL r)).getD [])) := hr
      obtain ⟨nW, hnW⟩ : ∃ n, ((pathL (pthL r)).getD []).length = n := ⟨_, rfl⟩
      rw [hnW] at hr
      obtain ⟨qW, cW, rfl, _, _, _, _, _⟩ := row_open hr
      have GP_C := By.row hr
      clear con hr hnW hep
      have B_C := B_A.trans (hb.mono B_A.size)
      have U_C := U_A.on hb
      have F_C := F_A.on hb
      have Q_C := Q_A.on hb
      have P_C := P_A.on hb
      have H_C := H_A.on hb
      have L_C := L_A.on hb
      have W_C := W_A.on hb
      clear W_A L_A H_A P_A Q_A F_A U_A B_A hb
      clear P_C
      cases bq with
      | false =>
        clear Q_C
        cases bf with
        | false =>
          clear F_C
          have yb := W_C.box
          have yc0 := yb 0 _ rfl
          have yf0 := W_C.frozen 0
          have yc1 := yb 1 _ rfl
          have yf1 := W_C.frozen 1
          have yc2 := yb 2 _ rfl
          have yf2 := W_C.frozen 2
          have yc3 := yb 3 _ rfl
          have yf3 := W_C.frozen 3
          have yc4 := yb 4 _ rfl
          have yf4 := W_C.frozen 4
          have yc5 := yb 5 _ rfl
          have yf5 := W_C.frozen 5
          have yc6 := yb 6 _ rfl
          have yf6 := W_C.frozen 6
          have yc7 := yb 7 _ rfl
          have yf7 := W_C.frozen 7
          clear yb
          have zb := U_C.box
          have zc0 := zb 0 _ rfl
          have zf0 := U_C.frozen 0
          have zc1 := zb 1 _ rfl
          have zf1 := U_C.frozen 1
          have zc2 := zb 2 _ rfl
          have zf2 := U_C.frozen 2
          have zc3 := zb 3 _ rfl
          have zf3 := U_C.frozen 3
          have zc4 := zb 4 _ rfl
          have zf4 := U_C.frozen 4
          have zc5 := zb 5 _ rfl
          have zf5 := U_C.frozen 5
          have zc6 := zb 6 _ rfl
          have zf6 := U_C.frozen 6
          have zc7 := zb 7 _ rfl
          have zf7 := U_C.frozen 7
          clear zb
          obtain ⟨XZ, hXZ⟩ : ∃ Z, XC.setCell ⟨b18, 3, none⟩ (.slice qW nW cW) = Z := ⟨_, rfl⟩
          have B_Z : Below w.heap.size w XZ := by rw [← hXZ]; exact B_C.setCell (p := ⟨b18, 3, none⟩) hle _
          have U_Z : UB w.heap.size zeroU XZ := by rw [← hXZ]; exact U_C.other hne _
          have H_Z := By.set (i := 3) (u := .slice qW nW cW) H_C W_C (nb8 ⟨_, _, _, rfl⟩ ⟨_, _, _, rfl⟩ ⟨_, _, _, rfl⟩ ⟨_, _, _, rfl⟩ ⟨_, _, _, rfl⟩)
          rw [hXZ] at H_Z
          have L_Z := By.set (i := 3) (u := .slice qW nW cW) L_C W_C (nb8 ⟨_, _, _, rfl⟩ ⟨_, _, _, rfl⟩ ⟨_, _, _, rfl⟩ ⟨_, _, _, rfl⟩ ⟨_, _, _, rfl⟩)
          rw [hXZ] at L_Z
          have GP_Z := By.set (i := 3) (u := .slice qW nW cW) GP_C W_C (nb8 ⟨_, _, _, rfl⟩ ⟨_, _, _, rfl⟩ ⟨_, _, _, rfl⟩ ⟨_, _, _, rfl⟩ ⟨_, _, _, rfl⟩)
          rw [hXZ] at GP_Z
          have W_Z : UB b18 #[.slice qL k cL, .slice qH nH cH, .int .i64 own, .slice qW nW cW, .slice none 0 0, .slice none 0 0, .bool false, .bool false] XZ := by rw [← hXZ]; exact (W_C.set8 (.slice qW nW cW)).2.1
          clear GP_C W_C L_C H_C U_C B_C
          have HXZ := Lib.hid hXZ
          clear hXZ
          by_cases hp0 : (own : Int) = 0
          case pos =>
            have e0 : (((own : Int)) == 0) = true := by rw [beq_iff_eq]; exact hp0
            have hpo := HPO.out
            rw [hp0] at hpo
            clear hp0
            have HE := Lib.hid (show canonU t = .inl 2 by rw [HC.out]; exact rest_port _ r HS.out HPE.out hpo)
            go_wp2
            rw [HXZ.out]
            obtain ⟨Y, hY, hU, hkY, hbY⟩ := UB.put (show UB w.heap.size #[.slice none 0 0, .slice none 0 0, .int .i64 0, .slice none 0 0, .slice none 0 0, .slice none 0 0, .bool false, .bool false] _ from U_Z) (.slice none 0 0) (.slice none 0 0) (.int .i64 0) (.slice none 0 0) (.slice none 0 0) (.slice none 0 0) (.bool false) (.bool false)
            rw [hY]
            (try simp only [Exit.inBlock, Exit.then])
            refine bodyPost_ret (ret_url2 rfl _ _ w.heap.size _ rfl hU rfl) rfl ?_
            rw [HE.out]
            exact ⟨by decide, rfl, B_Z.trans (hbY _ (Nat.le_refl _))⟩
          have e0 : (((own : Int)) == 0) = false := by rw [beq_eq_false_iff_ne]; exact hp0
          have hpo : portC (Ref.lowL s) (atSnd 58 (srvL r)) (atOk 58 (srvL r)) ≠ 0 := by rw [HPO.out]; exact hp0
          cases hpp : pathL (pthL r) with
          | none =>
            obtain rfl : ep = 2 := by have := HEP.out; rw [hpp] at this; exact this
            have hpp2 := Lib.hid hpp
            clear hpp
            have HE := Lib.hid (show canonU t = .inl 2 by rw [HC.out]; exact rest_path _ r HS.out HPE.out hpp2.out)
            go_wp2
            rw [HXZ.out]
            obtain ⟨Y, hY, hU, hkY, hbY⟩ := UB.put (show UB w.heap.size #[.slice none 0 0, .slice none 0 0, .int .i64 0, .slice none 0 0, .slice none 0 0, .slice none 0 0, .bool false, .bool false] _ from U_Z) (.slice none 0 0) (.slice none 0 0) (.int .i64 0) (.slice none 0 0) (.slice none 0 0) (.slice none 0 0) (.bool false) (.bool false)
            rw [hY]
            (try simp only [Exit.inBlock, Exit.then])
            refine bodyPost_ret (ret_url2 rfl _ _ w.heap.size _ rfl hU rfl) rfl ?_
            rw [HE.out]
            exact ⟨by decide, rfl, B_Z.trans (hbY _ (Nat.le_refl _))⟩
          | some pp =>
            obtain rfl : ep = 0 := by have := HEP.out; rw [hpp] at this; exact this
            have h3 : optC (atOk 63 (atFst 35 r)) (atSnd 63 (atFst 35 r)) = some [] := by rw [Hbq.out]; rfl
            have h4 : optC (atOk 35 r) (atSnd 35 r) = some [] := by rw [Hbf.out]; rfl
            obtain ⟨pn, hpn, hrg⟩ := rest_good _ r HS.out HPE.out pp [] [] hpo hpp h3 h4
            rw [Hbq.out, Hbf.out] at hrg
            have hpn2 : (own : Int) = (pn : Int) := by rw [← HPO.out]; exact hpn
            have HE := Lib.hid (HC.out.trans hrg)
            have HPN := Lib.hid hpn2
            rw [hpp] at GP_Z
            clear hpo hrg hpn hpn2 h3 h4 hpp  hp0
            go_wp2
            rw [HXZ.out]
            obtain ⟨Y, hY, hU, hkY, hbY⟩ := UB.put (show UB w.heap.size #[.slice none 0 0, .slice none 0 0, .int .i64 0, .slice none 0 0, .slice none 0 0, .slice none 0 0, .bool false, .bool false] _ from U_Z) (.slice qL k cL) (.slice qH nH cH) (.int .i64 own) (.slice qW nW cW) (.slice none 0 0) (.slice none 0 0) (.bool false) (.bool false)
            rw [hY]
            (try simp only [Exit.inBlock, Exit.then])
            refine bodyPost_ret (ret_url2 rfl _ _ w.heap.size _ rfl hU rfl) rfl ?_
            rw [HE.out]
            refine ⟨_, rfl, ⟨qL, k, cL, qH, nH, cH, qW, nW, cW, none, 0, 0, none, 0, 0, by rw [HPN.out], L_Z.away U_Z nbz hkY, H_Z.away U_Z nbz hkY, GP_Z.away U_Z nbz hkY, by_nil _, by_nil _⟩, B_Z.trans (hbY _ (Nat.le_refl _))⟩
        | true =>
          have yb := W_C.box
          have yc3 := yb 3 _ rfl
          have yf3 := W_C.frozen 3
          clear yb
          go_wp2_with fail
          clear yc3 yf3
          obtain ⟨XF, hXF⟩ : ∃ Z, XC.setCell ⟨b18, 3, none⟩ (.slice qW nW cW) = Z := ⟨_, rfl⟩
          rw [hXF]
          have B_F : Below w.heap.size w XF := by rw [← hXF]; exact B_C.setCell (p := ⟨b18, 3, none⟩) hle _
          have U_F : UB w.heap.size zeroU XF := by rw [← hXF]; exact U_C.other hne _
          have F_F := By.set (i := 3) (u := .slice qW nW cW) F_C W_C (nb8 ⟨_, _, _, rfl⟩ ⟨_, _, _, rfl⟩ ⟨_, _, _, rfl⟩ ⟨_, _, _, rfl⟩ ⟨_, _, _, rfl⟩)
          rw [hXF] at F_F
          have H_F := By.set (i := 3) (u := .slice qW nW cW) H_C W_C (nb8 ⟨_, _, _, rfl⟩ ⟨_, _, _, rfl⟩ ⟨_, _, _, rfl⟩ ⟨_, _, _, rfl⟩ ⟨_, _, _, rfl⟩)
          rw [hXF] at H_F
          have L_F := By.set (i := 3) (u := .slice qW nW cW) L_C W_C (nb8 ⟨_, _, _, rfl⟩ ⟨_, _, _, rfl⟩ ⟨_, _, _, rfl⟩ ⟨_, _, _, rfl⟩ ⟨_, _, _, rfl⟩)
          rw [hXF] at L_F
          have GP_F := By.set (i := 3) (u := .slice qW nW cW) GP_C W_C (nb8 ⟨_, _, _, rfl⟩ ⟨_, _, _, rfl⟩ ⟨_, _, _, rfl⟩ ⟨_, _, _, rfl⟩ ⟨_, _, _, rfl⟩)
          rw [hXF] at GP_F
          have W_F : UB b18 #[.slice qL k cL, .slice qH nH cH, .int .i64 own, .slice qW nW cW, .slice none 0 0, .slice none 0 0, .bool false, .bool true] XF := by rw [← hXF]; exact (W_C.set8 (.slice qW nW cW)).2.1
          clear GP_C W_C L_C H_C F_C U_C B_C
          clear hXF
          have con := Pct.Canon_any qF nF cF (atSnd 35 r) 2 XF F_F.at.1 (by omega) F_F.at.2.2.2.2
          refine con.mono ?_
          rintro e XG ⟨vZ, ef, rfl, hef, hr, hb⟩
          have HEF : Hid (ef = if (formL 2 (atSnd 35 r)).isSome then 0 else 2) := hef
          replace hr : XG.ownsRow XF.heap.size 5 1 vZ ((formL 2 (atSnd 35 r)).getD []).length (byV ((formL 2 (atSnd 35 r)).getD [])) := hr
          obtain ⟨nZ, hnZ⟩ : ∃ n, ((formL 2 (atSnd 35 r)).getD []).length = n := ⟨_, rfl⟩
          rw [hnZ] at hr
          obtain ⟨qZ, cZ, rfl, _, _, _, _, _⟩ := row_open hr
          have GF_G := By.row hr
          clear con hr hnZ hef
          have B_G := B_F.trans (hb.mono B_F.size)
          have U_G := U_F.on hb
          have F_G := F_F.on hb
          have H_G := H_F.on hb
          have L_G := L_F.on hb
          have W_G := W_F.on hb
          have GP_G := GP_F.on hb
          clear GP_F W_F L_F H_F F_F U_F B_F hb
          clear F_G
          have yb := W_G.box
          have yc0 := yb 0 _ rfl
          have yf0 := W_G.frozen 0
          have yc1 := yb 1 _ rfl
          have yf1 := W_G.frozen 1
          have yc2 := yb 2 _ rfl
          have yf2 := W_G.frozen 2
          have yc3 := yb 3 _ rfl
          have yf3 := W_G.frozen 3
          have yc4 := yb 4 _ rfl
          have yf4 := W_G.frozen 4
          have yc5 := yb 5 _ rfl
          have yf5 := W_G.frozen 5
          have yc6 := yb 6 _ rfl
          have yf6 := W_G.frozen 6
          have yc7 := yb 7 _ rfl
          have yf7 := W_G.frozen 7
          clear yb
          have zb := U_G.box
          have zc0 := zb 0 _ rfl
          have zf0 := U_G.frozen 0
          have zc1 := zb 1 _ rfl
          have zf1 := U_G.frozen 1
          have zc2 := zb 2 _ rfl
          have zf2 := U_G.frozen 2
          have zc3 := zb 3 _ rfl
          have zf3 := U_G.frozen 3
          have zc4 := zb 4 _ rfl
          have zf4 := U_G.frozen 4
          have zc5 := zb 5 _ rfl
          have zf5 := U_G.frozen 5
          have zc6 := zb 6 _ rfl
          have zf6 := U_G.frozen 6
          have zc7 := zb 7 _ rfl
          have zf7 := U_G.frozen 7
          clear zb
          obtain ⟨XZ, hXZ⟩ : ∃ Z, XG.setCell ⟨b18, 5, none⟩ (.slice qZ nZ cZ) = Z := ⟨_, rfl⟩
          have B_Z : Below w.heap.size w XZ := by rw [← hXZ]; exact B_G.setCell (p := ⟨b18, 5, none⟩) hle _
          have U_Z : UB w.heap.size zeroU XZ := by rw [← hXZ]; exact U_G.other hne _
          have H_Z := By.set (i := 5) (u := .slice qZ nZ cZ) H_G W_G (nb8 ⟨_, _, _, rfl⟩ ⟨_, _, _, rfl⟩ ⟨_, _, _, rfl⟩ ⟨_, _, _, rfl⟩ ⟨_, _, _, rfl⟩)
          rw [hXZ] at H_Z
          have L_Z := By.set (i := 5) (u := .slice qZ nZ cZ) L_G W_G (nb8 ⟨_, _, _, rfl⟩ ⟨_, _, _, rfl⟩ ⟨_, _, _, rfl⟩ ⟨_, _, _, rfl⟩ ⟨_, _, _, rfl⟩)
          rw [hXZ] at L_Z
          have GP_Z := By.set (i := 5) (u := .slice qZ nZ cZ) GP_G W_G (nb8 ⟨_, _, _, rfl⟩ ⟨_, _, _, rfl⟩ ⟨_, _, _, rfl⟩ ⟨_, _, _, rfl⟩ ⟨_, _, _, rfl⟩)
          rw [hXZ] at GP_Z
          have GF_Z := By.set (i := 5) (u := .slice qZ nZ cZ) GF_G W_G (nb8 ⟨_, _, _, rfl⟩ ⟨_, _, _, rfl⟩ ⟨_, _, _, rfl⟩ ⟨_, _, _, rfl⟩ ⟨_, _, _, rfl⟩)
          rw [hXZ] at GF_Z
          have W_Z : UB b18 #[.slice qL k cL, .slice qH nH cH, .int .i64 own, .slice qW nW cW, .slice none 0 0, .slice qZ nZ cZ, .bool false, .bool true] XZ := by rw [← hXZ]; exact (W_G.set8 (.slice qZ nZ cZ)).2.2.2
          clear GF_G GP_G W_G L_G H_G U_G B_G
          have HXZ := Lib.hid hXZ
          clear hXZ
          by_cases hp0 : (own : Int) = 0
          case pos =>
            have e0 : (((own : Int)) == 0) = true := by rw [beq_iff_eq]; exact hp0
            have hpo := HPO.out
            rw [hp0] at hpo
            clear hp0
            have HE := Lib.hid (show canonU t = .inl 2 by rw [HC.out]; exact rest_port _ r HS.out HPE.out hpo)
            go_wp2
            rw [HXZ.out]
            obtain ⟨Y, hY, hU, hkY, hbY⟩ := UB.put (show UB w.heap.size #[.slice none 0 0, .slice none 0 0, .int .i64 0, .slice none 0 0, .slice none 0 0, .slice none 0 0, .bool false, .bool false] _ from U_Z) (.slice none 0 0) (.slice none 0 0) (.int .i64 0) (.slice none 0 0) (.slice none 0 0) (.slice none 0 0) (.bool false) (.bool false)
            rw [hY]
            (try simp only [Exit.inBlock, Exit.then])
            refine bodyPost_ret (ret_url2 rfl _ _ w.heap.size _ rfl hU rfl) rfl ?_
            rw [HE.out]
            exact ⟨by decide, rfl, B_Z.trans (hbY _ (Nat.le_refl _))⟩
          have e0 : (((own : Int)) == 0) = false := by rw [beq_eq_false_iff_ne]; exact hp0
          have hpo : portC (Ref.lowL s) (atSnd 58 (srvL r)) (atOk 58 (srvL r)) ≠ 0 := by rw [HPO.out]; exact hp0
          cases hpp : pathL (pthL r) with
          | none =>
            obtain rfl : ep = 2 := by have := HEP.out; rw [hpp] at this; exact this
            have hpp2 := Lib.hid hpp
            clear hpp
            have HE := Lib.hid (show canonU t = .inl 2 by rw [HC.out]; exact rest_path _ r HS.out HPE.out hpp2.out)
            go_wp2
            rw [HXZ.out]
            obtain ⟨Y, hY, hU, hkY, hbY⟩ := UB.put (show UB w.heap.size #[.slice none 0 0, .slice none 0 0, .int .i64 0, .slice none 0 0, .slice none 0 0, .slice none 0 0, .bool false, .bool false] _ from U_Z) (.slice none 0 0) (.slice none 0 0) (.int .i64 0) (.slice none 0 0) (.slice none 0 0) (.slice none 0 0) (.bool false) (.bool false)
            rw [hY]
            (try simp only [Exit.inBlock, Exit.then])
            refine bodyPost_ret (ret_url2 rfl _ _ w.heap.size _ rfl hU rfl) rfl ?_
            rw [HE.out]
            exact ⟨by decide, rfl, B_Z.trans (hbY _ (Nat.le_refl _))⟩
          | some pp =>
            obtain rfl : ep = 0 := by have := HEP.out; rw [hpp] at this; exact this
            cases hff : formL 2 (atSnd 35 r) with
            | none =>
              obtain rfl : ef = 2 := by have := HEF.out; rw [hff] at this; exact this
              have h4 := Lib.hid (show optC (atOk 35 r) (atSnd 35 r) = none by rw [Hbf.out]; exact hff)
              clear hff hpp
              have HE := Lib.hid (show canonU t = .inl 2 by rw [HC.out]; exact rest_frag _ r HS.out HPE.out h4.out)
              go_wp2
              rw [HXZ.out]
              obtain ⟨Y, hY, hU, hkY, hbY⟩ := UB.put (show UB w.heap.size #[.slice none 0 0, .slice none 0 0, .int .i64 0, .slice none 0 0, .slice none 0 0, .slice none 0 0, .bool false, .bool false] _ from U_Z) (.slice none 0 0) (.slice none 0 0) (.int .i64 0) (.slice none 0 0) (.slice none 0 0) (.slice none 0 0) (.bool false) (.bool false)
              rw [hY]
              (try simp only [Exit.inBlock, Exit.then])
              refine bodyPost_ret (ret_url2 rfl _ _ w.heap.size _ rfl hU rfl) rfl ?_
              rw [HE.out]
              exact ⟨by decide, rfl, B_Z.trans (hbY _ (Nat.le_refl _))⟩
            | some ff =>
              obtain rfl : ef = 0 := by have := HEF.out; rw [hff] at this; exact this
              have h3 : optC (atOk 63 (atFst 35 r)) (atSnd 63 (atFst 35 r)) = some [] := by rw [Hbq.out]; rfl
              have h4 : optC (atOk 35 r) (atSnd 35 r) = some ff := by rw [Hbf.out]; exact hff
              obtain ⟨pn, hpn, hrg⟩ := rest_good _ r HS.out HPE.out pp [] ff hpo hpp h3 h4
              rw [Hbq.out, Hbf.out] at hrg
              have hpn2 : (own : Int) = (pn : Int) := by rw [← HPO.out]; exact hpn
              have HE := Lib.hid (HC.out.trans hrg)
              have HPN := Lib.hid hpn2
              rw [hpp] at GP_Z
              rw [hff] at GF_Z
              clear hpo hrg hpn hpn2 h3 h4 hpp hff hp0
              go_wp2
              rw [HXZ.out]
              obtain ⟨Y, hY, hU, hkY, hbY⟩ := UB.put (show UB w.heap.size #[.slice none 0 0, .slice none 0 0, .int .i64 0, .slice none 0 0, .slice none 0 0, .slice none 0 0, .bool false, .bool false] _ from U_Z) (.slice qL k cL) (.slice qH nH cH) (.int .i64 own) (.slice qW nW cW) (.slice none 0 0) (.slice qZ nZ cZ) (.bool false) (.bool true)
              rw [hY]
              (try simp only [Exit.inBlock, Exit.then])
              refine bodyPost_ret (ret_url2 rfl _ _ w.heap.size _ rfl hU rfl) rfl ?_
              rw [HE.out]
              refine ⟨_, rfl, ⟨qL, k, cL, qH, nH, cH, qW, nW, cW, none, 0, 0, qZ, nZ, cZ, by rw [HPN.out], L_Z.away U_Z nbz hkY, H_Z.away U_Z nbz hkY, GP_Z.away U_Z nbz hkY, by_nil _, GF_Z.away U_Z nbz hkY⟩, B_Z.trans (hbY _ (Nat.le_refl _))⟩
      | true =>
        have yb := W_C.box
        have yc3 := yb 3 _ rfl
        have yf3 := W_C.frozen 3
        clear yb
        go_wp2_with fail
        clear yc3 yf3
        obtain ⟨XD, hXD⟩ : ∃ Z, XC.setCell ⟨b18, 3, none⟩ (.slice qW nW cW) = Z := ⟨_, rfl⟩
        rw [hXD]
        have B_D : Below w.heap.size w XD := by rw [← hXD]; exact B_C.setCell (p := ⟨b18, 3, none⟩) hle _
        have U_D : UB w.heap.size zeroU XD := by rw [← hXD]; exact U_C.other hne _
        have F_D := By.set (i := 3) (u := .slice qW nW cW) F_C W_C (nb8 ⟨_, _, _, rfl⟩ ⟨_, _, _, rfl⟩ ⟨_, _, _, rfl⟩ ⟨_, _, _, rfl⟩ ⟨_, _, _, rfl⟩)
        rw [hXD] at F_D
        have Q_D := By.set (i := 3) (u := .slice qW nW cW) Q_C W_C (nb8 ⟨_, _, _, rfl⟩ ⟨_, _, _, rfl⟩ ⟨_, _, _, rfl⟩ ⟨_, _, _, rfl⟩ ⟨_, _, _, rfl⟩)
        rw [hXD] at Q_D
        have H_D := By.set (i := 3) (u := .slice qW nW cW) H_C W_C (nb8 ⟨_, _, _, rfl⟩ ⟨_, _, _, rfl⟩ ⟨_, _, _, rfl⟩ ⟨_, _, _, rfl⟩ ⟨_, _, _, rfl⟩)
        rw [hXD] at H_D
        have L_D := By.set (i := 3) (u := .slice qW nW cW) L_C W_C (nb8 ⟨_, _, _, rfl⟩ ⟨_, _, _, rfl⟩ ⟨_, _, _, rfl⟩ ⟨_, _, _, rfl⟩ ⟨_, _, _, rfl⟩)
        rw [hXD] at L_D
        have GP_D := By.set (i := 3) (u := .slice qW nW cW) GP_C W_C (nb8 ⟨_, _, _, rfl⟩ ⟨_, _, _, rfl⟩ ⟨_, _, _, rfl⟩ ⟨_, _, _, rfl⟩ ⟨_, _, _, rfl⟩)
        rw [hXD] at GP_D
        have W_D : UB b18 #[.slice qL k cL, .slice qH nH cH, .int .i64 own, .slice qW nW cW, .slice none 0 0, .slice none 0 0, .bool true, .bool bf] XD := by rw [← hXD]; exact (W_C.set8 (.slice qW nW cW)).2.1
        clear GP_C W_C L_C H_C Q_C F_C U_C B_C
        clear hXD
        have con := Pct.Canon_any qQ nQ cQ (atSnd 63 (atFst 35 r)) 2 XD Q_D.at.1 (by omega) Q_D.at.2.2.2.2
        refine con.mono ?_
        rintro e XE ⟨vY, eq, rfl, heq, hr, hb⟩
        have HEQ : Hid (eq = if (formL 2 (atSnd 63 (atFst 35 r))).isSome then 0 else 2) := heq
        replace hr : XE.ownsRow XD.heap.size 5 1 vY ((formL 2 (atSnd 63 (atFst 35 r))).getD []).length (byV ((formL 2 (atSnd 63 (atFst 35 r))).getD [])) := hr
        obtain ⟨nY, hnY⟩ : ∃ n, ((formL 2 (atSnd 63 (atFst 35 r))).getD []).length = n := ⟨_, rfl⟩
        rw [hnY] at hr
        obtain ⟨qY, cY, rfl, _, _, _, _, _⟩ := row_open hr
        have GQ_E := By.row hr
        clear con hr hnY heq
        have B_E := B_D.trans (hb.mono B_D.size)
        have U_E := U_D.on hb
        have F_E := F_D.on hb
        have Q_E := Q_D.on hb
        have H_E := H_D.on hb
        have L_E := L_D.on hb
        have W_E := W_D.on hb
        have GP_E := GP_D.on hb
        clear GP_D W_D L_D H_D Q_D F_D U_D B_D hb
        clear Q_E
        cases bf with
        | false =>
          clear F_E
          have yb := W_E.box
          have yc0 := yb 0 _ rfl
          have yf0 := W_E.frozen 0
          have yc1 := yb 1 _ rfl
          have yf1 := W_E.frozen 1
          have yc2 := yb 2 _ rfl
          have yf2 := W_E.frozen 2
          have yc3 := yb 3 _ rfl
          have yf3 := W_E.frozen 3
          have yc4 := yb 4 _ rfl
          have yf4 := W_E.frozen 4
          have yc5 := yb 5 _ rfl
          have yf5 := W_E.frozen 5
          have yc6 := yb 6 _ rfl
          have yf6 := W_E.frozen 6
          have yc7 := yb 7 _ rfl
          have yf7 := W_E.frozen 7
          clear yb
          have zb := U_E.box
          have zc0 := zb 0 _ rfl
          have zf0 := U_E.frozen 0
          have zc1 := zb 1 _ rfl
          have zf1 := U_E.frozen 1
          have zc2 := zb 2 _ rfl
          have zf2 := U_E.frozen 2
          have zc3 := zb 3 _ rfl
          have zf3 := U_E.frozen 3
          have zc4 := zb 4 _ rfl
          have zf4 := U_E.frozen 4
          have zc5 := zb 5 _ rfl
          have zf5 := U_E.frozen 5
          have zc6 := zb 6 _ rfl
          have zf6 := U_E.frozen 6
          have zc7 := zb 7 _ rfl
          have zf7 := U_E.frozen 7
          clear zb
          obtain ⟨XZ, hXZ⟩ : ∃ Z, XE.setCell ⟨b18, 4, none⟩ (.slice qY nY cY) = Z := ⟨_, rfl⟩
          have B_Z : Below w.heap.size w XZ := by rw [← hXZ]; exact B_E.setCell (p := ⟨b18, 4, none⟩) hle _
          have U_Z : UB w.heap.size zeroU XZ := by rw [← hXZ]; exact U_E.other hne _
          have H_Z := By.set (i := 4) (u := .slice qY nY cY) H_E W_E (nb8 ⟨_, _, _, rfl⟩ ⟨_, _, _, rfl⟩ ⟨_, _, _, rfl⟩ ⟨_, _, _, rfl⟩ ⟨_, _, _, rfl⟩)
          rw [hXZ] at H_Z
          have L_Z := By.set (i := 4) (u := .slice qY nY cY) L_E W_E (nb8 ⟨_, _, _, rfl⟩ ⟨_, _, _, rfl⟩ ⟨_, _, _, rfl⟩ ⟨_, _, _, rfl⟩ ⟨_, _, _, rfl⟩)
          rw [hXZ] at L_Z
          have GP_Z := By.set (i := 4) (u := .slice qY nY cY) GP_E W_E (nb8 ⟨_, _, _, rfl⟩ ⟨_, _, _, rfl⟩ ⟨_, _, _, rfl⟩ ⟨_, _, _, rfl⟩ ⟨_, _, _, rfl⟩)
          rw [hXZ] at GP_Z
          have GQ_Z := By.set (i := 4) (u := .slice qY nY cY) GQ_E W_E (nb8 ⟨_, _, _, rfl⟩ ⟨_, _, _, rfl⟩ ⟨_, _, _, rfl⟩ ⟨_, _, _, rfl⟩ ⟨_, _, _, rfl⟩)
          rw [hXZ] at GQ_Z
          have W_Z : UB b18 #[.slice qL k cL, .slice qH nH cH, .int .i64 own, .slice qW nW cW, .slice qY nY cY, .slice none 0 0, .bool true, .bool false] XZ := by rw [← hXZ]; exact (W_E.set8 (.slice qY nY cY)).2.2.1
          clear GQ_E GP_E W_E L_E H_E U_E B_E
          have HXZ := Lib.hid hXZ
          clear hXZ
          by_cases hp0 : (own : Int) = 0
          case pos =>
            have e0 : (((own : Int)) == 0) = true := by rw [beq_iff_eq]; exact hp0
            have hpo := HPO.out
            rw [hp0] at hpo
            clear hp0
            have HE := Lib.hid (show canonU t = .inl 2 by rw [HC.out]; exact rest_port _ r HS.out HPE.out hpo)
            go_wp2
            rw [HXZ.out]
            obtain ⟨Y, hY, hU, hkY, hbY⟩ := UB.put (show UB w.heap.size #[.slice none 0 0, .slice none 0 0, .int .i64 0, .slice none 0 0, .slice none 0 0, .slice none 0 0, .bool false, .bool false] _ from U_Z) (.slice none 0 0) (.slice none 0 0) (.int .i64 0) (.slice none 0 0) (.slice none 0 0) (.slice none 0 0) (.bool false) (.bool false)
            rw [hY]
            (try simp only [Exit.inBlock, Exit.then])
            refine bodyPost_ret (ret_url2 rfl _ _ w.heap.size _ rfl hU rfl) rfl ?_
            rw [HE.out]
            exact ⟨by decide, rfl, B_Z.trans (hbY _ (Nat.le_refl _))⟩
          have e0 : (((own : Int)) == 0) = false := by rw [beq_eq_false_iff_ne]; exact hp0
          have hpo : portC (Ref.lowL s) (atSnd 58 (srvL r)) (atOk 58 (srvL r)) ≠ 0 := by rw [HPO.out]; exact hp0
          cases hpp : pathL (pthL r) with
          | none =>
            obtain rfl : ep = 2 := by have := HEP.out; rw [hpp] at this; exact this
            have hpp2 := Lib.hid hpp
            clear hpp
            have HE := Lib.hid (show canonU t = .inl 2 by rw [HC.out]; exact rest_path _ r HS.out HPE.out hpp2.out)
            go_wp2
            rw [HXZ.out]
            obtain ⟨Y, hY, hU, hkY, hbY⟩ := UB.put (show UB w.heap.size #[.slice none 0 0, .slice none 0 0, .int .i64 0, .slice none 0 0, .slice none 0 0, .slice none 0 0, .bool false, .bool false] _ from U_Z) (.slice none 0 0) (.slice none 0 0) (.int .i64 0) (.slice none 0 0) (.slice none 0 0) (.slice none 0 0) (.bool false) (.bool false)
            rw [hY]
            (try simp only [Exit.inBlock, Exit.then])
            refine bodyPost_ret (ret_url2 rfl _ _ w.heap.size _ rfl hU rfl) rfl ?_
            rw [HE.out]
            exact ⟨by decide, rfl, B_Z.trans (hbY _ (Nat.le_refl _))⟩
          | some pp =>
            obtain rfl : ep = 0 := by have := HEP.out; rw [hpp] at this; exact this
            cases hqq : formL 2 (atSnd 63 (atFst 35 r)) with
            | none =>
              obtain rfl : eq = 2 := by have := HEQ.out; rw [hqq] at this; exact this
              have h3 := Lib.hid (show optC (atOk 63 (atFst 35 r)) (atSnd 63 (atFst 35 r)) = none by rw [Hbq.out]; exact hqq)
              clear hqq hpp
              have HE := Lib.hid (show canonU t = .inl 2 by rw [HC.out]; exact rest_query _ r HS.out HPE.out h3.out)
              go_wp2
              rw [HXZ.out]
              obtain ⟨Y, hY, hU, hkY, hbY⟩ := UB.put (show UB w.heap.size #[.slice none 0 0, .slice none 0 0, .int .i64 0, .slice none 0 0, .slice none 0 0, .slice none 0 0, .bool false, .bool false] _ from U_Z) (.slice none 0 0) (.slice none 0 0) (.int .i64 0) (.slice none 0 0) (.slice none 0 0) (.slice none 0 0) (.bool false) (.bool false)
              rw [hY]
              (try simp only [Exit.inBlock, Exit.then])
              refine bodyPost_ret (ret_url2 rfl _ _ w.heap.size _ rfl hU rfl) rfl ?_
              rw [HE.out]
              exact ⟨by decide, rfl, B_Z.trans (hbY _ (Nat.le_refl _))⟩
            | some qq =>
              obtain rfl : eq = 0 := by have := HEQ.out; rw [hqq] at this; exact this
              have h3 : optC (atOk 63 (atFst 35 r)) (atSnd 63 (atFst 35 r)) = some qq := by rw [Hbq.out]; exact hqq
              have h4 : optC (atOk 35 r) (atSnd 35 r) = some [] := by rw [Hbf.out]; rfl
              obtain ⟨pn, hpn, hrg⟩ := rest_good _ r HS.out HPE.out pp qq [] hpo hpp h3 h4
              rw [Hbq.out, Hbf.out] at hrg
              have hpn2 : (own : Int) = (pn : Int) := by rw [← HPO.out]; exact hpn
              have HE := Lib.hid (HC.out.trans hrg)
              have HPN := Lib.hid hpn2
              rw [hpp] at GP_Z
              rw [hqq] at GQ_Z
              clear hpo hrg hpn hpn2 h3 h4 hpp hqq  hp0
              go_wp2
              rw [HXZ.out]
              obtain ⟨Y, hY, hU, hkY, hbY⟩ := UB.put (show UB w.heap.size #[.slice none 0 0, .slice none 0 0, .int .i64 0, .slice none 0 0, .slice none 0 0, .slice none 0 0, .bool false, .bool false] _ from U_Z) (.slice qL k cL) (.slice qH nH cH) (.int .i64 own) (.slice qW nW cW) (.slice qY nY cY) (.slice none 0 0) (.bool true) (.bool false)
              rw [hY]
              (try simp only [Exit.inBlock, Exit.then])
              refine bodyPost_ret (ret_url2 rfl _ _ w.heap.size _ rfl hU rfl) rfl ?_
              rw [HE.out]
              refine ⟨_, rfl, ⟨qL, k, cL, qH, nH, cH, qW, nW, cW, qY, nY, cY, none, 0, 0, by rw [HPN.out], L_Z.away U_Z nbz hkY, H_Z.away U_Z nbz hkY, GP_Z.away U_Z nbz hkY, GQ_Z.away U_Z nbz hkY, by_nil _⟩, B_Z.trans (hbY _ (Nat.le_refl _))⟩
        | true =>
          have yb := W_E.box
          have yc4 := yb 4 _ rfl
          have yf4 := W_E.frozen 4
          clear yb
          go_wp2_with fail
          clear yc4 yf4
          obtain ⟨XF, hXF⟩ : ∃ Z, XE.setCell ⟨b18, 4, none⟩ (.slice qY nY cY) = Z := ⟨_, rfl⟩
          rw [hXF]
          have B_F : Below w.heap.size w XF := by rw [← hXF]; exact B_E.setCell (p := ⟨b18, 4, none⟩) hle _
          have U_F : UB w.heap.size zeroU XF := by rw [← hXF]; exact U_E.other hne _
          have F_F := By.set (i := 4) (u := .slice qY nY cY) F_E W_E (nb8 ⟨_, _, _, rfl⟩ ⟨_, _, _, rfl⟩ ⟨_, _, _, rfl⟩ ⟨_, _, _, rfl⟩ ⟨_, _, _, rfl⟩)
          rw [hXF] at F_F
          have H_F := By.set (i := 4) (u := .slice qY nY cY) H_E W_E (nb8 ⟨_, _, _, rfl⟩ ⟨_, _, _, rfl⟩ ⟨_, _, _, rfl⟩ ⟨_, _, _, rfl⟩ ⟨_, _, _, rfl⟩)
          rw [hXF] at H_F
          have L_F := By.set (i := 4) (u := .slice qY nY cY) L_E W_E (nb8 ⟨_, _, _, rfl⟩ ⟨_, _, _, rfl⟩ ⟨_, _, _, rfl⟩ ⟨_, _, _, rfl⟩ ⟨_, _, _, rfl⟩)
          rw [hXF] at L_F
          have GP_F := By.set (i := 4) (u := .slice qY nY cY) GP_E W_E (nb8 ⟨_, _, _, rfl⟩ ⟨_, _, _, rfl⟩ ⟨_, _, _, rfl⟩ ⟨_, _, _, rfl⟩ ⟨_, _, _, rfl⟩)
          rw [hXF] at GP_F
          have GQ_F := By.set (i := 4) (u := .slice qY nY cY) GQ_E W_E (nb8 ⟨_, _, _, rfl⟩ ⟨_, _, _, rfl⟩ ⟨_, _, _, rfl⟩ ⟨_, _, _, rfl⟩ ⟨_, _, _, rfl⟩)
          rw [hXF] at GQ_F
          have W_F : UB b18 #[.slice qL k cL, .slice qH nH cH, .int .i64 own, .slice qW nW cW, .slice qY nY cY, .slice none 0 0, .bool true, .bool true] XF := by rw [← hXF]; exact (W_E.set8 (.slice qY nY cY)).2.2.1
          clear GQ_E GP_E W_E L_E H_E F_E U_E B_E
          clear hXF
          have con := Pct.Canon_any qF nF cF (atSnd 35 r) 2 XF F_F.at.1 (by omega) F_F.at.2.2.2.2
          refine con.mono ?_
          rintro e XG ⟨vZ, ef, rfl, hef, hr, hb⟩
          have HEF : Hid (ef = if (formL 2 (atSnd 35 r)).isSome then 0 else 2) := hef
          replace hr : XG.ownsRow XF.heap.size 5 1 vZ ((formL 2 (atSnd 35 r)).getD []).length (byV ((formL 2 (atSnd 35 r)).getD [])) := hr
          obtain ⟨nZ, hnZ⟩ : ∃ n, ((formL 2 (atSnd 35 r)).getD []).length = n := ⟨_, rfl⟩
          rw [hnZ] at hr
          obtain ⟨qZ, cZ, rfl, _, _, _, _, _⟩ := row_open hr
          have GF_G := By.row hr
          clear con hr hnZ hef
          have B_G := B_F.trans (hb.mono B_F.size)
          have U_G := U_F.on hb
          have F_G := F_F.on hb
          have H_G := H_F.on hb
          have L_G := L_F.on hb
          have W_G := W_F.on hb
          have GP_G := GP_F.on hb
          have GQ_G := GQ_F.on hb
          clear GQ_F GP_F W_F L_F H_F F_F U_F B_F hb
          clear F_G
          have yb := W_G.box
          have yc0 := yb 0 _ rfl
          have yf0 := W_G.frozen 0
          have yc1 := yb 1 _ rfl
          have yf1 := W_G.frozen 1
          have yc2 := yb 2 _ rfl
          have yf2 := W_G.frozen 2
          have yc3 := yb 3 _ rfl
          have yf3 := W_G.frozen 3
          have yc4 := yb 4 _ rfl
          have yf4 := W_G.frozen 4
          have yc5 := yb 5 _ rfl
          have yf5 := W_G.frozen 5
          have yc6 := yb 6 _ rfl
          have yf6 := W_G.frozen 6
          have yc7 := yb 7 _ rfl
          have yf7 := W_G.frozen 7
          clear yb
          have zb := U_G.box
          have zc0 := zb 0 _ rfl
          have zf0 := U_G.frozen 0
          have zc1 := zb 1 _ rfl
          have zf1 := U_G.frozen 1
          have zc2 := zb 2 _ rfl
          have zf2 := U_G.frozen 2
          have zc3 := zb 3 _ rfl
          have zf3 := U_G.frozen 3
          have zc4 := zb 4 _ rfl
          have zf4 := U_G.frozen 4
          have zc5 := zb 5 _ rfl
          have zf5 := U_G.frozen 5
          have zc6 := zb 6 _ rfl
          have zf6 := U_G.frozen 6
          have zc7 := zb 7 _ rfl
          have zf7 := U_G.frozen 7
          clear zb
          obtain ⟨XZ, hXZ⟩ : ∃ Z, XG.setCell ⟨b18, 5, none⟩ (.slice qZ nZ cZ) = Z := ⟨_, rfl⟩
          have B_Z : Below w.heap.size w XZ := by rw [← hXZ]; exact B_G.setCell (p := ⟨b18, 5, none⟩) hle _
          have U_Z : UB w.heap.size zeroU XZ := by rw [← hXZ]; exact U_G.other hne _
          have H_Z := By.set (i := 5) (u := .slice qZ nZ cZ) H_G W_G (nb8 ⟨_, _, _, rfl⟩ ⟨_, _, _, rfl⟩ ⟨_, _, _, rfl⟩ ⟨_, _, _, rfl⟩ ⟨_, _, _, rfl⟩)
          rw [hXZ] at H_Z
          have L_Z := By.set (i := 5) (u := .slice qZ nZ cZ) L_G W_G (nb8 ⟨_, _, _, rfl⟩ ⟨_, _, _, rfl⟩ ⟨_, _, _, rfl⟩ ⟨_, _, _, rfl⟩ ⟨_, _, _, rfl⟩)
          rw [hXZ] at L_Z
          have GP_Z := By.set (i := 5) (u := .slice qZ nZ cZ) GP_G W_G (nb8 ⟨_, _, _, rfl⟩ ⟨_, _, _, rfl⟩ ⟨_, _, _, rfl⟩ ⟨_, _, _, rfl⟩ ⟨_, _, _, rfl⟩)
          rw [hXZ] at GP_Z
          have GQ_Z := By.set (i := 5) (u := .slice qZ nZ cZ) GQ_G W_G (nb8 ⟨_, _, _, rfl⟩ ⟨_, _, _, rfl⟩ ⟨_, _, _, rfl⟩ ⟨_, _, _, rfl⟩ ⟨_, _, _, rfl⟩)
          rw [hXZ] at GQ_Z
          have GF_Z := By.set (i := 5) (u := .slice qZ nZ cZ) GF_G W_G (nb8 ⟨_, _, _, rfl⟩ ⟨_, _, _, rfl⟩ ⟨_, _, _, rfl⟩ ⟨_, _, _, rfl⟩ ⟨_, _, _, rfl⟩)
          rw [hXZ] at GF_Z
          have W_Z : UB b18 #[.slice qL k cL, .slice qH nH cH, .int .i64 own, .slice qW nW cW, .slice qY nY cY, .slice qZ nZ cZ, .bool true, .bool true] XZ := by rw [← hXZ]; exact (W_G.set8 (.slice qZ nZ cZ)).2.2.2
          clear GF_G GQ_G GP_G W_G L_G H_G U_G B_G
          have HXZ := Lib.hid hXZ
          clear hXZ
          by_cases hp0 : (own : Int) = 0
          case pos =>
            have e0 : (((own : Int)) == 0) = true := by rw [beq_iff_eq]; exact hp0
            have hpo := HPO.out
            rw [hp0] at hpo
            clear hp0
            have HE := Lib.hid (show canonU t = .inl 2 by rw [HC.out]; exact rest_port _ r HS.out HPE.out hpo)
            go_wp2
            rw [HXZ.out]
            obtain ⟨Y, hY, hU, hkY, hbY⟩ := UB.put (show UB w.heap.size #[.slice none 0 0, .slice none 0 0, .int .i64 0, .slice none 0 0, .slice none 0 0, .slice none 0 0, .bool false, .bool false] _ from U_Z) (.slice none 0 0) (.slice none 0 0) (.int .i64 0) (.slice none 0 0) (.slice none 0 0) (.slice none 0 0) (.bool false) (.bool false)
            rw [hY]
            (try simp only [Exit.inBlock, Exit.then])
            refine bodyPost_ret (ret_url2 rfl _ _ w.heap.size _ rfl hU rfl) rfl ?_
            rw [HE.out]
            exact ⟨by decide, rfl, B_Z.trans (hbY _ (Nat.le_refl _))⟩
          have e0 : (((own : Int)) == 0) = false := by rw [beq_eq_false_iff_ne]; exact hp0
          have hpo : portC (Ref.lowL s) (atSnd 58 (srvL r)) (atOk 58 (srvL r)) ≠ 0 := by rw [HPO.out]; exact hp0
          cases hpp : pathL (pthL r) with
          | none =>
            obtain rfl : ep = 2 := by have := HEP.out; rw [hpp] at this; exact this
            have hpp2 := Lib.hid hpp
            clear hpp
            have HE := Lib.hid (show canonU t = .inl 2 by rw [HC.out]; exact rest_path _ r HS.out HPE.out hpp2.out)
            go_wp2
            rw [HXZ.out]
            obtain ⟨Y, hY, hU, hkY, hbY⟩ := UB.put (show UB w.heap.size #[.slice none 0 0, .slice none 0 0, .int .i64 0, .slice none 0 0, .slice none 0 0, .slice none 0 0, .bool false, .bool false] _ from U_Z) (.slice none 0 0) (.slice none 0 0) (.int .i64 0) (.slice none 0 0) (.slice none 0 0) (.slice none 0 0) (.bool false) (.bool false)
            rw [hY]
            (try simp only [Exit.inBlock, Exit.then])
            refine bodyPost_ret (ret_url2 rfl _ _ w.heap.size _ rfl hU rfl) rfl ?_
            rw [HE.out]
            exact ⟨by decide, rfl, B_Z.trans (hbY _ (Nat.le_refl _))⟩
          | some pp =>
            obtain rfl : ep = 0 := by have := HEP.out; rw [hpp] at this; exact this
            cases hqq : formL 2 (atSnd 63 (atFst 35 r)) with
            | none =>
              obtain rfl : eq = 2 := by have := HEQ.out; rw [hqq] at this; exact this
              have h3 := Lib.hid (show optC (atOk 63 (atFst 35 r)) (atSnd 63 (atFst 35 r)) = none by rw [Hbq.out]; exact hqq)
              clear hqq hpp
              have HE := Lib.hid (show canonU t = .inl 2 by rw [HC.out]; exact rest_query _ r HS.out HPE.out h3.out)
              go_wp2
              rw [HXZ.out]
              obtain ⟨Y, hY, hU, hkY, hbY⟩ := UB.put (show UB w.heap.size #[.slice none 0 0, .slice none 0 0, .int .i64 0, .slice none 0 0, .slice none 0 0, .slice none 0 0, .bool false, .bool false] _ from U_Z) (.slice none 0 0) (.slice none 0 0) (.int .i64 0) (.slice none 0 0) (.slice none 0 0) (.slice none 0 0) (.bool false) (.bool false)
              rw [hY]
              (try simp only [Exit.inBlock, Exit.then])
              refine bodyPost_ret (ret_url2 rfl _ _ w.heap.size _ rfl hU rfl) rfl ?_
              rw [HE.out]
              exact ⟨by decide, rfl, B_Z.trans (hbY _ (Nat.le_refl _))⟩
            | some qq =>
              obtain rfl : eq = 0 := by have := HEQ.out; rw [hqq] at this; exact this
              cases hff : formL 2 (atSnd 35 r) with
              | none =>
                obtain rfl : ef = 2 := by have := HEF.out; rw [hff] at this; exact this
                have h4 := Lib.hid (show optC (atOk 35 r) (atSnd 35 r) = none by rw [Hbf.out]; exact hff)
                clear hff hpp
                have HE := Lib.hid (show canonU t = .inl 2 by rw [HC.out]; exact rest_frag _ r HS.out HPE.out h4.out)
                go_wp2
                rw [HXZ.out]
                obtain ⟨Y, hY, hU, hkY, hbY⟩ := UB.put (show UB w.heap.size #[.slice none 0 0, .slice none 0 0, .int .i64 0, .slice none 0 0, .slice none 0 0, .slice none 0 0, .bool false, .bool false] _ from U_Z) (.slice none 0 0) (.slice none 0 0) (.int .i64 0) (.slice none 0 0) (.slice none 0 0) (.slice none 0 0) (.bool false) (.bool false)
                rw [hY]
                (try simp only [Exit.inBlock, Exit.then])
                refine bodyPost_ret (ret_url2 rfl _ _ w.heap.size _ rfl hU rfl) rfl ?_
                rw [HE.out]
                exact ⟨by decide, rfl, B_Z.trans (hbY _ (Nat.le_refl _))⟩
              | some ff =>
                obtain rfl : ef = 0 := by have := HEF.out; rw [hff] at this; exact this
                have h3 : optC (atOk 63 (atFst 35 r)) (atSnd 63 (atFst 35 r)) = some qq := by rw [Hbq.out]; exact hqq
                have h4 : optC (atOk 35 r) (atSnd 35 r) = some ff := by rw [Hbf.out]; exact hff
                obtain ⟨pn, hpn, hrg⟩ := rest_good _ r HS.out HPE.out pp qq ff hpo hpp h3 h4
                rw [Hbq.out, Hbf.out] at hrg
                have hpn2 : (own : Int) = (pn : Int) := by rw [← HPO.out]; exact hpn
                have HE := Lib.hid (HC.out.trans hrg)
                have HPN := Lib.hid hpn2
                rw [hpp] at GP_Z
                rw [hqq] at GQ_Z
                rw [hff] at GF_Z
                clear hpo hrg hpn hpn2 h3 h4 hpp hqq hff hp0
                go_wp2
                rw [HXZ.out]
                obtain ⟨Y, hY, hU, hkY, hbY⟩ := UB.put (show UB w.heap.size #[.slice none 0 0, .slice none 0 0, .int .i64 0, .slice none 0 0, .slice none 0 0, .slice none 0 0, .bool false, .bool false] _ from U_Z) (.slice qL k cL) (.slice qH nH cH) (.int .i64 own) (.slice qW nW cW) (.slice qY nY cY) (.slice qZ nZ cZ) (.bool true) (.bool true)
                rw [hY]
                (try simp only [Exit.inBlock, Exit.then])
                refine bodyPost_ret (ret_url2 rfl _ _ w.heap.size _ rfl hU rfl) rfl ?_
                rw [HE.out]
                refine ⟨_, rfl, ⟨qL, k, cL, qH, nH, cH, qW, nW, cW, qY, nY, cY, qZ, nZ, cZ, by rw [HPN.out], L_Z.away U_Z nbz hkY, H_Z.away U_Z nbz hkY, GP_Z.away U_Z nbz hkY, GQ_Z.away U_Z nbz hkY, GF_Z.away U_Z nbz hkY⟩, B_Z.trans (hbY _ (Nat.le_refl _))⟩
    | true =>
      have con := Number_any qD nD cD (atSnd 58 (srvL r)) 65535 XA D_A.at.1 (by omega) D_A.at.2.2.2.2 (by decide) (by decide)
      obtain ⟨pv, hpv⟩ : ∃ p, (numOf 65535 (atSnd 58 (srvL r))).getD 0 = p := ⟨_, rfl⟩
      have HPO := Lib.hid (show portC (Ref.lowL s) (atSnd 58 (srvL r)) (atOk 58 (srvL r)) = pv by rw [Hbp.out, ← hpv]; rfl)
      unfold numV at con
      rw [hpv] at con
      generalize (numOf 65535 (atSnd 58 (srvL r))).isSome = ps at con
      clear hpv
      go_wp2_with fail
      rw [HB18.out, HXA.out]
      refine con.mono ?_
      rintro e XB ⟨rfl, rfl⟩
      clear con
      clear D_A
      have yb := W_A.box
      have yc2 := yb 2 _ rfl
      have yf2 := W_A.frozen 2
      clear yb
      go_wp2_with fail
      clear yc2 yf2
      obtain ⟨XB, hXB⟩ : ∃ Z, XA.setCell ⟨b18, 2, none⟩ (.int .i64 pv) = Z := ⟨_, rfl⟩
      rw [hXB]
      have B_B : Below w.heap.size w XB := by rw [← hXB]; exact B_A.setCell (p := ⟨b18, 2, none⟩) hle _
      have U_B : UB w.heap.size zeroU XB := by rw [← hXB]; exact U_A.other hne _
      have F_B := By.set (i := 2) (u := .int .i64 pv) F_A W_A (nb8 ⟨_, _, _, rfl⟩ ⟨_, _, _, rfl⟩ ⟨_, _, _, rfl⟩ ⟨_, _, _, rfl⟩ ⟨_, _, _, rfl⟩)
      rw [hXB] at F_B
      have Q_B := By.set (i := 2) (u := .int .i64 pv) Q_A W_A (nb8 ⟨_, _, _, rfl⟩ ⟨_, _, _, rfl⟩ ⟨_, _, _, rfl⟩ ⟨_, _, _, rfl⟩ ⟨_, _, _, rfl⟩)
      rw [hXB] at Q_B
      have P_B := By.set (i := 2) (u := .int .i64 pv) P_A W_A (nb8 ⟨_, _, _, rfl⟩ ⟨_, _, _, rfl⟩ ⟨_, _, _, rfl⟩ ⟨_, _, _, rfl⟩ ⟨_, _, _, rfl⟩)
      rw [hXB] at P_B
      have H_B := By.set (i := 2) (u := .int .i64 pv) H_A W_A (nb8 ⟨_, _, _, rfl⟩ ⟨_, _, _, rfl⟩ ⟨_, _, _, rfl⟩ ⟨_, _, _, rfl⟩ ⟨_, _, _, rfl⟩)
      rw [hXB] at H_B
      have L_B := By.set (i := 2) (u := .int .i64 pv) L_A W_A (nb8 ⟨_, _, _, rfl⟩ ⟨_, _, _, rfl⟩ ⟨_, _, _, rfl⟩ ⟨_, _, _, rfl⟩ ⟨_, _, _, rfl⟩)
      rw [hXB] at L_B
      have W_B : UB b18 #[.slice qL k cL, .slice qH nH cH, .int .i64 pv, .slice none 0 0, .slice none 0 0, .slice none 0 0, .bool bq, .bool bf] XB := by rw [← hXB]; exact (W_A.set8 (.int .i64 pv)).1
      clear W_A L_A H_A P_A Q_A F_A U_A B_A
      clear hXB
      have con := canonOfPath_any qP nP cP (pthL r) XB P_B (by omega) HPF.out
      refine con.mono ?_
      rintro e XC ⟨vW, ep, rfl, hep, hr, hb⟩
      have HEP : Hid (ep = if (pathL (pthL r)).isSome then 0 else 2) := hep
      replace hr : XC.ownsRow XB.heap.size 5 1 vW ((pathL (pthL r)).getD []).length (byV ((pathL (pthL r)).getD [])) := hr
      obtain ⟨nW, hnW⟩ : ∃ n, ((pathL (pthL r)).getD []).length = n := ⟨_, rfl⟩
      rw [hnW] at hr
      obtain ⟨qW, cW, rfl, _, _, _, _, _⟩ := row_open hr
      have GP_C := By.row hr
      clear con hr hnW hep
      have B_C := B_B.trans (hb.mono B_B.size)
      have U_C := U_B.on hb
      have F_C := F_B.on hb
      have Q_C := Q_B.on hb
      have P_C := P_B.on hb
      have H_C := H_B.on hb
      have L_C := L_B.on hb
      have W_C := W_B.on hb
      clear W_B L_B H_B P_B Q_B F_B U_B B_B hb
      clear P_C
      cases bq with
      | false =>
        clear Q_C
        cases bf with
        | false =>
          clear F_C
          have yb := W_C.box
          have yc0 := yb 0 _ rfl
          have yf0 := W_C.frozen 0
          have yc1 := yb 1 _ rfl
          have yf1 := W_C.frozen 1
          have yc2 := yb 2 _ rfl
          have yf2 := W_C.frozen 2
          have yc3 := yb 3 _ rfl
          have yf3 := W_C.frozen 3
          have yc4 := yb 4 _ rfl
          have yf4 := W_C.frozen 4
          have yc5 := yb 5 _ rfl
          have yf5 := W_C.frozen 5
          have yc6 := yb 6 _ rfl
          have yf6 := W_C.frozen 6
          have yc7 := yb 7 _ rfl
          have yf7 := W_C.frozen 7
          clear yb
          have zb := U_C.box
          have zc0 := zb 0 _ rfl
          have zf0 := U_C.frozen 0
          have zc1 := zb 1 _ rfl
          have zf1 := U_C.frozen 1
          have zc2 := zb 2 _ rfl
          have zf2 := U_C.frozen 2
          have zc3 := zb 3 _ rfl
          have zf3 := U_C.frozen 3
          have zc4 := zb 4 _ rfl
          have zf4 := U_C.frozen 4
          have zc5 := zb 5 _ rfl
          have zf5 := U_C.frozen 5
          have zc6 := zb 6 _ rfl
          have zf6 := U_C.frozen 6
          have zc7 := zb 7 _ rfl
          have zf7 := U_C.frozen 7
          clear zb
          obtain ⟨XZ, hXZ⟩ : ∃ Z, XC.setCell ⟨b18, 3, none⟩ (.slice qW nW cW) = Z := ⟨_, rfl⟩
          have B_Z : Below w.heap.size w XZ := by rw [← hXZ]; exact B_C.setCell (p := ⟨b18, 3, none⟩) hle _
          have U_Z : UB w.heap.size zeroU XZ := by rw [← hXZ]; exact U_C.other hne _
          have H_Z := By.set (i := 3) (u := .slice qW nW cW) H_C W_C (nb8 ⟨_, _, _, rfl⟩ ⟨_, _, _, rfl⟩ ⟨_, _, _, rfl⟩ ⟨_, _, _, rfl⟩ ⟨_, _, _, rfl⟩)
          rw [hXZ] at H_Z
          have L_Z := By.set (i := 3) (u := .slice qW nW cW) L_C W_C (nb8 ⟨_, _, _, rfl⟩ ⟨_, _, _, rfl⟩ ⟨_, _, _, rfl⟩ ⟨_, _, _, rfl⟩ ⟨_, _, _, rfl⟩)
          rw [hXZ] at L_Z
          have GP_Z := By.set (i := 3) (u := .slice qW nW cW) GP_C W_C (nb8 ⟨_, _, _, rfl⟩ ⟨_, _, _, rfl⟩ ⟨_, _, _, rfl⟩ ⟨_, _, _, rfl⟩ ⟨_, _, _, rfl⟩)
          rw [hXZ] at GP_Z
          have W_Z : UB b18 #[.slice qL k cL, .slice qH nH cH, .int .i64 pv, .slice qW nW cW, .slice none 0 0, .slice none 0 0, .bool false, .bool false] XZ := by rw [← hXZ]; exact (W_C.set8 (.slice qW nW cW)).2.1
          clear GP_C W_C L_C H_C U_C B_C
          have HXZ := Lib.hid hXZ
          clear hXZ
          by_cases hp0 : (pv : Int) = 0
          case pos =>
            have e0 : (((pv : Int)) == 0) = true := by rw [beq_iff_eq]; exact hp0
            have hpo := HPO.out
            rw [hp0] at hpo
            clear hp0
            have HE := Lib.hid (show canonU t = .inl 2 by rw [HC.out]; exact rest_port _ r HS.out HPE.out hpo)
            go_wp2
            rw [HXZ.out]
            obtain ⟨Y, hY, hU, hkY, hbY⟩ := UB.put (show UB w.heap.size #[.slice none 0 0, .slice none 0 0, .int .i64 0, .slice none 0 0, .slice none 0 0, .slice none 0 0, .bool false, .bool false] _ from U_Z) (.slice none 0 0) (.slice none 0 0) (.int .i64 0) (.slice none 0 0) (.slice none 0 0) (.slice none 0 0) (.bool false) (.bool false)
            rw [hY]
            (try simp only [Exit.inBlock, Exit.then])
            refine bodyPost_ret (ret_url2 rfl _ _ w.heap.size _ rfl hU rfl) rfl ?_
            rw [HE.out]
            exact ⟨by decide, rfl, B_Z.trans (hbY _ (Nat.le_refl _))⟩
          have e0 : (((pv : Int)) == 0) = false := by rw [beq_eq_false_iff_ne]; exact hp0
          have hpo : portC (Ref.lowL s) (atSnd 58 (srvL r)) (atOk 58 (srvL r)) ≠ 0 := by rw [HPO.out]; exact hp0
          cases hpp : pathL (pthL r) with
          | none =>
            obtain rfl : ep = 2 := by have := HEP.out; rw [hpp] at this; exact this
            have hpp2 := Lib.hid hpp
            clear hpp
            have HE := Lib.hid (show canonU t = .inl 2 by rw [HC.out]; exact rest_path _ r HS.out HPE.out hpp2.out)
            go_wp2
            rw [HXZ.out]
            obtain ⟨Y, hY, hU, hkY, hbY⟩ := UB.put (show UB w.heap.size #[.slice none 0 0, .slice none 0 0, .int .i64 0, .slice none 0 0, .slice none 0 0, .slice none 0 0, .bool false, .bool false] _ from U_Z) (.slice none 0 0) (.slice none 0 0) (.int .i64 0) (.slice none 0 0) (.slice none 0 0) (.slice none 0 0) (.bool false) (.bool false)
            rw [hY]
            (try simp only [Exit.inBlock, Exit.then])
            refine bodyPost_ret (ret_url2 rfl _ _ w.heap.size _ rfl hU rfl) rfl ?_
            rw [HE.out]
            exact ⟨by decide, rfl, B_Z.trans (hbY _ (Nat.le_refl _))⟩
          | some pp =>
            obtain rfl : ep = 0 := by have := HEP.out; rw [hpp] at this; exact this
            have h3 : optC (atOk 63 (atFst 35 r)) (atSnd 63 (atFst 35 r)) = some [] := by rw [Hbq.out]; rfl
            have h4 : optC (atOk 35 r) (atSnd 35 r) = some [] := by rw [Hbf.out]; rfl
            obtain ⟨pn, hpn, hrg⟩ := rest_good _ r HS.out HPE.out pp [] [] hpo hpp h3 h4
            rw [Hbq.out, Hbf.out] at hrg
            have hpn2 : (pv : Int) = (pn : Int) := by rw [← HPO.out]; exact hpn
            have HE := Lib.hid (HC.out.trans hrg)
            have HPN := Lib.hid hpn2
            rw [hpp] at GP_Z
            clear hpo hrg hpn hpn2 h3 h4 hpp  hp0
            go_wp2
            rw [HXZ.out]
            obtain ⟨Y, hY, hU, hkY, hbY⟩ := UB.put (show UB w.heap.size #[.slice none 0 0, .slice none 0 0, .int .i64 0, .slice none 0 0, .slice none 0 0, .slice none 0 0, .bool false, .bool false] _ from U_Z) (.slice qL k cL) (.slice qH nH cH) (.int .i64 pv) (.slice qW nW cW) (.slice none 0 0) (.slice none 0 0) (.bool false) (.bool false)
            rw [hY]
            (try simp only [Exit.inBlock, Exit.then])
            refine bodyPost_ret (ret_url2 rfl _ _ w.heap.size _ rfl hU rfl) rfl ?_
            rw [HE.out]
            refine ⟨_, rfl, ⟨qL, k, cL, qH, nH, cH, qW, nW, cW, none, 0, 0, none, 0, 0, by rw [HPN.out], L_Z.away U_Z nbz hkY, H_Z.away U_Z nbz hkY, GP_Z.away U_Z nbz hkY, by_nil _, by_nil _⟩, B_Z.trans (hbY _ (Nat.le_refl _))⟩
        | true =>
          have yb := W_C.box
          have yc3 := yb 3 _ rfl
          have yf3 := W_C.frozen 3
          clear yb
          go_wp2_with fail
          clear yc3 yf3
          obtain ⟨XF, hXF⟩ : ∃ Z, XC.setCell ⟨b18, 3, none⟩ (.slice qW nW cW) = Z := ⟨_, rfl⟩
          rw [hXF]
          have B_F : Below w.heap.size w XF := by rw [← hXF]; exact B_C.setCell (p := ⟨b18, 3, none⟩) hle _
          have U_F : UB w.heap.size zeroU XF := by rw [← hXF]; exact U_C.other hne _
          have F_F := By.set (i := 3) (u := .slice qW nW cW) F_C W_C (nb8 ⟨_, _, _, rfl⟩ ⟨_, _, _, rfl⟩ ⟨_, _, _, rfl⟩ ⟨_, _, _, rfl⟩ ⟨_, _, _, rfl⟩)
          rw [hXF] at F_F
          have H_F := By.set (i := 3) (u := .slice qW nW cW) H_C W_C (nb8 ⟨_, _, _, rfl⟩ ⟨_, _, _, rfl⟩ ⟨_, _, _, rfl⟩ ⟨_, _, _, rfl⟩ ⟨_, _, _, rfl⟩)
          rw [hXF] at H_F
          have L_F := By.set (i := 3) (u := .slice qW nW cW) L_C W_C (nb8 ⟨_, _, _, rfl⟩ ⟨_, _, _, rfl⟩ ⟨_, _, _, rfl⟩ ⟨_, _, _, rfl⟩ ⟨_, _, _, rfl⟩)
          rw [hXF] at L_F
          have GP_F := By.set (i := 3) (u := .slice qW nW cW) GP_C W_C (nb8 ⟨_, _, _, rfl⟩ ⟨_, _, _, rfl⟩ ⟨_, _, _, rfl⟩ ⟨_, _, _, rfl⟩ ⟨_, _, _, rfl⟩)
          rw [hXF] at GP_F
          have W_F : UB b18 #[.slice qL k cL, .slice qH nH cH, .int .i64 pv, .slice qW nW cW, .slice none 0 0, .slice none 0 0, .bool false, .bool true] XF := by rw [← hXF]; exact (W_C.set8 (.slice qW nW cW)).2.1
          clear GP_C W_C L_C H_C F_C U_C B_C
          clear hXF
          have con := Pct.Canon_any qF nF cF (atSnd 35 r) 2 XF F_F.at.1 (by omega) F_F.at.2.2.2.2
          refine con.mono ?_
          rintro e XG ⟨vZ, ef, rfl, hef, hr, hb⟩
          have HEF : Hid (ef = if (formL 2 (atSnd 35 r)).isSome then 0 else 2) := hef
          replace hr : XG.ownsRow XF.heap.size 5 1 vZ ((formL 2 (atSnd 35 r)).getD []).length (byV ((formL 2 (atSnd 35 r)).getD [])) := hr
          obtain ⟨nZ, hnZ⟩ : ∃ n, ((formL 2 (atSnd 35 r)).getD []).length = n := ⟨_, rfl⟩
          rw [hnZ] at hr
          obtain ⟨qZ, cZ, rfl, _, _, _, _, _⟩ := row_open hr
          have GF_G := By.row hr
          clear con hr hnZ hef
          have B_G := B_F.trans (hb.mono B_F.size)
          have U_G := U_F.on hb
          have F_G := F_F.on hb
          have H_G := H_F.on hb
          have L_G := L_F.on hb
          have W_G := W_F.on hb
          have GP_G := GP_F.on hb
          clear GP_F W_F L_F H_F F_F U_F B_F hb
          clear F_G
          have yb := W_G.box
          have yc0 := yb 0 _ rfl
          have yf0 := W_G.frozen 0
          have yc1 := yb 1 _ rfl
          have yf1 := W_G.frozen 1
          have yc2 := yb 2 _ rfl
          have yf2 := W_G.frozen 2
          have yc3 := yb 3 _ rfl
          have yf3 := W_G.frozen 3
          have yc4 := yb 4 _ rfl
          have yf4 := W_G.frozen 4
          have yc5 := yb 5 _ rfl
          have yf5 := W_G.frozen 5
          have yc6 := yb 6 _ rfl
          have yf6 := W_G.frozen 6
          have yc7 := yb 7 _ rfl
          have yf7 := W_G.frozen 7
          clear yb
          have zb := U_G.box
          have zc0 := zb 0 _ rfl
          have zf0 := U_G.frozen 0
          have zc1 := zb 1 _ rfl
          have zf1 := U_G.frozen 1
          have zc2 := zb 2 _ rfl
          have zf2 := U_G.frozen 2
          have zc3 := zb 3 _ rfl
          have zf3 := U_G.frozen 3
          have zc4 := zb 4 _ rfl
          have zf4 := U_G.frozen 4
          have zc5 := zb 5 _ rfl
          have zf5 := U_G.frozen 5
          have zc6 := zb 6 _ rfl
          have zf6 := U_G.frozen 6
          have zc7 := zb 7 _ rfl
          have zf7 := U_G.frozen 7
          clear zb
          obtain ⟨XZ, hXZ⟩ : ∃ Z, XG.setCell ⟨b18, 5, none⟩ (.slice qZ nZ cZ) = Z := ⟨_, rfl⟩
          have B_Z : Below w.heap.size w XZ := by rw [← hXZ]; exact B_G.setCell (p := ⟨b18, 5, none⟩) hle _
          have U_Z : UB w.heap.size zeroU XZ := by rw [← hXZ]; exact U_G.other hne _
          have H_Z := By.set (i := 5) (u := .slice qZ nZ cZ) H_G W_G (nb8 ⟨_, _, _, rfl⟩ ⟨_, _, _, rfl⟩ ⟨_, _, _, rfl⟩ ⟨_, _, _, rfl⟩ ⟨_, _, _, rfl⟩)
          rw [hXZ] at H_Z
          have L_Z := By.set (i := 5) (u := .slice qZ nZ cZ) L_G W_G (nb8 ⟨_, _, _, rfl⟩ ⟨_, _, _, rfl⟩ ⟨_, _, _, rfl⟩ ⟨_, _, _, rfl⟩ ⟨_, _, _, rfl⟩)
          rw [hXZ] at L_Z
          have GP_Z := By.set (i := 5) (u := .slice qZ nZ cZ) GP_G W_G (nb8 ⟨_, _, _, rfl⟩ ⟨_, _, _, rfl⟩ ⟨_, _, _, rfl⟩ ⟨_, _, _, rfl⟩ ⟨_, _, _, rfl⟩)
          rw [hXZ] at GP_Z
          have GF_Z := By.set (i := 5) (u := .slice qZ nZ cZ) GF_G W_G (nb8 ⟨_, _, _, rfl⟩ ⟨_, _, _, rfl⟩ ⟨_, _, _, rfl⟩ ⟨_, _, _, rfl⟩ ⟨_, _, _, rfl⟩)
          rw [hXZ] at GF_Z
          have W_Z : UB b18 #[.slice qL k cL, .slice qH nH cH, .int .i64 pv, .slice qW nW cW, .slice none 0 0, .slice qZ nZ cZ, .bool false, .bool true] XZ := by rw [← hXZ]; exact (W_G.set8 (.slice qZ nZ cZ)).2.2.2
          clear GF_G GP_G W_G L_G H_G U_G B_G
          have HXZ := Lib.hid hXZ
          clear hXZ
          by_cases hp0 : (pv : Int) = 0
          case pos =>
            have e0 : (((pv : Int)) == 0) = true := by rw [beq_iff_eq]; exact hp0
            have hpo := HPO.out
            rw [hp0] at hpo
            clear hp0
            have HE := Lib.hid (show canonU t = .inl 2 by rw [HC.out]; exact rest_port _ r HS.out HPE.out hpo)
            go_wp2
            rw [HXZ.out]
            obtain ⟨Y, hY, hU, hkY, hbY⟩ := UB.put (show UB w.heap.size #[.slice none 0 0, .slice none 0 0, .int .i64 0, .slice none 0 0, .slice none 0 0, .slice none 0 0, .bool false, .bool false] _ from U_Z) (.slice none 0 0) (.slice none 0 0) (.int .i64 0) (.slice none 0 0) (.slice none 0 0) (.slice none 0 0) (.bool false) (.bool false)
            rw [hY]
            (try simp only [Exit.inBlock, Exit.then])
            refine bodyPost_ret (ret_url2 rfl _ _ w.heap.size _ rfl hU rfl) rfl ?_
            rw [HE.out]
            exact ⟨by decide, rfl, B_Z.trans (hbY _ (Nat.le_refl _))⟩
          have e0 : (((pv : Int)) == 0) = false := by rw [beq_eq_false_iff_ne]; exact hp0
          have hpo : portC (Ref.lowL s) (atSnd 58 (srvL r)) (atOk 58 (srvL r)) ≠ 0 := by rw [HPO.out]; exact hp0
          cases hpp : pathL (pthL r) with
          | none =>
            obtain rfl : ep = 2 := by have := HEP.out; rw [hpp] at this; exact this
            have hpp2 := Lib.hid hpp
            clear hpp
            have HE := Lib.hid (show canonU t = .inl 2 by rw [HC.out]; exact rest_path _ r HS.out HPE.out hpp2.out)
            go_wp2
            rw [HXZ.out]
            obtain ⟨Y, hY, hU, hkY, hbY⟩ := UB.put (show UB w.heap.size #[.slice none 0 0, .slice none 0 0, .int .i64 0, .slice none 0 0, .slice none 0 0, .slice none 0 0, .bool false, .bool false] _ from U_Z) (.slice none 0 0) (.slice none 0 0) (.int .i64 0) (.slice none 0 0) (.slice none 0 0) (.slice none 0 0) (.bool false) (.bool false)
            rw [hY]
            (try simp only [Exit.inBlock, Exit.then])
            refine bodyPost_ret (ret_url2 rfl _ _ w.heap.size _ rfl hU rfl) rfl ?_
            rw [HE.out]
            exact ⟨by decide, rfl, B_Z.trans (hbY _ (Nat.le_refl _))⟩
          | some pp =>
            obtain rfl : ep = 0 := by have := HEP.out; rw [hpp] at this; exact this
            cases hff : formL 2 (atSnd 35 r) with
            | none =>
              obtain rfl : ef = 2 := by have := HEF.out; rw [hff] at this; exact this
              have h4 := Lib.hid (show optC (atOk 35 r) (atSnd 35 r) = none by rw [Hbf.out]; exact hff)
              clear hff hpp
              have HE := Lib.hid (show canonU t = .inl 2 by rw [HC.out]; exact rest_frag _ r HS.out HPE.out h4.out)
              go_wp2
              rw [HXZ.out]
              obtain ⟨Y, hY, hU, hkY, hbY⟩ := UB.put (show UB w.heap.size #[.slice none 0 0, .slice none 0 0, .int .i64 0, .slice none 0 0, .slice none 0 0, .slice none 0 0, .bool false, .bool false] _ from U_Z) (.slice none 0 0) (.slice none 0 0) (.int .i64 0) (.slice none 0 0) (.slice none 0 0) (.slice none 0 0) (.bool false) (.bool false)
              rw [hY]
              (try simp only [Exit.inBlock, Exit.then])
              refine bodyPost_ret (ret_url2 rfl _ _ w.heap.size _ rfl hU rfl) rfl ?_
              rw [HE.out]
              exact ⟨by decide, rfl, B_Z.trans (hbY _ (Nat.le_refl _))⟩
            | some ff =>
              obtain rfl : ef = 0 := by have := HEF.out; rw [hff] at this; exact this
              have h3 : optC (atOk 63 (atFst 35 r)) (atSnd 63 (atFst 35 r)) = some [] := by rw [Hbq.out]; rfl
              have h4 : optC (atOk 35 r) (atSnd 35 r) = some ff := by rw [Hbf.out]; exact hff
              obtain ⟨pn, hpn, hrg⟩ := rest_good _ r HS.out HPE.out pp [] ff hpo hpp h3 h4
              rw [Hbq.out, Hbf.out] at hrg
              have hpn2 : (pv : Int) = (pn : Int) := by rw [← HPO.out]; exact hpn
              have HE := Lib.hid (HC.out.trans hrg)
              have HPN := Lib.hid hpn2
              rw [hpp] at GP_Z
              rw [hff] at GF_Z
              clear hpo hrg hpn hpn2 h3 h4 hpp hff hp0
              go_wp2
              rw [HXZ.out]
              obtain ⟨Y, hY, hU, hkY, hbY⟩ := UB.put (show UB w.heap.size #[.slice none 0 0, .slice none 0 0, .int .i64 0, .slice none 0 0, .slice none 0 0, .slice none 0 0, .bool false, .bool false] _ from U_Z) (.slice qL k cL) (.slice qH nH cH) (.int .i64 pv) (.slice qW nW cW) (.slice none 0 0) (.slice qZ nZ cZ) (.bool false) (.bool true)
              rw [hY]
              (try simp only [Exit.inBlock, Exit.then])
              refine bodyPost_ret (ret_url2 rfl _ _ w.heap.size _ rfl hU rfl) rfl ?_
              rw [HE.out]
              refine ⟨_, rfl, ⟨qL, k, cL, qH, nH, cH, qW, nW, cW, none, 0, 0, qZ, nZ, cZ, by rw [HPN.out], L_Z.away U_Z nbz hkY, H_Z.away U_Z nbz hkY, GP_Z.away U_Z nbz hkY, by_nil _, GF_Z.away U_Z nbz hkY⟩, B_Z.trans (hbY _ (Nat.le_refl _))⟩
      | true =>
        have yb := W_C.box
        have yc3 := yb 3 _ rfl
        have yf3 := W_C.frozen 3
        clear yb
        go_wp2_with fail
        clear yc3 yf3
        obtain ⟨XD, hXD⟩ : ∃ Z, XC.setCell ⟨b18, 3, none⟩ (.slice qW nW cW) = Z := ⟨_, rfl⟩
        rw [hXD]
        have B_D : Below w.heap.size w XD := by rw [← hXD]; exact B_C.setCell (p := ⟨b18, 3, none⟩) hle _
        have U_D : UB w.heap.size zeroU XD := by rw [← hXD]; exact U_C.other hne _
        have F_D := By.set (i := 3) (u := .slice qW nW cW) F_C W_C (nb8 ⟨_, _, _, rfl⟩ ⟨_, _, _, rfl⟩ ⟨_, _, _, rfl⟩ ⟨_, _, _, rfl⟩ ⟨_, _, _, rfl⟩)
        rw [hXD] at F_D
        have Q_D := By.set (i := 3) (u := .slice qW nW cW) Q_C W_C (nb8 ⟨_, _, _, rfl⟩ ⟨_, _, _, rfl⟩ ⟨_, _, _, rfl⟩ ⟨_, _, _, rfl⟩ ⟨_, _, _, rfl⟩)
        rw [hXD] at Q_D
        have H_D := By.set (i := 3) (u := .slice qW nW cW) H_C W_C (nb8 ⟨_, _, _, rfl⟩ ⟨_, _, _, rfl⟩ ⟨_, _, _, rfl⟩ ⟨_, _, _, rfl⟩ ⟨_, _, _, rfl⟩)
        rw [hXD] at H_D
        have L_D := By.set (i := 3) (u := .slice qW nW cW) L_C W_C (nb8 ⟨_, _, _, rfl⟩ ⟨_, _, _, rfl⟩ ⟨_, _, _, rfl⟩ ⟨_, _, _, rfl⟩ ⟨_, _, _, rfl⟩)
        rw [hXD] at L_D
        have GP_D := By.set (i := 3) (u := .slice qW nW cW) GP_C W_C (nb8 ⟨_, _, _, rfl⟩ ⟨_, _, _, rfl⟩ ⟨_, _, _, rfl⟩ ⟨_, _, _, rfl⟩ ⟨_, _, _, rfl⟩)
        rw [hXD] at GP_D
        have W_D : UB b18 #[.slice qL k cL, .slice qH nH cH, .int .i64 pv, .slice qW nW cW, .slice none 0 0, .slice none 0 0, .bool true, .bool bf] XD := by rw [← hXD]; exact (W_C.set8 (.slice qW nW cW)).2.1
        clear GP_C W_C L_C H_C Q_C F_C U_C B_C
        clear hXD
        have con := Pct.Canon_any qQ nQ cQ (atSnd 63 (atFst 35 r)) 2 XD Q_D.at.1 (by omega) Q_D.at.2.2.2.2
        refine con.mono ?_
        rintro e XE ⟨vY, eq, rfl, heq, hr, hb⟩
        have HEQ : Hid (eq = if (formL 2 (atSnd 63 (atFst 35 r))).isSome then 0 else 2) := heq
        replace hr : XE.ownsRow XD.heap.size 5 1 vY ((formL 2 (atSnd 63 (atFst 35 r))).getD []).length (byV ((formL 2 (atSnd 63 (atFst 35 r))).getD [])) := hr
        obtain ⟨nY, hnY⟩ : ∃ n, ((formL 2 (atSnd 63 (atFst 35 r))).getD []).length = n := ⟨_, rfl⟩
        rw [hnY] at hr
        obtain ⟨qY, cY, rfl, _, _, _, _, _⟩ := row_open hr
        have GQ_E := By.row hr
        clear con hr hnY heq
        have B_E := B_D.trans (hb.mono B_D.size)
        have U_E := U_D.on hb
        have F_E := F_D.on hb
        have Q_E := Q_D.on hb
        have H_E := H_D.on hb
        have L_E := L_D.on hb
        have W_E := W_D.on hb
        have GP_E := GP_D.on hb
        clear GP_D W_D L_D H_D Q_D F_D U_D B_D hb
        clear Q_E
        cases bf with
        | false =>
          clear F_E
          have yb := W_E.box
          have yc0 := yb 0 _ rfl
          have yf0 := W_E.frozen 0
          have yc1 := yb 1 _ rfl
          have yf1 := W_E.frozen 1
          have yc2 := yb 2 _ rfl
          have yf2 := W_E.frozen 2
          have yc3 := yb 3 _ rfl
          have yf3 := W_E.frozen 3
          have yc4 := yb 4 _ rfl
          have yf4 := W_E.frozen 4
          have yc5 := yb 5 _ rfl
          have yf5 := W_E.frozen 5
          have yc6 := yb 6 _ rfl
          have yf6 := W_E.frozen 6
          have yc7 := yb 7 _ rfl
          have yf7 := W_E.frozen 7
          clear yb
          have zb := U_E.box
          have zc0 := zb 0 _ rfl
          have zf0 := U_E.frozen 0
          have zc1 := zb 1 _ rfl
          have zf1 := U_E.frozen 1
          have zc2 := zb 2 _ rfl
          have zf2 := U_E.frozen 2
          have zc3 := zb 3 _ rfl
          have zf3 := U_E.frozen 3
          have zc4 := zb 4 _ rfl
          have zf4 := U_E.frozen 4
          have zc5 := zb 5 _ rfl
          have zf5 := U_E.frozen 5
          have zc6 := zb 6 _ rfl
          have zf6 := U_E.frozen 6
          have zc7 := zb 7 _ rfl
          have zf7 := U_E.frozen 7
          clear zb
          obtain ⟨XZ, hXZ⟩ : ∃ Z, XE.setCell ⟨b18, 4, none⟩ (.slice qY nY cY) = Z := ⟨_, rfl⟩
          have B_Z : Below w.heap.size w XZ := by rw [← hXZ]; exact B_E.setCell (p := ⟨b18, 4, none⟩) hle _
          have U_Z : UB w.heap.size zeroU XZ := by rw [← hXZ]; exact U_E.other hne _
          have H_Z := By.set (i := 4) (u := .slice qY nY cY) H_E W_E (nb8 ⟨_, _, _, rfl⟩ ⟨_, _, _, rfl⟩ ⟨_, _, _, rfl⟩ ⟨_, _, _, rfl⟩ ⟨_, _, _, rfl⟩)
          rw [hXZ] at H_Z
          have L_Z := By.set (i := 4) (u := .slice qY nY cY) L_E W_E (nb8 ⟨_, _, _, rfl⟩ ⟨_, _, _, rfl⟩ ⟨_, _, _, rfl⟩ ⟨_, _, _, rfl⟩ ⟨_, _, _, rfl⟩)
          rw [hXZ] at L_Z
          have GP_Z := By.set (i := 4) (u := .slice qY nY cY) GP_E W_E (nb8 ⟨_, _, _, rfl⟩ ⟨_, _, _, rfl⟩ ⟨_, _, _, rfl⟩ ⟨_, _, _, rfl⟩ ⟨_, _, _, rfl⟩)
          rw [hXZ] at GP_Z
          have GQ_Z := By.set (i := 4) (u := .slice qY nY cY) GQ_E W_E (nb8 ⟨_, _, _, rfl⟩ ⟨_, _, _, rfl⟩ ⟨_, _, _, rfl⟩ ⟨_, _, _, rfl⟩ ⟨_, _, _, rfl⟩)
          rw [hXZ] at GQ_Z
          have W_Z : UB b18 #[.slice qL k cL, .slice qH nH cH, .int .i64 pv, .slice qW nW cW, .slice qY nY cY, .slice none 0 0, .bool true, .bool false] XZ := by rw [← hXZ]; exact (W_E.set8 (.slice qY nY cY)).2.2.1
          clear GQ_E GP_E W_E L_E H_E U_E B_E
          have HXZ := Lib.hid hXZ
          clear hXZ
          by_cases hp0 : (pv : Int) = 0
          case pos =>
            have e0 : (((pv : Int)) == 0) = true := by rw [beq_iff_eq]; exact hp0
            have hpo := HPO.out
            rw [hp0] at hpo
            clear hp0
            have HE := Lib.hid (show canonU t = .inl 2 by rw [HC.out]; exact rest_port _ r HS.out HPE.out hpo)
            go_wp2
            rw [HXZ.out]
            obtain ⟨Y, hY, hU, hkY, hbY⟩ := UB.put (show UB w.heap.size #[.slice none 0 0, .slice none 0 0, .int .i64 0, .slice none 0 0, .slice none 0 0, .slice none 0 0, .bool false, .bool false] _ from U_Z) (.slice none 0 0) (.slice none 0 0) (.int .i64 0) (.slice none 0 0) (.slice none 0 0) (.slice none 0 0) (.bool false) (.bool false)
            rw [hY]
            (try simp only [Exit.inBlock, Exit.then])
            refine bodyPost_ret (ret_url2 rfl _ _ w.heap.size _ rfl hU rfl) rfl ?_
            rw [HE.out]
            exact ⟨by decide, rfl, B_Z.trans (hbY _ (Nat.le_refl _))⟩
          have e0 : (((pv : Int)) == 0) = false := by rw [beq_eq_false_iff_ne]; exact hp0
          have hpo : portC (Ref.lowL s) (atSnd 58 (srvL r)) (atOk 58 (srvL r)) ≠ 0 := by rw [HPO.out]; exact hp0
          cases hpp : pathL (pthL r) with
          | none =>
            obtain rfl : ep = 2 := by have := HEP.out; rw [hpp] at this; exact this
            have hpp2 := Lib.hid hpp
            clear hpp
            have HE := Lib.hid (show canonU t = .inl 2 by rw [HC.out]; exact rest_path _ r HS.out HPE.out hpp2.out)
            go_wp2
            rw [HXZ.out]
            obtain ⟨Y, hY, hU, hkY, hbY⟩ := UB.put (show UB w.heap.size #[.slice none 0 0, .slice none 0 0, .int .i64 0, .slice none 0 0, .slice none 0 0, .slice none 0 0, .bool false, .bool false] _ from U_Z) (.slice none 0 0) (.slice none 0 0) (.int .i64 0) (.slice none 0 0) (.slice none 0 0) (.slice none 0 0) (.bool false) (.bool false)
            rw [hY]
            (try simp only [Exit.inBlock, Exit.then])
            refine bodyPost_ret (ret_url2 rfl _ _ w.heap.size _ rfl hU rfl) rfl ?_
            rw [HE.out]
            exact ⟨by decide, rfl, B_Z.trans (hbY _ (Nat.le_refl _))⟩
          | some pp =>
            obtain rfl : ep = 0 := by have := HEP.out; rw [hpp] at this; exact this
            cases hqq : formL 2 (atSnd 63 (atFst 35 r)) with
            | none =>
              obtain rfl : eq = 2 := by have := HEQ.out; rw [hqq] at this; exact this
              have h3 := Lib.hid (show optC (atOk 63 (atFst 35 r)) (atSnd 63 (atFst 35 r)) = none by rw [Hbq.out]; exact hqq)
              clear hqq hpp
              have HE := Lib.hid (show canonU t = .inl 2 by rw [HC.out]; exact rest_query _ r HS.out HPE.out h3.out)
              go_wp2
              rw [HXZ.out]
              obtain ⟨Y, hY, hU, hkY, hbY⟩ := UB.put (show UB w.heap.size #[.slice none 0 0, .slice none 0 0, .int .i64 0, .slice none 0 0, .slice none 0 0, .slice none 0 0, .bool false, .bool false] _ from U_Z) (.slice none 0 0) (.slice none 0 0) (.int .i64 0) (.slice none 0 0) (.slice none 0 0) (.slice none 0 0) (.bool false) (.bool false)
              rw [hY]
              (try simp only [Exit.inBlock, Exit.then])
              refine bodyPost_ret (ret_url2 rfl _ _ w.heap.size _ rfl hU rfl) rfl ?_
              rw [HE.out]
              exact ⟨by decide, rfl, B_Z.trans (hbY _ (Nat.le_refl _))⟩
            | some qq =>
              obtain rfl : eq = 0 := by have := HEQ.out; rw [hqq] at this; exact this
              have h3 : optC (atOk 63 (atFst 35 r)) (atSnd 63 (atFst 35 r)) = some qq := by rw [Hbq.out]; exact hqq
              have h4 : optC (atOk 35 r) (atSnd 35 r) = some [] := by rw [Hbf.out]; rfl
              obtain ⟨pn, hpn, hrg⟩ := rest_good _ r HS.out HPE.out pp qq [] hpo hpp h3 h4
              rw [Hbq.out, Hbf.out] at hrg
              have hpn2 : (pv : Int) = (pn : Int) := by rw [← HPO.out]; exact hpn
              have HE := Lib.hid (HC.out.trans hrg)
              have HPN := Lib.hid hpn2
              rw [hpp] at GP_Z
              rw [hqq] at GQ_Z
              clear hpo hrg hpn hpn2 h3 h4 hpp hqq  hp0
              go_wp2
              rw [HXZ.out]
              obtain ⟨Y, hY, hU, hkY, hbY⟩ := UB.put (show UB w.heap.size #[.slice none 0 0, .slice none 0 0, .int .i64 0, .slice none 0 0, .slice none 0 0, .slice none 0 0, .bool false, .bool false] _ from U_Z) (.slice qL k cL) (.slice qH nH cH) (.int .i64 pv) (.slice qW nW cW) (.slice qY nY cY) (.slice none 0 0) (.bool true) (.bool false)
              rw [hY]
              (try simp only [Exit.inBlock, Exit.then])
              refine bodyPost_ret (ret_url2 rfl _ _ w.heap.size _ rfl hU rfl) rfl ?_
              rw [HE.out]
              refine ⟨_, rfl, ⟨qL, k, cL, qH, nH, cH, qW, nW, cW, qY, nY, cY, none, 0, 0, by rw [HPN.out], L_Z.away U_Z nbz hkY, H_Z.away U_Z nbz hkY, GP_Z.away U_Z nbz hkY, GQ_Z.away U_Z nbz hkY, by_nil _⟩, B_Z.trans (hbY _ (Nat.le_refl _))⟩
        | true =>
          have yb := W_E.box
          have yc4 := yb 4 _ rfl
          have yf4 := W_E.frozen 4
          clear yb
          go_wp2_with fail
          clear yc4 yf4
          obtain ⟨XF, hXF⟩ : ∃ Z, XE.setCell ⟨b18, 4, none⟩ (.slice qY nY cY) = Z := ⟨_, rfl⟩
          rw [hXF]
          have B_F : Below w.heap.size w XF := by rw [← hXF]; exact B_E.setCell (p := ⟨b18, 4, none⟩) hle _
          have U_F : UB w.heap.size zeroU XF := by rw [← hXF]; exact U_E.other hne _
          have F_F := By.set (i := 4) (u := .slice qY nY cY) F_E W_E (nb8 ⟨_, _, _, rfl⟩ ⟨_, _, _, rfl⟩ ⟨_, _, _, rfl⟩ ⟨_, _, _, rfl⟩ ⟨_, _, _, rfl⟩)
          rw [hXF] at F_F
          have H_F := By.set (i := 4) (u := .slice qY nY cY) H_E W_E (nb8 ⟨_, _, _, rfl⟩ ⟨_, _, _, rfl⟩ ⟨_, _, _, rfl⟩ ⟨_, _, _, rfl⟩ ⟨_, _, _, rfl⟩)
          rw [hXF] at H_F
          have L_F := By.set (i := 4) (u := .slice qY nY cY) L_E W_E (nb8 ⟨_, _, _, rfl⟩ ⟨_, _, _, rfl⟩ ⟨_, _, _, rfl⟩ ⟨_, _, _, rfl⟩ ⟨_, _, _, rfl⟩)
          rw [hXF] at L_F
          have GP_F := By.set (i := 4) (u := .slice qY nY cY) GP_E W_E (nb8 ⟨_, _, _, rfl⟩ ⟨_, _, _, rfl⟩ ⟨_, _, _, rfl⟩ ⟨_, _, _, rfl⟩ ⟨_, _, _, rfl⟩)
          rw [hXF] at GP_F
          have GQ_F := By.set (i := 4) (u := .slice qY nY cY) GQ_E W_E (nb8 ⟨_, _, _, rfl⟩ ⟨_, _, _, rfl⟩ ⟨_, _, _, rfl⟩ ⟨_, _, _, rfl⟩ ⟨_, _, _, rfl⟩)
          rw [hXF] at GQ_F
          have W_F : UB b18 #[.slice qL k cL, .slice qH nH cH, .int .i64 pv, .slice qW nW cW, .slice qY nY cY, .slice none 0 0, .bool true, .bool true] XF := by rw [← hXF]; exact (W_E.set8 (.slice qY nY cY)).2.2.1
          clear GQ_E GP_E W_E L_E H_E F_E U_E B_E
          clear hXF
          have con := Pct.Canon_any qF nF cF (atSnd 35 r) 2 XF F_F.at.1 (by omega) F_F.at.2.2.2.2
          refine con.mono ?_
          rintro e XG ⟨vZ, ef, rfl, hef, hr, hb⟩
          have HEF : Hid (ef = if (formL 2 (atSnd 35 r)).isSome then 0 else 2) := hef
          replace hr : XG.ownsRow XF.heap.size 5 1 vZ ((formL 2 (atSnd 35 r)).getD []).length (byV ((formL 2 (atSnd 35 r)).getD [])) := hr
          obtain ⟨nZ, hnZ⟩ : ∃ n, ((formL 2 (atSnd 35 r)).getD []).length = n := ⟨_, rfl⟩
          rw [hnZ] at hr
          obtain ⟨qZ, cZ, rfl, _, _, _, _, _⟩ := row_open hr
          have GF_G := By.row hr
          clear con hr hnZ hef
          have B_G := B_F.trans (hb.mono B_F.size)
          have U_G := U_F.on hb
          have F_G := F_F.on hb
          have H_G := H_F.on hb
          have L_G := L_F.on hb
          have W_G := W_F.on hb
          have GP_G := GP_F.on hb
          have GQ_G := GQ_F.on hb
          clear GQ_F GP_F W_F L_F H_F F_F U_F B_F hb
          clear F_G
          have yb := W_G.box
          have yc0 := yb 0 _ rfl
          have yf0 := W_G.frozen 0
          have yc1 := yb 1 _ rfl
          have yf1 := W_G.frozen 1
          have yc2 := yb 2 _ rfl
          have yf2 := W_G.frozen 2
          have yc3 := yb 3 _ rfl
          have yf3 := W_G.frozen 3
          have yc4 := yb 4 _ rfl
          have yf4 := W_G.frozen 4
          have yc5 := yb 5 _ rfl
          have yf5 := W_G.frozen 5
          have yc6 := yb 6 _ rfl
          have yf6 := W_G.frozen 6
          have yc7 := yb 7 _ rfl
          have yf7 := W_G.frozen 7
          clear yb
          have zb := U_G.box
          have zc0 := zb 0 _ rfl
          have zf0 := U_G.frozen 0
          have zc1 := zb 1 _ rfl
          have zf1 := U_G.frozen 1
          have zc2 := zb 2 _ rfl
          have zf2 := U_G.frozen 2
          have zc3 := zb 3 _ rfl
          have zf3 := U_G.frozen 3
          have zc4 := zb 4 _ rfl
          have zf4 := U_G.frozen 4
          have zc5 := zb 5 _ rfl
          have zf5 := U_G.frozen 5
          have zc6 := zb 6 _ rfl
          have zf6 := U_G.frozen 6
          have zc7 := zb 7 _ rfl
          have zf7 := U_G.frozen 7
          clear zb
          obtain ⟨XZ, hXZ⟩ : ∃ Z, XG.setCell ⟨b18, 5, none⟩ (.slice qZ nZ cZ) = Z := ⟨_, rfl⟩
          have B_Z : Below w.heap.size w XZ := by rw [← hXZ]; exact B_G.setCell (p := ⟨b18, 5, none⟩) hle _
          have U_Z : UB w.heap.size zeroU XZ := by rw [← hXZ]; exact U_G.other hne _
          have H_Z := By.set (i := 5) (u := .slice qZ nZ cZ) H_G W_G (nb8 ⟨_, _, _, rfl⟩ ⟨_, _, _, rfl⟩ ⟨_, _, _, rfl⟩ ⟨_, _, _, rfl⟩ ⟨_, _, _, rfl⟩)
          rw [hXZ] at H_Z
          have L_Z := By.set (i := 5) (u := .slice qZ nZ cZ) L_G W_G (nb8 ⟨_, _, _, rfl⟩ ⟨_, _, _, rfl⟩ ⟨_, _, _, rfl⟩ ⟨_, _, _, rfl⟩ ⟨_, _, _, rfl⟩)
          rw [hXZ] at L_Z
          have GP_Z := By.set (i := 5) (u := .slice qZ nZ cZ) GP_G W_G (nb8 ⟨_, _, _, rfl⟩ ⟨_, _, _, rfl⟩ ⟨_, _, _, rfl⟩ ⟨_, _, _, rfl⟩ ⟨_, _, _, rfl⟩)
          rw [hXZ] at GP_Z
          have GQ_Z := By.set (i := 5) (u := .slice qZ nZ cZ) GQ_G W_G (nb8 ⟨_, _, _, rfl⟩ ⟨_, _, _, rfl⟩ ⟨_, _, _, rfl⟩ ⟨_, _, _, rfl⟩ ⟨_, _, _, rfl⟩)
          rw [hXZ] at GQ_Z
          have GF_Z := By.set (i := 5) (u := .slice qZ nZ cZ) GF_G W_G (nb8 ⟨_, _, _, rfl⟩ ⟨_, _, _, rfl⟩ ⟨_, _, _, rfl⟩ ⟨_, _, _, rfl⟩ ⟨_, _, _, rfl⟩)
          rw [hXZ] at GF_Z
          have W_Z : UB b18 #[.slice qL k cL, .slice qH nH cH, .int .i64 pv, .slice qW nW cW, .slice qY nY cY, .slice qZ nZ cZ, .bool true, .bool true] XZ := by rw [← hXZ]; exact (W_G.set8 (.slice qZ nZ cZ)).2.2.2
          clear GF_G GQ_G GP_G W_G L_G H_G U_G B_G
          have HXZ := Lib.hid hXZ
          clear hXZ
          by_cases hp0 : (pv : Int) = 0
          case pos =>
            have e0 : (((pv : Int)) == 0) = true := by rw [beq_iff_eq]; exact hp0
            have hpo := HPO.out
            rw [hp0] at hpo
            clear hp0
            have HE := Lib.hid (show canonU t = .inl 2 by rw [HC.out]; exact rest_port _ r HS.out HPE.out hpo)
            go_wp2
            rw [HXZ.out]
            obtain ⟨Y, hY, hU, hkY, hbY⟩ := UB.put (show UB w.heap.size #[.slice none 0 0, .slice none 0 0, .int .i64 0, .slice none 0 0, .slice none 0 0, .slice none 0 0, .bool false, .bool false] _ from U_Z) (.slice none 0 0) (.slice none 0 0) (.int .i64 0) (.slice none 0 0) (.slice none 0 0) (.slice none 0 0) (.bool false) (.bool false)
            rw [hY]
            (try simp only [Exit.inBlock, Exit.then])
            refine bodyPost_ret (ret_url2 rfl _ _ w.heap.size _ rfl hU rfl) rfl ?_
            rw [HE.out]
            exact ⟨by decide, rfl, B_Z.trans (hbY _ (Nat.le_refl _))⟩
          have e0 : (((pv : Int)) == 0) = false := by rw [beq_eq_false_iff_ne]; exact hp0
          have hpo : portC (Ref.lowL s) (atSnd 58 (srvL r)) (atOk 58 (srvL r)) ≠ 0 := by rw [HPO.out]; exact hp0
          cases hpp : pathL (pthL r) with
          | none =>
            obtain rfl : ep = 2 := by have := HEP.out; rw [hpp] at this; exact this
            have hpp2 := Lib.hid hpp
            clear hpp
            have HE := Lib.hid (show canonU t = .inl 2 by rw [HC.out]; exact rest_path _ r HS.out HPE.out hpp2.out)
            go_wp2
            rw [HXZ.out]
            obtain ⟨Y, hY, hU, hkY, hbY⟩ := UB.put (show UB w.heap.size #[.slice none 0 0, .slice none 0 0, .int .i64 0, .slice none 0 0, .slice none 0 0, .slice none 0 0, .bool false, .bool false] _ from U_Z) (.slice none 0 0) (.slice none 0 0) (.int .i64 0) (.slice none 0 0) (.slice none 0 0) (.slice none 0 0) (.bool false) (.bool false)
            rw [hY]
            (try simp only [Exit.inBlock, Exit.then])
            refine bodyPost_ret (ret_url2 rfl _ _ w.heap.size _ rfl hU rfl) rfl ?_
            rw [HE.out]
            exact ⟨by decide, rfl, B_Z.trans (hbY _ (Nat.le_refl _))⟩
          | some pp =>
            obtain rfl : ep = 0 := by have := HEP.out; rw [hpp] at this; exact this
            cases hqq : formL 2 (atSnd 63 (atFst 35 r)) with
            | none =>
              obtain rfl : eq = 2 := by have := HEQ.out; rw [hqq] at this; exact this
              have h3 := Lib.hid (show optC (atOk 63 (atFst 35 r)) (atSnd 63 (atFst 35 r)) = none by rw [Hbq.out]; exact hqq)
              clear hqq hpp
              have HE := Lib.hid (show canonU t = .inl 2 by rw [HC.out]; exact rest_query _ r HS.out HPE.out h3.out)
              go_wp2
              rw [HXZ.out]
              obtain ⟨Y, hY, hU, hkY, hbY⟩ := UB.put (show UB w.heap.size #[.slice none 0 0, .slice none 0 0, .int .i64 0, .slice none 0 0, .slice none 0 0, .slice none 0 0, .bool false, .bool false] _ from U_Z) (.slice none 0 0) (.slice none 0 0) (.int .i64 0) (.slice none 0 0) (.slice none 0 0) (.slice none 0 0) (.bool false) (.bool false)
              rw [hY]
              (try simp only [Exit.inBlock, Exit.then])
              refine bodyPost_ret (ret_url2 rfl _ _ w.heap.size _ rfl hU rfl) rfl ?_
              rw [HE.out]
              exact ⟨by decide, rfl, B_Z.trans (hbY _ (Nat.le_refl _))⟩
            | some qq =>
              obtain rfl : eq = 0 := by have := HEQ.out; rw [hqq] at this; exact this
              cases hff : formL 2 (atSnd 35 r) with
              | none =>
                obtain rfl : ef = 2 := by have := HEF.out; rw [hff] at this; exact this
                have h4 := Lib.hid (show optC (atOk 35 r) (atSnd 35 r) = none by rw [Hbf.out]; exact hff)
                clear hff hpp
                have HE := Lib.hid (show canonU t = .inl 2 by rw [HC.out]; exact rest_frag _ r HS.out HPE.out h4.out)
                go_wp2
                rw [HXZ.out]
                obtain ⟨Y, hY, hU, hkY, hbY⟩ := UB.put (show UB w.heap.size #[.slice none 0 0, .slice none 0 0, .int .i64 0, .slice none 0 0, .slice none 0 0, .slice none 0 0, .bool false, .bool false] _ from U_Z) (.slice none 0 0) (.slice none 0 0) (.int .i64 0) (.slice none 0 0) (.slice none 0 0) (.slice none 0 0) (.bool false) (.bool false)
                rw [hY]
                (try simp only [Exit.inBlock, Exit.then])
                refine bodyPost_ret (ret_url2 rfl _ _ w.heap.size _ rfl hU rfl) rfl ?_
                rw [HE.out]
                exact ⟨by decide, rfl, B_Z.trans (hbY _ (Nat.le_refl _))⟩
              | some ff =>
                obtain rfl : ef = 0 := by have := HEF.out; rw [hff] at this; exact this
                have h3 : optC (atOk 63 (atFst 35 r)) (atSnd 63 (atFst 35 r)) = some qq := by rw [Hbq.out]; exact hqq
                have h4 : optC (atOk 35 r) (atSnd 35 r) = some ff := by rw [Hbf.out]; exact hff
                obtain ⟨pn, hpn, hrg⟩ := rest_good _ r HS.out HPE.out pp qq ff hpo hpp h3 h4
                rw [Hbq.out, Hbf.out] at hrg
                have hpn2 : (pv : Int) = (pn : Int) := by rw [← HPO.out]; exact hpn
                have HE := Lib.hid (HC.out.trans hrg)
                have HPN := Lib.hid hpn2
                rw [hpp] at GP_Z
                rw [hqq] at GQ_Z
                rw [hff] at GF_Z
                clear hpo hrg hpn hpn2 h3 h4 hpp hqq hff hp0
                go_wp2
                rw [HXZ.out]
                obtain ⟨Y, hY, hU, hkY, hbY⟩ := UB.put (show UB w.heap.size #[.slice none 0 0, .slice none 0 0, .int .i64 0, .slice none 0 0, .slice none 0 0, .slice none 0 0, .bool false, .bool false] _ from U_Z) (.slice qL k cL) (.slice qH nH cH) (.int .i64 pv) (.slice qW nW cW) (.slice qY nY cY) (.slice qZ nZ cZ) (.bool true) (.bool true)
                rw [hY]
                (try simp only [Exit.inBlock, Exit.then])
                refine bodyPost_ret (ret_url2 rfl _ _ w.heap.size _ rfl hU rfl) rfl ?_
                rw [HE.out]
                refine ⟨_, rfl, ⟨qL, k, cL, qH, nH, cH, qW, nW, cW, qY, nY, cY, qZ, nZ, cZ, by rw [HPN.out], L_Z.away U_Z nbz hkY, H_Z.away U_Z nbz hkY, GP_Z.away U_Z nbz hkY, GQ_Z.away U_Z nbz hkY, GF_Z.away U_Z nbz hkY⟩, B_Z.trans (hbY _ (Nat.le_refl _))⟩

end Go.Proofs.YtdbpbfbjebjbeaaDoor.Url

namespace Go.Proofs.YtdbpbfbjebjbeaaDoor.Ck
open Go.RowKit Go.Shelf Url
set_option linter.unusedVariables false

theorem below_alloc {w : World} (o : Obj) : Below w.heap.size w (w.alloc o) := (Below.refl _ w).alloc (Nat.le_refl _) o
/-- The value v is the cookie c. -/
def CkIs (w : World) (v : Value) (c : Ck) : Prop := ∃ (q1 : Option Addr) (n1 c1 : Nat) (q2 : Option Addr) (n2 c2 : Nat) (q3 : Option Addr) (n3 c3 : Nat),
  v = .agg #[.slice q1 n1 c1, .slice q2 n2 c2, .slice q3 n3 c3, .string ⟨c.dom.toArray⟩, .int .i64 c.age, .bool c.secure] ∧ By w (.slice q1 n1 c1) c.name ∧ By w (.slice q2 n2 c2) c.value ∧ By w (.slice q3 n3 c3) c.path
theorem CkIs.on {w w' : World} {v : Value} {c : Ck} (h : CkIs w v c) (hb : Below w.heap.size w w') : CkIs w' v c := by
  obtain ⟨q1, n1, c1, q2, n2, c2, q3, n3, c3, rfl, h1, h2, h3⟩ := h
  exact ⟨q1, n1, c1, q2, n2, c2, q3, n3, c3, rfl, h1.on hb, h2.on hb, h3.on hb⟩
/-- A block that holds a cookie's six cells. -/
def CB (b : Nat) (cs : Array Value) (X : World) : Prop := X.heap[b]? = some (.cells cs 25 (0, 0))
theorem CB.box {b : Nat} {cs : Array Value} {X : World} (h : CB b cs X) : Box b cs X := fun i x hx => by
  simp only [World.cell?, show X.heap[b]? = _ from h]; exact hx
theorem CB.frozen {b : Nat} {cs : Array Value} {X : World} (h : CB b cs X) (i : Nat) : X.frozen? ⟨b, i, none⟩ = false := by
  simp [World.frozen?, show X.heap[b]? = _ from h]
theorem CB.on {b : Nat} {cs : Array Value} {X Y : World} (h : CB b cs X) (hk : Below X.heap.size X Y) : CB b cs Y := (hk.block b (Array.getElem?_eq_some_iff.1 h).1).trans h
theorem CB.lt {b : Nat} {cs : Array Value} {X : World} (h : CB b cs X) : b < X.heap.size := (Array.getElem?_eq_some_iff.1 h).1
theorem CB.new (w : World) (cs : Array Value) : CB w.heap.size cs (w.alloc (.cells cs 25)) := World.alloc_heap_new w _
/-- A box with the cookie c. -/
def CX (b : Nat) (q1 : Option Addr) (n1 c1 : Nat) (q2 : Option Addr) (n2 c2 : Nat) (q3 : Option Addr) (n3 c3 : Nat) (c : Ck) (X : World) : Prop :=
  CB b #[.slice q1 n1 c1, .slice q2 n2 c2, .slice q3 n3 c3, .string ⟨c.dom.toArray⟩, .int .i64 c.age, .bool c.secure] X ∧ CkIs X (.agg #[.slice q1 n1 c1, .slice q2 n2 c2, .slice q3 n3 c3, .string ⟨c.dom.toArray⟩, .int .i64 c.age, .bool c.secure]) c
theorem CX.on {b : Nat} {q1 : Option Addr} {n1 c1 : Nat} {q2 : Option Addr} {n2 c2 : Nat} {q3 : Option Addr} {n3 c3 : Nat} {c : Ck} {X Y : World} (h : CX b q1 n1 c1 q2 n2 c2 q3 n3 c3 c X) (hb : Below X.heap.size X Y) : CX b q1 n1 c1 q2 n2 c2 q3 n3 c3 c Y := ⟨h.1.on hb, h.2.on hb⟩
theorem CX.new {q1 : Option Addr} {n1 c1 : Nat} {q2 : Option Addr} {n2 c2 : Nat} {q3 : Option Addr} {n3 c3 : Nat} {c : Ck} {X : World} (h : CkIs X (.agg #[.slice q1 n1 c1, .slice q2 n2 c2, .slice q3 n3 c3, .string ⟨c.dom.toArray⟩, .int .i64 c.age, .bool c.secure]) c) :
    CX X.heap.size q1 n1 c1 q2 n2 c2 q3 n3 c3 c (X.alloc (.cells #[.slice q1 n1 c1, .slice q2 n2 c2, .slice q3 n3 c3, .string ⟨c.dom.toArray⟩, .int .i64 c.age, .bool c.secure] 25)) := ⟨CB.new X _, h.on (below_alloc _)⟩
def zeroC : Ck := ⟨[], [], [], [], 0, false⟩
def ckE (r : Sum Int Ck) : Int := match r with | .inl e => e | .inr _ => 0
def ckV (r : Sum Int Ck) : Ck := match r with | .inl _ => zeroC | .inr c => c
/-- What Parse answers. -/
def PkOut (r : Sum Int Ck) (w : World) (e : Ending) (w' : World) : Prop := ∃ v, e = .returned (.tuple #[v, .int .i64 (ckE r)]) ∧ CkIs w' v (ckV r) ∧ Below w.heap.size w w'
/-- What Text and Home answer: bytes. -/
def BysOut (l : List UInt8) (w : World) (e : Ending) (w' : World) : Prop := ∃ (q : Option Addr) (n c : Nat), e = .returned (.slice q n c) ∧ By w' (.slice q n c) l ∧ Below w.heap.size w w'
end Go.Proofs.YtdbpbfbjebjbeaaDoor.Ck

namespace Go.Proofs.YtdbpbfbjebjbeaaDoor.Ck
open Go.RowKit Go.Shelf Url Hdr
attribute [local go_sem] Oper.semAt_some
set_option linter.unusedVariables false

theorem by_form {w : World} {v : Value} {l : List UInt8} (h : By w v l) : ∃ q c, v = .slice q l.length c := by
  obtain ⟨q, c, rfl, _⟩ := h
  exact ⟨q, c, rfl⟩
/-- The slice reads as these bytes, in memory that is no elder than B. -/
def ByN (B : Nat) (w : World) (q : Option Addr) (n c : Nat) (l : List UInt8) : Prop := By w (.slice q n c) l ∧ ∀ a, q = some a → B ≤ a.block
theorem byN_row {B n : Nat} {w : World} {v : Value} {l : List UInt8} (h : w.ownsRow B 5 1 v n ((Lib.numsL l).map (Value.int .u8))) : ∃ q c, v = .slice q l.length c ∧ ByN B w q l.length c l := by
  obtain ⟨q, c, rfl, hl, h1, h2, h3, h4⟩ := row_open h
  have hq : q = none → c = 0 := fun e => by
    subst e
    rcases h.2 with ⟨he, _⟩ | ⟨g, cap, cur, he, _⟩
    · cases he; rfl
    · cases he
  subst hl
  exact ⟨q, c, rfl, By.of rfl h1 h2 hq h3, fun a ha => (h4 a ha).2.1⟩
theorem ByN.on {B : Nat} {w w' : World} {q : Option Addr} {n c : Nat} {l : List UInt8} (h : ByN B w q n c l) (hb : Below w.heap.size w w') : ByN B w' q n c l := ⟨h.1.on hb, h.2⟩
theorem conv_by {W : World} {q : Option Addr} {n c : Nat} {l : List UInt8} (h : By W (.slice q n c) l) : (convert 22 9 (.slice q n c)).run Tryd.prog W = .ok (.string ⟨l.toArray⟩) W := conv_bytes h.at.2.2.2.2 h.at.1
/-- '[]byte(s)' of a text: its bytes in new memory. -/
theorem conv_back (w : World) (s : ByteArray) : (convert 9 22 (.string s)).run Tryd.prog w = .ok (.slice (some ⟨w.heap.size, 0, none⟩) s.size (grownCap w s.size 0 5)) (Lib.bytesWorld w 5 s) :=
  Lib.run_convert_string_bytes w 9 22 5 s Tryd.underlying9 Tryd.underlying22 Tryd.underlying5
theorem conv_str (w : World) (s : ByteArray) (l : List UInt8) (he : s = ⟨l.toArray⟩) (hl : l.length ≤ 1099511627776) : ∃ q c W, (convert 9 22 (.string s)).run Tryd.prog w = .ok (.slice q l.length c) W ∧
    By W (.slice q l.length c) l ∧ Below w.heap.size w W := by
  subst he
  refine ⟨_, _, _, conv_back w ⟨l.toArray⟩, ?_, ⟨rfl, rfl, rfl, by rw [Lib.bytesWorld_size]; omega, fun k hk => Lib.bytesWorld_at_old w _ _ k hk⟩⟩
  refine By.of rfl (grownCap_ge w _ _ _) (grownCap_le_maxLen w _ 0 _ (by unfold maxLen; show l.length ≤ _; omega)) (fun h => by cases h) ?_
  exact fun _ => ⟨w.heap.size, 0, rfl, fun i hi => by
    rw [numsL_getD _ i hi, Nat.zero_add]
    exact Lib.bytesWorld_cell w _ ⟨l.toArray⟩ i hi⟩
/-- cut.Trim. -/
theorem Trim_by (q : Option Addr) (n c : Nat) (l : List UInt8) (w : World) (h : By w (.slice q n c) l) (hn : n ≤ 1099511627775) :
    Calls Tryd.prog 44 #[.slice q n c] w fun e w' => ∃ q' n' c', e = .returned (.slice q' n' c') ∧ ByN w.heap.size w' q' n' c' (trimB l) ∧ Below w.heap.size w w' := by
  obtain ⟨h1, h2, h3, h4, h5⟩ := h.at
  obtain ⟨f, e, ht⟩ := trims l
  refine (cutTrim_any q n c f e l w h1 hn h2 h5 ht).mono ?_
  rintro e' w' ⟨v', rfl, hr, hb⟩
  rw [← trim_sub l f e ht] at hr
  obtain ⟨q', c', rfl, hby⟩ := byN_row hr
  exact ⟨q', _, c', rfl, hby, hb⟩
/-- cut.At. -/
theorem At_by (q : Option Addr) (n c : Nat) (l : List UInt8) (b : UInt8) (w : World) (h : By w (.slice q n c) l) (hn : n ≤ 1099511627775) :
    Calls Tryd.prog 23 #[.slice q n c, .int .u8 (b.toNat : Int)] w fun e w' => ∃ q1 n1 c1 q2 n2 c2, e = .returned (.tuple #[.slice q1 n1 c1, .slice q2 n2 c2, .bool (atOk b l)]) ∧
      ByN w.heap.size w' q1 n1 c1 (atFst b l) ∧ ByN w.heap.size w' q2 n2 c2 (atSnd b l) ∧ Below w.heap.size w w' := by
  obtain ⟨h1, h2, h3, h4, h5⟩ := h.at
  refine (At_any q n c l b w h1 hn h2 h4 h5).mono ?_
  rintro e' w' ⟨v1, v2, rfl, r1, r2, hb⟩
  obtain ⟨q1, c1, rfl, y1⟩ := byN_row r1
  obtain ⟨q2, c2, rfl, y2⟩ := byN_row r2
  exact ⟨q1, _, c1, q2, _, c2, rfl, y1, y2, hb⟩
theorem at_lens (b : UInt8) (l : List UInt8) : (atFst b l).length ≤ l.length ∧ (atSnd b l).length ≤ l.length := by
  unfold atFst atSnd
  constructor
  · split <;> simp
    omega
  · split <;> simp

set_option maxRecDepth 100000 in
set_option maxHeartbeats 4000000 in
theorem pair_any (q : Option Addr) (n c : Nat) (l : List UInt8) (w : World) (h : By w (.slice q n c) l) (hn : n ≤ 1099511627775) :
    Calls Tryd.prog 24 #[.slice q n c] w fun e w' => ∃ q1 n1 c1 q2 n2 c2, e = .returned (.tuple #[.slice q1 n1 c1, .slice q2 n2 c2, .bool (atOk 61 l)]) ∧
      ByN w.heap.size w' q1 n1 c1 (trimB (atFst 61 l)) ∧ ByN w.heap.size w' q2 n2 c2 (trimB (atSnd 61 l)) ∧ Below w.heap.size w w' := by
  have con := At_by q n c l 61 w h hn
  have hl := h.at.1
  obtain ⟨k1, k2⟩ := at_lens 61 l
  have HK := Lib.hid (show (atFst 61 l).length ≤ 1099511627775 ∧ (atSnd 61 l).length ≤ 1099511627775 by omega)
  generalize atFst 61 l = x1 at *
  generalize atSnd 61 l = x2 at *
  generalize atOk 61 l = ok at *
  clear h hl k1 k2 hn
  go_enter Tryd.func24, Tryd.ntmps24
  go_wp2_with fail
  refine con.mono ?_
  rintro e w1 ⟨q1, n1, c1, q2, n2, c2, rfl, y1, y2, hb1⟩
  have con := Trim_by q1 n1 c1 x1 w1 y1.1 (by have := y1.1.at.1; have := HK.out.1; omega)
  clear y1
  go_wp2_with fail
  refine con.mono ?_
  rintro e w2 ⟨q3, n3, c3, rfl, z1, hb2⟩
  replace y2 := y2.on hb2
  have con := Trim_by q2 n2 c2 x2 w2 y2.1 (by have := y2.1.at.1; have := HK.out.2; omega)
  have A2 := hb1.trans (hb2.mono hb1.size)
  have HS := Lib.hid (show w.heap.size ≤ w1.heap.size ∧ w.heap.size ≤ w2.heap.size from ⟨hb1.size, A2.size⟩)
  clear y2 hb1 hb2
  go_wp2_with fail
  refine con.mono ?_
  rintro e w3 ⟨q4, n4, c4, rfl, z2, hb3⟩
  go_wp2
  go_ret3
  exact ⟨q3, n3, c3, q4, n4, c4, rfl, ⟨z1.1.on hb3, fun a ha => Nat.le_trans HS.out.1 (z1.2 a ha)⟩, ⟨z2.1, fun a ha => Nat.le_trans HS.out.2 (z2.2 a ha)⟩, A2.trans (hb3.mono A2.size)⟩

/-- The bytes among those from 33 to 126 that no value has. -/
def badS : List UInt8 := [34, 44, 59, 92]
theorem val_mid (b : UInt8) (h1 : 33 ≤ b.toNat) (h2 : b.toNat ≤ 126) : valB b = !decide (0 ≤ Lib.indexByte badS b) := by
  have h : ∀ b : UInt8, (33 ≤ b.toNat ∧ b.toNat ≤ 126) → valB b = !decide (0 ≤ Lib.indexByte badS b) := fun b => Ref.all_u8 (p := fun b => (33 ≤ b.toNat ∧ b.toNat ≤ 126) → valB b = !decide (0 ≤ Lib.indexByte badS b)) (by decide +kernel) b
  exact h b ⟨h1, h2⟩
theorem val_low (b : UInt8) (h : b.toNat < 33) : valB b = false := by
  unfold valB
  rw [decide_eq_false (by omega)]
  rfl
theorem val_high (b : UInt8) (h : 126 < b.toNat) : valB b = false := by
  unfold valB
  rw [decide_eq_false (by omega)]
  rfl
theorem all_drop (l : List UInt8) (k : Nat) (h : k < l.length) : (l.drop k).all valB = (valB (l.getD k 0) && (l.drop (k + 1)).all valB) := by
  rw [drop_cons l k h, List.all_cons]

set_option maxRecDepth 100000 in
set_option maxHeartbeats 4000000 in
theorem isValue_any (p : Option Addr) (n c : Nat) (bs : List UInt8) (w : World) (hx : bs.length = n) (hn : n ≤ 140737488355328) (hb : Lib.BytesIn w p n (Lib.numsL bs)) :
    Calls Tryd.prog 26 #[.slice p n c] w fun e w' => e = .returned (.bool (bs.all valB)) ∧ w = w' := by
  go_enter Tryd.func26, Tryd.ntmps26
  go_wp2
  go_loop [7] (fun i => ∃ k : Nat, k ≤ n ∧ i = .int .i64 k ∧ Hid (bs.all valB = (bs.drop k).all valB)) (fun i => n - (intOf i).toNat)
  case atStart => exact ⟨0, Nat.zero_le _, rfl, rfl⟩
  case round =>
    obtain ⟨k, hk, rfl, HR⟩ := hrel
    by_cases hlt : k < n
    · obtain ⟨b, o, rfl, hc⟩ := hb.at (by omega)
      have hck : w.cell? ⟨b, o + k, none⟩ = some (.int .u8 ((bs.getD k 0).toNat : Int)) := by
        rw [← numsL_getD bs k (by omega)]
        exact hc k hlt
      have hd := HR.out.trans (all_drop bs k (by omega))
      clear hc HR hb
      generalize bs.getD k 0 = bk at *
      have hsi := Tryd.strings_IndexByte ⟨#[34, 44, 59, 92]⟩ (bk.toNat : Int) w
      rw [show (bk.toNat : Int).toNat.toUInt8 = bk from by simp] at hsi
      have hsi2 : Calls Tryd.prog 46 #[.string ⟨#[34, 44, 59, 92]⟩, .int .u8 (bk.toNat : Int)] w fun e w' => e = .returned (.int .i64 (Lib.indexByte badS bk)) ∧ w' = w := hsi
      have hb256 : bk.toNat < 256 := UInt8.toNat_lt _
      clear hsi
      by_cases h1 : bk.toNat < 33
      · have d1 : decide ((bk.toNat : Int) < 33) = true := by simp; omega
        have H := Lib.hid (show bs.all valB = false by rw [hd, val_low bk h1]; rfl)
        clear hd hsi2 h1
        go_wp2
        go_ret
        exact ⟨(by rw [H.out]; try rfl), rfl⟩
      have d1 : decide ((bk.toNat : Int) < 33) = false := by simp; omega
      by_cases h2 : 126 < bk.toNat
      · have d2 : decide ((126 : Int) < (bk.toNat : Int)) = true := by simp; omega
        have H := Lib.hid (show bs.all valB = false by rw [hd, val_high bk h2]; rfl)
        clear hd hsi2 h1 h2
        go_wp2
        go_ret
        exact ⟨(by rw [H.out]; try rfl), rfl⟩
      have d2 : decide ((126 : Int) < (bk.toNat : Int)) = false := by simp; omega
      have hv := val_mid bk (by omega) (by omega)
      generalize Lib.indexByte badS bk = ix at *
      by_cases h3 : 0 ≤ ix
      · have d3 : decide ((0 : Int) ≤ ix) = true := decide_eq_true h3
        have H := Lib.hid (show bs.all valB = false by rw [hd, hv, d3]; rfl)
        clear hd h1 h2 h3 hv
        go_wp2_with (go_at_call 46; refine hsi2.mono ?_; rintro e w' ⟨rfl, hw⟩; subst hw)
        go_ret
        exact ⟨(by rw [H.out]; try rfl), rfl⟩
      · have d3 : decide ((0 : Int) ≤ ix) = false := decide_eq_false h3
        have H := Lib.hid (show bs.all valB = (bs.drop (k + 1)).all valB by rw [hd, hv, d3]; rfl)
        clear hd h1 h2 h3 hv
        go_wp2_with (go_at_call 46; refine hsi2.mono ?_; rintro e w' ⟨rfl, hw⟩; subst hw)
        go_round
        case rel => exact ⟨k + 1, by omega, by go_num, H⟩
        case measure => simp [intOf]; omega
    · obtain rfl : k = n := by omega
      have H := Lib.hid (show bs.all valB = true by rw [HR.out, List.drop_of_length_le (by omega)]; rfl)
      clear hb HR
      go_wp2
      go_ret
      exact ⟨(by rw [H.out]; try rfl), rfl⟩

/-! ### boxes of a cookie and a URL -/
theorem two_box (w : World) (cs us : Array Value) : ∃ W, (w.alloc (.cells cs 25)).alloc (.cells us 31) = W ∧ CB w.heap.size cs W ∧ UB (w.heap.size + 1) us W ∧ Below w.heap.size w W := by
  refine ⟨_, rfl, (CB.new w cs).on (below_alloc _), ?_, ((Below.refl _ w).alloc (Nat.le_refl _) _).alloc (by simp) _⟩
  have := UB.new (w.alloc (.cells cs 25)) us
  rw [World.size_alloc] at this
  exact this

set_option maxRecDepth 100000 in
set_option maxHeartbeats 4000000 in
theorem covers_any (v a : Value) (c : Ck) (u : U) (w : World) (h : CkIs w v c) (hs : c.dom.length ≤ 1099511627775) (ha : UrlIn w a u) (hl : u.host.length ≤ 1099511627775) :
    Calls Tryd.prog 18 #[v, a] w fun e w' => e = .returned (.bool (Host.withinB u.host c.dom)) ∧ Below w.heap.size w w' := by
  obtain ⟨q1, n1, c1, q2, n2, c2, q3, n3, c3, rfl, h1, h2, h3⟩ := h
  obtain ⟨p0, m0, d0, p1, m1, d1, p3, m3, d3, p4, m4, d4, p5, m5, d5, rfl, g0, g1, g3, g4, g5⟩ := ha
  obtain ⟨W, hW, bC, bU, A1⟩ := two_box w #[.slice q1 n1 c1, .slice q2 n2 c2, .slice q3 n3 c3, .string ⟨c.dom.toArray⟩, .int .i64 c.age, .bool c.secure] #[.slice p0 m0 d0, .slice p1 m1 d1, .int .i64 u.port, .slice p3 m3 d3, .slice p4 m4 d4, .slice p5 m5 d5, .bool u.hq, .bool u.hf]
  have x3 := bC.box 3 _ rfl
  have y1 := bU.box 1 _ rfl
  obtain ⟨qc, cc, W2, k1, hd, hb2⟩ := conv_str W ⟨c.dom.toArray⟩ c.dom rfl (by omega)
  have A2 := A1.trans (hb2.mono A1.size)
  have gh := g1.on A2
  have con := Host.Within_any p1 qc m1 d1 c.dom.length cc u.host c.dom W2 gh.at.1 rfl (by have := gh.at.1; omega) gh.at.2.2.2.2 hd.at.2.2.2.2
  have HW := Lib.hid hW
  generalize Host.withinB u.host c.dom = wb at *
  clear bC bU hW h1 h2 h3 g0 g1 g3 g4 g5 gh hd hb2 A1 hs hl
  go_enter Tryd.func18, Tryd.ntmps18
  go_wp2_with fail
  rw [HW.out]
  go_wp2_with fail
  (try rw [k1])
  go_wp2_with fail
  refine con.mono ?_
  rintro e W3 ⟨rfl, hb⟩
  go_wp2
  go_ret
  exact ⟨rfl, A2.trans (hb.mono A2.size)⟩

def safeB (c : Ck) (scheme : List UInt8) : Bool := !c.secure || decide (scheme = httpsS)
set_option maxRecDepth 100000 in
set_option maxHeartbeats 4000000 in
theorem safe_any (v a : Value) (c : Ck) (u : U) (w : World) (h : CkIs w v c) (ha : UrlIn w a u) :
    Calls Tryd.prog 19 #[v, a] w fun e w' => e = .returned (.bool (safeB c u.scheme)) ∧ Below w.heap.size w w' := by
  obtain ⟨q1, n1, c1, q2, n2, c2, q3, n3, c3, rfl, h1, h2, h3⟩ := h
  obtain ⟨p0, m0, d0, p1, m1, d1, p3, m3, d3, p4, m4, d4, p5, m5, d5, rfl, g0, g1, g3, g4, g5⟩ := ha
  obtain ⟨W, hW, bC, bU, A1⟩ := two_box w #[.slice q1 n1 c1, .slice q2 n2 c2, .slice q3 n3 c3, .string ⟨c.dom.toArray⟩, .int .i64 c.age, .bool c.secure] #[.slice p0 m0 d0, .slice p1 m1 d1, .int .i64 u.port, .slice p3 m3 d3, .slice p4 m4 d4, .slice p5 m5 d5, .bool u.hq, .bool u.hf]
  have x5 := bC.box 5 _ rfl
  have y0 := bU.box 0 _ rfl
  have kc := conv_by (g0.on A1)
  have ks : (u.scheme == [104, 116, 116, 112, 115]) = decide (u.scheme = httpsS) := by rw [Bool.eq_iff_iff, beq_iff_eq, decide_eq_true_iff]; rfl
  have HS := Lib.hid (show safeB c u.scheme = (!c.secure || decide (u.scheme = httpsS)) from rfl)
  have HW := Lib.hid hW
  generalize safeB c u.scheme = sb at *
  clear bC bU hW h1 h2 h3 g0 g1 g3 g4 g5
  cases hse : c.secure with
  | true =>
    rw [hse] at x5 HS HW
    have HS2 := Lib.hid (show sb = decide (u.scheme = httpsS) by rw [HS.out]; rfl)
    clear HS hse
    go_enter Tryd.func19, Tryd.ntmps19
    go_wp2_with fail
    rw [HW.out]
    go_wp2_with fail
    (try rw [kc])
    go_wp2
    go_ret
    exact ⟨(by rw [HS2.out]; try rfl), A1⟩
  | false =>
    rw [hse] at x5 HS HW
    have HS2 := Lib.hid (show sb = true by rw [HS.out]; rfl)
    clear HS hse
    go_enter Tryd.func19, Tryd.ntmps19
    go_wp2_with fail
    rw [HW.out]
    go_wp2
    go_ret
    exact ⟨(by rw [HS2.out]; try rfl), A1⟩
end Go.Proofs.YtdbpbfbjebjbeaaDoor.Ck

namespace Go.Proofs.YtdbpbfbjebjbeaaDoor.Ck
open Go.RowKit Go.Shelf Url Hdr
attribute [local go_sem] Oper.semAt_some
set_option linter.unusedVariables false

theorem str_byV (x : List UInt8) : Lib.strCells ⟨x.toArray⟩ = byV x := by
  unfold Lib.strCells byV Lib.numsL
  rw [List.map_map]
  rfl
/-- A text is appended to a row of the call's own. -/
theorem run_append_str (ty : TypeId) (base : Nat) (v : Value) (n : Nat) (xs : List Value) (w : World) (hown : w.ownsRow base 5 1 v n xs) (l : List UInt8) (h47 : n + l.length ≤ 140737488355328) (hbase : base ≤ w.heap.size) :
    ∃ v' w', (Builtin.append_ #[22, 9] ty #[v, .string ⟨l.toArray⟩]).run Tryd.prog w = .ok v' w' ∧ w'.ownsRow base 5 1 v' (n + l.length) (xs ++ byV l) ∧ w.grownBy w' v.ownBlock := by
  obtain ⟨i0, hi0, hz0, hz1, hz2⟩ := info_parts info_u8
  obtain ⟨v', w', hr, h2, h3, _⟩ := Lib.run_append_own_string (P := Tryd.prog) w base 22 9 ty 5 i0 Tryd.underlying22 Tryd.underlying9 hi0 hz0 hz1 hz2 v n xs hown ⟨l.toArray⟩ (by unfold maxLen; show n + l.length ≤ _; omega) (by show n + l.length ≤ _; omega) hbase
  rw [str_byV] at h2
  exact ⟨v', w', hr, h2, h3⟩
theorem wp_append_str {o : Oper} {a : Act} {w : World} {K : Act → World → Prop} {Q : Exit → Act → World → Prop} (s x : Operand)
    (ho : o.op = .call { callee := .builtin .append, args := #[s, x], argTypes := #[22, 9] })
    (base : Nat) (v : Value) (n : Nat) (xs : List Value) (hs : a.eval s = v) (hown : w.ownsRow base 5 1 v n xs) (l : List UInt8) (hx : a.eval x = .string ⟨l.toArray⟩) (h47 : n + l.length ≤ 140737488355328) (hbase : base ≤ w.heap.size)
    (h : ∀ v' w', w'.ownsRow base 5 1 v' (n + l.length) (xs ++ byV l) → w.grownBy w' v.ownBlock → K (a.put o.dst v') w') : o.wp Tryd.prog a w K Q := by
  obtain ⟨v', w', hr, h1, h2⟩ := run_append_str o.type base v n xs w hown l h47 hbase
  exact Lib.wp_append_run (P := Tryd.prog) w s x 22 9 ho v _ hs hx v' w' hr (h v' w' h1 h2)
theorem wpList_append_str {ops : Array Oper} {rest : List Oper} {o : Oper} {a : Act} {w : World} {Q : Exit → Act → World → Prop} (hgd : o.guard = none) (s x : Operand)
    (ho : o.op = .call { callee := .builtin .append, args := #[s, x], argTypes := #[22, 9] })
    (base : Nat) (v : Value) (n : Nat) (xs : List Value) (hs : a.eval s = v) (hown : w.ownsRow base 5 1 v n xs) (l : List UInt8) (hx : a.eval x = .string ⟨l.toArray⟩) (h47 : n + l.length ≤ 140737488355328) (hbase : base ≤ w.heap.size)
    (h : ∀ v' w', w'.ownsRow base 5 1 v' (n + l.length) (xs ++ byV l) → w.grownBy w' v.ownBlock → wpList Tryd.prog ops Q rest (a.put o.dst v') w') : wpList Tryd.prog ops Q (o :: rest) a w := by
  obtain ⟨v', w', hr, h1, h2⟩ := run_append_str o.type base v n xs w hown l h47 hbase
  exact Lib.wpList_append_run (P := Tryd.prog) w hgd s x 22 9 ho v _ hs hx v' w' hr (h v' w' h1 h2)
theorem AppendAge_any (B n p : Nat) (v : Value) (xs : List Value) (w : World) (hown : w.ownsRow B 5 1 v n xs) (hp : p ≤ 1073741824) (hB : B ≤ w.heap.size) (hn : n ≤ 1048577) (ht : Lib.TabBelow Tryd.prog B w "internal/strconv.uint64pow10" .u64 Lib.pow10Tab) :
    Calls Tryd.prog 15 #[v, .int .i64 (p : Int), .int .i64 10] w fun e w' => ∃ v', e = .returned v' ∧ w'.ownsRow B 5 1 v' (n + (digL p).length) (xs ++ byV (digL p)) ∧ Below B w w' := by
  refine (Tryd.strconv_AppendInt_10 B n p (by omega) (by omega) v xs w hown hB (by omega) ht).mono ?_
  rintro e w' ⟨v', he, hr, hb, _⟩
  rw [(itoa_dig p).1, (itoa_dig p).2] at hr
  exact ⟨v', he, hr, hb⟩

/-- Between two parts: the line so far is a row of its own behind the cookie's box. -/
structure TxI (w : World) (cs : Array Value) (T : List UInt8) (s : Value) (X : World) : Prop where
  row : X.ownsRow (w.heap.size + 1) 5 1 s T.length (byV T)
  box : CB w.heap.size cs X
  bel : Below w.heap.size w X
  big : w.heap.size + 1 ≤ X.heap.size
theorem TxI.grow {w : World} {cs : Array Value} {T l : List UInt8} {s v' : Value} {X Y Z : World} (h : TxI w cs T s X) (hXY : Below (w.heap.size + 1) X Y) (hown : Y.ownsRow (w.heap.size + 1) 5 1 s T.length (byV T)) (hr : Z.ownsRow (w.heap.size + 1) 5 1 v' (T.length + l.length) (byV T ++ byV l)) (hg : Y.grownBy Z s.ownBlock) : TxI w cs (T ++ l) v' Z := by
  have hb : Below (w.heap.size + 1) X Z := hXY.trans (grown_below hown hg (Nat.le_trans h.big hXY.size))
  refine ⟨by rw [List.length_append, byV_app]; exact hr, (hb.block _ (Nat.lt_succ_self _)).trans h.box, h.bel.trans (hb.mono (Nat.le_succ _)), Nat.le_trans h.big hb.size⟩
theorem TxI.below {w : World} {cs : Array Value} {T l : List UInt8} {s v' : Value} {X Z : World} (h : TxI w cs T s X) (hb : Below (w.heap.size + 1) X Z) (hr : Z.ownsRow (w.heap.size + 1) 5 1 v' (T.length + l.length) (byV T ++ byV l)) : TxI w cs (T ++ l) v' Z := by
  refine ⟨by rw [List.length_append, byV_app]; exact hr, (hb.block _ (Nat.lt_succ_self _)).trans h.box, h.bel.trans (hb.mono (Nat.le_succ _)), Nat.le_trans h.big hb.size⟩
theorem TxI.drew {w : World} {cs : Array Value} {T : List UInt8} {s : Value} {X : World} (h : TxI w cs T s X) : TxI w cs T s X.drew := ⟨h.row, h.box, h.bel.drew, h.big⟩
theorem TxI.nil {w : World} {cs : Array Value} {T : List UInt8} {s : Value} {X : World} (h : TxI w cs T s X) : TxI w cs (T ++ []) s X := by rw [List.append_nil]; exact h

set_option maxRecDepth 100000 in
set_option maxHeartbeats 16000000 in
theorem Text_any (v : Value) (c : Ck) (w : World) (h : CkIs w v c) (ho : Ok c) (hs : Small 4096 c) (hG : Gl w) :
    Calls Tryd.prog 7 #[v] w (BysOut (textC c) w) := by
  obtain ⟨q1, n1, c1, q2, n2, c2, q3, n3, c3, rfl, h1, h2, h3⟩ := h
  obtain ⟨sA, sB, sC, sD⟩ := hs
  have a1 := ho.age1
  have a2 := ho.age2
  have HT := Lib.hid (text_is c)
  obtain ⟨cs, hcs⟩ : ∃ cs : Array Value, #[.slice q1 n1 c1, .slice q2 n2 c2, .slice q3 n3 c3, .string ⟨c.dom.toArray⟩, .int .i64 c.age, .bool c.secure] = cs := ⟨_, rfl⟩
  obtain ⟨W, hW⟩ : ∃ W, w.alloc (.cells #[.slice q1 n1 c1, .slice q2 n2 c2, .slice q3 n3 c3, .string ⟨c.dom.toArray⟩, .int .i64 c.age, .bool c.secure] 25) = W := ⟨_, rfl⟩
  have hz : W.heap.size = w.heap.size + 1 := by rw [← hW]; simp
  have A1 : Below w.heap.size w W := hW ▸ below_alloc _
  have bC : CB w.heap.size cs W := hW ▸ hcs ▸ CB.new w _
  have g1 := h1.on A1
  have k0 : cs[0]? = some (.slice q1 n1 c1) := by rw [← hcs]; rfl
  have k1 : cs[1]? = some (.slice q2 n2 c2) := by rw [← hcs]; rfl
  have k2 : cs[2]? = some (.slice q3 n3 c3) := by rw [← hcs]; rfl
  have k3 : cs[3]? = some (.string ⟨c.dom.toArray⟩) := by rw [← hcs]; rfl
  have k4 : cs[4]? = some (.int .i64 c.age) := by rw [← hcs]; rfl
  have k5 : cs[5]? = some (.bool c.secure) := by rw [← hcs]; rfl
  have x0 := bC.box 0 _ k0
  have con := Clone_any q1 n1 c1 c.name W g1.at.1 (by have := g1.at.1; omega) g1.at.2.2.2.2
  have HW := Lib.hid hW
  have HG := Lib.hid hG
  have H2 := Lib.hid h2
  have H3 := Lib.hid h3
  have HN1 := Lib.hid h1.at.1
  have l3 := h3.at.1
  rw [hz] at con
  clear hW hcs hG h1 h2 h3 g1 ho
  go_enter Tryd.func7, Tryd.ntmps7
  go_wp2_with fail
  rw [HW.out]
  go_wp2_with fail
  refine con.mono ?_
  rintro e W1 ⟨v1, rfl, r1, hb1⟩
  have t1 : TxI w cs c.name v1 W1 := ⟨by have := HN1.out; rw [this]; exact r1, (hb1.block _ (by omega)).trans bC, A1.trans (hb1.mono (Nat.le_succ _)), by have := hb1.size; omega⟩
  have hbl := (Below.refl W1.heap.size W1).alloc (Nat.le_refl _) (.cells #[.int .u8 61] 5)
  have t1g := t1.big
  have x1 := (t1.box.on hbl).box 1 _ k1
  clear con x0 bC r1 hb1 A1
  go_upto_if 16 with (first
    | (at_builtin; refine wpList_append_by (w := W1.alloc (.cells #[.int .u8 61] 5)) rfl _ _ rfl (w.heap.size + 1) v1 c.name.length (byV c.name) rfl (t1.row.alloc _) _ [61] rfl (by_lit W1 #[.int .u8 61] [61] (0, 0) 1 rfl rfl (by decide)) (by simp; omega) (by simp; omega) ?_; intro v2 W2 r2 gr2; have t2 := t1.grow (hbl.mono t1g) (t1.row.alloc _) r2 gr2; have y1 := t2.box.box 1 _ k1; have t2g := t2.big)
    | (at_builtin; refine wpList_append_by (w := W2) rfl _ _ rfl (w.heap.size + 1) v2 (c.name ++ [61]).length (byV (c.name ++ [61])) rfl t2.row _ c.value rfl (H2.out.on t2.bel) (by simp; omega) t2g ?_; intro v3 W3 r3 gr3; have t3 := t2.grow (Below.refl _ _) t2.row r3 gr3; have y2 := t3.box.box 2 _ k2))
  clear x1 y1 t1 t2 hbl r2 gr2 r3 gr3 t1g t2g
  obtain ⟨T3, hT3⟩ : ∃ T, (c.name ++ [61]) ++ c.value = T := ⟨_, rfl⟩
  have b3 : T3.length ≤ 8193 := by rw [← hT3]; simp; omega
  rw [hT3] at t3 HT
  clear hT3 y2
  obtain ⟨pb, hpb⟩ : ∃ b, decide (0 < n3) = b := ⟨_, rfl⟩
  rw [hpb]
  go_cut [3] from 16 to 21 (fun s3 X => TxI w cs (T3 ++ pathT c) s3 X)
  case first =>
    cases pb with
    | false =>
      have hz : c.path = [] := List.eq_nil_of_length_eq_zero (by have := of_decide_eq_false hpb; omega)
      have HP := Lib.hid (show pathT c = [] by unfold pathT; rw [if_pos hz])
      clear hz hpb
      go_wp2_with fail
      go_meet
      rw [HP.out]
      exact t3.nil
    | true =>
      have hz : ¬ c.path = [] := fun e => by have := of_decide_eq_true hpb; rw [e] at l3; simp at l3; omega
      have HP := Lib.hid (show T3 ++ pathT c = T3 ++ [59, 32, 80, 97, 116, 104, 61] ++ c.path by unfold pathT; rw [if_neg hz, List.append_assoc])
      clear hz hpb
      go_wp2_with fail
      refine pregion_any (fun X => CB w.heap.size cs X) (by kernel_rfl) ?_
      have t4 := t3.drew
      clear t3
      generalize W3.drew = X4 at *
      refine wpAnyH_take (i := 0) (v := (v3)) rfl (by kernel_rfl) (by kernel_rfl) (by kernel_rfl) (fun _ _ _ h => h) (.inl ⟨by kernel_rfl, ?_⟩) t4.box ?_
      · rintro w h; go_simp <;> omega
      refine plist #[true, false, false, false, false, false] (by kernel_rfl) ?_
      refine wpAnyH_take (i := 2) (v := (.pointer (some ⟨w.heap.size, 2, none⟩))) rfl (by kernel_rfl) (by kernel_rfl) (by kernel_rfl) (fun _ _ _ h => h) (.inl ⟨by kernel_rfl, ?_⟩) t4.box ?_
      · rintro w h; go_simp <;> omega
      refine plist #[true, false, true, false, false, false] (by kernel_rfl) ?_
      refine wpAnyH_take (i := 3) (v := (.slice q3 n3 c3)) rfl (by kernel_rfl) (by kernel_rfl) (by kernel_rfl) (fun _ _ _ h => h) (.inl ⟨by kernel_rfl, ?_⟩) t4.box ?_
      · rintro w h; have x2 := h.box 2 _ k2; go_simp <;> omega
      refine plist #[true, false, true, true, false, false] (by kernel_rfl) ?_
      refine pone 1 (by kernel_rfl) rfl fun K hK => ?_
      refine wp_append_str (Operand.tmp 17) _ rfl (w.heap.size + 1) v3 T3.length (byV T3) rfl t4.row [59, 32, 80, 97, 116, 104, 61] rfl (by simp; omega) t4.big ?_
      intro v5 W5 r5 gr5
      have t5 := t4.grow (Below.refl _ _) t4.row r5 gr5
      clear r5 gr5 t4
      refine hK _ _ t5.box ?_
      clear hK K
      refine plist #[true, true, true, true, false, false] (by kernel_rfl) ?_
      refine pone 4 (by kernel_rfl) rfl fun K hK => ?_
      refine wp_append_by (Operand.tmp 18) (Operand.tmp 20) rfl (w.heap.size + 1) v5 _ _ rfl t5.row _ c.path rfl (H3.out.on t5.bel) (by simp; omega) t5.big ?_
      intro v6 W6 r6 gr6
      have t6 := t5.grow (Below.refl _ _) t5.row r6 gr6
      clear r6 gr6 t5
      refine hK _ _ t6.box ?_
      clear hK K
      refine plist #[true, true, true, true, true, false] (by kernel_rfl) ?_
      refine pone 5 (by kernel_rfl) rfl fun K hK => ?_
      go_simp
      refine hK _ _ t6.box ?_
      clear hK K
      refine pdone (by kernel_rfl) ?_ _
      go_wp2_with fail
      go_meet
      rw [HP.out]
      exact t6
  case rest =>
    have t4 := hcut
    clear hcut t3 l3 hpb
    obtain ⟨T4, hT4⟩ : ∃ T, T3 ++ pathT c = T := ⟨_, rfl⟩
    have b4 : T4.length ≤ 12296 := by
      rw [← hT4, List.length_append]
      have : (pathT c).length ≤ 4103 := by
        unfold pathT
        split
        · simp
        · simp; omega
      omega
    rw [hT4] at t4 HT
    clear hT4 b3
    generalize wc = X4 at *
    generalize u3 = v4 at *
    have x3 := t4.box.box 3 _ k3
    go_upto_if 24 with fail
    clear x3
    obtain ⟨pd, hpd⟩ : ∃ b, (!c.dom.isEmpty) = b := ⟨_, rfl⟩
    rw [hpd]
    go_cut [3] from 24 to 29 (fun s3 X => TxI w cs (T4 ++ domT c) s3 X)
    case first =>
      cases pd with
      | false =>
        have hz : c.dom = [] := by simpa using hpd
        have HP := Lib.hid (show domT c = [] by unfold domT; rw [if_pos hz])
        clear hz hpd
        go_wp2_with fail
        go_meet
        rw [HP.out]
        exact t4.nil
      | true =>
        have hz : ¬ c.dom = [] := by simpa using hpd
        have HP := Lib.hid (show T4 ++ domT c = T4 ++ [59, 32, 68, 111, 109, 97, 105, 110, 61] ++ c.dom by unfold domT; rw [if_neg hz, List.append_assoc])
        clear hz hpd
        go_wp2_with fail
        refine pregion_any (fun X => CB w.heap.size cs X) (by kernel_rfl) ?_
        have t5 := t4.drew
        clear t4
        generalize X4.drew = X5 at *
        refine wpAnyH_take (i := 0) (v := (v4)) rfl (by kernel_rfl) (by kernel_rfl) (by kernel_rfl) (fun _ _ _ h => h) (.inl ⟨by kernel_rfl, ?_⟩) t5.box ?_
        · rintro w h; go_simp <;> omega
        refine plist #[true, false, false, false, false, false] (by kernel_rfl) ?_
        refine wpAnyH_take (i := 2) (v := (.pointer (some ⟨w.heap.size, 3, none⟩))) rfl (by kernel_rfl) (by kernel_rfl) (by kernel_rfl) (fun _ _ _ h => h) (.inl ⟨by kernel_rfl, ?_⟩) t5.box ?_
        · rintro w h; go_simp <;> omega
        refine plist #[true, false, true, false, false, false] (by kernel_rfl) ?_
        refine wpAnyH_take (i := 3) (v := (.string ⟨c.dom.toArray⟩)) rfl (by kernel_rfl) (by kernel_rfl) (by kernel_rfl) (fun _ _ _ h => h) (.inl ⟨by kernel_rfl, ?_⟩) t5.box ?_
        · rintro w h; have x3 := h.box 3 _ k3; go_simp <;> omega
        refine plist #[true, false, true, true, false, false] (by kernel_rfl) ?_
        refine pone 1 (by kernel_rfl) rfl fun K hK => ?_
        refine wp_append_str (Operand.tmp 25) _ rfl (w.heap.size + 1) v4 T4.length (byV T4) rfl t5.row [59, 32, 68, 111, 109, 97, 105, 110, 61] rfl (by simp; omega) t5.big ?_
        intro v6 W6 r6 gr6
        have t6 := t5.grow (Below.refl _ _) t5.row r6 gr6
        clear r6 gr6 t5
        refine hK _ _ t6.box ?_
        clear hK K
        refine plist #[true, true, true, true, false, false] (by kernel_rfl) ?_
        refine pone 4 (by kernel_rfl) rfl fun K hK => ?_
        refine wp_append_str (Operand.tmp 26) (Operand.tmp 28) rfl (w.heap.size + 1) v6 _ _ rfl t6.row c.dom rfl (by simp; omega) t6.big ?_
        intro v7 W7 r7 gr7
        have t7 := t6.grow (Below.refl _ _) t6.row r7 gr7
        clear r7 gr7 t6
        refine hK _ _ t7.box ?_
        clear hK K
        refine plist #[true, true, true, true, true, false] (by kernel_rfl) ?_
        refine pone 5 (by kernel_rfl) rfl fun K hK => ?_
        go_simp
        refine hK _ _ t7.box ?_
        clear hK K
        refine pdone (by kernel_rfl) ?_ _
        go_wp2_with fail
        go_meet
        rw [HP.out]
        exact t7
    case rest =>
      have t5 := hcut
      clear hcut t4 hpd
      obtain ⟨T5, hT5⟩ : ∃ T, T4 ++ domT c = T := ⟨_, rfl⟩
      have b5 : T5.length ≤ 16401 := by
        rw [← hT5, List.length_append]
        have : (domT c).length ≤ 4105 := by
          unfold domT
          split
          · simp
          · simp; omega
        omega
      rw [hT5] at t5 HT
      clear hT5 b4
      generalize wc = X5 at *
      generalize u3 = v5 at *
      have x4 := t5.box.box 4 _ k4
      go_upto_if 32 with fail
      clear x4
      obtain ⟨pa, hpa⟩ : ∃ b, decide (0 ≤ c.age) = b := ⟨_, rfl⟩
      rw [hpa]
      go_cut [3] from 32 to 37 (fun s3 X => TxI w cs (T5 ++ ageT c) s3 X)
      case first =>
        cases pa with
        | false =>
          have hz : c.age < 0 := by have := of_decide_eq_false hpa; omega
          have HP := Lib.hid (show ageT c = [] by unfold ageT; rw [if_pos hz])
          clear hz hpa a1 a2
          go_wp2_with fail
          go_meet
          rw [HP.out]
          exact t5.nil
        | true =>
          have hz : ¬ c.age < 0 := by have := of_decide_eq_true hpa; omega
          obtain ⟨m, hm⟩ : ∃ m : Nat, c.age = (m : Int) := ⟨c.age.toNat, by omega⟩
          have HP := Lib.hid (show T5 ++ ageT c = T5 ++ [59, 32, 77, 97, 120, 45, 65, 103, 101, 61] ++ digL m by unfold ageT; rw [if_neg hz, hm, List.append_assoc]; rfl)
          have hm2 : m ≤ 1073741824 := by omega
          have k4' : cs[4]? = some (.int .i64 (m : Int)) := by rw [k4, hm]
          clear hz hpa a1 a2 hm
          go_wp2_with fail
          refine pregion_any (fun X => CB w.heap.size cs X) (by kernel_rfl) ?_
          have t6 := t5.drew
          clear t5
          generalize X5.drew = X6 at *
          refine wpAnyH_take (i := 0) (v := (v5)) rfl (by kernel_rfl) (by kernel_rfl) (by kernel_rfl) (fun _ _ _ h => h) (.inl ⟨by kernel_rfl, ?_⟩) t6.box ?_
          · rintro w h; go_simp <;> omega
          refine plist #[true, false, false, false, false, false] (by kernel_rfl) ?_
          refine wpAnyH_take (i := 2) (v := (.pointer (some ⟨w.heap.size, 4, none⟩))) rfl (by kernel_rfl) (by kernel_rfl) (by kernel_rfl) (fun _ _ _ h => h) (.inl ⟨by kernel_rfl, ?_⟩) t6.box ?_
          · rintro w h; go_simp <;> omega
          refine plist #[true, false, true, false, false, false] (by kernel_rfl) ?_
          refine wpAnyH_take (i := 3) (v := (.int .i64 (m : Int))) rfl (by kernel_rfl) (by kernel_rfl) (by kernel_rfl) (fun _ _ _ h => h) (.inl ⟨by kernel_rfl, ?_⟩) t6.box ?_
          · rintro w h; have x4 := h.box 4 _ k4'; go_simp <;> omega
          refine plist #[true, false, true, true, false, false] (by kernel_rfl) ?_
          refine pone 1 (by kernel_rfl) rfl fun K hK => ?_
          refine wp_append_str (Operand.tmp 33) _ rfl (w.heap.size + 1) v5 T5.length (byV T5) rfl t6.row [59, 32, 77, 97, 120, 45, 65, 103, 101, 61] rfl (by simp; omega) t6.big ?_
          intro v7 W7 r7 gr7
          have t7 := t6.grow (Below.refl _ _) t6.row r7 gr7
          clear r7 gr7 t6
          refine hK _ _ t7.box ?_
          clear hK K
          refine plist #[true, true, true, true, false, false] (by kernel_rfl) ?_
          refine pone 4 (by kernel_rfl) rfl fun K hK => ?_
          go_simp
          refine (AppendAge_any (w.heap.size + 1) _ m v7 _ W7 t7.row hm2 t7.big (by simp; omega) (Gl.tab HG.out t7.bel (Nat.le_succ _))).mono ?_
          rintro e W8 ⟨v8, rfl, r8, hb8⟩
          have t8 := t7.below hb8 r8
          clear r8 hb8 t7
          refine hK _ _ t8.box ?_
          clear hK K
          refine plist #[true, true, true, true, true, false] (by kernel_rfl) ?_
          refine pone 5 (by kernel_rfl) rfl fun K hK => ?_
          go_simp
          refine hK _ _ t8.box ?_
          clear hK K
          refine pdone (by kernel_rfl) ?_ _
          go_wp2_with fail
          go_meet
          rw [HP.out]
          exact t8
      case rest =>
        have t6 := hcut
        clear hcut t5 hpa
        obtain ⟨T6, hT6⟩ : ∃ T, T5 ++ ageT c = T := ⟨_, rfl⟩
        have b6 : T6.length ≤ 16421 := by
          rw [← hT6, List.length_append]
          have : (ageT c).length ≤ 20 := by
            unfold ageT
            split
            · simp
            · have := dig_short 10 c.age.toNat (by omega) (by omega)
              simp; omega
          omega
        rw [hT6] at t6 HT
        clear hT6 b5
        generalize wc = X6 at *
        generalize u3 = v6 at *
        have x5 := t6.box.box 5 _ k5
        cases hse : c.secure with
        | false =>
          rw [hse] at x5
          have HE := Lib.hid (show textC c = T6 by rw [HT.out]; unfold secT; rw [hse]; simp)
          clear hse
          go_wp2
          go_ret
          have hr := By.row t6.row
          obtain ⟨q, cc, rfl⟩ := by_form hr
          rw [HE.out]
          exact ⟨q, _, cc, rfl, hr, t6.bel⟩
        | true =>
          rw [hse] at x5
          have HE := Lib.hid (show textC c = T6 ++ [59, 32, 83, 101, 99, 117, 114, 101] by rw [HT.out]; unfold secT; rw [hse]; simp)
          clear hse
          go_wp2_with (at_builtin; refine wpList_append_str (w := X6) rfl _ _ rfl (w.heap.size + 1) v6 T6.length (byV T6) rfl t6.row [59, 32, 83, 101, 99, 117, 114, 101] rfl (by simp; omega) t6.big ?_; intro v7 W7 r7 gr7)
          have t7 := t6.grow (Below.refl _ _) t6.row r7 gr7
          go_ret
          have hr := By.row t7.row
          obtain ⟨q, cc, rfl⟩ := by_form hr
          rw [HE.out]
          exact ⟨q, _, cc, rfl, hr, t7.bel⟩
end Go.Proofs.YtdbpbfbjebjbeaaDoor.Ck
