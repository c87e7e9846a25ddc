/- FormulaMeans: the law returns true at whatever input, and writes nothing that was there: its tied card. Conditions: none. -/
import Derived.Test.YtgkandghennbhaaGreatDoorBaseE
import Derived.Deep.DeepCutAuto
namespace Go.Proofs.YtgkandghennbhaaGreatDoor.formulaMeans
open Go.RowKit Go.Shelf Url Org Frm Cls
attribute [local go_sem] Oper.semAt_some
set_option linter.unusedVariables false

theorem row_by {w : World} {a : Option Addr} {len cap : Nat} {zs : List Int} (h : IsRow .u8 w a len cap zs) : ∃ bs : List UInt8, By w (.slice a len cap) bs := by
  rcases h with ⟨rfl, rfl, rfl, rfl⟩ | ⟨x, rfl, h1, h2, h3, h4, h5⟩
  · exact ⟨[], by_nil w⟩
  · have hz : ∀ i, i < len → (Lib.numsL (Lib.bytesOf (zs.take len))).getD i 0 = zs.getD i 0 := fun i hi => by
      have hi' : i < zs.length := by omega
      have hw := bounds_u8 (h5 _ (List.getElem_mem hi'))
      have : (Lib.bytesOf (zs.take len)).getD i 0 = UInt8.ofNat (zs[i]).toNat := by
        simp [Lib.bytesOf, List.getD, hi, List.getElem?_eq_getElem hi']
      rw [numsL_getD _ _ (by simp [Lib.bytesOf]; omega), this, List.getD, List.getElem?_eq_getElem hi']
      simp only [Option.getD_some, UInt8.toNat_ofNat']
      omega
    refine ⟨Lib.bytesOf (zs.take len), By.of (by simp [Lib.bytesOf]; omega) h1 h2 (fun h => by cases h) (Lib.BytesIn.of_cells fun i hi => ?_)⟩
    rw [hz i hi]
    exact h4 i (by omega)

theorem cell_two (w : World) (t : TypeId) (u v : Value) : (w.alloc (.cells #[u, v] t)).cell? ⟨w.heap.size, 0, none⟩ = some u ∧ (w.alloc (.cells #[u, v] t)).cell? ⟨w.heap.size, 1, none⟩ = some v := by
  have h := World.alloc_heap_new w (.cells #[u, v] t)
  constructor
  · show World.cell? _ ⟨w.heap.size, 0, none⟩ = _
    unfold World.cell?
    rw [h]
    rfl
  · show World.cell? _ ⟨w.heap.size, 1, none⟩ = _
    unfold World.cell?
    rw [h]
    rfl
theorem pow8 (n : Nat) (h : n ≤ 8) : 2 ^ n ≤ 256 := Nat.pow_le_pow_right (by decide) h
theorem pow_wrap (n : Nat) (h : n ≤ 8) : wrap64 ((2 : Int) ^ n) = ((2 ^ n : Nat) : Int) := by
  have h1 : (2 : Int) ^ n = ((2 ^ n : Nat) : Int) := by push_cast; rfl
  have h2 := pow8 n h
  rw [h1]
  generalize 2 ^ n = m at h2
  unfold wrap64; omega
theorem sum_len (r : Sum Int (List (List (List UInt8)))) (h : ∀ x, r = .inr x → x.length ≤ 16) : (frmV r).length ≤ 16 := by
  cases r with
  | inl _ => exact Nat.zero_le _
  | inr x => exact h x rfl
theorem of_few (l x : List (List (List UInt8))) (h : ofF l = .inr x) : x.length ≤ 16 := by
  unfold ofF at h
  split at h
  · rename_i hf; cases h; exact hf
  · cases h
theorem or_few (f g x : List (List (List UInt8))) (h : orR f g = .inr x) : x.length ≤ 16 := by
  unfold orR at h
  split at h
  · exact of_few _ _ h
  · cases h
theorem of_err (l : List (List (List UInt8))) : frmE (ofF l) = 0 → ∃ x, ofF l = .inr x := by
  unfold ofF
  split
  · exact fun _ => ⟨_, rfl⟩
  · exact fun h => absurd h (by decide)
theorem or_err (f g : List (List (List UInt8))) : frmE (orR f g) = 0 → ∃ x, orR f g = .inr x := by
  unfold orR
  split
  · exact of_err _
  · exact fun h => absurd h (by decide)

/-- A box that holds a formula. -/
def FB (b : Nat) (q : Option Addr) (n c : Nat) (x : List (List (List UInt8))) (X : World) : Prop := Boxed X b 26 (.slice q n c) ∧ FrmIs X (.agg #[.slice q n c]) x
theorem FB.on {b : Nat} {q : Option Addr} {n c : Nat} {x : List (List (List UInt8))} {X Y : World} (h : FB b q n c x X) (hb : Below X.heap.size X Y) : FB b q n c x Y :=
  ⟨(Keep.of_below hb).boxed h.1 h.1.lt, h.2.below hb⟩
theorem FB.new {q : Option Addr} {n c : Nat} {x : List (List (List UInt8))} {X : World} (h : FrmIs X (.agg #[.slice q n c]) x) : FB X.heap.size q n c x (X.alloc (.cells #[.slice q n c] 26)) :=
  ⟨Boxed.new _ _ _, h.below (below_alloc _)⟩
theorem FB.cell {b : Nat} {q : Option Addr} {n c : Nat} {x : List (List (List UInt8))} {X : World} (h : FB b q n c x X) : X.cell? ⟨b, 0, none⟩ = some (.slice q n c) := h.1.cell

set_option maxRecDepth 100000 in
set_option maxHeartbeats 16000000 in
theorem walk : Walks := by
  intro a0 len0 cap0 z0 a1 len1 cap1 z1 w w0 w1 hG
  obtain ⟨ta, ha⟩ := row_by w0
  obtain ⟨bs, hb1⟩ := row_by w1
  clear w0 w1
  have con := lives_any w hG
  have HG := Lib.hid hG
  clear hG
  go_enter Tryz.func3, Tryz.ntmps3
  go_wp2_with fail
  refine con.mono ?_
  rintro e X1 ⟨rfl, B_1⟩
  clear con
  have con := lawOf_any a0 len0 cap0 ta X1 (ha.on B_1) (HG.out.on B_1)
  have hf := Lib.hid (parse_frm (ta.take 400))
  have hg := Lib.hid (parse_frm (bs.take 400))
  generalize frmV (parseF (ta.take 400)) = f at con hf
  clear ha
  go_wp2_with fail
  refine con.mono ?_
  rintro e X2 ⟨q5, n5, c5, rfl, hs5, hb⟩
  have B_2 := B_1.trans (hb.mono B_1.size)
  clear con hb B_1
  have con := lawOf_any a1 len1 cap1 bs X2 (hb1.on B_2) (HG.out.on B_2)
  generalize frmV (parseF (bs.take 400)) = g at con hg
  clear hb1
  go_wp2_with fail
  refine con.mono ?_
  rintro e X3 ⟨q6, n6, c6, rfl, hs6, hb⟩
  replace hs5 := hs5.below hb
  have B_3 := B_2.trans (hb.mono B_2.size)
  clear con hb B_2
  obtain ⟨b5, hb5⟩ : ∃ b, X3.heap.size = b := ⟨_, rfl⟩
  obtain ⟨X4, hX4⟩ : ∃ Z, X3.alloc (.cells #[.slice q5 n5 c5] 26) = Z := ⟨_, rfl⟩
  have hz4 : X4.heap.size = b5 + 1 := by rw [← hX4, ← hb5]; simp
  have F5 : FB b5 q5 n5 c5 f X4 := by rw [← hX4, ← hb5]; exact FB.new hs5
  have hb : Below X3.heap.size X3 X4 := by rw [← hX4]; exact below_alloc _
  replace hs6 := hs6.below hb
  have B_4 := B_3.trans (hb.mono B_3.size)
  obtain ⟨X5, hX5⟩ : ∃ Z, X4.alloc (.cells #[.slice q6 n6 c6] 26) = Z := ⟨_, rfl⟩
  have F6 : FB (b5 + 1) q6 n6 c6 g X5 := by rw [← hX5, ← hz4]; exact FB.new hs6
  have hb : Below X4.heap.size X4 X5 := by rw [← hX5]; exact below_alloc _
  have B_5 := B_4.trans (hb.mono B_4.size)
  replace F5 := F5.on hb
  have HX4 := Lib.hid hX4
  have HX5 := Lib.hid hX5
  have HB5 := Lib.hid hb5
  clear hX4 hX5 hb5 hz4 hs5 hs6 hb B_3 B_4
  go_wp2_with fail
  rewrite [HB5.out, HX4.out, HX5.out]
  have fl : f.length ≤ 16 := hf.out.few
  have gl' : g.length ≤ 16 := hg.out.few
  clear HB5 HX4 HX5
  refine pregion_any (fun X => X.cell? ⟨b5, 0, none⟩ = some (.slice q5 n5 c5) ∧ X.cell? ⟨b5 + 1, 0, none⟩ = some (.slice q6 n6 c6)) (by kernel_rfl) ?_
  have hb : Below X5.heap.size X5 X5.drew := ⟨rfl, rfl, rfl, Nat.le_refl _, fun _ _ => rfl⟩
  obtain ⟨X6, hXd⟩ : ∃ Z, X5.drew = Z := ⟨_, rfl⟩
  rw [hXd] at hb ⊢
  have B_6 := B_5.trans (hb.mono B_5.size)
  replace F5 := F5.on hb
  replace F6 := F6.on hb
  clear hb hXd B_5
  refine wpAnyH_take (i := 0) (v := (.agg #[.slice q5 n5 c5])) rfl (by kernel_rfl) (by kernel_rfl) (by kernel_rfl) (fun _ _ _ h => h) (.inl ⟨by kernel_rfl, ?_⟩) ⟨F5.cell, F6.cell⟩ ?_
  · rintro w ⟨h1, h2⟩; go_simp <;> omega
  refine plist #[true, false, false, false, false, false] (by kernel_rfl) ?_
  refine wpAnyH_take (i := 2) (v := (.agg #[.slice q6 n6 c6])) rfl (by kernel_rfl) (by kernel_rfl) (by kernel_rfl) (fun _ _ _ h => h) (.inl ⟨by kernel_rfl, ?_⟩) ⟨F5.cell, F6.cell⟩ ?_
  · rintro w ⟨h1, h2⟩; go_simp <;> omega
  refine plist #[true, false, true, false, false, false] (by kernel_rfl) ?_
  have con := Ref_any _ f X6 F5.2 (by omega)
  refine pone 1 (by kernel_rfl) rfl fun K hK => ?_
  go_simp
  refine con.mono ?_
  rintro e X7 ⟨q7, n7, c7, rfl, R7, hb⟩
  have B_7 := B_6.trans (hb.mono B_6.size)
  replace F5 := F5.on hb
  replace F6 := F6.on hb
  clear con hb B_6
  refine hK _ _ ⟨F5.cell, F6.cell⟩ ?_
  clear hK K
  refine plist #[true, true, true, false, false, false] (by kernel_rfl) ?_
  have con := Ref_any _ g X7 F6.2 (by omega)
  refine pone 3 (by kernel_rfl) rfl fun K hK => ?_
  go_simp
  refine con.mono ?_
  rintro e X8 ⟨q8, n8, c8, rfl, R8, hb⟩
  have B_8 := B_7.trans (hb.mono B_7.size)
  replace F5 := F5.on hb
  replace F6 := F6.on hb
  replace R7 := R7.below hb
  clear con hb B_7
  refine hK _ _ ⟨F5.cell, F6.cell⟩ ?_
  clear hK K
  refine plist #[true, true, true, true, false, false] (by kernel_rfl) ?_
  refine pone 4 (by kernel_rfl) rfl fun K hK => ?_
  go_simp
  refine hK _ _ ⟨F5.cell, F6.cell⟩ ?_
  clear hK K
  refine plist #[true, true, true, true, true, false] (by kernel_rfl) ?_
  refine pone 5 (by kernel_rfl) rfl fun K hK => ?_
  go_simp
  refine hK _ _ ⟨F5.cell, F6.cell⟩ ?_
  clear hK K
  refine pdone (by kernel_rfl) ?_ _
  obtain ⟨X9, hX9⟩ : ∃ Z, X8.alloc (.cells #[.slice q7 n7 c7, .slice q8 n8 c8] 29) = Z := ⟨_, rfl⟩
  have hb : Below X8.heap.size X8 X9 := by rw [← hX9]; exact below_alloc _
  have hc0 : X9.cell? ⟨X8.heap.size, 0, none⟩ = some (.slice q7 n7 c7) := by rw [← hX9]; exact (cell_two _ _ _ _).1
  have hc1 : X9.cell? ⟨X8.heap.size, 1, none⟩ = some (.slice q8 n8 c8) := by rw [← hX9]; exact (cell_two _ _ _ _).2
  have B_9 := B_8.trans (hb.mono B_8.size)
  replace F5 := F5.on hb
  replace F6 := F6.on hb
  replace R7 := R7.below hb
  replace R8 := R8.below hb
  have n7l : n7 ≤ 16 := by rw [← R7.len]; exact fl
  have n8l : n8 ≤ 16 := by rw [← R8.len]; exact gl'
  have con := refPrin_any X8.heap.size q7 q8 n7 c7 n8 c8 f g X9 hc0 hc1 R7 R8 n7l n8l
  have HX9 := Lib.hid hX9
  clear hX9 hb hc0 hc1 B_8
  go_wp2_with fail
  rw [HX9.out]
  refine con.mono ?_
  rintro e X10 ⟨q9, n9, c9, rfl, s9, hb⟩
  have B_10 := B_9.trans (hb.mono B_9.size)
  replace F5 := F5.on hb
  replace F6 := F6.on hb
  replace R7 := R7.below hb
  replace R8 := R8.below hb
  clear con hb B_9 HX9
  by_cases hnb : 8 < n9
  · have d1 : decide ((8 : Int) < (n9 : Int)) = true := by simp; omega
    clear F5 F6 R7 R8 s9 hf hg
    go_wp2
    go_ret
    exact ⟨rfl, B_10⟩
  have d1 : decide ((8 : Int) < (n9 : Int)) = false := by simp; omega
  have hn9 : n9 ≤ 8 := by omega
  have HN9 := Lib.hid s9.1
  have HAND := Lib.hid (show frmE (andR f g) = 0 → ∀ S, holdsB (frmV (andR f g)) S = (holdsB f S && holdsB g S) from fun h S => by
    obtain ⟨x, hx⟩ := of_err (f ++ g) h
    rw [show andR f g = .inr x from hx]
    exact andR_holds f g x hf.out hg.out hx S)
  have HOR := Lib.hid (show frmE (orR f g) = 0 → ∀ S, holdsB (frmV (orR f g)) S = (holdsB f S || holdsB g S) from fun h S => by
    obtain ⟨x, hx⟩ := or_err f g h
    rw [hx]
    exact orR_holds f g x hx S)
  have xl : (frmV (andR f g)).length ≤ 16 := sum_len _ fun x h => of_few _ _ h
  have yl : (frmV (orR f g)).length ≤ 16 := sum_len _ fun x h => or_few _ _ _ h
  have HIMP := Lib.hid (impK_all f g)
  have HSAME := Lib.hid (sameK_all f g hf.out.canon hg.out.canon)
  have con := And_any _ _ f g X10 F5.2 F6.2 (by omega)
  have con2 := fun W (h1 : FrmIs W (.agg #[.slice q5 n5 c5]) f) (h2 : FrmIs W (.agg #[.slice q6 n6 c6]) g) => Or_any _ _ f g W h1 h2 fl gl'
  have x5 := F5.cell
  have x6 := F6.cell
  clear hnb hf hg
  generalize hra : andR f g = ra at con HAND xl
  generalize hro : orR f g = ro at con2 HOR yl
  generalize hnm : namesL f g = names at s9 HN9 HIMP HSAME
  clear hra hro hnm
  go_wp2_with fail
  refine con.mono ?_
  rintro e X11 ⟨q10, n10, c10, rfl, hs10, _, hb⟩
  have B_11 := B_10.trans (hb.mono B_10.size)
  replace F5 := F5.on hb
  replace F6 := F6.on hb
  replace R7 := R7.below hb
  replace R8 := R8.below hb
  replace s9 := s9.below hb s9.lt
  clear con hb x5 x6 B_10
  generalize frmV ra = x at hs10 HAND xl
  generalize frmE ra = ea at HAND
  clear ra
  obtain ⟨b10, hb10⟩ : ∃ b, X11.heap.size = b := ⟨_, rfl⟩
  obtain ⟨X12, hX12⟩ : ∃ Z, X11.alloc (.cells #[.slice q10 n10 c10] 26) = Z := ⟨_, rfl⟩
  have F10 : FB b10 q10 n10 c10 x X12 := by rw [← hX12, ← hb10]; exact FB.new hs10
  have hb : Below X11.heap.size X11 X12 := by rw [← hX12]; exact below_alloc _
  have B_12 := B_11.trans (hb.mono B_11.size)
  replace F5 := F5.on hb
  replace F6 := F6.on hb
  replace R7 := R7.below hb
  replace R8 := R8.below hb
  replace s9 := s9.below hb s9.lt
  have con := con2 X12 F5.2 F6.2
  have x5 : (X11.alloc (.cells #[.slice q10 n10 c10] 26)).cell? ⟨b5, 0, none⟩ = some (.slice q5 n5 c5) := by rw [hX12]; exact F5.cell
  have x6 : (X11.alloc (.cells #[.slice q10 n10 c10] 26)).cell? ⟨b5 + 1, 0, none⟩ = some (.slice q6 n6 c6) := by rw [hX12]; exact F6.cell
  have HX12 := Lib.hid hX12
  have HB10 := Lib.hid hb10
  clear hX12 hb10 hb hs10 con2 B_11
  go_wp2_with fail
  rewrite [HB10.out, HX12.out]
  refine con.mono ?_
  rintro e X13 ⟨q12, n12, c12, rfl, hs12, _, hb⟩
  have B_13 := B_12.trans (hb.mono B_12.size)
  replace F5 := F5.on hb
  replace F6 := F6.on hb
  replace F10 := F10.on hb
  replace R7 := R7.below hb
  replace R8 := R8.below hb
  replace s9 := s9.below hb s9.lt
  clear con hb x5 x6 B_12 HX12 HB10
  generalize frmV ro = y at hs12 HOR yl
  generalize frmE ro = eo at HOR
  clear ro
  obtain ⟨b12, hb12⟩ : ∃ b, X13.heap.size = b := ⟨_, rfl⟩
  obtain ⟨X14, hX14⟩ : ∃ Z, X13.alloc (.cells #[.slice q12 n12 c12] 26) = Z := ⟨_, rfl⟩
  have F12 : FB b12 q12 n12 c12 y X14 := by rw [← hX14, ← hb12]; exact FB.new hs12
  have hb : Below X13.heap.size X13 X14 := by rw [← hX14]; exact below_alloc _
  have B_14 := B_13.trans (hb.mono B_13.size)
  replace F5 := F5.on hb
  replace F6 := F6.on hb
  replace F10 := F10.on hb
  replace R7 := R7.below hb
  replace R8 := R8.below hb
  replace s9 := s9.below hb s9.lt
  have HX14 := Lib.hid hX14
  have HB12 := Lib.hid hb12
  clear hX14 hb12 hb hs12 B_13
  go_wp2_with fail
  rewrite [HB12.out, HX14.out]
  refine pregion_any (fun X => X.cell? ⟨b10, 0, none⟩ = some (.slice q10 n10 c10) ∧ X.cell? ⟨b12, 0, none⟩ = some (.slice q12 n12 c12)) (by kernel_rfl) ?_
  have hb : Below X14.heap.size X14 X14.drew := ⟨rfl, rfl, rfl, Nat.le_refl _, fun _ _ => rfl⟩
  obtain ⟨X15, hXd⟩ : ∃ Z, X14.drew = Z := ⟨_, rfl⟩
  rw [hXd] at hb ⊢
  have B_15 := B_14.trans (hb.mono B_14.size)
  replace F5 := F5.on hb
  replace F6 := F6.on hb
  replace F10 := F10.on hb
  replace F12 := F12.on hb
  replace R7 := R7.below hb
  replace R8 := R8.below hb
  replace s9 := s9.below hb s9.lt
  clear hb hXd B_14 HX14 HB12
  refine wpAnyH_take (i := 0) (v := (.agg #[.slice q10 n10 c10])) rfl (by kernel_rfl) (by kernel_rfl) (by kernel_rfl) (fun _ _ _ h => h) (.inl ⟨by kernel_rfl, ?_⟩) ⟨F10.cell, F12.cell⟩ ?_
  · rintro w ⟨h1, h2⟩; go_simp <;> omega
  refine plist #[true, false, false, false, false, false] (by kernel_rfl) ?_
  refine wpAnyH_take (i := 2) (v := (.agg #[.slice q12 n12 c12])) rfl (by kernel_rfl) (by kernel_rfl) (by kernel_rfl) (fun _ _ _ h => h) (.inl ⟨by kernel_rfl, ?_⟩) ⟨F10.cell, F12.cell⟩ ?_
  · rintro w ⟨h1, h2⟩; go_simp <;> omega
  refine plist #[true, false, true, false, false, false] (by kernel_rfl) ?_
  have con := Ref_any _ x X15 F10.2 (by omega)
  refine pone 1 (by kernel_rfl) rfl fun K hK => ?_
  go_simp
  refine con.mono ?_
  rintro e X16 ⟨q14, n14, c14, rfl, R14, hb⟩
  have B_16 := B_15.trans (hb.mono B_15.size)
  replace F5 := F5.on hb
  replace F6 := F6.on hb
  replace F10 := F10.on hb
  replace F12 := F12.on hb
  replace R7 := R7.below hb
  replace R8 := R8.below hb
  replace s9 := s9.below hb s9.lt
  clear con hb B_15
  refine hK _ _ ⟨F10.cell, F12.cell⟩ ?_
  clear hK K
  refine plist #[true, true, true, false, false, false] (by kernel_rfl) ?_
  have con := Ref_any _ y X16 F12.2 (by omega)
  refine pone 3 (by kernel_rfl) rfl fun K hK => ?_
  go_simp
  refine con.mono ?_
  rintro e X17 ⟨q15, n15, c15, rfl, R15, hb⟩
  have B_17 := B_16.trans (hb.mono B_16.size)
  replace F5 := F5.on hb
  replace F6 := F6.on hb
  replace F10 := F10.on hb
  replace F12 := F12.on hb
  replace R7 := R7.below hb
  replace R8 := R8.below hb
  replace R14 := R14.below hb
  replace s9 := s9.below hb s9.lt
  clear con hb B_16
  refine hK _ _ ⟨F10.cell, F12.cell⟩ ?_
  clear hK K
  refine plist #[true, true, true, true, false, false] (by kernel_rfl) ?_
  refine pone 4 (by kernel_rfl) rfl fun K hK => ?_
  go_simp
  refine hK _ _ ⟨F10.cell, F12.cell⟩ ?_
  clear hK K
  refine plist #[true, true, true, true, true, false] (by kernel_rfl) ?_
  refine pone 5 (by kernel_rfl) rfl fun K hK => ?_
  go_simp
  refine hK _ _ ⟨F10.cell, F12.cell⟩ ?_
  clear hK K
  refine pdone (by kernel_rfl) ?_ _
  clear F10 F12
  have n14l : n14 ≤ 16 := by rw [← R14.len]; exact xl
  have n15l : n15 ≤ 16 := by rw [← R15.len]; exact yl
  clear d1
  go_wp2_with fail
  have hM : 2 ^ n9 ≤ 256 := pow8 n9 hn9
  have hpw := pow_wrap n9 hn9
  rw [hpw]
  rw [HN9.out] at HIMP HSAME
  clear hpw
  generalize 2 ^ n9 = M at hM HIMP HSAME ⊢
  have hrf := fun k (hk : k < 256) => refHolds_any q7 n7 c7 f q9 n9 c9 names k X17 R7 s9 hk hn9 (by omega)
  have hrg := fun k (hk : k < 256) => refHolds_any q8 n8 c8 g q9 n9 c9 names k X17 R8 s9 hk hn9 (by omega)
  have hrx := fun k (hk : k < 256) => refHolds_any q14 n14 c14 x q9 n9 c9 names k X17 R14 s9 hk hn9 (by omega)
  have hry := fun k (hk : k < 256) => refHolds_any q15 n15 c15 y q9 n9 c9 names k X17 R15 s9 hk hn9 (by omega)
  have HIS := Lib.hid (impK_succ f g names)
  have HSS := Lib.hid (sameK_succ f g names)
  have HI0 := Lib.hid (show impK f g names 0 = true from rfl)
  have HS0 := Lib.hid (show sameK f g names 0 = true from rfl)
  have HRF := Lib.hid hrf
  have HRG := Lib.hid hrg
  have HRX := Lib.hid hrx
  have HRY := Lib.hid hry
  clear R7 R8 R14 R15 s9 hrf hrg hrx hry
  go_loop [16, 17, 57] (fun s16 s17 i => ∃ k : Nat, k ≤ M ∧ i = .int .i64 k ∧ s16 = .bool (impK f g names k) ∧ s17 = .bool (sameK f g names k)) (fun _ _ i => M - (intOf i).toNat)
  case atStart => exact ⟨0, Nat.zero_le _, rfl, by rw [HI0.out], by rw [HS0.out]⟩
  case round =>
    obtain ⟨k, hk, rfl, rfl, rfl⟩ := hrel
    by_cases hlt : k < M
    · have hi := Lib.hid (HIS.out k)
      have hs := Lib.hid (HSS.out k)
      have HA := Lib.hid (fun h : ea = 0 => HAND.out h (setB names k))
      have HO := Lib.hid (fun h : eo = 0 => HOR.out h (setB names k))
      have con := HRF.out k (by omega)
      have con2 := Lib.hid (HRG.out k (by omega))
      have con3 := Lib.hid (HRX.out k (by omega))
      have con4 := Lib.hid (HRY.out k (by omega))
      have HB := Lib.hid B_17
      clear F5 F6 B_17
      generalize holdsB f (setB names k) = P at hi hs HA HO con
      generalize holdsB g (setB names k) = Q at hi hs HA HO con2
      generalize holdsB x (setB names k) = U at HA con3
      generalize holdsB y (setB names k) = V at HO con4
      generalize impK f g names k = m1 at hi ⊢
      generalize sameK f g names k = m2 at hs ⊢
      clear HAND HOR HIMP HSAME HIS HSS HI0 HS0 HRF HRG HRX HRY
      go_wp2_with fail
      refine con.mono ?_
      rintro e X18 ⟨rfl, rfl⟩
      clear con
      have con := con2.out
      go_wp2_with fail
      refine con.mono ?_
      rintro e X18 ⟨rfl, rfl⟩
      clear con con2
      go_upto_region 16 with fail
      go_cut [16, 57] from 57 to 110 (fun s16 s57 X => s16 = .bool (impK f g names (k + 1)) ∧ s57 = .int .i64 k ∧ X17 = X)
      case first =>
        clear hs HA HO con3 con4
        cases m1 <;> cases P <;> cases Q <;> (go_wp2_with fail; go_meet; exact ⟨by rw [hi.out]; rfl, rfl, rfl⟩)
      case rest =>
      obtain ⟨rfl, rfl, rfl⟩ := hcut
      clear hi
      generalize HM3 : impK f g names (k + 1) = m3 at *
      replace HM3 := Lib.hid HM3
      go_upto_region 17 with fail
      go_cut [17, 57] from 57 to 110 (fun s17 s57 X => s17 = .bool (sameK f g names (k + 1)) ∧ s57 = .int .i64 k ∧ X17 = X)
      case first =>
        clear HA HO con3 con4
        cases m2 <;> cases P <;> cases Q <;> (go_wp2_with fail; go_meet; exact ⟨by rw [hs.out]; rfl, rfl, rfl⟩)
      case rest =>
      obtain ⟨rfl, rfl, rfl⟩ := hcut
      clear hs
      generalize HM4 : sameK f g names (k + 1) = m4 at *
      replace HM4 := Lib.hid HM4
      by_cases hea : ea = 0
      · subst hea
        have hU := HA.out rfl
        subst hU
        by_cases heo : eo = 0
        · subst heo
          have hV := HO.out rfl
          subst hV
          clear HA HO
          cases P <;> cases Q
          all_goals (
            have con := con3.out
            have con5 := con4.out
            clear con3 con4
            go_wp2_with fail
            refine con.mono ?_
            rintro e X18 ⟨rfl, rfl⟩
            clear con
            go_wp2_with fail
            refine con5.mono ?_
            rintro e X18 ⟨rfl, rfl⟩
            clear con5
            go_wp2
            go_round
            case rel => exact ⟨k + 1, by omega, by go_num, by rw [HM3.out], by rw [HM4.out]⟩
            case measure => simp [intOf]; omega)
        · have e1 : (eo == 0) = false := by rw [beq_eq_false_iff_ne]; exact heo
          clear HA HO con4
          cases P <;> cases Q
          all_goals (
            have con := con3.out
            clear con3
            go_wp2_with fail
            refine con.mono ?_
            rintro e X18 ⟨rfl, rfl⟩
            clear con
            go_wp2
            go_round
            case rel => exact ⟨k + 1, by omega, by go_num, by rw [HM3.out], by rw [HM4.out]⟩
            case measure => simp [intOf]; omega)
      · have e0 : (ea == 0) = false := by rw [beq_eq_false_iff_ne]; exact hea
        by_cases heo : eo = 0
        · subst heo
          have hV := HO.out rfl
          subst hV
          clear HA HO con3
          cases P <;> cases Q
          all_goals (
            have con := con4.out
            clear con4
            go_wp2_with fail
            refine con.mono ?_
            rintro e X18 ⟨rfl, rfl⟩
            clear con
            go_wp2
            go_round
            case rel => exact ⟨k + 1, by omega, by go_num, by rw [HM3.out], by rw [HM4.out]⟩
            case measure => simp [intOf]; omega)
        · have e1 : (eo == 0) = false := by rw [beq_eq_false_iff_ne]; exact heo
          clear HA HO con3 con4
          go_wp2
          go_round
          case rel => exact ⟨k + 1, by omega, by go_num, by rw [HM3.out], by rw [HM4.out]⟩
          case measure => simp [intOf]; omega
    · obtain rfl : k = M := by omega
      have hI := Lib.hid (HIMP.out)
      have hS := Lib.hid (HSAME.out)
      rw [hI.out, hS.out]
      have con := Implies_any _ _ f g X17 F5.2 F6.2 (by omega) (by omega)
      have con2 := fun W (h1 : FrmIs W (.agg #[.slice q5 n5 c5]) f) (h2 : FrmIs W (.agg #[.slice q6 n6 c6]) g) => Same_any _ _ f g W h1 h2 (by omega) (by omega)
      clear HIMP HSAME HIS HSS HI0 HS0 HRF HRG HRX HRY HAND HOR hI hS
      generalize impB f g = m1 at con ⊢
      generalize decide (f = g) = m2 at con2 ⊢
      have x5 := F5.cell
      have x6 := F6.cell
      go_wp2_with fail
      refine con.mono ?_
      rintro e X18 ⟨rfl, hb⟩
      have B_18 := B_17.trans (hb.mono B_17.size)
      replace F5 := F5.on hb
      replace F6 := F6.on hb
      clear con hb B_17 x5 x6
      have x5 := F5.cell
      have x6 := F6.cell
      have con := con2 X18 F5.2 F6.2
      have e1 : (m1 == m1) = true := by cases m1 <;> rfl
      have e2 : (m2 == m2) = true := by cases m2 <;> rfl
      go_wp2_with fail
      refine con.mono ?_
      rintro e X19 ⟨rfl, hb⟩
      have B_19 := B_18.trans (hb.mono B_18.size)
      clear con con2 hb B_18 x5 x6
      go_wp2
      go_ret
      exact ⟨by first | rfl | simp, B_19⟩

theorem proved : Rows.FormulaMeansCardSaid := card walk
end Go.Proofs.YtgkandghennbhaaGreatDoor.formulaMeans
