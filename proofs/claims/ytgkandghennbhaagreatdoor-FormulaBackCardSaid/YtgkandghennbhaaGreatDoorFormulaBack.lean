/- FormulaBack: the law returns true at whatever input, and writes nothing that was there: its tied card. Conditions: none. -/
import Derived.Test.YtgkandghennbhaaGreatDoorBaseF
import Derived.Deep.DeepCutAuto
namespace Go.Proofs.YtgkandghennbhaaGreatDoor.formulaBack
open Go.RowKit Go.Shelf Url Org Frm Cls
attribute [local go_sem] Oper.semAt_some
set_option linter.unusedVariables false

theorem row_by {w : World} {a : Option Addr} {len cap : Nat} {zs : List Int} (h : IsRow .u8 w a len cap zs) : ∃ bs : List UInt8, By w (.slice a len cap) bs := by
  rcases h with ⟨rfl, rfl, rfl, rfl⟩ | ⟨x, rfl, h1, h2, h3, h4, h5⟩
  · exact ⟨[], by_nil w⟩
  · have hz : ∀ i, i < len → (Lib.numsL (Lib.bytesOf (zs.take len))).getD i 0 = zs.getD i 0 := fun i hi => by
      have hi' : i < zs.length := by omega
      have hw := bounds_u8 (h5 _ (List.getElem_mem hi'))
      have : (Lib.bytesOf (zs.take len)).getD i 0 = UInt8.ofNat (zs[i]).toNat := by
        simp [Lib.bytesOf, List.getD, hi, List.getElem?_eq_getElem hi']
      rw [numsL_getD _ _ (by simp [Lib.bytesOf]; omega), this, List.getD, List.getElem?_eq_getElem hi']
      simp only [Option.getD_some, UInt8.toNat_ofNat']
      omega
    refine ⟨Lib.bytesOf (zs.take len), By.of (by simp [Lib.bytesOf]; omega) h1 h2 (fun h => by cases h) (Lib.BytesIn.of_cells fun i hi => ?_)⟩
    rw [hz i hi]
    exact h4 i (by omega)

/-- A box that holds a formula. -/
def FB (b : Nat) (q : Option Addr) (n c : Nat) (x : List (List (List UInt8))) (X : World) : Prop := Boxed X b 26 (.slice q n c) ∧ FrmIs X (.agg #[.slice q n c]) x
theorem FB.on {b : Nat} {q : Option Addr} {n c : Nat} {x : List (List (List UInt8))} {X Y : World} (h : FB b q n c x X) (hb : Below X.heap.size X Y) : FB b q n c x Y :=
  ⟨(Keep.of_below hb).boxed h.1 h.1.lt, h.2.below hb⟩
theorem FB.new {q : Option Addr} {n c : Nat} {x : List (List (List UInt8))} {X : World} (h : FrmIs X (.agg #[.slice q n c]) x) : FB X.heap.size q n c x (X.alloc (.cells #[.slice q n c] 26)) :=
  ⟨Boxed.new _ _ _, h.below (below_alloc _)⟩
theorem FB.cell {b : Nat} {q : Option Addr} {n c : Nat} {x : List (List (List UInt8))} {X : World} (h : FB b q n c x X) : X.cell? ⟨b, 0, none⟩ = some (.slice q n c) := h.1.cell

/-- A box that holds a clause. -/
def CB (b : Nat) (q : Option Addr) (n c : Nat) (x : List (List UInt8)) (X : World) : Prop := Boxed X b 44 (.slice q n c) ∧ SetIs encStr X (.agg #[.slice q n c]) x
theorem CB.on {b : Nat} {q : Option Addr} {n c : Nat} {x : List (List UInt8)} {X Y : World} (h : CB b q n c x X) (hb : Below X.heap.size X Y) : CB b q n c x Y :=
  ⟨(Keep.of_below hb).boxed h.1 h.1.lt, h.2.below hb⟩
theorem CB.new {q : Option Addr} {n c : Nat} {x : List (List UInt8)} {X : World} (h : SetIs encStr X (.agg #[.slice q n c]) x) : CB X.heap.size q n c x (X.alloc (.cells #[.slice q n c] 44)) :=
  ⟨Boxed.new _ _ _, h.below (below_alloc _)⟩
theorem CB.cell {b : Nat} {q : Option Addr} {n c : Nat} {x : List (List UInt8)} {X : World} (h : CB b q n c x X) : X.cell? ⟨b, 0, none⟩ = some (.slice q n c) := h.1.cell

theorem sum_mem {α : Type} (f : α → Nat) (x : α) : ∀ l : List α, x ∈ l → f x ≤ sumL f l
  | [], h => by cases h
  | y :: r, h => by
    have e : sumL f (y :: r) = f y + sumL f r := rfl
    rcases List.mem_cons.1 h with rfl | h
    · omega
    · have := sum_mem f x r h; omega
theorem prin_len (f : List (List (List UInt8))) (c : List (List UInt8)) (p : List UInt8) (hc : c ∈ f) (hp : p ∈ c) : p.length ≤ (frmT f).length := by
  have h1 := frmT_sum f (fun h => by subst h; cases hc)
  have h2 := sum_mem (fun c => (clsT c).length + 3) c f hc
  have h3 := clsT_sum c (fun h => by subst h; cases hp)
  have h4 := sum_mem (fun p : List UInt8 => p.length + 3) p c hp
  have h2 : (clsT c).length + 3 ≤ sumL (fun c => (clsT c).length + 3) f := h2
  have h4 : p.length + 3 ≤ sumL (fun p : List UInt8 => p.length + 3) c := h4
  omega
theorem never_imp (f : List (List (List UInt8))) : impB [[]] f = true := (imp_iff [[]] f).2 fun c _ => ⟨[], by simp, fun p hp => by cases hp⟩
theorem canon_lt (f : List (List (List UInt8))) (h : Canon f) (i j : Nat) (x y : List (List UInt8)) (hij : i < j) (hx : f[i]? = some x) (hy : f[j]? = some y) : x < y := by
  obtain ⟨h1, rfl⟩ := List.getElem?_eq_some_iff.1 hx
  obtain ⟨h2, rfl⟩ := List.getElem?_eq_some_iff.1 hy
  exact List.pairwise_iff_getElem.1 h.rise i j h1 h2 hij
theorem canon_apart (f : List (List (List UInt8))) (h : Canon f) (i j : Nat) (x y : List (List UInt8)) (hij : i < j) (hx : f[i]? = some x) (hy : f[j]? = some y) : subB x y = false ∧ subB y x = false ∧ cmpL x y = -1 := by
  have hlt := canon_lt f h i j x y hij hx hy
  have hne : x ≠ y := fun e => Lin.irr _ (e ▸ hlt)
  have m1 := List.mem_of_getElem? hx
  have m2 := List.mem_of_getElem? hy
  refine ⟨?_, ?_, ?_⟩
  · rw [← Bool.not_eq_true]
    exact fun e => hne (h.red x m1 y m2 ((subB_iff x y).1 e))
  · rw [← Bool.not_eq_true]
    exact fun e => hne (h.red y m2 x m1 ((subB_iff y x).1 e)).symm
  · exact (cmp_lt x y).2 hlt

set_option maxRecDepth 100000 in
set_option maxHeartbeats 16000000 in
theorem walk : Walks := by
  intro a0 len0 cap0 z0 w w0 hG
  obtain ⟨ta, ha⟩ := row_by w0
  clear w0
  have con := lives_any w hG
  have HG := Lib.hid hG
  clear hG
  go_enter Tryz.func4, Tryz.ntmps4
  go_wp2_with fail
  refine con.mono ?_
  rintro e X1 ⟨rfl, B_1⟩
  clear con
  have con := lawOf_any a0 len0 cap0 ta X1 (ha.on B_1) (HG.out.on B_1)
  have hf := Lib.hid (parse_frm (ta.take 400))
  have hT := parse_frm_short (ta.take 400) (by rw [List.length_take]; omega)
  generalize frmV (parseF (ta.take 400)) = f at con hf hT
  clear ha
  go_wp2_with fail
  refine con.mono ?_
  rintro e X2 ⟨q3, n3, c3, rfl, hs3, hb⟩
  have B_2 := B_1.trans (hb.mono B_1.size)
  clear con hb B_1
  obtain ⟨b3, hb3⟩ : ∃ b, X2.heap.size = b := ⟨_, rfl⟩
  obtain ⟨X3, hX3⟩ : ∃ Z, X2.alloc (.cells #[.slice q3 n3 c3] 26) = Z := ⟨_, rfl⟩
  have F3 : FB b3 q3 n3 c3 f X3 := by rw [← hX3, ← hb3]; exact FB.new hs3
  have hb : Below X2.heap.size X2 X3 := by rw [← hX3]; exact below_alloc _
  have B_3 := B_2.trans (hb.mono B_2.size)
  have HX3 := Lib.hid hX3
  have HB3 := Lib.hid hb3
  clear hX3 hb3 hs3 hb B_2
  have fl : f.length ≤ 16 := hf.out.few
  have HP := Lib.hid (frm_text f hf.out (by omega))
  have HPL := Lib.hid (fun c hc p hp => Nat.le_trans (prin_len f c p hc hp) hT)
  have hct := Lib.hid (fun W (h : FrmIs W (.agg #[.slice q3 n3 c3]) f) => Frm.Text_any _ f W h (by omega) (by omega))
  have HSZ := Lib.hid (mk_size (frmT f))
  generalize hTT : frmT f = T at hct HP hT HSZ HPL
  have d4 : decide ((T.length : Int) ≤ 4096) = true := by simp; omega
  have d4' : decide (((⟨T.toArray⟩ : ByteArray).size : Int) ≤ 4096) = true := by rewrite [HSZ.out]; exact d4
  clear hTT
  have con := hct.out X3 F3.2
  have x3 : (X2.alloc (.cells #[.slice q3 n3 c3] 26)).cell? ⟨b3, 0, none⟩ = some (.slice q3 n3 c3) := by rw [HX3.out]; exact F3.cell
  go_wp2_with fail
  rewrite [HB3.out, HX3.out]
  go_wp2_with fail
  refine con.mono ?_
  rintro e X4 ⟨rfl, hb⟩
  have B_4 := B_3.trans (hb.mono B_3.size)
  replace F3 := F3.on hb
  clear con hb B_3 x3 HX3 HB3
  obtain ⟨cc, X5, k0, hby, hb, -⟩ := conv_new X4 T (by omega)
  have B_5 := B_4.trans (hb.mono B_4.size)
  replace F3 := F3.on hb
  have con := Frm.Parse_any (some ⟨X4.heap.size, 0, none⟩) T.length cc T X5 hby (.inl hT) (HG.out.on B_5)
  rewrite [HP.out] at con
  clear hby hb B_4
  go_wp2_with fail
  (try rw [k0])
  go_wp2_with fail
  refine con.mono ?_
  rintro e X6 ⟨q4, n4, c4, rfl, hs4, _, hb⟩
  replace hs4 : FrmIs X6 (.agg #[.slice q4 n4 c4]) f := hs4
  have B_6 := B_5.trans (hb.mono B_5.size)
  replace F3 := F3.on hb
  clear con hb k0 B_5 HP
  unfold frmE
  obtain ⟨b4, hb4⟩ : ∃ b, X6.heap.size = b := ⟨_, rfl⟩
  obtain ⟨X7, hX7⟩ : ∃ Z, X6.alloc (.cells #[.slice q4 n4 c4] 26) = Z := ⟨_, rfl⟩
  have F4 : FB b4 q4 n4 c4 f X7 := by rw [← hX7, ← hb4]; exact FB.new hs4
  have hb : Below X6.heap.size X6 X7 := by rw [← hX7]; exact below_alloc _
  have B_7 := B_6.trans (hb.mono B_6.size)
  replace F3 := F3.on hb
  have HX7 := Lib.hid hX7
  have HB4 := Lib.hid hb4
  clear hX7 hb4 hs4 hb B_6
  have con := hct.out X7 F3.2
  have x3 : (X6.alloc (.cells #[.slice q4 n4 c4] 26)).cell? ⟨b3, 0, none⟩ = some (.slice q3 n3 c3) := by rw [HX7.out]; exact F3.cell
  go_wp2_with fail
  rewrite [HB4.out, HX7.out]
  go_wp2_with fail
  refine con.mono ?_
  rintro e X8 ⟨rfl, hb⟩
  have B_8 := B_7.trans (hb.mono B_7.size)
  replace F3 := F3.on hb
  replace F4 := F4.on hb
  clear con hb B_7 x3 HX7 HB4 hct
  have con := Same_any _ _ f f X8 F4.2 F3.2 (by omega) (by omega)
  rewrite [decide_eq_true (rfl : f = f)] at con
  have x3 := F3.cell
  have x4 := F4.cell
  go_wp2_with fail
  refine con.mono ?_
  rintro e X9 ⟨rfl, hb⟩
  have B_9 := B_8.trans (hb.mono B_8.size)
  replace F3 := F3.on hb
  clear con hb B_8 x3 x4 F4 d4 d4' HSZ
  have con := Ref_any _ f X9 F3.2 (by omega)
  have x3 := F3.cell
  go_wp2_with fail
  refine con.mono ?_
  rintro e X10 ⟨q7, n7, c7, rfl, R7, hb⟩
  have B_10 := B_9.trans (hb.mono B_9.size)
  replace F3 := F3.on hb
  clear con hb B_9 x3
  go_wp2_with fail
  obtain ⟨i0, hi0, hz0, hz1, hz2⟩ := info_parts info_cls
  have n7l := R7.len
  obtain ⟨zs, s7, z7, hf7⟩ := R7
  have HZ := Lib.hid z7
  have HZL := Lib.hid s7.1
  have HFZ := Lib.hid hf7
  have HS7 := Lib.hid s7
  have HG10 := Lib.hid (HG.out.on B_10)
  clear z7 hf7 s7
  rw [n7l] at fl
  go_loopw [6, 43] (fun v i wr => ∃ (k : Nat) (ls : List Cl), k ≤ n7 ∧ i = .int .i64 k ∧ wr.ownsRow X10.heap.size 44 1 v k (ls.map encC) ∧ Hid (ls.map Prod.snd = f.take k) ∧ Hid (∀ z ∈ ls, ClAt wr z ∧ ∀ a, z.1.1 = some a → 0 < z.1.2.1 → v.ownBlock ≠ some a.block) ∧ Below X10.heap.size X10 wr) (fun _ i _ => n7 - (intOf i).toNat)
  case atStart => exact ⟨0, [], Nat.zero_le _, rfl, World.ownsRow_nil _ _ _ _, Lib.hid (by simp), Lib.hid (fun z h => by cases h), Below.refl _ _⟩
  case round =>
    obtain ⟨k, ls, hk, rfl, hrow, HLS, HZS, hB⟩ := hrel
    have hbs := hB.size
    by_cases hlt : k < n7
    · obtain ⟨b7, o7, he7, _, hc7⟩ := (HS7.out.below hB HS7.out.lt).at (by omega)
      obtain ⟨⟨⟨zq, zn, zc⟩, x⟩, hz⟩ : ∃ z, zs[k]? = some z := ⟨_, List.getElem?_eq_getElem (by have := HZL.out; omega)⟩
      have hck : wr.cell? ⟨b7, o7 + k, none⟩ = some (.slice zq zn zc) := hc7 k _ hz
      have hzm := HZ.out _ (List.mem_of_getElem? hz)
      have hqz : zq = none → zc = 0 := hzm.2
      obtain ⟨_, _, _, hee, _, _, hsx, _⟩ := (hzm.1.below hB).set
      cases hee
      have HX := Lib.hid (show f[k]? = some x by rw [HFZ.out, List.getElem?_map, hz]; rfl)
      have hxm := List.mem_of_getElem? HX.out
      have okx := hf.out.each x hxm
      have hzn : zn ≤ 1099511627776 := by have h1 : x.length = zn := hsx.1; have := okx.few; omega
      have con := Cls.Of_new zq zn zc x wr hsx hqz hzn (fun p hp => HPL.out x hxm p hp) (HG10.out.on hB)
      rw [of_self x okx] at con
      subst he7
      obtain ⟨q6, c6, hv6, hnc6, _, hs6, hq6⟩ := slIn_of_owns hrow
      subst hv6
      have HX2 := Lib.hid (okx.few)
      clear hc7 hz hzm hsx okx hxm hqz
      go_wp2_with fail
      refine con.mono ?_
      rintro e Xa ⟨q9, n9, c9, rfl, hs9, hq9, hb⟩
      replace hs9 : SetIs encStr Xa (.agg #[.slice q9 n9 c9]) x := hs9
      have hBa := hB.trans (hb.mono hbs)
      have kb := Keep.of_below hb
      have rowa := kb.row hrow (fun b h => (hrow.lt b h).2)
      have HZa := Lib.hid (show ∀ z ∈ ls, ClAt Xa z ∧ ∀ a, z.1.1 = some a → 0 < z.1.2.1 → (Value.slice q6 k c6).ownBlock ≠ some a.block from fun z hz => ⟨(HZS.out z hz).1.below hb, (HZS.out z hz).2⟩)
      have hqa := Lib.hid (show ∀ a, q9 = some a → (Value.slice q6 k c6).ownBlock ≠ some a.block from fun a ha e => by
        have h1 := hq9 a ha
        have h2 := (hrow.lt _ e).2
        omega)
      clear con hck hrow HZS hs6 hq6 kb hq9
      unfold errC
      obtain ⟨b9, hb9⟩ : ∃ b, Xa.heap.size = b := ⟨_, rfl⟩
      obtain ⟨Xb, hXb⟩ : ∃ Z, Xa.alloc (.cells #[.slice q9 n9 c9] 44) = Z := ⟨_, rfl⟩
      have C9 : CB b9 q9 n9 c9 x Xb := by rw [← hXb, ← hb9]; exact CB.new hs9
      have hbb : Below Xa.heap.size Xa Xb := by rw [← hXb]; exact below_alloc _
      have hBb := hBa.trans (hbb.mono hBa.size)
      have rowb := (Keep.of_below hbb).row rowa (fun b h => (rowa.lt b h).2)
      have HZb := Lib.hid (show ∀ z ∈ ls, ClAt Xb z ∧ ∀ a, z.1.1 = some a → 0 < z.1.2.1 → (Value.slice q6 k c6).ownBlock ≠ some a.block from fun z hz => ⟨(HZa.out z hz).1.below hbb, (HZa.out z hz).2⟩)
      have HXb := Lib.hid hXb
      have HB9 := Lib.hid hb9
      clear hXb hb9 hs9 hbb hb HZa rowa hBa hB
      go_wp2_with fail
      rewrite [HB9.out, HXb.out]
      obtain ⟨_, _, he6, _, _, sb6, _⟩ := slIn_of_owns rowb
      cases he6
      have HSB := Lib.hid sb6
      clear sb6 HXb HB9
      go_loopw [56] (fun i wr2 => ∃ j : Nat, j ≤ k ∧ i = .int .i64 j ∧ Below Xb.heap.size Xb wr2) (fun i _ => k - (intOf i).toNat)
      case atStart => exact ⟨0, Nat.zero_le _, rfl, Below.refl _ _⟩
      case round =>
        obtain ⟨j, hj, rfl, hB2⟩ := hrel
        have hbs2 := hB2.size
        by_cases hjl : j < k
        · obtain ⟨b6, o6, rfl, hbl6, hc6⟩ := (HSB.out.below hB2 HSB.out.lt).at (by omega)
          obtain ⟨⟨⟨yq, yn, yc⟩, y⟩, hy⟩ : ∃ z, ls[j]? = some z := ⟨_, List.getElem?_eq_getElem (by have := HSB.out.1; omega)⟩
          have hcj : wr.cell? ⟨b6, o6 + j, none⟩ = some (.slice yq yn yc) := hc6 j _ hy
          have hym := HZb.out _ (List.mem_of_getElem? hy)
          have hys : SetIs encStr wr (.agg #[.slice yq yn yc]) y := (hym.1.below hB2).set
          have hyf : f[j]? = some y := by
            have h1 : (ls.map Prod.snd)[j]? = some y := by rw [List.getElem?_map, hy]; rfl
            rw [HLS.out, List.getElem?_take, if_pos hjl] at h1
            exact h1
          obtain ⟨a1, a2, a3⟩ := canon_apart f hf.out.canon j k y x hjl hyf HX.out
          have hyl : y.length ≤ 1099511627776 := Nat.le_trans hym.1.few (by decide)
          have hxl : x.length ≤ 1099511627776 := Nat.le_trans HX2.out (by decide)
          have C9 := C9.on hB2
          clear hc6 hy hym hyf
          go_wp2_with fail
          obtain ⟨b12, hb12⟩ : ∃ b, wr.heap.size = b := ⟨_, rfl⟩
          obtain ⟨Y1, hY1⟩ : ∃ Z, wr.alloc (.cells #[.slice yq yn yc] 44) = Z := ⟨_, rfl⟩
          have C12 : CB b12 yq yn yc y Y1 := by rw [← hY1, ← hb12]; exact CB.new hys
          have hb : Below wr.heap.size wr Y1 := by rw [← hY1]; exact below_alloc _
          have D_1 := hB2.trans (hb.mono hbs2)
          replace C9 := C9.on hb
          have hcc := (World.cell?_of_block (hb.block b6 hbl6)).trans hcj
          have hlb := Nat.lt_of_lt_of_le hbl6 hb.size
          rewrite [hb12, hY1]
          clear hb12 hY1 hys hb hcj hB2
          refine pregion_any (fun X => X.cell? ⟨b9, 0, none⟩ = some (.slice q9 n9 c9) ∧ X.cell? ⟨b12, 0, none⟩ = some (.slice yq yn yc) ∧ X.cell? ⟨b6, o6 + j, none⟩ = some (.slice yq yn yc)) (by kernel_rfl) ?_
          have hb : Below Y1.heap.size Y1 Y1.drew := ⟨rfl, rfl, rfl, Nat.le_refl _, fun _ _ => rfl⟩
          obtain ⟨Y2, hXd⟩ : ∃ Z, Y1.drew = Z := ⟨_, rfl⟩
          rw [hXd] at hb ⊢
          have D_2 := D_1.trans (hb.mono D_1.size)
          replace C9 := C9.on hb
          replace C12 := C12.on hb
          replace hcc := (World.cell?_of_block (hb.block b6 hlb)).trans hcc
          replace hlb := Nat.lt_of_lt_of_le hlb hb.size
          clear hb hXd D_1
          refine wpAnyH_take (i := 0) (v := (.agg #[.slice q9 n9 c9])) rfl (by kernel_rfl) (by kernel_rfl) (by kernel_rfl) (fun _ _ _ h => h) (.inl ⟨by kernel_rfl, ?_⟩) ⟨C9.cell, C12.cell, hcc⟩ ?_
          · rintro w ⟨h1, h2, h3⟩; go_simp <;> omega
          refine plist #[true, false, false, false, false, false, false, false, false, false, false, false, false, false, false, false, false] (by kernel_rfl) ?_
          refine wpAnyH_take (i := 1) (v := (.agg #[.slice yq yn yc])) rfl (by kernel_rfl) (by kernel_rfl) (by kernel_rfl) (fun _ _ _ h => h) (.inl ⟨by kernel_rfl, ?_⟩) ⟨C9.cell, C12.cell, hcc⟩ ?_
          · rintro w ⟨h1, h2, h3⟩; go_simp <;> omega
          refine plist #[true, true, false, false, false, false, false, false, false, false, false, false, false, false, false, false, false] (by kernel_rfl) ?_
          have con := Cls.Implies_any _ _ x y Y2 C9.2 C12.2 hxl hyl
          rewrite [a2] at con
          refine pone 2 (by kernel_rfl) rfl fun K hK => ?_
          go_simp
          refine con.mono ?_
          rintro e Y3 ⟨rfl, hb⟩
          have D_3 := D_2.trans (hb.mono D_2.size)
          replace C9 := C9.on hb
          replace C12 := C12.on hb
          replace hcc := (World.cell?_of_block (hb.block b6 hlb)).trans hcc
          replace hlb := Nat.lt_of_lt_of_le hlb hb.size
          clear con hb D_2
          refine hK _ _ ⟨C9.cell, C12.cell, hcc⟩ ?_
          clear hK K
          refine plist #[true, true, true, false, false, false, false, false, false, false, false, false, false, false, false, false, false] (by kernel_rfl) ?_
          refine pone 3 (by kernel_rfl) rfl fun K hK => ?_
          go_simp
          refine hK _ _ ⟨C9.cell, C12.cell, hcc⟩ ?_
          clear hK K
          refine plist #[true, true, true, true, false, false, false, false, false, false, false, false, false, false, false, false, false] (by kernel_rfl) ?_
          refine wpAnyH_take (i := 4) (v := (.agg #[.slice yq yn yc])) rfl (by kernel_rfl) (by kernel_rfl) (by kernel_rfl) (fun _ _ _ h => h) (.inl ⟨by kernel_rfl, ?_⟩) ⟨C9.cell, C12.cell, hcc⟩ ?_
          · rintro w ⟨h1, h2, h3⟩; go_simp <;> omega
          refine plist #[true, true, true, true, true, false, false, false, false, false, false, false, false, false, false, false, false] (by kernel_rfl) ?_
          refine wpAnyH_take (i := 5) (v := (.agg #[.slice q9 n9 c9])) rfl (by kernel_rfl) (by kernel_rfl) (by kernel_rfl) (fun _ _ _ h => h) (.inl ⟨by kernel_rfl, ?_⟩) ⟨C9.cell, C12.cell, hcc⟩ ?_
          · rintro w ⟨h1, h2, h3⟩; go_simp <;> omega
          refine plist #[true, true, true, true, true, true, false, false, false, false, false, false, false, false, false, false, false] (by kernel_rfl) ?_
          have con := Cls.Implies_any _ _ y x Y3 C12.2 C9.2 hyl hxl
          rewrite [a1] at con
          refine pone 6 (by kernel_rfl) rfl fun K hK => ?_
          go_simp
          refine con.mono ?_
          rintro e Y4 ⟨rfl, hb⟩
          have D_4 := D_3.trans (hb.mono D_3.size)
          replace C9 := C9.on hb
          replace C12 := C12.on hb
          replace hcc := (World.cell?_of_block (hb.block b6 hlb)).trans hcc
          replace hlb := Nat.lt_of_lt_of_le hlb hb.size
          clear con hb D_3
          refine hK _ _ ⟨C9.cell, C12.cell, hcc⟩ ?_
          clear hK K
          refine plist #[true, true, true, true, true, true, true, false, false, false, false, false, false, false, false, false, false] (by kernel_rfl) ?_
          refine pone 7 (by kernel_rfl) rfl fun K hK => ?_
          go_simp
          refine hK _ _ ⟨C9.cell, C12.cell, hcc⟩ ?_
          clear hK K
          refine plist #[true, true, true, true, true, true, true, true, false, false, false, false, false, false, false, false, false] (by kernel_rfl) ?_
          refine pone 8 (by kernel_rfl) rfl fun K hK => ?_
          go_simp
          refine hK _ _ ⟨C9.cell, C12.cell, hcc⟩ ?_
          clear hK K
          refine plist #[true, true, true, true, true, true, true, true, true, false, false, false, false, false, false, false, false] (by kernel_rfl) ?_
          refine wpAnyH_take (i := 9) (v := (.slice (some ⟨b6, o6, none⟩) k c6)) rfl (by kernel_rfl) (by kernel_rfl) (by kernel_rfl) (fun _ _ _ h => h) (.inl ⟨by kernel_rfl, ?_⟩) ⟨C9.cell, C12.cell, hcc⟩ ?_
          · rintro w ⟨h1, h2, h3⟩; go_simp <;> omega
          refine plist #[true, true, true, true, true, true, true, true, true, true, false, false, false, false, false, false, false] (by kernel_rfl) ?_
          refine wpAnyH_take (i := 10) (v := (.int .i64 (j : Int))) rfl (by kernel_rfl) (by kernel_rfl) (by kernel_rfl) (fun _ _ _ h => h) (.inl ⟨by kernel_rfl, ?_⟩) ⟨C9.cell, C12.cell, hcc⟩ ?_
          · rintro w ⟨h1, h2, h3⟩; go_simp <;> omega
          refine plist #[true, true, true, true, true, true, true, true, true, true, true, false, false, false, false, false, false] (by kernel_rfl) ?_
          refine wpAnyH_take (i := 13) (v := (.agg #[.slice q9 n9 c9])) rfl (by kernel_rfl) (by kernel_rfl) (by kernel_rfl) (fun _ _ _ h => h) (.inl ⟨by kernel_rfl, ?_⟩) ⟨C9.cell, C12.cell, hcc⟩ ?_
          · rintro w ⟨h1, h2, h3⟩; go_simp <;> omega
          refine plist #[true, true, true, true, true, true, true, true, true, true, true, false, false, true, false, false, false] (by kernel_rfl) ?_
          refine wpAnyH_take (i := 11) (v := (.pointer (some ⟨b6, o6 + j, none⟩))) rfl (by kernel_rfl) (by kernel_rfl) (by kernel_rfl) (fun _ _ _ h => h) (.inl ⟨by kernel_rfl, ?_⟩) ⟨C9.cell, C12.cell, hcc⟩ ?_
          · rintro w ⟨h1, h2, h3⟩; go_simp <;> omega
          refine plist #[true, true, true, true, true, true, true, true, true, true, true, true, false, true, false, false, false] (by kernel_rfl) ?_
          refine wpAnyH_take (i := 12) (v := (.agg #[.slice yq yn yc])) rfl (by kernel_rfl) (by kernel_rfl) (by kernel_rfl) (fun _ _ _ h => h) (.inl ⟨by kernel_rfl, ?_⟩) ⟨C9.cell, C12.cell, hcc⟩ ?_
          · rintro w ⟨h1, h2, h3⟩; go_simp <;> omega
          refine plist #[true, true, true, true, true, true, true, true, true, true, true, true, true, true, false, false, false] (by kernel_rfl) ?_
          have con := Cls.Cmp_any _ _ y x Y4 C12.2 C9.2
          rewrite [a3] at con
          refine pone 14 (by kernel_rfl) rfl fun K hK => ?_
          go_simp
          refine con.mono ?_
          rintro e Y5 ⟨rfl, hb⟩
          have D_5 := D_4.trans (hb.mono D_4.size)
          replace C9 := C9.on hb
          replace C12 := C12.on hb
          replace hcc := (World.cell?_of_block (hb.block b6 hlb)).trans hcc
          replace hlb := Nat.lt_of_lt_of_le hlb hb.size
          clear con hb D_4
          refine hK _ _ ⟨C9.cell, C12.cell, hcc⟩ ?_
          clear hK K
          refine plist #[true, true, true, true, true, true, true, true, true, true, true, true, true, true, true, false, false] (by kernel_rfl) ?_
          refine pone 15 (by kernel_rfl) rfl fun K hK => ?_
          go_simp
          refine hK _ _ ⟨C9.cell, C12.cell, hcc⟩ ?_
          clear hK K
          refine plist #[true, true, true, true, true, true, true, true, true, true, true, true, true, true, true, true, false] (by kernel_rfl) ?_
          refine pone 16 (by kernel_rfl) rfl fun K hK => ?_
          go_simp
          refine hK _ _ ⟨C9.cell, C12.cell, hcc⟩ ?_
          clear hK K
          refine pdone (by kernel_rfl) ?_ _
          go_wp2
          go_roundw
          case rel => exact ⟨j + 1, by omega, by go_num, D_5⟩
          case measure => simp [intOf]; omega
        · obtain rfl : j = k := by omega
          have rowc := (Keep.of_below hB2).row rowb (fun b h => (rowb.lt b h).2)
          have C9 := C9.on hB2
          have hz9 : ClAt wr ((q9, n9, c9), x) := ⟨C9.2, HX2.out⟩
          have HZc := Lib.hid (show ∀ z ∈ ls ++ [((q9, n9, c9), x)], ClAt wr z ∧ ∀ a, z.1.1 = some a → 0 < z.1.2.1 → (Value.slice q6 j c6).ownBlock ≠ some a.block from fun z hz => by
            rcases List.mem_append.1 hz with h | h
            · exact ⟨(HZb.out z h).1.below hB2, (HZb.out z h).2⟩
            · rw [List.mem_singleton.1 h]
              exact ⟨hz9, fun a ha _ => hqa.out a ha⟩)
          have HL2 := Lib.hid (show (ls ++ [((q9, n9, c9), x)]).map Prod.snd = f.take (j + 1) by rw [List.map_append, HLS.out, (Frm.take_snoc f j x HX.out).1]; rfl)
          have hBc := hBb.trans (hB2.mono hBb.size)
          have hsc := hBc.size
          have x9 := C9.cell
          clear rowb HZb HSB hB2 hBb hz9 HLS
          go_wp2_with (at_builtin; refine wpList_append_own_at _ rfl _ _ 24 rfl X10.heap.size 44 i0 (.agg #[.slice none 0 0]) 1 24 Tryz.underlying24 hi0 hz0 hz1 hz2 rfl (by decide) _ _ _ rfl (rowc.alloc _) ⟨wr.heap.size, 0, none⟩ 1 1 [.slice q9 n9 c9] rfl rfl (cell_one_new _ _ _) (by simp [Value.oneCell']) (by unfold maxLen; omega) (by omega) (by simp; omega) ?_; intro v' w1 hown' hgrow _ hat)
          have hk1 : ∀ S : Nat → Prop, (∀ b, S b → (Value.slice q6 j c6).ownBlock ≠ some b) → Keep S wr w1 := fun S hS => (Keep.alloc S wr _).trans (Keep.of_grownBy hgrow (fun r hr h => hS r h hr))
          have hb1 : Below X10.heap.size wr w1 := (hk1 (· < X10.heap.size) (fun b hb e => by have := (rowc.lt b e).1; omega)).below hsc
          have hat' : v'.ownBlock = (Value.slice q6 j c6).ownBlock ∨ v'.ownBlock = some (wr.heap.size + 1) := by
            rcases hat with h | h
            · exact .inl h
            · exact .inr (by simpa using h)
          have hfin : ∀ z ∈ ls ++ [((q9, n9, c9), x)], ClAt w1 z ∧ ∀ a, z.1.1 = some a → 0 < z.1.2.1 → v'.ownBlock ≠ some a.block := fun z hz => by
            obtain ⟨k1, k2⟩ := HZc.out z hz
            refine ⟨k1.from (hk1 (fun b => (Value.slice q6 j c6).ownBlock ≠ some b) fun b hb => hb) (fun a ha h0 => k2 a ha h0), fun a ha h0 e => ?_⟩
            rcases hat' with h | h
            · exact k2 a ha h0 (h ▸ e)
            · have h1 := k1.lt a ha h0
              rw [h] at e
              have := Option.some.inj e
              omega
          have hrow2 : w1.ownsRow X10.heap.size 44 1 v' (j + 1) ((ls ++ [((q9, n9, c9), x)]).map encC) := by simpa [encC] using hown'
          have HFIN := Lib.hid hfin
          clear hfin hat hat' hgrow hown' HZc
          go_roundw
          case rel => exact ⟨j + 1, _, by omega, by go_num, hrow2, HL2, HFIN, hBc.trans hb1⟩
          case measure => simp [intOf]; omega
    · obtain rfl : k = n7 := by omega
      obtain ⟨q6, c6, hv6, hnc6, _, hs6, hq6⟩ := slIn_of_owns hrow
      subst hv6
      have hcl : ClsIn wr q6 k f := ⟨ls, hs6, fun z hz => (HZS.out z hz).1, by rw [HLS.out, List.take_of_length_le (by omega)]⟩
      have con := Frm.Of_any q6 k c6 f wr hcl (fun h => by subst h; exact (Cls.row_nil hrow).2) (by omega)
      rewrite [ofF_self f hf.out] at con
      have B_11 := B_10.trans (hB.mono B_10.size)
      replace F3 := F3.on hB
      clear hrow HLS HZS hcl hs6 hq6 HZ HZL HFZ HS7 HPL hf hB
      go_wp2_with fail
      refine con.mono ?_
      rintro e X12 ⟨q13, n13, c13, rfl, hs13, _, hb⟩
      replace hs13 : FrmIs X12 (.agg #[.slice q13 n13 c13]) f := hs13
      have B_12 := B_11.trans (hb.mono B_11.size)
      replace F3 := F3.on hb
      clear con hb B_11 B_10
      unfold frmE
      obtain ⟨b13, hb13⟩ : ∃ b, X12.heap.size = b := ⟨_, rfl⟩
      obtain ⟨X13, hX13⟩ : ∃ Z, X12.alloc (.cells #[.slice q13 n13 c13] 26) = Z := ⟨_, rfl⟩
      have F13 : FB b13 q13 n13 c13 f X13 := by rw [← hX13, ← hb13]; exact FB.new hs13
      have hb : Below X12.heap.size X12 X13 := by rw [← hX13]; exact below_alloc _
      have B_13 := B_12.trans (hb.mono B_12.size)
      replace F3 := F3.on hb
      have HX13 := Lib.hid hX13
      have HB13 := Lib.hid hb13
      have fL : f.length ≤ 1099511627776 := by omega
      clear hX13 hb13 hs13 hb B_12
      go_wp2_with fail
      rewrite [HB13.out, HX13.out]
      refine pregion_any (fun X => X.cell? ⟨b13, 0, none⟩ = some (.slice q13 n13 c13) ∧ X.cell? ⟨b3, 0, none⟩ = some (.slice q3 n3 c3)) (by kernel_rfl) ?_
      have hb : Below X13.heap.size X13 X13.drew := ⟨rfl, rfl, rfl, Nat.le_refl _, fun _ _ => rfl⟩
      obtain ⟨X14, hXd⟩ : ∃ Z, X13.drew = Z := ⟨_, rfl⟩
      rw [hXd] at hb ⊢
      have B_14 := B_13.trans (hb.mono B_13.size)
      replace F3 := F3.on hb
      replace F13 := F13.on hb
      clear hb hXd B_13 HX13 HB13
      refine pone 0 (by kernel_rfl) rfl fun K hK => ?_
      go_simp
      refine hK _ _ ⟨F13.cell, F3.cell⟩ ?_
      clear hK K
      refine plist #[true, false, false, false, false, false, false, false, false, false, false, false, false, false, false, false, false, false, false, false, false, false, false, false, false, false, false, false] (by kernel_rfl) ?_
      refine pone 1 (by kernel_rfl) rfl fun K hK => ?_
      go_simp
      refine hK _ _ ⟨F13.cell, F3.cell⟩ ?_
      clear hK K
      refine plist #[true, true, false, false, false, false, false, false, false, false, false, false, false, false, false, false, false, false, false, false, false, false, false, false, false, false, false, false] (by kernel_rfl) ?_
      refine pone 2 (by kernel_rfl) rfl fun K hK => ?_
      go_simp
      refine hK _ _ ⟨F13.cell, F3.cell⟩ ?_
      clear hK K
      refine plist #[true, true, true, false, false, false, false, false, false, false, false, false, false, false, false, false, false, false, false, false, false, false, false, false, false, false, false, false] (by kernel_rfl) ?_
      refine wpAnyH_take (i := 3) (v := (.agg #[.slice q13 n13 c13])) rfl (by kernel_rfl) (by kernel_rfl) (by kernel_rfl) (fun _ _ _ h => h) (.inl ⟨by kernel_rfl, ?_⟩) ⟨F13.cell, F3.cell⟩ ?_
      · rintro w ⟨h1, h2⟩; go_simp <;> omega
      refine plist #[true, true, true, true, false, false, false, false, false, false, false, false, false, false, false, false, false, false, false, false, false, false, false, false, false, false, false, false] (by kernel_rfl) ?_
      refine wpAnyH_take (i := 4) (v := (.agg #[.slice q3 n3 c3])) rfl (by kernel_rfl) (by kernel_rfl) (by kernel_rfl) (fun _ _ _ h => h) (.inl ⟨by kernel_rfl, ?_⟩) ⟨F13.cell, F3.cell⟩ ?_
      · rintro w ⟨h1, h2⟩; go_simp <;> omega
      refine plist #[true, true, true, true, true, false, false, false, false, false, false, false, false, false, false, false, false, false, false, false, false, false, false, false, false, false, false, false] (by kernel_rfl) ?_
      have con := Frm.Same_any _ _ f f X14 F13.2 F3.2 fL fL
      rewrite [decide_eq_true (rfl : f = f)] at con
      refine pone 5 (by kernel_rfl) rfl fun K hK => ?_
      go_simp
      refine con.mono ?_
      rintro e X15 ⟨rfl, hb⟩
      have B_15 := B_14.trans (hb.mono B_14.size)
      replace F3 := F3.on hb
      replace F13 := F13.on hb
      clear con hb B_14
      refine hK _ _ ⟨F13.cell, F3.cell⟩ ?_
      clear hK K
      refine plist #[true, true, true, true, true, true, false, false, false, false, false, false, false, false, false, false, false, false, false, false, false, false, false, false, false, false, false, false] (by kernel_rfl) ?_
      refine pone 6 (by kernel_rfl) rfl fun K hK => ?_
      go_simp
      refine hK _ _ ⟨F13.cell, F3.cell⟩ ?_
      clear hK K
      refine plist #[true, true, true, true, true, true, true, false, false, false, false, false, false, false, false, false, false, false, false, false, false, false, false, false, false, false, false, false] (by kernel_rfl) ?_
      refine pone 7 (by kernel_rfl) rfl fun K hK => ?_
      go_simp
      refine hK _ _ ⟨F13.cell, F3.cell⟩ ?_
      clear hK K
      refine plist #[true, true, true, true, true, true, true, true, false, false, false, false, false, false, false, false, false, false, false, false, false, false, false, false, false, false, false, false] (by kernel_rfl) ?_
      refine wpAnyH_take (i := 9) (v := (.agg #[.slice q3 n3 c3])) rfl (by kernel_rfl) (by kernel_rfl) (by kernel_rfl) (fun _ _ _ h => h) (.inl ⟨by kernel_rfl, ?_⟩) ⟨F13.cell, F3.cell⟩ ?_
      · rintro w ⟨h1, h2⟩; go_simp <;> omega
      refine plist #[true, true, true, true, true, true, true, true, false, true, false, false, false, false, false, false, false, false, false, false, false, false, false, false, false, false, false, false] (by kernel_rfl) ?_
      have con := Never_any X15
      refine pone 8 (by kernel_rfl) rfl fun K hK => ?_
      go_simp
      refine con.mono ?_
      rintro e X16 ⟨q97, n97, c97, rfl, N97, hb⟩
      have B_16 := B_15.trans (hb.mono B_15.size)
      replace F3 := F3.on hb
      replace F13 := F13.on hb
      clear con hb B_15
      refine hK _ _ ⟨F13.cell, F3.cell⟩ ?_
      clear hK K
      refine plist #[true, true, true, true, true, true, true, true, true, true, false, false, false, false, false, false, false, false, false, false, false, false, false, false, false, false, false, false] (by kernel_rfl) ?_
      have con := Frm.Implies_any _ _ [[]] f X16 N97 F3.2 (by decide) fL
      rewrite [never_imp f] at con
      refine pone 10 (by kernel_rfl) rfl fun K hK => ?_
      go_simp
      refine con.mono ?_
      rintro e X17 ⟨rfl, hb⟩
      have B_17 := B_16.trans (hb.mono B_16.size)
      replace F3 := F3.on hb
      replace F13 := F13.on hb
      clear con hb B_16
      refine hK _ _ ⟨F13.cell, F3.cell⟩ ?_
      clear hK K
      refine plist #[true, true, true, true, true, true, true, true, true, true, true, false, false, false, false, false, false, false, false, false, false, false, false, false, false, false, false, false] (by kernel_rfl) ?_
      clear N97
      refine pone 11 (by kernel_rfl) rfl fun K hK => ?_
      go_simp
      refine hK _ _ ⟨F13.cell, F3.cell⟩ ?_
      clear hK K
      refine plist #[true, true, true, true, true, true, true, true, true, true, true, true, false, false, false, false, false, false, false, false, false, false, false, false, false, false, false, false] (by kernel_rfl) ?_
      refine pone 12 (by kernel_rfl) rfl fun K hK => ?_
      go_simp
      refine hK _ _ ⟨F13.cell, F3.cell⟩ ?_
      clear hK K
      refine plist #[true, true, true, true, true, true, true, true, true, true, true, true, true, false, false, false, false, false, false, false, false, false, false, false, false, false, false, false] (by kernel_rfl) ?_
      refine wpAnyH_take (i := 13) (v := (.agg #[.slice q3 n3 c3])) rfl (by kernel_rfl) (by kernel_rfl) (by kernel_rfl) (fun _ _ _ h => h) (.inl ⟨by kernel_rfl, ?_⟩) ⟨F13.cell, F3.cell⟩ ?_
      · rintro w ⟨h1, h2⟩; go_simp <;> omega
      refine plist #[true, true, true, true, true, true, true, true, true, true, true, true, true, true, false, false, false, false, false, false, false, false, false, false, false, false, false, false] (by kernel_rfl) ?_
      have con := Always_any X17
      refine pone 14 (by kernel_rfl) rfl fun K hK => ?_
      go_simp
      refine con.mono ?_
      rintro e X18 ⟨rfl, hb⟩
      have B_18 := B_17.trans (hb.mono B_17.size)
      replace F3 := F3.on hb
      replace F13 := F13.on hb
      clear con hb B_17
      refine hK _ _ ⟨F13.cell, F3.cell⟩ ?_
      clear hK K
      refine plist #[true, true, true, true, true, true, true, true, true, true, true, true, true, true, true, false, false, false, false, false, false, false, false, false, false, false, false, false] (by kernel_rfl) ?_
      have con := Frm.Implies_any _ _ f [] X18 F3.2 (frm_nil _) fL (by decide)
      rewrite [show impB f [] = true from rfl] at con
      refine pone 15 (by kernel_rfl) rfl fun K hK => ?_
      go_simp
      refine con.mono ?_
      rintro e X19 ⟨rfl, hb⟩
      have B_19 := B_18.trans (hb.mono B_18.size)
      replace F3 := F3.on hb
      replace F13 := F13.on hb
      clear con hb B_18
      refine hK _ _ ⟨F13.cell, F3.cell⟩ ?_
      clear hK K
      refine plist #[true, true, true, true, true, true, true, true, true, true, true, true, true, true, true, true, false, false, false, false, false, false, false, false, false, false, false, false] (by kernel_rfl) ?_
      refine pone 16 (by kernel_rfl) rfl fun K hK => ?_
      go_simp
      refine hK _ _ ⟨F13.cell, F3.cell⟩ ?_
      clear hK K
      refine plist #[true, true, true, true, true, true, true, true, true, true, true, true, true, true, true, true, true, false, false, false, false, false, false, false, false, false, false, false] (by kernel_rfl) ?_
      refine pone 17 (by kernel_rfl) rfl fun K hK => ?_
      go_simp
      refine hK _ _ ⟨F13.cell, F3.cell⟩ ?_
      clear hK K
      refine plist #[true, true, true, true, true, true, true, true, true, true, true, true, true, true, true, true, true, true, false, false, false, false, false, false, false, false, false, false] (by kernel_rfl) ?_
      have con := Always_any X19
      refine pone 18 (by kernel_rfl) rfl fun K hK => ?_
      go_simp
      refine con.mono ?_
      rintro e X20 ⟨rfl, hb⟩
      have B_20 := B_19.trans (hb.mono B_19.size)
      replace F3 := F3.on hb
      replace F13 := F13.on hb
      clear con hb B_19
      refine hK _ _ ⟨F13.cell, F3.cell⟩ ?_
      clear hK K
      refine plist #[true, true, true, true, true, true, true, true, true, true, true, true, true, true, true, true, true, true, true, false, false, false, false, false, false, false, false, false] (by kernel_rfl) ?_
      have con := Frm.Text_any _ [] X20 (frm_nil _) (by decide) (by decide)
      refine pone 19 (by kernel_rfl) rfl fun K hK => ?_
      go_simp
      refine con.mono ?_
      rintro e X21 ⟨rfl, hb⟩
      have B_21 := B_20.trans (hb.mono B_20.size)
      replace F3 := F3.on hb
      replace F13 := F13.on hb
      clear con hb B_20
      refine hK _ _ ⟨F13.cell, F3.cell⟩ ?_
      clear hK K
      refine plist #[true, true, true, true, true, true, true, true, true, true, true, true, true, true, true, true, true, true, true, true, false, false, false, false, false, false, false, false] (by kernel_rfl) ?_
      refine pone 20 (by kernel_rfl) rfl fun K hK => ?_
      go_simp
      refine hK _ _ ⟨F13.cell, F3.cell⟩ ?_
      clear hK K
      refine plist #[true, true, true, true, true, true, true, true, true, true, true, true, true, true, true, true, true, true, true, true, true, false, false, false, false, false, false, false] (by kernel_rfl) ?_
      refine pone 21 (by kernel_rfl) rfl fun K hK => ?_
      go_simp
      refine hK _ _ ⟨F13.cell, F3.cell⟩ ?_
      clear hK K
      refine plist #[true, true, true, true, true, true, true, true, true, true, true, true, true, true, true, true, true, true, true, true, true, true, false, false, false, false, false, false] (by kernel_rfl) ?_
      refine pone 22 (by kernel_rfl) rfl fun K hK => ?_
      go_simp
      refine hK _ _ ⟨F13.cell, F3.cell⟩ ?_
      clear hK K
      refine plist #[true, true, true, true, true, true, true, true, true, true, true, true, true, true, true, true, true, true, true, true, true, true, true, false, false, false, false, false] (by kernel_rfl) ?_
      have con := Never_any X21
      refine pone 23 (by kernel_rfl) rfl fun K hK => ?_
      go_simp
      refine con.mono ?_
      rintro e X22 ⟨q112, n112, c112, rfl, N112, hb⟩
      have B_22 := B_21.trans (hb.mono B_21.size)
      replace F3 := F3.on hb
      replace F13 := F13.on hb
      clear con hb B_21
      refine hK _ _ ⟨F13.cell, F3.cell⟩ ?_
      clear hK K
      refine plist #[true, true, true, true, true, true, true, true, true, true, true, true, true, true, true, true, true, true, true, true, true, true, true, true, false, false, false, false] (by kernel_rfl) ?_
      have con := Frm.Text_any _ [[]] X22 N112 (by decide) (by decide)
      refine pone 24 (by kernel_rfl) rfl fun K hK => ?_
      go_simp
      refine con.mono ?_
      rintro e X23 ⟨rfl, hb⟩
      have B_23 := B_22.trans (hb.mono B_22.size)
      replace F3 := F3.on hb
      replace F13 := F13.on hb
      clear con hb B_22
      refine hK _ _ ⟨F13.cell, F3.cell⟩ ?_
      clear hK K
      refine plist #[true, true, true, true, true, true, true, true, true, true, true, true, true, true, true, true, true, true, true, true, true, true, true, true, true, false, false, false] (by kernel_rfl) ?_
      refine pone 25 (by kernel_rfl) rfl fun K hK => ?_
      go_simp
      refine hK _ _ ⟨F13.cell, F3.cell⟩ ?_
      clear hK K
      refine plist #[true, true, true, true, true, true, true, true, true, true, true, true, true, true, true, true, true, true, true, true, true, true, true, true, true, true, false, false] (by kernel_rfl) ?_
      refine pone 26 (by kernel_rfl) rfl fun K hK => ?_
      go_simp
      refine hK _ _ ⟨F13.cell, F3.cell⟩ ?_
      clear hK K
      refine plist #[true, true, true, true, true, true, true, true, true, true, true, true, true, true, true, true, true, true, true, true, true, true, true, true, true, true, true, false] (by kernel_rfl) ?_
      refine pone 27 (by kernel_rfl) rfl fun K hK => ?_
      go_simp
      refine hK _ _ ⟨F13.cell, F3.cell⟩ ?_
      clear hK K
      refine pdone (by kernel_rfl) ?_ _
      go_wp2
      go_ret
      exact ⟨by first | rfl | simp | decide, B_23⟩

theorem proved : Rows.FormulaBackCardSaid := card walk
end Go.Proofs.YtgkandghennbhaaGreatDoor.formulaBack
