/- PrivMeans: the law returns true at whatever input, and writes nothing that was there: its tied card. Conditions: none. -/
import Derived.Test.YtpabhppghljipaaGreatDoorBaseF
import Derived.Deep.DeepCutAuto
namespace Go.Proofs.YtpabhppghljipaaGreatDoor.privMeans
open Go.RowKit Go.Shelf Url Org Frm Cls Lbl Prv
attribute [local go_sem] Oper.semAt_some
set_option linter.unusedVariables false

theorem row_by {w : World} {a : Option Addr} {len cap : Nat} {zs : List Int} (h : IsRow .u8 w a len cap zs) : ∃ bs : List UInt8, By w (.slice a len cap) bs := by
  rcases h with ⟨rfl, rfl, rfl, rfl⟩ | ⟨x, rfl, h1, h2, h3, h4, h5⟩
  · exact ⟨[], by_nil w⟩
  · have hz : ∀ i, i < len → (Lib.numsL (Lib.bytesOf (zs.take len))).getD i 0 = zs.getD i 0 := fun i hi => by
      have hi' : i < zs.length := by omega
      have hw := bounds_u8 (h5 _ (List.getElem_mem hi'))
      have : (Lib.bytesOf (zs.take len)).getD i 0 = UInt8.ofNat (zs[i]).toNat := by
        simp [Lib.bytesOf, List.getD, hi, List.getElem?_eq_getElem hi']
      rw [numsL_getD _ _ (by simp [Lib.bytesOf]; omega), this, List.getD, List.getElem?_eq_getElem hi']
      simp only [Option.getD_some, UInt8.toNat_ofNat']
      omega
    refine ⟨Lib.bytesOf (zs.take len), By.of (by simp [Lib.bytesOf]; omega) h1 h2 (fun h => by cases h) (Lib.BytesIn.of_cells fun i hi => ?_)⟩
    rw [hz i hi]
    exact h4 i (by omega)

set_option maxRecDepth 100000 in
set_option maxHeartbeats 32000000 in
theorem walk : Walks := by
  intro a0 len0 cap0 z0 a1 len1 cap1 z1 a2 len2 cap2 z2 w w0 w1 w2 hG
  obtain ⟨txf, hf⟩ := row_by w0
  obtain ⟨txl, hl⟩ := row_by w1
  obtain ⟨txo, ho⟩ := row_by w2
  clear w0 w1 w2
  have con := Prv.lives_any w hG
  have HG := Lib.hid hG
  clear hG
  go_enter Tryz.func4, Tryz.ntmps4
  go_wp2_with fail
  refine con.mono ?_
  rintro e X1 ⟨rfl, B_1⟩
  clear con
  replace hf := hf.on B_1
  replace hl := hl.on B_1
  replace ho := ho.on B_1
  have con := Frm.lawOf_any a0 len0 cap0 txf X1 hf (HG.out.on B_1)
  have Hf := Lib.hid (frm_ok (txf.take 400))
  generalize frmV (parseF (txf.take 400)) = f at con Hf
  clear hf
  go_wp2_with fail
  refine con.mono ?_
  rintro e X2 ⟨qf, nf, cf, rfl, sf, hb⟩
  have B_2 := B_1.trans (hb.mono B_1.size)
  replace hl := hl.on hb
  replace ho := ho.on hb
  clear con hb B_1
  have con := Lbl.lawOf_any a1 len1 cap1 txl X2 hl (HG.out.on B_2)
  have Hl := Lib.hid (parse_lab (txl.take 400))
  generalize labV (parseL (txl.take 400)) = l at con Hl
  clear hl
  go_wp2_with fail
  refine con.mono ?_
  rintro e X3 ⟨ql, nl, cl, rl, ml, kl, rfl, sl, hb⟩
  have B_3 := B_2.trans (hb.mono B_2.size)
  replace ho := ho.on hb
  replace sf := sf.below hb
  clear con hb B_2
  have con := Lbl.lawOf_any a2 len2 cap2 txo X3 ho (HG.out.on B_3)
  have Ho := Lib.hid (parse_lab (txo.take 400))
  generalize labV (parseL (txo.take 400)) = o at con Ho
  clear ho
  go_wp2_with fail
  refine con.mono ?_
  rintro e X4 ⟨qo, no, co, ro, mo, ko, rfl, so, hb⟩
  have B_4 := B_3.trans (hb.mono B_3.size)
  replace sf := sf.below hb
  replace sl := sl.below hb
  clear con hb B_3
  obtain ⟨b0, hb0⟩ : ∃ b, X4.heap.size = b := ⟨_, rfl⟩
  obtain ⟨X5, hX5⟩ : ∃ Z, X4.alloc (.cells #[.slice qf nf cf] 26) = Z := ⟨_, rfl⟩
  have hb : Below X4.heap.size X4 X5 := by rw [← hX5]; exact below_alloc _
  have Ff : FX b0 qf nf cf f X5 := by rw [← hX5, ← hb0]; exact FX.new sf
  have hz1 : X5.heap.size = b0 + 1 := by rw [← hX5]; simp [hb0]
  have B_5 := B_4.trans (hb.mono B_4.size)
  replace sl := sl.below hb
  replace so := so.below hb
  clear hb sf B_4
  obtain ⟨X6, hX6⟩ : ∃ Z, X5.alloc (.cells #[.slice ql nl cl, .slice rl ml kl] 29) = Z := ⟨_, rfl⟩
  have hb : Below X5.heap.size X5 X6 := by rw [← hX6]; exact below_alloc _
  have Ll : LX (b0 + 1) ql nl cl rl ml kl l X6 := by rw [← hX6, ← hz1]; exact LX.new sl
  have hz2 : X6.heap.size = b0 + 2 := by rw [← hX6]; simp [hz1]
  have B_6 := B_5.trans (hb.mono B_5.size)
  replace Ff := Ff.on hb
  replace so := so.below hb
  clear hb sl B_5
  obtain ⟨X7, hX7⟩ : ∃ Z, X6.alloc (.cells #[.slice qo no co, .slice ro mo ko] 29) = Z := ⟨_, rfl⟩
  have hb : Below X6.heap.size X6 X7 := by rw [← hX7]; exact below_alloc _
  have Lo : LX (b0 + 2) qo no co ro mo ko o X7 := by rw [← hX7, ← hz2]; exact LX.new so
  have B_7 := B_6.trans (hb.mono B_6.size)
  replace Ff := Ff.on hb
  replace Ll := Ll.on hb
  clear hb so B_6
  have HX5 := Lib.hid hX5
  have HX6 := Lib.hid hX6
  have HX7 := Lib.hid hX7
  have HB0 := Lib.hid hb0
  clear hb0 hX5 hX6 hX7 hz1 hz2
  have ff := Hf.out.few
  have fl := lok_few Hl.out
  have fo := lok_few Ho.out
  have HFW := Lib.hid (byK_all f l o)
  have HFS := Lib.hid (fun k => byK_succ f l o (namesA [f, l.s, l.i, o.s, o.i]) k)
  have HF0 := Lib.hid (show byK f l o (namesA [f, l.s, l.i, o.s, o.i]) 0 = true from rfl)
  have HRC := Lib.hid (fun X (v : Value) (l : Lab) (h : LabIs X v l) (f : Few l) => lawRef_any v l X h f)
  have HRF := Lib.hid (fun X (h : FrmIs X (.agg #[.slice qf nf cf]) f) => Frm.Ref_new _ f X h (by have := ff; omega))
  go_upto_region 4 with fail
  rewrite [HB0.out, HX5.out, HX6.out, HX7.out]
  clear HB0 HX5 HX6 HX7
  clear Hf Hl Ho HG
  go_cut [10, 11, 12] from 24 to 29 (fun s10 s11 s12 X => (∃ q n c, s10 = .slice q n c ∧ RefIn X q n f ∧ (q = none → c = 0)) ∧ HeldR s11 l X ∧ HeldR s12 o X ∧ Below X7.heap.size X7 X)
  case first =>
    have D0 : Below X7.heap.size X7 X7.drew := ⟨rfl, rfl, rfl, Nat.le_refl _, fun _ _ => rfl⟩
    refine pregion_any (fun X => X.cell? ⟨b0, 0, none⟩ = some (.slice qf nf cf) ∧ X.cell? ⟨b0 + 1, 0, none⟩ = some (.slice ql nl cl) ∧ X.cell? ⟨b0 + 1, 1, none⟩ = some (.slice rl ml kl) ∧ X.cell? ⟨b0 + 2, 0, none⟩ = some (.slice qo no co) ∧ X.cell? ⟨b0 + 2, 1, none⟩ = some (.slice ro mo ko)) (by kernel_rfl) ?_
    obtain ⟨Y0, hXd⟩ : ∃ Z, X7.drew = Z := ⟨_, rfl⟩
    rw [hXd] at D0 ⊢
    clear hXd
    refine wpAnyH_take (i := 0) (v := (.agg #[.slice qf nf cf])) rfl (by kernel_rfl) (by kernel_rfl) (by kernel_rfl) (fun _ _ _ h => h) (.inl ⟨by kernel_rfl, ?_⟩) ⟨(Ff.on D0).c0, (Ll.on D0).c0, (Ll.on D0).c1, (Lo.on D0).c0, (Lo.on D0).c1⟩ ?_
    · rintro w ⟨h1, h2, h3, h4, h5⟩; go_simp <;> omega
    refine plist #[true, false, false, false, false, false, false, false, false, false, false] (by kernel_rfl) ?_
    refine wpAnyH_take (i := 2) (v := (.agg #[.slice ql nl cl, .slice rl ml kl])) rfl (by kernel_rfl) (by kernel_rfl) (by kernel_rfl) (fun _ _ _ h => h) (.inl ⟨by kernel_rfl, ?_⟩) ⟨(Ff.on D0).c0, (Ll.on D0).c0, (Ll.on D0).c1, (Lo.on D0).c0, (Lo.on D0).c1⟩ ?_
    · rintro w ⟨h1, h2, h3, h4, h5⟩; go_simp <;> omega
    refine plist #[true, false, true, false, false, false, false, false, false, false, false] (by kernel_rfl) ?_
    refine wpAnyH_take (i := 4) (v := (.agg #[.slice qo no co, .slice ro mo ko])) rfl (by kernel_rfl) (by kernel_rfl) (by kernel_rfl) (fun _ _ _ h => h) (.inl ⟨by kernel_rfl, ?_⟩) ⟨(Ff.on D0).c0, (Ll.on D0).c0, (Ll.on D0).c1, (Lo.on D0).c0, (Lo.on D0).c1⟩ ?_
    · rintro w ⟨h1, h2, h3, h4, h5⟩; go_simp <;> omega
    refine plist #[true, false, true, false, true, false, false, false, false, false, false] (by kernel_rfl) ?_
    refine pthreeQ 1 6 7 (by kernel_rfl) rfl rfl rfl (fun K hK => ?_) (fun K hK => ?_) (fun K hK => ?_)
    · skip
      have con := HRF.out Y0 (Ff.on D0).2
      go_simp
      refine con.mono ?_
      rintro e Y1 ⟨qw, nw, cw, rfl, R1, k1, z1, hb⟩
      have D1 := D0.trans (hb.mono D0.size)
      clear con hb k1 D0
      refine hK _ _ ⟨(Ff.on D1).c0, (Ll.on D1).c0, (Ll.on D1).c1, (Lo.on D1).c0, (Lo.on D1).c1⟩ ?_
      clear hK K
      refine plist #[true, true, true, false, true, false, false, false, false, false, false] (by kernel_rfl) ?_
      refine pthreeQ 3 6 7 (by kernel_rfl) rfl rfl rfl (fun K hK => ?_) (fun K hK => ?_) (fun K hK => ?_)
      · skip
        have con := HRC.out Y1 _ l (Ll.on D1).2 fl
        go_simp
        refine con.mono ?_
        rintro e Y2 ⟨qv, nv, cv, rv, mv, kv, rfl, R3, h3, h3', hb⟩
        have D2 := D1.trans (hb.mono D1.size)
        replace R1 := R1.below hb
        clear con hb h3 h3' D1
        refine hK _ _ ⟨(Ff.on D2).c0, (Ll.on D2).c0, (Ll.on D2).c1, (Lo.on D2).c0, (Lo.on D2).c1⟩ ?_
        clear hK K
        refine plist #[true, true, true, true, true, false, false, false, false, false, false] (by kernel_rfl) ?_
        refine pthreeQ 5 6 7 (by kernel_rfl) rfl rfl rfl (fun K hK => ?_) (fun K hK => ?_) (fun K hK => ?_)
        · skip
          have con := HRC.out Y2 _ o (Lo.on D2).2 fo
          go_simp
          refine con.mono ?_
          rintro e Y3 ⟨qu, nu, cu, ru, mu, ku, rfl, R5, h5, h5', hb⟩
          have D3 := D2.trans (hb.mono D2.size)
          replace R1 := R1.below hb
          replace R3 := R3.below hb
          clear con hb h5 h5' D2
          refine hK _ _ ⟨(Ff.on D3).c0, (Ll.on D3).c0, (Ll.on D3).c1, (Lo.on D3).c0, (Lo.on D3).c1⟩ ?_
          clear hK K
          refine plist #[true, true, true, true, true, true, false, false, false, false, false] (by kernel_rfl) ?_
          refine ptwoQ 6 7 (by kernel_rfl) rfl rfl (fun K hK => ?_) (fun K hK => ?_)
          · skip
            go_simp
            obtain ⟨t6, ht⟩ : ∃ b, Y3.heap.size = b := ⟨_, rfl⟩
            obtain ⟨Y4, hY⟩ : ∃ Z, Y3.alloc (.cells #[.slice none 0 0, .slice none 0 0] 35) = Z := ⟨_, rfl⟩
            rewrite [hY, ht]
            have hb : Below Y3.heap.size Y3 Y4 := by rw [← hY]; exact below_alloc _
            have A6 : RB t6 #[.slice none 0 0, .slice none 0 0] Y4 := by rw [← hY, ← ht]; exact RB.new _ _
            have HT6 : X7.heap.size ≤ t6 := by rw [← ht]; exact D3.size
            have NE16 : ∀ a, qw = some a → 0 < nw → a.block ≠ t6 := by rw [← ht]; exact refIn_ne R1
            have NE36 : (∀ a, qv = some a → 0 < nv → a.block ≠ t6) ∧ ∀ a, rv = some a → 0 < mv → a.block ≠ t6 := by rw [← ht]; exact R3.ne
            have NE56 : (∀ a, qu = some a → 0 < nu → a.block ≠ t6) ∧ ∀ a, ru = some a → 0 < mu → a.block ≠ t6 := by rw [← ht]; exact R5.ne
            have D4 := D3.trans (hb.mono D3.size)
            replace R1 := R1.below hb
            replace R3 := R3.below hb
            replace R5 := R5.below hb
            clear hb hY ht D3
            refine hK _ _ ⟨(Ff.on D4).c0, (Ll.on D4).c0, (Ll.on D4).c1, (Lo.on D4).c0, (Lo.on D4).c1⟩ ?_
            clear hK K
            refine plist #[true, true, true, true, true, true, true, false, false, false, false] (by kernel_rfl) ?_
            refine pone 7 (by kernel_rfl) rfl fun K hK => ?_
            go_simp
            obtain ⟨t7, ht⟩ : ∃ b, Y4.heap.size = b := ⟨_, rfl⟩
            obtain ⟨Y5, hY⟩ : ∃ Z, Y4.alloc (.cells #[.slice none 0 0, .slice none 0 0] 35) = Z := ⟨_, rfl⟩
            rewrite [hY, ht]
            have hb : Below Y4.heap.size Y4 Y5 := by rw [← hY]; exact below_alloc _
            have A7 : RB t7 #[.slice none 0 0, .slice none 0 0] Y5 := by rw [← hY, ← ht]; exact RB.new _ _
            have HT7 : X7.heap.size ≤ t7 := by rw [← ht]; exact D4.size
            have NE17 : ∀ a, qw = some a → 0 < nw → a.block ≠ t7 := by rw [← ht]; exact refIn_ne R1
            have NE37 : (∀ a, qv = some a → 0 < nv → a.block ≠ t7) ∧ ∀ a, rv = some a → 0 < mv → a.block ≠ t7 := by rw [← ht]; exact R3.ne
            have NE57 : (∀ a, qu = some a → 0 < nu → a.block ≠ t7) ∧ ∀ a, ru = some a → 0 < mu → a.block ≠ t7 := by rw [← ht]; exact R5.ne
            have NT : t6 ≠ t7 := by have h1 := A6.lt; omega
            have D5 := D4.trans (hb.mono D4.size)
            replace R1 := R1.below hb
            replace R3 := R3.below hb
            replace R5 := R5.below hb
            replace A6 := A6.on hb
            clear hb hY ht D4
            refine hK _ _ ⟨(Ff.on D5).c0, (Ll.on D5).c0, (Ll.on D5).c1, (Lo.on D5).c0, (Lo.on D5).c1⟩ ?_
            clear hK K
            refine plist #[true, true, true, true, true, true, true, true, false, false, false] (by kernel_rfl) ?_
            refine pone 8 (by kernel_rfl) rfl fun K hK => ?_
            go_simp
            refine hK _ _ ⟨(Ff.on D5).c0, (Ll.on D5).c0, (Ll.on D5).c1, (Lo.on D5).c0, (Lo.on D5).c1⟩ ?_
            clear hK K
            refine plist #[true, true, true, true, true, true, true, true, true, false, false] (by kernel_rfl) ?_
            refine pone 9 (by kernel_rfl) rfl fun K hK => ?_
            have kf0 := A6.frozen 0
            have kf1 := A6.frozen 1
            have z0 := A6.box 0 _ rfl
            have zz1 := A6.box 1 _ rfl
            obtain ⟨Y7, hY, A6', hk, hB⟩ := A6.put (.slice qv nv cv) (.slice rv mv kv)
            go_simp
            (try rewrite [hY])
            replace R1 := RefIn.off R1 A6 NE16 (hk _ (by simp))
            replace R3 := R3.off A6 NE36 (hk _ (by simp))
            replace R5 := R5.off A6 NE56 (hk _ (by simp))
            replace A7 := A7.away (hk (fun b => b ≠ t6) (by simp)) (by omega)
            have D7 := D5.trans (hB _ HT6)
            clear hY hk hB kf0 kf1 z0 zz1 A6 NE16 NE36 NE56 D5
            have A6 := A6'
            clear A6'
            refine hK _ _ ⟨(Ff.on D7).c0, (Ll.on D7).c0, (Ll.on D7).c1, (Lo.on D7).c0, (Lo.on D7).c1⟩ ?_
            clear hK K
            refine plist #[true, true, true, true, true, true, true, true, true, true, false] (by kernel_rfl) ?_
            refine pone 10 (by kernel_rfl) rfl fun K hK => ?_
            have kf0 := A7.frozen 0
            have kf1 := A7.frozen 1
            have z0 := A7.box 0 _ rfl
            have zz1 := A7.box 1 _ rfl
            obtain ⟨Y8, hY, A7', hk, hB⟩ := A7.put (.slice qu nu cu) (.slice ru mu ku)
            go_simp
            (try rewrite [hY])
            replace R1 := RefIn.off R1 A7 NE17 (hk _ (by simp))
            replace R3 := R3.off A7 NE37 (hk _ (by simp))
            replace R5 := R5.off A7 NE57 (hk _ (by simp))
            replace A6 := A6.away (hk (fun b => b ≠ t7) (by simp)) (by omega)
            have D8 := D7.trans (hB _ HT7)
            clear hY hk hB kf0 kf1 z0 zz1 A7 NE17 NE37 NE57 D7
            have A7 := A7'
            clear A7'
            refine hK _ _ ⟨(Ff.on D8).c0, (Ll.on D8).c0, (Ll.on D8).c1, (Lo.on D8).c0, (Lo.on D8).c1⟩ ?_
            clear hK K
            refine plist #[true, true, true, true, true, true, true, true, true, true, true] (by kernel_rfl) ?_
            refine pdone (by kernel_rfl) ?_ _
            go_wp2_with fail
            go_meet
            exact ⟨⟨qw, nw, cw, rfl, R1, z1⟩, ⟨_, qv, nv, cv, rv, mv, kv, rfl, A6, R3⟩, ⟨_, qu, nu, cu, ru, mu, ku, rfl, A7, R5⟩, D8⟩
          · skip
            go_simp
            obtain ⟨t7, ht⟩ : ∃ b, Y3.heap.size = b := ⟨_, rfl⟩
            obtain ⟨Y9, hY⟩ : ∃ Z, Y3.alloc (.cells #[.slice none 0 0, .slice none 0 0] 35) = Z := ⟨_, rfl⟩
            rewrite [hY, ht]
            have hb : Below Y3.heap.size Y3 Y9 := by rw [← hY]; exact below_alloc _
            have A7 : RB t7 #[.slice none 0 0, .slice none 0 0] Y9 := by rw [← hY, ← ht]; exact RB.new _ _
            have HT7 : X7.heap.size ≤ t7 := by rw [← ht]; exact D3.size
            have NE17 : ∀ a, qw = some a → 0 < nw → a.block ≠ t7 := by rw [← ht]; exact refIn_ne R1
            have NE37 : (∀ a, qv = some a → 0 < nv → a.block ≠ t7) ∧ ∀ a, rv = some a → 0 < mv → a.block ≠ t7 := by rw [← ht]; exact R3.ne
            have NE57 : (∀ a, qu = some a → 0 < nu → a.block ≠ t7) ∧ ∀ a, ru = some a → 0 < mu → a.block ≠ t7 := by rw [← ht]; exact R5.ne
            have D9 := D3.trans (hb.mono D3.size)
            replace R1 := R1.below hb
            replace R3 := R3.below hb
            replace R5 := R5.below hb
            clear hb hY ht D3
            refine hK _ _ ⟨(Ff.on D9).c0, (Ll.on D9).c0, (Ll.on D9).c1, (Lo.on D9).c0, (Lo.on D9).c1⟩ ?_
            clear hK K
            refine plist #[true, true, true, true, true, true, false, true, false, false, false] (by kernel_rfl) ?_
            refine pone 6 (by kernel_rfl) rfl fun K hK => ?_
            go_simp
            obtain ⟨t6, ht⟩ : ∃ b, Y9.heap.size = b := ⟨_, rfl⟩
            obtain ⟨Y10, hY⟩ : ∃ Z, Y9.alloc (.cells #[.slice none 0 0, .slice none 0 0] 35) = Z := ⟨_, rfl⟩
            rewrite [hY, ht]
            have hb : Below Y9.heap.size Y9 Y10 := by rw [← hY]; exact below_alloc _
            have A6 : RB t6 #[.slice none 0 0, .slice none 0 0] Y10 := by rw [← hY, ← ht]; exact RB.new _ _
            have HT6 : X7.heap.size ≤ t6 := by rw [← ht]; exact D9.size
            have NE16 : ∀ a, qw = some a → 0 < nw → a.block ≠ t6 := by rw [← ht]; exact refIn_ne R1
            have NE36 : (∀ a, qv = some a → 0 < nv → a.block ≠ t6) ∧ ∀ a, rv = some a → 0 < mv → a.block ≠ t6 := by rw [← ht]; exact R3.ne
            have NE56 : (∀ a, qu = some a → 0 < nu → a.block ≠ t6) ∧ ∀ a, ru = some a → 0 < mu → a.block ≠ t6 := by rw [← ht]; exact R5.ne
            have NT : t7 ≠ t6 := by have h1 := A7.lt; omega
            have D10 := D9.trans (hb.mono D9.size)
            replace R1 := R1.below hb
            replace R3 := R3.below hb
            replace R5 := R5.below hb
            replace A7 := A7.on hb
            clear hb hY ht D9
            refine hK _ _ ⟨(Ff.on D10).c0, (Ll.on D10).c0, (Ll.on D10).c1, (Lo.on D10).c0, (Lo.on D10).c1⟩ ?_
            clear hK K
            refine plist #[true, true, true, true, true, true, true, true, false, false, false] (by kernel_rfl) ?_
            refine pone 8 (by kernel_rfl) rfl fun K hK => ?_
            go_simp
            refine hK _ _ ⟨(Ff.on D10).c0, (Ll.on D10).c0, (Ll.on D10).c1, (Lo.on D10).c0, (Lo.on D10).c1⟩ ?_
            clear hK K
            refine plist #[true, true, true, true, true, true, true, true, true, false, false] (by kernel_rfl) ?_
            refine pone 9 (by kernel_rfl) rfl fun K hK => ?_
            have kf0 := A6.frozen 0
            have kf1 := A6.frozen 1
            have z0 := A6.box 0 _ rfl
            have zz1 := A6.box 1 _ rfl
            obtain ⟨Y12, hY, A6', hk, hB⟩ := A6.put (.slice qv nv cv) (.slice rv mv kv)
            go_simp
            (try rewrite [hY])
            replace R1 := RefIn.off R1 A6 NE16 (hk _ (by simp))
            replace R3 := R3.off A6 NE36 (hk _ (by simp))
            replace R5 := R5.off A6 NE56 (hk _ (by simp))
            replace A7 := A7.away (hk (fun b => b ≠ t6) (by simp)) (by omega)
            have D12 := D10.trans (hB _ HT6)
            clear hY hk hB kf0 kf1 z0 zz1 A6 NE16 NE36 NE56 D10
            have A6 := A6'
            clear A6'
            refine hK _ _ ⟨(Ff.on D12).c0, (Ll.on D12).c0, (Ll.on D12).c1, (Lo.on D12).c0, (Lo.on D12).c1⟩ ?_
            clear hK K
            refine plist #[true, true, true, true, true, true, true, true, true, true, false] (by kernel_rfl) ?_
            refine pone 10 (by kernel_rfl) rfl fun K hK => ?_
            have kf0 := A7.frozen 0
            have kf1 := A7.frozen 1
            have z0 := A7.box 0 _ rfl
            have zz1 := A7.box 1 _ rfl
            obtain ⟨Y13, hY, A7', hk, hB⟩ := A7.put (.slice qu nu cu) (.slice ru mu ku)
            go_simp
            (try rewrite [hY])
            replace R1 := RefIn.off R1 A7 NE17 (hk _ (by simp))
            replace R3 := R3.off A7 NE37 (hk _ (by simp))
            replace R5 := R5.off A7 NE57 (hk _ (by simp))
            replace A6 := A6.away (hk (fun b => b ≠ t7) (by simp)) (by omega)
            have D13 := D12.trans (hB _ HT7)
            clear hY hk hB kf0 kf1 z0 zz1 A7 NE17 NE37 NE57 D12
            have A7 := A7'
            clear A7'
            refine hK _ _ ⟨(Ff.on D13).c0, (Ll.on D13).c0, (Ll.on D13).c1, (Lo.on D13).c0, (Lo.on D13).c1⟩ ?_
            clear hK K
            refine plist #[true, true, true, true, true, true, true, true, true, true, true] (by kernel_rfl) ?_
            refine pdone (by kernel_rfl) ?_ _
            go_wp2_with fail
            go_meet
            exact ⟨⟨qw, nw, cw, rfl, R1, z1⟩, ⟨_, qv, nv, cv, rv, mv, kv, rfl, A6, R3⟩, ⟨_, qu, nu, cu, ru, mu, ku, rfl, A7, R5⟩, D13⟩
        · skip
          go_simp
          obtain ⟨t6, ht⟩ : ∃ b, Y2.heap.size = b := ⟨_, rfl⟩
          obtain ⟨Y14, hY⟩ : ∃ Z, Y2.alloc (.cells #[.slice none 0 0, .slice none 0 0] 35) = Z := ⟨_, rfl⟩
          rewrite [hY, ht]
          have hb : Below Y2.heap.size Y2 Y14 := by rw [← hY]; exact below_alloc _
          have A6 : RB t6 #[.slice none 0 0, .slice none 0 0] Y14 := by rw [← hY, ← ht]; exact RB.new _ _
          have HT6 : X7.heap.size ≤ t6 := by rw [← ht]; exact D2.size
          have NE16 : ∀ a, qw = some a → 0 < nw → a.block ≠ t6 := by rw [← ht]; exact refIn_ne R1
          have NE36 : (∀ a, qv = some a → 0 < nv → a.block ≠ t6) ∧ ∀ a, rv = some a → 0 < mv → a.block ≠ t6 := by rw [← ht]; exact R3.ne
          have D14 := D2.trans (hb.mono D2.size)
          replace R1 := R1.below hb
          replace R3 := R3.below hb
          clear hb hY ht D2
          refine hK _ _ ⟨(Ff.on D14).c0, (Ll.on D14).c0, (Ll.on D14).c1, (Lo.on D14).c0, (Lo.on D14).c1⟩ ?_
          clear hK K
          refine plist #[true, true, true, true, true, false, true, false, false, false, false] (by kernel_rfl) ?_
          refine ptwoQ 5 7 (by kernel_rfl) rfl rfl (fun K hK => ?_) (fun K hK => ?_)
          · skip
            have con := HRC.out Y14 _ o (Lo.on D14).2 fo
            go_simp
            refine con.mono ?_
            rintro e Y15 ⟨qu, nu, cu, ru, mu, ku, rfl, R5, h5, h5', hb⟩
            have NE56 : (∀ a, qu = some a → 0 < nu → a.block ≠ t6) ∧ ∀ a, ru = some a → 0 < mu → a.block ≠ t6 := ⟨fun a h _ => by have h1 := h5 a h; have h2 := A6.lt; omega, fun a h _ => by have h1 := h5' a h; have h2 := A6.lt; omega⟩
            have D15 := D14.trans (hb.mono D14.size)
            replace R1 := R1.below hb
            replace R3 := R3.below hb
            replace A6 := A6.on hb
            clear con hb h5 h5' D14
            refine hK _ _ ⟨(Ff.on D15).c0, (Ll.on D15).c0, (Ll.on D15).c1, (Lo.on D15).c0, (Lo.on D15).c1⟩ ?_
            clear hK K
            refine plist #[true, true, true, true, true, true, true, false, false, false, false] (by kernel_rfl) ?_
            refine pone 7 (by kernel_rfl) rfl fun K hK => ?_
            go_simp
            obtain ⟨t7, ht⟩ : ∃ b, Y15.heap.size = b := ⟨_, rfl⟩
            obtain ⟨Y16, hY⟩ : ∃ Z, Y15.alloc (.cells #[.slice none 0 0, .slice none 0 0] 35) = Z := ⟨_, rfl⟩
            rewrite [hY, ht]
            have hb : Below Y15.heap.size Y15 Y16 := by rw [← hY]; exact below_alloc _
            have A7 : RB t7 #[.slice none 0 0, .slice none 0 0] Y16 := by rw [← hY, ← ht]; exact RB.new _ _
            have HT7 : X7.heap.size ≤ t7 := by rw [← ht]; exact D15.size
            have NE17 : ∀ a, qw = some a → 0 < nw → a.block ≠ t7 := by rw [← ht]; exact refIn_ne R1
            have NE37 : (∀ a, qv = some a → 0 < nv → a.block ≠ t7) ∧ ∀ a, rv = some a → 0 < mv → a.block ≠ t7 := by rw [← ht]; exact R3.ne
            have NE57 : (∀ a, qu = some a → 0 < nu → a.block ≠ t7) ∧ ∀ a, ru = some a → 0 < mu → a.block ≠ t7 := by rw [← ht]; exact R5.ne
            have NT : t6 ≠ t7 := by have h1 := A6.lt; omega
            have D16 := D15.trans (hb.mono D15.size)
            replace R1 := R1.below hb
            replace R3 := R3.below hb
            replace R5 := R5.below hb
            replace A6 := A6.on hb
            clear hb hY ht D15
            refine hK _ _ ⟨(Ff.on D16).c0, (Ll.on D16).c0, (Ll.on D16).c1, (Lo.on D16).c0, (Lo.on D16).c1⟩ ?_
            clear hK K
            refine plist #[true, true, true, true, true, true, true, true, false, false, false] (by kernel_rfl) ?_
            refine pone 8 (by kernel_rfl) rfl fun K hK => ?_
            go_simp
            refine hK _ _ ⟨(Ff.on D16).c0, (Ll.on D16).c0, (Ll.on D16).c1, (Lo.on D16).c0, (Lo.on D16).c1⟩ ?_
            clear hK K
            refine plist #[true, true, true, true, true, true, true, true, true, false, false] (by kernel_rfl) ?_
            refine pone 9 (by kernel_rfl) rfl fun K hK => ?_
            have kf0 := A6.frozen 0
            have kf1 := A6.frozen 1
            have z0 := A6.box 0 _ rfl
            have zz1 := A6.box 1 _ rfl
            obtain ⟨Y18, hY, A6', hk, hB⟩ := A6.put (.slice qv nv cv) (.slice rv mv kv)
            go_simp
            (try rewrite [hY])
            replace R1 := RefIn.off R1 A6 NE16 (hk _ (by simp))
            replace R3 := R3.off A6 NE36 (hk _ (by simp))
            replace R5 := R5.off A6 NE56 (hk _ (by simp))
            replace A7 := A7.away (hk (fun b => b ≠ t6) (by simp)) (by omega)
            have D18 := D16.trans (hB _ HT6)
            clear hY hk hB kf0 kf1 z0 zz1 A6 NE16 NE36 NE56 D16
            have A6 := A6'
            clear A6'
            refine hK _ _ ⟨(Ff.on D18).c0, (Ll.on D18).c0, (Ll.on D18).c1, (Lo.on D18).c0, (Lo.on D18).c1⟩ ?_
            clear hK K
            refine plist #[true, true, true, true, true, true, true, true, true, true, false] (by kernel_rfl) ?_
            refine pone 10 (by kernel_rfl) rfl fun K hK => ?_
            have kf0 := A7.frozen 0
            have kf1 := A7.frozen 1
            have z0 := A7.box 0 _ rfl
            have zz1 := A7.box 1 _ rfl
            obtain ⟨Y19, hY, A7', hk, hB⟩ := A7.put (.slice qu nu cu) (.slice ru mu ku)
            go_simp
            (try rewrite [hY])
            replace R1 := RefIn.off R1 A7 NE17 (hk _ (by simp))
            replace R3 := R3.off A7 NE37 (hk _ (by simp))
            replace R5 := R5.off A7 NE57 (hk _ (by simp))
            replace A6 := A6.away (hk (fun b => b ≠ t7) (by simp)) (by omega)
            have D19 := D18.trans (hB _ HT7)
            clear hY hk hB kf0 kf1 z0 zz1 A7 NE17 NE37 NE57 D18
            have A7 := A7'
            clear A7'
            refine hK _ _ ⟨(Ff.on D19).c0, (Ll.on D19).c0, (Ll.on D19).c1, (Lo.on D19).c0, (Lo.on D19).c1⟩ ?_
            clear hK K
            refine plist #[true, true, true, true, true, true, true, true, true, true, true] (by kernel_rfl) ?_
            refine pdone (by kernel_rfl) ?_ _
            go_wp2_with fail
            go_meet
            exact ⟨⟨qw, nw, cw, rfl, R1, z1⟩, ⟨_, qv, nv, cv, rv, mv, kv, rfl, A6, R3⟩, ⟨_, qu, nu, cu, ru, mu, ku, rfl, A7, R5⟩, D19⟩
          · skip
            go_simp
            obtain ⟨t7, ht⟩ : ∃ b, Y14.heap.size = b := ⟨_, rfl⟩
            obtain ⟨Y20, hY⟩ : ∃ Z, Y14.alloc (.cells #[.slice none 0 0, .slice none 0 0] 35) = Z := ⟨_, rfl⟩
            rewrite [hY, ht]
            have hb : Below Y14.heap.size Y14 Y20 := by rw [← hY]; exact below_alloc _
            have A7 : RB t7 #[.slice none 0 0, .slice none 0 0] Y20 := by rw [← hY, ← ht]; exact RB.new _ _
            have HT7 : X7.heap.size ≤ t7 := by rw [← ht]; exact D14.size
            have NE17 : ∀ a, qw = some a → 0 < nw → a.block ≠ t7 := by rw [← ht]; exact refIn_ne R1
            have NE37 : (∀ a, qv = some a → 0 < nv → a.block ≠ t7) ∧ ∀ a, rv = some a → 0 < mv → a.block ≠ t7 := by rw [← ht]; exact R3.ne
            have NT : t6 ≠ t7 := by have h1 := A6.lt; omega
            have D20 := D14.trans (hb.mono D14.size)
            replace R1 := R1.below hb
            replace R3 := R3.below hb
            replace A6 := A6.on hb
            clear hb hY ht D14
            refine hK _ _ ⟨(Ff.on D20).c0, (Ll.on D20).c0, (Ll.on D20).c1, (Lo.on D20).c0, (Lo.on D20).c1⟩ ?_
            clear hK K
            refine plist #[true, true, true, true, true, false, true, true, false, false, false] (by kernel_rfl) ?_
            refine pone 5 (by kernel_rfl) rfl fun K hK => ?_
            have con := HRC.out Y20 _ o (Lo.on D20).2 fo
            go_simp
            refine con.mono ?_
            rintro e Y21 ⟨qu, nu, cu, ru, mu, ku, rfl, R5, h5, h5', hb⟩
            have NE56 : (∀ a, qu = some a → 0 < nu → a.block ≠ t6) ∧ ∀ a, ru = some a → 0 < mu → a.block ≠ t6 := ⟨fun a h _ => by have h1 := h5 a h; have h2 := A6.lt; omega, fun a h _ => by have h1 := h5' a h; have h2 := A6.lt; omega⟩
            have NE57 : (∀ a, qu = some a → 0 < nu → a.block ≠ t7) ∧ ∀ a, ru = some a → 0 < mu → a.block ≠ t7 := ⟨fun a h _ => by have h1 := h5 a h; have h2 := A7.lt; omega, fun a h _ => by have h1 := h5' a h; have h2 := A7.lt; omega⟩
            have D21 := D20.trans (hb.mono D20.size)
            replace R1 := R1.below hb
            replace R3 := R3.below hb
            replace A6 := A6.on hb
            replace A7 := A7.on hb
            clear con hb h5 h5' D20
            refine hK _ _ ⟨(Ff.on D21).c0, (Ll.on D21).c0, (Ll.on D21).c1, (Lo.on D21).c0, (Lo.on D21).c1⟩ ?_
            clear hK K
            refine plist #[true, true, true, true, true, true, true, true, false, false, false] (by kernel_rfl) ?_
            refine pone 8 (by kernel_rfl) rfl fun K hK => ?_
            go_simp
            refine hK _ _ ⟨(Ff.on D21).c0, (Ll.on D21).c0, (Ll.on D21).c1, (Lo.on D21).c0, (Lo.on D21).c1⟩ ?_
            clear hK K
            refine plist #[true, true, true, true, true, true, true, true, true, false, false] (by kernel_rfl) ?_
            refine pone 9 (by kernel_rfl) rfl fun K hK => ?_
            have kf0 := A6.frozen 0
            have kf1 := A6.frozen 1
            have z0 := A6.box 0 _ rfl
            have zz1 := A6.box 1 _ rfl
            obtain ⟨Y23, hY, A6', hk, hB⟩ := A6.put (.slice qv nv cv) (.slice rv mv kv)
            go_simp
            (try rewrite [hY])
            replace R1 := RefIn.off R1 A6 NE16 (hk _ (by simp))
            replace R3 := R3.off A6 NE36 (hk _ (by simp))
            replace R5 := R5.off A6 NE56 (hk _ (by simp))
            replace A7 := A7.away (hk (fun b => b ≠ t6) (by simp)) (by omega)
            have D23 := D21.trans (hB _ HT6)
            clear hY hk hB kf0 kf1 z0 zz1 A6 NE16 NE36 NE56 D21
            have A6 := A6'
            clear A6'
            refine hK _ _ ⟨(Ff.on D23).c0, (Ll.on D23).c0, (Ll.on D23).c1, (Lo.on D23).c0, (Lo.on D23).c1⟩ ?_
            clear hK K
            refine plist #[true, true, true, true, true, true, true, true, true, true, false] (by kernel_rfl) ?_
            refine pone 10 (by kernel_rfl) rfl fun K hK => ?_
            have kf0 := A7.frozen 0
            have kf1 := A7.frozen 1
            have z0 := A7.box 0 _ rfl
            have zz1 := A7.box 1 _ rfl
            obtain ⟨Y24, hY, A7', hk, hB⟩ := A7.put (.slice qu nu cu) (.slice ru mu ku)
            go_simp
            (try rewrite [hY])
            replace R1 := RefIn.off R1 A7 NE17 (hk _ (by simp))
            replace R3 := R3.off A7 NE37 (hk _ (by simp))
            replace R5 := R5.off A7 NE57 (hk _ (by simp))
            replace A6 := A6.away (hk (fun b => b ≠ t7) (by simp)) (by omega)
            have D24 := D23.trans (hB _ HT7)
            clear hY hk hB kf0 kf1 z0 zz1 A7 NE17 NE37 NE57 D23
            have A7 := A7'
            clear A7'
            refine hK _ _ ⟨(Ff.on D24).c0, (Ll.on D24).c0, (Ll.on D24).c1, (Lo.on D24).c0, (Lo.on D24).c1⟩ ?_
            clear hK K
            refine plist #[true, true, true, true, true, true, true, true, true, true, true] (by kernel_rfl) ?_
            refine pdone (by kernel_rfl) ?_ _
            go_wp2_with fail
            go_meet
            exact ⟨⟨qw, nw, cw, rfl, R1, z1⟩, ⟨_, qv, nv, cv, rv, mv, kv, rfl, A6, R3⟩, ⟨_, qu, nu, cu, ru, mu, ku, rfl, A7, R5⟩, D24⟩
        · skip
          go_simp
          obtain ⟨t7, ht⟩ : ∃ b, Y2.heap.size = b := ⟨_, rfl⟩
          obtain ⟨Y25, hY⟩ : ∃ Z, Y2.alloc (.cells #[.slice none 0 0, .slice none 0 0] 35) = Z := ⟨_, rfl⟩
          rewrite [hY, ht]
          have hb : Below Y2.heap.size Y2 Y25 := by rw [← hY]; exact below_alloc _
          have A7 : RB t7 #[.slice none 0 0, .slice none 0 0] Y25 := by rw [← hY, ← ht]; exact RB.new _ _
          have HT7 : X7.heap.size ≤ t7 := by rw [← ht]; exact D2.size
          have NE17 : ∀ a, qw = some a → 0 < nw → a.block ≠ t7 := by rw [← ht]; exact refIn_ne R1
          have NE37 : (∀ a, qv = some a → 0 < nv → a.block ≠ t7) ∧ ∀ a, rv = some a → 0 < mv → a.block ≠ t7 := by rw [← ht]; exact R3.ne
          have D25 := D2.trans (hb.mono D2.size)
          replace R1 := R1.below hb
          replace R3 := R3.below hb
          clear hb hY ht D2
          refine hK _ _ ⟨(Ff.on D25).c0, (Ll.on D25).c0, (Ll.on D25).c1, (Lo.on D25).c0, (Lo.on D25).c1⟩ ?_
          clear hK K
          refine plist #[true, true, true, true, true, false, false, true, false, false, false] (by kernel_rfl) ?_
          refine ptwoQ 5 6 (by kernel_rfl) rfl rfl (fun K hK => ?_) (fun K hK => ?_)
          · skip
            have con := HRC.out Y25 _ o (Lo.on D25).2 fo
            go_simp
            refine con.mono ?_
            rintro e Y26 ⟨qu, nu, cu, ru, mu, ku, rfl, R5, h5, h5', hb⟩
            have NE57 : (∀ a, qu = some a → 0 < nu → a.block ≠ t7) ∧ ∀ a, ru = some a → 0 < mu → a.block ≠ t7 := ⟨fun a h _ => by have h1 := h5 a h; have h2 := A7.lt; omega, fun a h _ => by have h1 := h5' a h; have h2 := A7.lt; omega⟩
            have D26 := D25.trans (hb.mono D25.size)
            replace R1 := R1.below hb
            replace R3 := R3.below hb
            replace A7 := A7.on hb
            clear con hb h5 h5' D25
            refine hK _ _ ⟨(Ff.on D26).c0, (Ll.on D26).c0, (Ll.on D26).c1, (Lo.on D26).c0, (Lo.on D26).c1⟩ ?_
            clear hK K
            refine plist #[true, true, true, true, true, true, false, true, false, false, false] (by kernel_rfl) ?_
            refine pone 6 (by kernel_rfl) rfl fun K hK => ?_
            go_simp
            obtain ⟨t6, ht⟩ : ∃ b, Y26.heap.size = b := ⟨_, rfl⟩
            obtain ⟨Y27, hY⟩ : ∃ Z, Y26.alloc (.cells #[.slice none 0 0, .slice none 0 0] 35) = Z := ⟨_, rfl⟩
            rewrite [hY, ht]
            have hb : Below Y26.heap.size Y26 Y27 := by rw [← hY]; exact below_alloc _
            have A6 : RB t6 #[.slice none 0 0, .slice none 0 0] Y27 := by rw [← hY, ← ht]; exact RB.new _ _
            have HT6 : X7.heap.size ≤ t6 := by rw [← ht]; exact D26.size
            have NE16 : ∀ a, qw = some a → 0 < nw → a.block ≠ t6 := by rw [← ht]; exact refIn_ne R1
            have NE36 : (∀ a, qv = some a → 0 < nv → a.block ≠ t6) ∧ ∀ a, rv = some a → 0 < mv → a.block ≠ t6 := by rw [← ht]; exact R3.ne
            have NE56 : (∀ a, qu = some a → 0 < nu → a.block ≠ t6) ∧ ∀ a, ru = some a → 0 < mu → a.block ≠ t6 := by rw [← ht]; exact R5.ne
            have NT : t7 ≠ t6 := by have h1 := A7.lt; omega
            have D27 := D26.trans (hb.mono D26.size)
            replace R1 := R1.below hb
            replace R3 := R3.below hb
            replace R5 := R5.below hb
            replace A7 := A7.on hb
            clear hb hY ht D26
            refine hK _ _ ⟨(Ff.on D27).c0, (Ll.on D27).c0, (Ll.on D27).c1, (Lo.on D27).c0, (Lo.on D27).c1⟩ ?_
            clear hK K
            refine plist #[true, true, true, true, true, true, true, true, false, false, false] (by kernel_rfl) ?_
            refine pone 8 (by kernel_rfl) rfl fun K hK => ?_
            go_simp
            refine hK _ _ ⟨(Ff.on D27).c0, (Ll.on D27).c0, (Ll.on D27).c1, (Lo.on D27).c0, (Lo.on D27).c1⟩ ?_
            clear hK K
            refine plist #[true, true, true, true, true, true, true, true, true, false, false] (by kernel_rfl) ?_
            refine pone 9 (by kernel_rfl) rfl fun K hK => ?_
            have kf0 := A6.frozen 0
            have kf1 := A6.frozen 1
            have z0 := A6.box 0 _ rfl
            have zz1 := A6.box 1 _ rfl
            obtain ⟨Y29, hY, A6', hk, hB⟩ := A6.put (.slice qv nv cv) (.slice rv mv kv)
            go_simp
            (try rewrite [hY])
            replace R1 := RefIn.off R1 A6 NE16 (hk _ (by simp))
            replace R3 := R3.off A6 NE36 (hk _ (by simp))
            replace R5 := R5.off A6 NE56 (hk _ (by simp))
            replace A7 := A7.away (hk (fun b => b ≠ t6) (by simp)) (by omega)
            have D29 := D27.trans (hB _ HT6)
            clear hY hk hB kf0 kf1 z0 zz1 A6 NE16 NE36 NE56 D27
            have A6 := A6'
            clear A6'
            refine hK _ _ ⟨(Ff.on D29).c0, (Ll.on D29).c0, (Ll.on D29).c1, (Lo.on D29).c0, (Lo.on D29).c1⟩ ?_
            clear hK K
            refine plist #[true, true, true, true, true, true, true, true, true, true, false] (by kernel_rfl) ?_
            refine pone 10 (by kernel_rfl) rfl fun K hK => ?_
            have kf0 := A7.frozen 0
            have kf1 := A7.frozen 1
            have z0 := A7.box 0 _ rfl
            have zz1 := A7.box 1 _ rfl
            obtain ⟨Y30, hY, A7', hk, hB⟩ := A7.put (.slice qu nu cu) (.slice ru mu ku)
            go_simp
            (try rewrite [hY])
            replace R1 := RefIn.off R1 A7 NE17 (hk _ (by simp))
            replace R3 := R3.off A7 NE37 (hk _ (by simp))
            replace R5 := R5.off A7 NE57 (hk _ (by simp))
            replace A6 := A6.away (hk (fun b => b ≠ t7) (by simp)) (by omega)
            have D30 := D29.trans (hB _ HT7)
            clear hY hk hB kf0 kf1 z0 zz1 A7 NE17 NE37 NE57 D29
            have A7 := A7'
            clear A7'
            refine hK _ _ ⟨(Ff.on D30).c0, (Ll.on D30).c0, (Ll.on D30).c1, (Lo.on D30).c0, (Lo.on D30).c1⟩ ?_
            clear hK K
            refine plist #[true, true, true, true, true, true, true, true, true, true, true] (by kernel_rfl) ?_
            refine pdone (by kernel_rfl) ?_ _
            go_wp2_with fail
            go_meet
            exact ⟨⟨qw, nw, cw, rfl, R1, z1⟩, ⟨_, qv, nv, cv, rv, mv, kv, rfl, A6, R3⟩, ⟨_, qu, nu, cu, ru, mu, ku, rfl, A7, R5⟩, D30⟩
          · skip
            go_simp
            obtain ⟨t6, ht⟩ : ∃ b, Y25.heap.size = b := ⟨_, rfl⟩
            obtain ⟨Y31, hY⟩ : ∃ Z, Y25.alloc (.cells #[.slice none 0 0, .slice none 0 0] 35) = Z := ⟨_, rfl⟩
            rewrite [hY, ht]
            have hb : Below Y25.heap.size Y25 Y31 := by rw [← hY]; exact below_alloc _
            have A6 : RB t6 #[.slice none 0 0, .slice none 0 0] Y31 := by rw [← hY, ← ht]; exact RB.new _ _
            have HT6 : X7.heap.size ≤ t6 := by rw [← ht]; exact D25.size
            have NE16 : ∀ a, qw = some a → 0 < nw → a.block ≠ t6 := by rw [← ht]; exact refIn_ne R1
            have NE36 : (∀ a, qv = some a → 0 < nv → a.block ≠ t6) ∧ ∀ a, rv = some a → 0 < mv → a.block ≠ t6 := by rw [← ht]; exact R3.ne
            have NT : t7 ≠ t6 := by have h1 := A7.lt; omega
            have D31 := D25.trans (hb.mono D25.size)
            replace R1 := R1.below hb
            replace R3 := R3.below hb
            replace A7 := A7.on hb
            clear hb hY ht D25
            refine hK _ _ ⟨(Ff.on D31).c0, (Ll.on D31).c0, (Ll.on D31).c1, (Lo.on D31).c0, (Lo.on D31).c1⟩ ?_
            clear hK K
            refine plist #[true, true, true, true, true, false, true, true, false, false, false] (by kernel_rfl) ?_
            refine pone 5 (by kernel_rfl) rfl fun K hK => ?_
            have con := HRC.out Y31 _ o (Lo.on D31).2 fo
            go_simp
            refine con.mono ?_
            rintro e Y32 ⟨qu, nu, cu, ru, mu, ku, rfl, R5, h5, h5', hb⟩
            have NE57 : (∀ a, qu = some a → 0 < nu → a.block ≠ t7) ∧ ∀ a, ru = some a → 0 < mu → a.block ≠ t7 := ⟨fun a h _ => by have h1 := h5 a h; have h2 := A7.lt; omega, fun a h _ => by have h1 := h5' a h; have h2 := A7.lt; omega⟩
            have NE56 : (∀ a, qu = some a → 0 < nu → a.block ≠ t6) ∧ ∀ a, ru = some a → 0 < mu → a.block ≠ t6 := ⟨fun a h _ => by have h1 := h5 a h; have h2 := A6.lt; omega, fun a h _ => by have h1 := h5' a h; have h2 := A6.lt; omega⟩
            have D32 := D31.trans (hb.mono D31.size)
            replace R1 := R1.below hb
            replace R3 := R3.below hb
            replace A7 := A7.on hb
            replace A6 := A6.on hb
            clear con hb h5 h5' D31
            refine hK _ _ ⟨(Ff.on D32).c0, (Ll.on D32).c0, (Ll.on D32).c1, (Lo.on D32).c0, (Lo.on D32).c1⟩ ?_
            clear hK K
            refine plist #[true, true, true, true, true, true, true, true, false, false, false] (by kernel_rfl) ?_
            refine pone 8 (by kernel_rfl) rfl fun K hK => ?_
            go_simp
            refine hK _ _ ⟨(Ff.on D32).c0, (Ll.on D32).c0, (Ll.on D32).c1, (Lo.on D32).c0, (Lo.on D32).c1⟩ ?_
            clear hK K
            refine plist #[true, true, true, true, true, true, true, true, true, false, false] (by kernel_rfl) ?_
            refine pone 9 (by kernel_rfl) rfl fun K hK => ?_
            have kf0 := A6.frozen 0
            have kf1 := A6.frozen 1
            have z0 := A6.box 0 _ rfl
            have zz1 := A6.box 1 _ rfl
            obtain ⟨Y34, hY, A6', hk, hB⟩ := A6.put (.slice qv nv cv) (.slice rv mv kv)
            go_simp
            (try rewrite [hY])
            replace R1 := RefIn.off R1 A6 NE16 (hk _ (by simp))
            replace R3 := R3.off A6 NE36 (hk _ (by simp))
            replace R5 := R5.off A6 NE56 (hk _ (by simp))
            replace A7 := A7.away (hk (fun b => b ≠ t6) (by simp)) (by omega)
            have D34 := D32.trans (hB _ HT6)
            clear hY hk hB kf0 kf1 z0 zz1 A6 NE16 NE36 NE56 D32
            have A6 := A6'
            clear A6'
            refine hK _ _ ⟨(Ff.on D34).c0, (Ll.on D34).c0, (Ll.on D34).c1, (Lo.on D34).c0, (Lo.on D34).c1⟩ ?_
            clear hK K
            refine plist #[true, true, true, true, true, true, true, true, true, true, false] (by kernel_rfl) ?_
            refine pone 10 (by kernel_rfl) rfl fun K hK => ?_
            have kf0 := A7.frozen 0
            have kf1 := A7.frozen 1
            have z0 := A7.box 0 _ rfl
            have zz1 := A7.box 1 _ rfl
            obtain ⟨Y35, hY, A7', hk, hB⟩ := A7.put (.slice qu nu cu) (.slice ru mu ku)
            go_simp
            (try rewrite [hY])
            replace R1 := RefIn.off R1 A7 NE17 (hk _ (by simp))
            replace R3 := R3.off A7 NE37 (hk _ (by simp))
            replace R5 := R5.off A7 NE57 (hk _ (by simp))
            replace A6 := A6.away (hk (fun b => b ≠ t7) (by simp)) (by omega)
            have D35 := D34.trans (hB _ HT7)
            clear hY hk hB kf0 kf1 z0 zz1 A7 NE17 NE37 NE57 D34
            have A7 := A7'
            clear A7'
            refine hK _ _ ⟨(Ff.on D35).c0, (Ll.on D35).c0, (Ll.on D35).c1, (Lo.on D35).c0, (Lo.on D35).c1⟩ ?_
            clear hK K
            refine plist #[true, true, true, true, true, true, true, true, true, true, true] (by kernel_rfl) ?_
            refine pdone (by kernel_rfl) ?_ _
            go_wp2_with fail
            go_meet
            exact ⟨⟨qw, nw, cw, rfl, R1, z1⟩, ⟨_, qv, nv, cv, rv, mv, kv, rfl, A6, R3⟩, ⟨_, qu, nu, cu, ru, mu, ku, rfl, A7, R5⟩, D35⟩
      · skip
        go_simp
        obtain ⟨t6, ht⟩ : ∃ b, Y1.heap.size = b := ⟨_, rfl⟩
        obtain ⟨Y36, hY⟩ : ∃ Z, Y1.alloc (.cells #[.slice none 0 0, .slice none 0 0] 35) = Z := ⟨_, rfl⟩
        rewrite [hY, ht]
        have hb : Below Y1.heap.size Y1 Y36 := by rw [← hY]; exact below_alloc _
        have A6 : RB t6 #[.slice none 0 0, .slice none 0 0] Y36 := by rw [← hY, ← ht]; exact RB.new _ _
        have HT6 : X7.heap.size ≤ t6 := by rw [← ht]; exact D1.size
        have NE16 : ∀ a, qw = some a → 0 < nw → a.block ≠ t6 := by rw [← ht]; exact refIn_ne R1
        have D36 := D1.trans (hb.mono D1.size)
        replace R1 := R1.below hb
        clear hb hY ht D1
        refine hK _ _ ⟨(Ff.on D36).c0, (Ll.on D36).c0, (Ll.on D36).c1, (Lo.on D36).c0, (Lo.on D36).c1⟩ ?_
        clear hK K
        refine plist #[true, true, true, false, true, false, true, false, false, false, false] (by kernel_rfl) ?_
        refine ptwoQ 3 7 (by kernel_rfl) rfl rfl (fun K hK => ?_) (fun K hK => ?_)
        · skip
          have con := HRC.out Y36 _ l (Ll.on D36).2 fl
          go_simp
          refine con.mono ?_
          rintro e Y37 ⟨qv, nv, cv, rv, mv, kv, rfl, R3, h3, h3', hb⟩
          have NE36 : (∀ a, qv = some a → 0 < nv → a.block ≠ t6) ∧ ∀ a, rv = some a → 0 < mv → a.block ≠ t6 := ⟨fun a h _ => by have h1 := h3 a h; have h2 := A6.lt; omega, fun a h _ => by have h1 := h3' a h; have h2 := A6.lt; omega⟩
          have D37 := D36.trans (hb.mono D36.size)
          replace R1 := R1.below hb
          replace A6 := A6.on hb
          clear con hb h3 h3' D36
          refine hK _ _ ⟨(Ff.on D37).c0, (Ll.on D37).c0, (Ll.on D37).c1, (Lo.on D37).c0, (Lo.on D37).c1⟩ ?_
          clear hK K
          refine plist #[true, true, true, true, true, false, true, false, false, false, false] (by kernel_rfl) ?_
          refine ptwoQ 5 7 (by kernel_rfl) rfl rfl (fun K hK => ?_) (fun K hK => ?_)
          · skip
            have con := HRC.out Y37 _ o (Lo.on D37).2 fo
            go_simp
            refine con.mono ?_
            rintro e Y38 ⟨qu, nu, cu, ru, mu, ku, rfl, R5, h5, h5', hb⟩
            have NE56 : (∀ a, qu = some a → 0 < nu → a.block ≠ t6) ∧ ∀ a, ru = some a → 0 < mu → a.block ≠ t6 := ⟨fun a h _ => by have h1 := h5 a h; have h2 := A6.lt; omega, fun a h _ => by have h1 := h5' a h; have h2 := A6.lt; omega⟩
            have D38 := D37.trans (hb.mono D37.size)
            replace R1 := R1.below hb
            replace R3 := R3.below hb
            replace A6 := A6.on hb
            clear con hb h5 h5' D37
            refine hK _ _ ⟨(Ff.on D38).c0, (Ll.on D38).c0, (Ll.on D38).c1, (Lo.on D38).c0, (Lo.on D38).c1⟩ ?_
            clear hK K
            refine plist #[true, true, true, true, true, true, true, false, false, false, false] (by kernel_rfl) ?_
            refine pone 7 (by kernel_rfl) rfl fun K hK => ?_
            go_simp
            obtain ⟨t7, ht⟩ : ∃ b, Y38.heap.size = b := ⟨_, rfl⟩
            obtain ⟨Y39, hY⟩ : ∃ Z, Y38.alloc (.cells #[.slice none 0 0, .slice none 0 0] 35) = Z := ⟨_, rfl⟩
            rewrite [hY, ht]
            have hb : Below Y38.heap.size Y38 Y39 := by rw [← hY]; exact below_alloc _
            have A7 : RB t7 #[.slice none 0 0, .slice none 0 0] Y39 := by rw [← hY, ← ht]; exact RB.new _ _
            have HT7 : X7.heap.size ≤ t7 := by rw [← ht]; exact D38.size
            have NE17 : ∀ a, qw = some a → 0 < nw → a.block ≠ t7 := by rw [← ht]; exact refIn_ne R1
            have NE37 : (∀ a, qv = some a → 0 < nv → a.block ≠ t7) ∧ ∀ a, rv = some a → 0 < mv → a.block ≠ t7 := by rw [← ht]; exact R3.ne
            have NE57 : (∀ a, qu = some a → 0 < nu → a.block ≠ t7) ∧ ∀ a, ru = some a → 0 < mu → a.block ≠ t7 := by rw [← ht]; exact R5.ne
            have NT : t6 ≠ t7 := by have h1 := A6.lt; omega
            have D39 := D38.trans (hb.mono D38.size)
            replace R1 := R1.below hb
            replace R3 := R3.below hb
            replace R5 := R5.below hb
            replace A6 := A6.on hb
            clear hb hY ht D38
            refine hK _ _ ⟨(Ff.on D39).c0, (Ll.on D39).c0, (Ll.on D39).c1, (Lo.on D39).c0, (Lo.on D39).c1⟩ ?_
            clear hK K
            refine plist #[true, true, true, true, true, true, true, true, false, false, false] (by kernel_rfl) ?_
            refine pone 8 (by kernel_rfl) rfl fun K hK => ?_
            go_simp
            refine hK _ _ ⟨(Ff.on D39).c0, (Ll.on D39).c0, (Ll.on D39).c1, (Lo.on D39).c0, (Lo.on D39).c1⟩ ?_
            clear hK K
            refine plist #[true, true, true, true, true, true, true, true, true, false, false] (by kernel_rfl) ?_
            refine pone 9 (by kernel_rfl) rfl fun K hK => ?_
            have kf0 := A6.frozen 0
            have kf1 := A6.frozen 1
            have z0 := A6.box 0 _ rfl
            have zz1 := A6.box 1 _ rfl
            obtain ⟨Y41, hY, A6', hk, hB⟩ := A6.put (.slice qv nv cv) (.slice rv mv kv)
            go_simp
            (try rewrite [hY])
            replace R1 := RefIn.off R1 A6 NE16 (hk _ (by simp))
            replace R3 := R3.off A6 NE36 (hk _ (by simp))
            replace R5 := R5.off A6 NE56 (hk _ (by simp))
            replace A7 := A7.away (hk (fun b => b ≠ t6) (by simp)) (by omega)
            have D41 := D39.trans (hB _ HT6)
            clear hY hk hB kf0 kf1 z0 zz1 A6 NE16 NE36 NE56 D39
            have A6 := A6'
            clear A6'
            refine hK _ _ ⟨(Ff.on D41).c0, (Ll.on D41).c0, (Ll.on D41).c1, (Lo.on D41).c0, (Lo.on D41).c1⟩ ?_
            clear hK K
            refine plist #[true, true, true, true, true, true, true, true, true, true, false] (by kernel_rfl) ?_
            refine pone 10 (by kernel_rfl) rfl fun K hK => ?_
            have kf0 := A7.frozen 0
            have kf1 := A7.frozen 1
            have z0 := A7.box 0 _ rfl
            have zz1 := A7.box 1 _ rfl
            obtain ⟨Y42, hY, A7', hk, hB⟩ := A7.put (.slice qu nu cu) (.slice ru mu ku)
            go_simp
            (try rewrite [hY])
            replace R1 := RefIn.off R1 A7 NE17 (hk _ (by simp))
            replace R3 := R3.off A7 NE37 (hk _ (by simp))
            replace R5 := R5.off A7 NE57 (hk _ (by simp))
            replace A6 := A6.away (hk (fun b => b ≠ t7) (by simp)) (by omega)
            have D42 := D41.trans (hB _ HT7)
            clear hY hk hB kf0 kf1 z0 zz1 A7 NE17 NE37 NE57 D41
            have A7 := A7'
            clear A7'
            refine hK _ _ ⟨(Ff.on D42).c0, (Ll.on D42).c0, (Ll.on D42).c1, (Lo.on D42).c0, (Lo.on D42).c1⟩ ?_
            clear hK K
            refine plist #[true, true, true, true, true, true, true, true, true, true, true] (by kernel_rfl) ?_
            refine pdone (by kernel_rfl) ?_ _
            go_wp2_with fail
            go_meet
            exact ⟨⟨qw, nw, cw, rfl, R1, z1⟩, ⟨_, qv, nv, cv, rv, mv, kv, rfl, A6, R3⟩, ⟨_, qu, nu, cu, ru, mu, ku, rfl, A7, R5⟩, D42⟩
          · skip
            go_simp
            obtain ⟨t7, ht⟩ : ∃ b, Y37.heap.size = b := ⟨_, rfl⟩
            obtain ⟨Y43, hY⟩ : ∃ Z, Y37.alloc (.cells #[.slice none 0 0, .slice none 0 0] 35) = Z := ⟨_, rfl⟩
            rewrite [hY, ht]
            have hb : Below Y37.heap.size Y37 Y43 := by rw [← hY]; exact below_alloc _
            have A7 : RB t7 #[.slice none 0 0, .slice none 0 0] Y43 := by rw [← hY, ← ht]; exact RB.new _ _
            have HT7 : X7.heap.size ≤ t7 := by rw [← ht]; exact D37.size
            have NE17 : ∀ a, qw = some a → 0 < nw → a.block ≠ t7 := by rw [← ht]; exact refIn_ne R1
            have NE37 : (∀ a, qv = some a → 0 < nv → a.block ≠ t7) ∧ ∀ a, rv = some a → 0 < mv → a.block ≠ t7 := by rw [← ht]; exact R3.ne
            have NT : t6 ≠ t7 := by have h1 := A6.lt; omega
            have D43 := D37.trans (hb.mono D37.size)
            replace R1 := R1.below hb
            replace R3 := R3.below hb
            replace A6 := A6.on hb
            clear hb hY ht D37
            refine hK _ _ ⟨(Ff.on D43).c0, (Ll.on D43).c0, (Ll.on D43).c1, (Lo.on D43).c0, (Lo.on D43).c1⟩ ?_
            clear hK K
            refine plist #[true, true, true, true, true, false, true, true, false, false, false] (by kernel_rfl) ?_
            refine pone 5 (by kernel_rfl) rfl fun K hK => ?_
            have con := HRC.out Y43 _ o (Lo.on D43).2 fo
            go_simp
            refine con.mono ?_
            rintro e Y44 ⟨qu, nu, cu, ru, mu, ku, rfl, R5, h5, h5', hb⟩
            have NE56 : (∀ a, qu = some a → 0 < nu → a.block ≠ t6) ∧ ∀ a, ru = some a → 0 < mu → a.block ≠ t6 := ⟨fun a h _ => by have h1 := h5 a h; have h2 := A6.lt; omega, fun a h _ => by have h1 := h5' a h; have h2 := A6.lt; omega⟩
            have NE57 : (∀ a, qu = some a → 0 < nu → a.block ≠ t7) ∧ ∀ a, ru = some a → 0 < mu → a.block ≠ t7 := ⟨fun a h _ => by have h1 := h5 a h; have h2 := A7.lt; omega, fun a h _ => by have h1 := h5' a h; have h2 := A7.lt; omega⟩
            have D44 := D43.trans (hb.mono D43.size)
            replace R1 := R1.below hb
            replace R3 := R3.below hb
            replace A6 := A6.on hb
            replace A7 := A7.on hb
            clear con hb h5 h5' D43
            refine hK _ _ ⟨(Ff.on D44).c0, (Ll.on D44).c0, (Ll.on D44).c1, (Lo.on D44).c0, (Lo.on D44).c1⟩ ?_
            clear hK K
            refine plist #[true, true, true, true, true, true, true, true, false, false, false] (by kernel_rfl) ?_
            refine pone 8 (by kernel_rfl) rfl fun K hK => ?_
            go_simp
            refine hK _ _ ⟨(Ff.on D44).c0, (Ll.on D44).c0, (Ll.on D44).c1, (Lo.on D44).c0, (Lo.on D44).c1⟩ ?_
            clear hK K
            refine plist #[true, true, true, true, true, true, true, true, true, false, false] (by kernel_rfl) ?_
            refine pone 9 (by kernel_rfl) rfl fun K hK => ?_
            have kf0 := A6.frozen 0
            have kf1 := A6.frozen 1
            have z0 := A6.box 0 _ rfl
            have zz1 := A6.box 1 _ rfl
            obtain ⟨Y46, hY, A6', hk, hB⟩ := A6.put (.slice qv nv cv) (.slice rv mv kv)
            go_simp
            (try rewrite [hY])
            replace R1 := RefIn.off R1 A6 NE16 (hk _ (by simp))
            replace R3 := R3.off A6 NE36 (hk _ (by simp))
            replace R5 := R5.off A6 NE56 (hk _ (by simp))
            replace A7 := A7.away (hk (fun b => b ≠ t6) (by simp)) (by omega)
            have D46 := D44.trans (hB _ HT6)
            clear hY hk hB kf0 kf1 z0 zz1 A6 NE16 NE36 NE56 D44
            have A6 := A6'
            clear A6'
            refine hK _ _ ⟨(Ff.on D46).c0, (Ll.on D46).c0, (Ll.on D46).c1, (Lo.on D46).c0, (Lo.on D46).c1⟩ ?_
            clear hK K
            refine plist #[true, true, true, true, true, true, true, true, true, true, false] (by kernel_rfl) ?_
            refine pone 10 (by kernel_rfl) rfl fun K hK => ?_
            have kf0 := A7.frozen 0
            have kf1 := A7.frozen 1
            have z0 := A7.box 0 _ rfl
            have zz1 := A7.box 1 _ rfl
            obtain ⟨Y47, hY, A7', hk, hB⟩ := A7.put (.slice qu nu cu) (.slice ru mu ku)
            go_simp
            (try rewrite [hY])
            replace R1 := RefIn.off R1 A7 NE17 (hk _ (by simp))
            replace R3 := R3.off A7 NE37 (hk _ (by simp))
            replace R5 := R5.off A7 NE57 (hk _ (by simp))
            replace A6 := A6.away (hk (fun b => b ≠ t7) (by simp)) (by omega)
            have D47 := D46.trans (hB _ HT7)
            clear hY hk hB kf0 kf1 z0 zz1 A7 NE17 NE37 NE57 D46
            have A7 := A7'
            clear A7'
            refine hK _ _ ⟨(Ff.on D47).c0, (Ll.on D47).c0, (Ll.on D47).c1, (Lo.on D47).c0, (Lo.on D47).c1⟩ ?_
            clear hK K
            refine plist #[true, true, true, true, true, true, true, true, true, true, true] (by kernel_rfl) ?_
            refine pdone (by kernel_rfl) ?_ _
            go_wp2_with fail
            go_meet
            exact ⟨⟨qw, nw, cw, rfl, R1, z1⟩, ⟨_, qv, nv, cv, rv, mv, kv, rfl, A6, R3⟩, ⟨_, qu, nu, cu, ru, mu, ku, rfl, A7, R5⟩, D47⟩
        · skip
          go_simp
          obtain ⟨t7, ht⟩ : ∃ b, Y36.heap.size = b := ⟨_, rfl⟩
          obtain ⟨Y48, hY⟩ : ∃ Z, Y36.alloc (.cells #[.slice none 0 0, .slice none 0 0] 35) = Z := ⟨_, rfl⟩
          rewrite [hY, ht]
          have hb : Below Y36.heap.size Y36 Y48 := by rw [← hY]; exact below_alloc _
          have A7 : RB t7 #[.slice none 0 0, .slice none 0 0] Y48 := by rw [← hY, ← ht]; exact RB.new _ _
          have HT7 : X7.heap.size ≤ t7 := by rw [← ht]; exact D36.size
          have NE17 : ∀ a, qw = some a → 0 < nw → a.block ≠ t7 := by rw [← ht]; exact refIn_ne R1
          have NT : t6 ≠ t7 := by have h1 := A6.lt; omega
          have D48 := D36.trans (hb.mono D36.size)
          replace R1 := R1.below hb
          replace A6 := A6.on hb
          clear hb hY ht D36
          refine hK _ _ ⟨(Ff.on D48).c0, (Ll.on D48).c0, (Ll.on D48).c1, (Lo.on D48).c0, (Lo.on D48).c1⟩ ?_
          clear hK K
          refine plist #[true, true, true, false, true, false, true, true, false, false, false] (by kernel_rfl) ?_
          refine pone 3 (by kernel_rfl) rfl fun K hK => ?_
          have con := HRC.out Y48 _ l (Ll.on D48).2 fl
          go_simp
          refine con.mono ?_
          rintro e Y49 ⟨qv, nv, cv, rv, mv, kv, rfl, R3, h3, h3', hb⟩
          have NE36 : (∀ a, qv = some a → 0 < nv → a.block ≠ t6) ∧ ∀ a, rv = some a → 0 < mv → a.block ≠ t6 := ⟨fun a h _ => by have h1 := h3 a h; have h2 := A6.lt; omega, fun a h _ => by have h1 := h3' a h; have h2 := A6.lt; omega⟩
          have NE37 : (∀ a, qv = some a → 0 < nv → a.block ≠ t7) ∧ ∀ a, rv = some a → 0 < mv → a.block ≠ t7 := ⟨fun a h _ => by have h1 := h3 a h; have h2 := A7.lt; omega, fun a h _ => by have h1 := h3' a h; have h2 := A7.lt; omega⟩
          have D49 := D48.trans (hb.mono D48.size)
          replace R1 := R1.below hb
          replace A6 := A6.on hb
          replace A7 := A7.on hb
          clear con hb h3 h3' D48
          refine hK _ _ ⟨(Ff.on D49).c0, (Ll.on D49).c0, (Ll.on D49).c1, (Lo.on D49).c0, (Lo.on D49).c1⟩ ?_
          clear hK K
          refine plist #[true, true, true, true, true, false, true, true, false, false, false] (by kernel_rfl) ?_
          refine pone 5 (by kernel_rfl) rfl fun K hK => ?_
          have con := HRC.out Y49 _ o (Lo.on D49).2 fo
          go_simp
          refine con.mono ?_
          rintro e Y50 ⟨qu, nu, cu, ru, mu, ku, rfl, R5, h5, h5', hb⟩
          have NE56 : (∀ a, qu = some a → 0 < nu → a.block ≠ t6) ∧ ∀ a, ru = some a → 0 < mu → a.block ≠ t6 := ⟨fun a h _ => by have h1 := h5 a h; have h2 := A6.lt; omega, fun a h _ => by have h1 := h5' a h; have h2 := A6.lt; omega⟩
          have NE57 : (∀ a, qu = some a → 0 < nu → a.block ≠ t7) ∧ ∀ a, ru = some a → 0 < mu → a.block ≠ t7 := ⟨fun a h _ => by have h1 := h5 a h; have h2 := A7.lt; omega, fun a h _ => by have h1 := h5' a h; have h2 := A7.lt; omega⟩
          have D50 := D49.trans (hb.mono D49.size)
          replace R1 := R1.below hb
          replace R3 := R3.below hb
          replace A6 := A6.on hb
          replace A7 := A7.on hb
          clear con hb h5 h5' D49
          refine hK _ _ ⟨(Ff.on D50).c0, (Ll.on D50).c0, (Ll.on D50).c1, (Lo.on D50).c0, (Lo.on D50).c1⟩ ?_
          clear hK K
          refine plist #[true, true, true, true, true, true, true, true, false, false, false] (by kernel_rfl) ?_
          refine pone 8 (by kernel_rfl) rfl fun K hK => ?_
          go_simp
          refine hK _ _ ⟨(Ff.on D50).c0, (Ll.on D50).c0, (Ll.on D50).c1, (Lo.on D50).c0, (Lo.on D50).c1⟩ ?_
          clear hK K
          refine plist #[true, true, true, true, true, true, true, true, true, false, false] (by kernel_rfl) ?_
          refine pone 9 (by kernel_rfl) rfl fun K hK => ?_
          have kf0 := A6.frozen 0
          have kf1 := A6.frozen 1
          have z0 := A6.box 0 _ rfl
          have zz1 := A6.box 1 _ rfl
          obtain ⟨Y52, hY, A6', hk, hB⟩ := A6.put (.slice qv nv cv) (.slice rv mv kv)
          go_simp
          (try rewrite [hY])
          replace R1 := RefIn.off R1 A6 NE16 (hk _ (by simp))
          replace R3 := R3.off A6 NE36 (hk _ (by simp))
          replace R5 := R5.off A6 NE56 (hk _ (by simp))
          replace A7 := A7.away (hk (fun b => b ≠ t6) (by simp)) (by omega)
          have D52 := D50.trans (hB _ HT6)
          clear hY hk hB kf0 kf1 z0 zz1 A6 NE16 NE36 NE56 D50
          have A6 := A6'
          clear A6'
          refine hK _ _ ⟨(Ff.on D52).c0, (Ll.on D52).c0, (Ll.on D52).c1, (Lo.on D52).c0, (Lo.on D52).c1⟩ ?_
          clear hK K
          refine plist #[true, true, true, true, true, true, true, true, true, true, false] (by kernel_rfl) ?_
          refine pone 10 (by kernel_rfl) rfl fun K hK => ?_
          have kf0 := A7.frozen 0
          have kf1 := A7.frozen 1
          have z0 := A7.box 0 _ rfl
          have zz1 := A7.box 1 _ rfl
          obtain ⟨Y53, hY, A7', hk, hB⟩ := A7.put (.slice qu nu cu) (.slice ru mu ku)
          go_simp
          (try rewrite [hY])
          replace R1 := RefIn.off R1 A7 NE17 (hk _ (by simp))
          replace R3 := R3.off A7 NE37 (hk _ (by simp))
          replace R5 := R5.off A7 NE57 (hk _ (by simp))
          replace A6 := A6.away (hk (fun b => b ≠ t7) (by simp)) (by omega)
          have D53 := D52.trans (hB _ HT7)
          clear hY hk hB kf0 kf1 z0 zz1 A7 NE17 NE37 NE57 D52
          have A7 := A7'
          clear A7'
          refine hK _ _ ⟨(Ff.on D53).c0, (Ll.on D53).c0, (Ll.on D53).c1, (Lo.on D53).c0, (Lo.on D53).c1⟩ ?_
          clear hK K
          refine plist #[true, true, true, true, true, true, true, true, true, true, true] (by kernel_rfl) ?_
          refine pdone (by kernel_rfl) ?_ _
          go_wp2_with fail
          go_meet
          exact ⟨⟨qw, nw, cw, rfl, R1, z1⟩, ⟨_, qv, nv, cv, rv, mv, kv, rfl, A6, R3⟩, ⟨_, qu, nu, cu, ru, mu, ku, rfl, A7, R5⟩, D53⟩
      · skip
        go_simp
        obtain ⟨t7, ht⟩ : ∃ b, Y1.heap.size = b := ⟨_, rfl⟩
        obtain ⟨Y54, hY⟩ : ∃ Z, Y1.alloc (.cells #[.slice none 0 0, .slice none 0 0] 35) = Z := ⟨_, rfl⟩
        rewrite [hY, ht]
        have hb : Below Y1.heap.size Y1 Y54 := by rw [← hY]; exact below_alloc _
        have A7 : RB t7 #[.slice none 0 0, .slice none 0 0] Y54 := by rw [← hY, ← ht]; exact RB.new _ _
        have HT7 : X7.heap.size ≤ t7 := by rw [← ht]; exact D1.size
        have NE17 : ∀ a, qw = some a → 0 < nw → a.block ≠ t7 := by rw [← ht]; exact refIn_ne R1
        have D54 := D1.trans (hb.mono D1.size)
        replace R1 := R1.below hb
        clear hb hY ht D1
        refine hK _ _ ⟨(Ff.on D54).c0, (Ll.on D54).c0, (Ll.on D54).c1, (Lo.on D54).c0, (Lo.on D54).c1⟩ ?_
        clear hK K
        refine plist #[true, true, true, false, true, false, false, true, false, false, false] (by kernel_rfl) ?_
        refine ptwoQ 3 6 (by kernel_rfl) rfl rfl (fun K hK => ?_) (fun K hK => ?_)
        · skip
          have con := HRC.out Y54 _ l (Ll.on D54).2 fl
          go_simp
          refine con.mono ?_
          rintro e Y55 ⟨qv, nv, cv, rv, mv, kv, rfl, R3, h3, h3', hb⟩
          have NE37 : (∀ a, qv = some a → 0 < nv → a.block ≠ t7) ∧ ∀ a, rv = some a → 0 < mv → a.block ≠ t7 := ⟨fun a h _ => by have h1 := h3 a h; have h2 := A7.lt; omega, fun a h _ => by have h1 := h3' a h; have h2 := A7.lt; omega⟩
          have D55 := D54.trans (hb.mono D54.size)
          replace R1 := R1.below hb
          replace A7 := A7.on hb
          clear con hb h3 h3' D54
          refine hK _ _ ⟨(Ff.on D55).c0, (Ll.on D55).c0, (Ll.on D55).c1, (Lo.on D55).c0, (Lo.on D55).c1⟩ ?_
          clear hK K
          refine plist #[true, true, true, true, true, false, false, true, false, false, false] (by kernel_rfl) ?_
          refine ptwoQ 5 6 (by kernel_rfl) rfl rfl (fun K hK => ?_) (fun K hK => ?_)
          · skip
            have con := HRC.out Y55 _ o (Lo.on D55).2 fo
            go_simp
            refine con.mono ?_
            rintro e Y56 ⟨qu, nu, cu, ru, mu, ku, rfl, R5, h5, h5', hb⟩
            have NE57 : (∀ a, qu = some a → 0 < nu → a.block ≠ t7) ∧ ∀ a, ru = some a → 0 < mu → a.block ≠ t7 := ⟨fun a h _ => by have h1 := h5 a h; have h2 := A7.lt; omega, fun a h _ => by have h1 := h5' a h; have h2 := A7.lt; omega⟩
            have D56 := D55.trans (hb.mono D55.size)
            replace R1 := R1.below hb
            replace R3 := R3.below hb
            replace A7 := A7.on hb
            clear con hb h5 h5' D55
            refine hK _ _ ⟨(Ff.on D56).c0, (Ll.on D56).c0, (Ll.on D56).c1, (Lo.on D56).c0, (Lo.on D56).c1⟩ ?_
            clear hK K
            refine plist #[true, true, true, true, true, true, false, true, false, false, false] (by kernel_rfl) ?_
            refine pone 6 (by kernel_rfl) rfl fun K hK => ?_
            go_simp
            obtain ⟨t6, ht⟩ : ∃ b, Y56.heap.size = b := ⟨_, rfl⟩
            obtain ⟨Y57, hY⟩ : ∃ Z, Y56.alloc (.cells #[.slice none 0 0, .slice none 0 0] 35) = Z := ⟨_, rfl⟩
            rewrite [hY, ht]
            have hb : Below Y56.heap.size Y56 Y57 := by rw [← hY]; exact below_alloc _
            have A6 : RB t6 #[.slice none 0 0, .slice none 0 0] Y57 := by rw [← hY, ← ht]; exact RB.new _ _
            have HT6 : X7.heap.size ≤ t6 := by rw [← ht]; exact D56.size
            have NE16 : ∀ a, qw = some a → 0 < nw → a.block ≠ t6 := by rw [← ht]; exact refIn_ne R1
            have NE36 : (∀ a, qv = some a → 0 < nv → a.block ≠ t6) ∧ ∀ a, rv = some a → 0 < mv → a.block ≠ t6 := by rw [← ht]; exact R3.ne
            have NE56 : (∀ a, qu = some a → 0 < nu → a.block ≠ t6) ∧ ∀ a, ru = some a → 0 < mu → a.block ≠ t6 := by rw [← ht]; exact R5.ne
            have NT : t7 ≠ t6 := by have h1 := A7.lt; omega
            have D57 := D56.trans (hb.mono D56.size)
            replace R1 := R1.below hb
            replace R3 := R3.below hb
            replace R5 := R5.below hb
            replace A7 := A7.on hb
            clear hb hY ht D56
            refine hK _ _ ⟨(Ff.on D57).c0, (Ll.on D57).c0, (Ll.on D57).c1, (Lo.on D57).c0, (Lo.on D57).c1⟩ ?_
            clear hK K
            refine plist #[true, true, true, true, true, true, true, true, false, false, false] (by kernel_rfl) ?_
            refine pone 8 (by kernel_rfl) rfl fun K hK => ?_
            go_simp
            refine hK _ _ ⟨(Ff.on D57).c0, (Ll.on D57).c0, (Ll.on D57).c1, (Lo.on D57).c0, (Lo.on D57).c1⟩ ?_
            clear hK K
            refine plist #[true, true, true, true, true, true, true, true, true, false, false] (by kernel_rfl) ?_
            refine pone 9 (by kernel_rfl) rfl fun K hK => ?_
            have kf0 := A6.frozen 0
            have kf1 := A6.frozen 1
            have z0 := A6.box 0 _ rfl
            have zz1 := A6.box 1 _ rfl
            obtain ⟨Y59, hY, A6', hk, hB⟩ := A6.put (.slice qv nv cv) (.slice rv mv kv)
            go_simp
            (try rewrite [hY])
            replace R1 := RefIn.off R1 A6 NE16 (hk _ (by simp))
            replace R3 := R3.off A6 NE36 (hk _ (by simp))
            replace R5 := R5.off A6 NE56 (hk _ (by simp))
            replace A7 := A7.away (hk (fun b => b ≠ t6) (by simp)) (by omega)
            have D59 := D57.trans (hB _ HT6)
            clear hY hk hB kf0 kf1 z0 zz1 A6 NE16 NE36 NE56 D57
            have A6 := A6'
            clear A6'
            refine hK _ _ ⟨(Ff.on D59).c0, (Ll.on D59).c0, (Ll.on D59).c1, (Lo.on D59).c0, (Lo.on D59).c1⟩ ?_
            clear hK K
            refine plist #[true, true, true, true, true, true, true, true, true, true, false] (by kernel_rfl) ?_
            refine pone 10 (by kernel_rfl) rfl fun K hK => ?_
            have kf0 := A7.frozen 0
            have kf1 := A7.frozen 1
            have z0 := A7.box 0 _ rfl
            have zz1 := A7.box 1 _ rfl
            obtain ⟨Y60, hY, A7', hk, hB⟩ := A7.put (.slice qu nu cu) (.slice ru mu ku)
            go_simp
            (try rewrite [hY])
            replace R1 := RefIn.off R1 A7 NE17 (hk _ (by simp))
            replace R3 := R3.off A7 NE37 (hk _ (by simp))
            replace R5 := R5.off A7 NE57 (hk _ (by simp))
            replace A6 := A6.away (hk (fun b => b ≠ t7) (by simp)) (by omega)
            have D60 := D59.trans (hB _ HT7)
            clear hY hk hB kf0 kf1 z0 zz1 A7 NE17 NE37 NE57 D59
            have A7 := A7'
            clear A7'
            refine hK _ _ ⟨(Ff.on D60).c0, (Ll.on D60).c0, (Ll.on D60).c1, (Lo.on D60).c0, (Lo.on D60).c1⟩ ?_
            clear hK K
            refine plist #[true, true, true, true, true, true, true, true, true, true, true] (by kernel_rfl) ?_
            refine pdone (by kernel_rfl) ?_ _
            go_wp2_with fail
            go_meet
            exact ⟨⟨qw, nw, cw, rfl, R1, z1⟩, ⟨_, qv, nv, cv, rv, mv, kv, rfl, A6, R3⟩, ⟨_, qu, nu, cu, ru, mu, ku, rfl, A7, R5⟩, D60⟩
          · skip
            go_simp
            obtain ⟨t6, ht⟩ : ∃ b, Y55.heap.size = b := ⟨_, rfl⟩
            obtain ⟨Y61, hY⟩ : ∃ Z, Y55.alloc (.cells #[.slice none 0 0, .slice none 0 0] 35) = Z := ⟨_, rfl⟩
            rewrite [hY, ht]
            have hb : Below Y55.heap.size Y55 Y61 := by rw [← hY]; exact below_alloc _
            have A6 : RB t6 #[.slice none 0 0, .slice none 0 0] Y61 := by rw [← hY, ← ht]; exact RB.new _ _
            have HT6 : X7.heap.size ≤ t6 := by rw [← ht]; exact D55.size
            have NE16 : ∀ a, qw = some a → 0 < nw → a.block ≠ t6 := by rw [← ht]; exact refIn_ne R1
            have NE36 : (∀ a, qv = some a → 0 < nv → a.block ≠ t6) ∧ ∀ a, rv = some a → 0 < mv → a.block ≠ t6 := by rw [← ht]; exact R3.ne
            have NT : t7 ≠ t6 := by have h1 := A7.lt; omega
            have D61 := D55.trans (hb.mono D55.size)
            replace R1 := R1.below hb
            replace R3 := R3.below hb
            replace A7 := A7.on hb
            clear hb hY ht D55
            refine hK _ _ ⟨(Ff.on D61).c0, (Ll.on D61).c0, (Ll.on D61).c1, (Lo.on D61).c0, (Lo.on D61).c1⟩ ?_
            clear hK K
            refine plist #[true, true, true, true, true, false, true, true, false, false, false] (by kernel_rfl) ?_
            refine pone 5 (by kernel_rfl) rfl fun K hK => ?_
            have con := HRC.out Y61 _ o (Lo.on D61).2 fo
            go_simp
            refine con.mono ?_
            rintro e Y62 ⟨qu, nu, cu, ru, mu, ku, rfl, R5, h5, h5', hb⟩
            have NE57 : (∀ a, qu = some a → 0 < nu → a.block ≠ t7) ∧ ∀ a, ru = some a → 0 < mu → a.block ≠ t7 := ⟨fun a h _ => by have h1 := h5 a h; have h2 := A7.lt; omega, fun a h _ => by have h1 := h5' a h; have h2 := A7.lt; omega⟩
            have NE56 : (∀ a, qu = some a → 0 < nu → a.block ≠ t6) ∧ ∀ a, ru = some a → 0 < mu → a.block ≠ t6 := ⟨fun a h _ => by have h1 := h5 a h; have h2 := A6.lt; omega, fun a h _ => by have h1 := h5' a h; have h2 := A6.lt; omega⟩
            have D62 := D61.trans (hb.mono D61.size)
            replace R1 := R1.below hb
            replace R3 := R3.below hb
            replace A7 := A7.on hb
            replace A6 := A6.on hb
            clear con hb h5 h5' D61
            refine hK _ _ ⟨(Ff.on D62).c0, (Ll.on D62).c0, (Ll.on D62).c1, (Lo.on D62).c0, (Lo.on D62).c1⟩ ?_
            clear hK K
            refine plist #[true, true, true, true, true, true, true, true, false, false, false] (by kernel_rfl) ?_
            refine pone 8 (by kernel_rfl) rfl fun K hK => ?_
            go_simp
            refine hK _ _ ⟨(Ff.on D62).c0, (Ll.on D62).c0, (Ll.on D62).c1, (Lo.on D62).c0, (Lo.on D62).c1⟩ ?_
            clear hK K
            refine plist #[true, true, true, true, true, true, true, true, true, false, false] (by kernel_rfl) ?_
            refine pone 9 (by kernel_rfl) rfl fun K hK => ?_
            have kf0 := A6.frozen 0
            have kf1 := A6.frozen 1
            have z0 := A6.box 0 _ rfl
            have zz1 := A6.box 1 _ rfl
            obtain ⟨Y64, hY, A6', hk, hB⟩ := A6.put (.slice qv nv cv) (.slice rv mv kv)
            go_simp
            (try rewrite [hY])
            replace R1 := RefIn.off R1 A6 NE16 (hk _ (by simp))
            replace R3 := R3.off A6 NE36 (hk _ (by simp))
            replace R5 := R5.off A6 NE56 (hk _ (by simp))
            replace A7 := A7.away (hk (fun b => b ≠ t6) (by simp)) (by omega)
            have D64 := D62.trans (hB _ HT6)
            clear hY hk hB kf0 kf1 z0 zz1 A6 NE16 NE36 NE56 D62
            have A6 := A6'
            clear A6'
            refine hK _ _ ⟨(Ff.on D64).c0, (Ll.on D64).c0, (Ll.on D64).c1, (Lo.on D64).c0, (Lo.on D64).c1⟩ ?_
            clear hK K
            refine plist #[true, true, true, true, true, true, true, true, true, true, false] (by kernel_rfl) ?_
            refine pone 10 (by kernel_rfl) rfl fun K hK => ?_
            have kf0 := A7.frozen 0
            have kf1 := A7.frozen 1
            have z0 := A7.box 0 _ rfl
            have zz1 := A7.box 1 _ rfl
            obtain ⟨Y65, hY, A7', hk, hB⟩ := A7.put (.slice qu nu cu) (.slice ru mu ku)
            go_simp
            (try rewrite [hY])
            replace R1 := RefIn.off R1 A7 NE17 (hk _ (by simp))
            replace R3 := R3.off A7 NE37 (hk _ (by simp))
            replace R5 := R5.off A7 NE57 (hk _ (by simp))
            replace A6 := A6.away (hk (fun b => b ≠ t7) (by simp)) (by omega)
            have D65 := D64.trans (hB _ HT7)
            clear hY hk hB kf0 kf1 z0 zz1 A7 NE17 NE37 NE57 D64
            have A7 := A7'
            clear A7'
            refine hK _ _ ⟨(Ff.on D65).c0, (Ll.on D65).c0, (Ll.on D65).c1, (Lo.on D65).c0, (Lo.on D65).c1⟩ ?_
            clear hK K
            refine plist #[true, true, true, true, true, true, true, true, true, true, true] (by kernel_rfl) ?_
            refine pdone (by kernel_rfl) ?_ _
            go_wp2_with fail
            go_meet
            exact ⟨⟨qw, nw, cw, rfl, R1, z1⟩, ⟨_, qv, nv, cv, rv, mv, kv, rfl, A6, R3⟩, ⟨_, qu, nu, cu, ru, mu, ku, rfl, A7, R5⟩, D65⟩
        · skip
          go_simp
          obtain ⟨t6, ht⟩ : ∃ b, Y54.heap.size = b := ⟨_, rfl⟩
          obtain ⟨Y66, hY⟩ : ∃ Z, Y54.alloc (.cells #[.slice none 0 0, .slice none 0 0] 35) = Z := ⟨_, rfl⟩
          rewrite [hY, ht]
          have hb : Below Y54.heap.size Y54 Y66 := by rw [← hY]; exact below_alloc _
          have A6 : RB t6 #[.slice none 0 0, .slice none 0 0] Y66 := by rw [← hY, ← ht]; exact RB.new _ _
          have HT6 : X7.heap.size ≤ t6 := by rw [← ht]; exact D54.size
          have NE16 : ∀ a, qw = some a → 0 < nw → a.block ≠ t6 := by rw [← ht]; exact refIn_ne R1
          have NT : t7 ≠ t6 := by have h1 := A7.lt; omega
          have D66 := D54.trans (hb.mono D54.size)
          replace R1 := R1.below hb
          replace A7 := A7.on hb
          clear hb hY ht D54
          refine hK _ _ ⟨(Ff.on D66).c0, (Ll.on D66).c0, (Ll.on D66).c1, (Lo.on D66).c0, (Lo.on D66).c1⟩ ?_
          clear hK K
          refine plist #[true, true, true, false, true, false, true, true, false, false, false] (by kernel_rfl) ?_
          refine pone 3 (by kernel_rfl) rfl fun K hK => ?_
          have con := HRC.out Y66 _ l (Ll.on D66).2 fl
          go_simp
          refine con.mono ?_
          rintro e Y67 ⟨qv, nv, cv, rv, mv, kv, rfl, R3, h3, h3', hb⟩
          have NE37 : (∀ a, qv = some a → 0 < nv → a.block ≠ t7) ∧ ∀ a, rv = some a → 0 < mv → a.block ≠ t7 := ⟨fun a h _ => by have h1 := h3 a h; have h2 := A7.lt; omega, fun a h _ => by have h1 := h3' a h; have h2 := A7.lt; omega⟩
          have NE36 : (∀ a, qv = some a → 0 < nv → a.block ≠ t6) ∧ ∀ a, rv = some a → 0 < mv → a.block ≠ t6 := ⟨fun a h _ => by have h1 := h3 a h; have h2 := A6.lt; omega, fun a h _ => by have h1 := h3' a h; have h2 := A6.lt; omega⟩
          have D67 := D66.trans (hb.mono D66.size)
          replace R1 := R1.below hb
          replace A7 := A7.on hb
          replace A6 := A6.on hb
          clear con hb h3 h3' D66
          refine hK _ _ ⟨(Ff.on D67).c0, (Ll.on D67).c0, (Ll.on D67).c1, (Lo.on D67).c0, (Lo.on D67).c1⟩ ?_
          clear hK K
          refine plist #[true, true, true, true, true, false, true, true, false, false, false] (by kernel_rfl) ?_
          refine pone 5 (by kernel_rfl) rfl fun K hK => ?_
          have con := HRC.out Y67 _ o (Lo.on D67).2 fo
          go_simp
          refine con.mono ?_
          rintro e Y68 ⟨qu, nu, cu, ru, mu, ku, rfl, R5, h5, h5', hb⟩
          have NE57 : (∀ a, qu = some a → 0 < nu → a.block ≠ t7) ∧ ∀ a, ru = some a → 0 < mu → a.block ≠ t7 := ⟨fun a h _ => by have h1 := h5 a h; have h2 := A7.lt; omega, fun a h _ => by have h1 := h5' a h; have h2 := A7.lt; omega⟩
          have NE56 : (∀ a, qu = some a → 0 < nu → a.block ≠ t6) ∧ ∀ a, ru = some a → 0 < mu → a.block ≠ t6 := ⟨fun a h _ => by have h1 := h5 a h; have h2 := A6.lt; omega, fun a h _ => by have h1 := h5' a h; have h2 := A6.lt; omega⟩
          have D68 := D67.trans (hb.mono D67.size)
          replace R1 := R1.below hb
          replace R3 := R3.below hb
          replace A7 := A7.on hb
          replace A6 := A6.on hb
          clear con hb h5 h5' D67
          refine hK _ _ ⟨(Ff.on D68).c0, (Ll.on D68).c0, (Ll.on D68).c1, (Lo.on D68).c0, (Lo.on D68).c1⟩ ?_
          clear hK K
          refine plist #[true, true, true, true, true, true, true, true, false, false, false] (by kernel_rfl) ?_
          refine pone 8 (by kernel_rfl) rfl fun K hK => ?_
          go_simp
          refine hK _ _ ⟨(Ff.on D68).c0, (Ll.on D68).c0, (Ll.on D68).c1, (Lo.on D68).c0, (Lo.on D68).c1⟩ ?_
          clear hK K
          refine plist #[true, true, true, true, true, true, true, true, true, false, false] (by kernel_rfl) ?_
          refine pone 9 (by kernel_rfl) rfl fun K hK => ?_
          have kf0 := A6.frozen 0
          have kf1 := A6.frozen 1
          have z0 := A6.box 0 _ rfl
          have zz1 := A6.box 1 _ rfl
          obtain ⟨Y70, hY, A6', hk, hB⟩ := A6.put (.slice qv nv cv) (.slice rv mv kv)
          go_simp
          (try rewrite [hY])
          replace R1 := RefIn.off R1 A6 NE16 (hk _ (by simp))
          replace R3 := R3.off A6 NE36 (hk _ (by simp))
          replace R5 := R5.off A6 NE56 (hk _ (by simp))
          replace A7 := A7.away (hk (fun b => b ≠ t6) (by simp)) (by omega)
          have D70 := D68.trans (hB _ HT6)
          clear hY hk hB kf0 kf1 z0 zz1 A6 NE16 NE36 NE56 D68
          have A6 := A6'
          clear A6'
          refine hK _ _ ⟨(Ff.on D70).c0, (Ll.on D70).c0, (Ll.on D70).c1, (Lo.on D70).c0, (Lo.on D70).c1⟩ ?_
          clear hK K
          refine plist #[true, true, true, true, true, true, true, true, true, true, false] (by kernel_rfl) ?_
          refine pone 10 (by kernel_rfl) rfl fun K hK => ?_
          have kf0 := A7.frozen 0
          have kf1 := A7.frozen 1
          have z0 := A7.box 0 _ rfl
          have zz1 := A7.box 1 _ rfl
          obtain ⟨Y71, hY, A7', hk, hB⟩ := A7.put (.slice qu nu cu) (.slice ru mu ku)
          go_simp
          (try rewrite [hY])
          replace R1 := RefIn.off R1 A7 NE17 (hk _ (by simp))
          replace R3 := R3.off A7 NE37 (hk _ (by simp))
          replace R5 := R5.off A7 NE57 (hk _ (by simp))
          replace A6 := A6.away (hk (fun b => b ≠ t7) (by simp)) (by omega)
          have D71 := D70.trans (hB _ HT7)
          clear hY hk hB kf0 kf1 z0 zz1 A7 NE17 NE37 NE57 D70
          have A7 := A7'
          clear A7'
          refine hK _ _ ⟨(Ff.on D71).c0, (Ll.on D71).c0, (Ll.on D71).c1, (Lo.on D71).c0, (Lo.on D71).c1⟩ ?_
          clear hK K
          refine plist #[true, true, true, true, true, true, true, true, true, true, true] (by kernel_rfl) ?_
          refine pdone (by kernel_rfl) ?_ _
          go_wp2_with fail
          go_meet
          exact ⟨⟨qw, nw, cw, rfl, R1, z1⟩, ⟨_, qv, nv, cv, rv, mv, kv, rfl, A6, R3⟩, ⟨_, qu, nu, cu, ru, mu, ku, rfl, A7, R5⟩, D71⟩
    · skip
      go_simp
      obtain ⟨t6, ht⟩ : ∃ b, Y0.heap.size = b := ⟨_, rfl⟩
      obtain ⟨Y72, hY⟩ : ∃ Z, Y0.alloc (.cells #[.slice none 0 0, .slice none 0 0] 35) = Z := ⟨_, rfl⟩
      rewrite [hY, ht]
      have hb : Below Y0.heap.size Y0 Y72 := by rw [← hY]; exact below_alloc _
      have A6 : RB t6 #[.slice none 0 0, .slice none 0 0] Y72 := by rw [← hY, ← ht]; exact RB.new _ _
      have HT6 : X7.heap.size ≤ t6 := by rw [← ht]; exact D0.size
      have D72 := D0.trans (hb.mono D0.size)
      clear hb hY ht D0
      refine hK _ _ ⟨(Ff.on D72).c0, (Ll.on D72).c0, (Ll.on D72).c1, (Lo.on D72).c0, (Lo.on D72).c1⟩ ?_
      clear hK K
      refine plist #[true, false, true, false, true, false, true, false, false, false, false] (by kernel_rfl) ?_
      refine ptwoQ 1 7 (by kernel_rfl) rfl rfl (fun K hK => ?_) (fun K hK => ?_)
      · skip
        have con := HRF.out Y72 (Ff.on D72).2
        go_simp
        refine con.mono ?_
        rintro e Y73 ⟨qw, nw, cw, rfl, R1, k1, z1, hb⟩
        have NE16 : ∀ a, qw = some a → 0 < nw → a.block ≠ t6 := fun a h _ => by have h1 := k1 a h; have h2 := A6.lt; omega
        have D73 := D72.trans (hb.mono D72.size)
        replace A6 := A6.on hb
        clear con hb k1 D72
        refine hK _ _ ⟨(Ff.on D73).c0, (Ll.on D73).c0, (Ll.on D73).c1, (Lo.on D73).c0, (Lo.on D73).c1⟩ ?_
        clear hK K
        refine plist #[true, true, true, false, true, false, true, false, false, false, false] (by kernel_rfl) ?_
        refine ptwoQ 3 7 (by kernel_rfl) rfl rfl (fun K hK => ?_) (fun K hK => ?_)
        · skip
          have con := HRC.out Y73 _ l (Ll.on D73).2 fl
          go_simp
          refine con.mono ?_
          rintro e Y74 ⟨qv, nv, cv, rv, mv, kv, rfl, R3, h3, h3', hb⟩
          have NE36 : (∀ a, qv = some a → 0 < nv → a.block ≠ t6) ∧ ∀ a, rv = some a → 0 < mv → a.block ≠ t6 := ⟨fun a h _ => by have h1 := h3 a h; have h2 := A6.lt; omega, fun a h _ => by have h1 := h3' a h; have h2 := A6.lt; omega⟩
          have D74 := D73.trans (hb.mono D73.size)
          replace R1 := R1.below hb
          replace A6 := A6.on hb
          clear con hb h3 h3' D73
          refine hK _ _ ⟨(Ff.on D74).c0, (Ll.on D74).c0, (Ll.on D74).c1, (Lo.on D74).c0, (Lo.on D74).c1⟩ ?_
          clear hK K
          refine plist #[true, true, true, true, true, false, true, false, false, false, false] (by kernel_rfl) ?_
          refine ptwoQ 5 7 (by kernel_rfl) rfl rfl (fun K hK => ?_) (fun K hK => ?_)
          · skip
            have con := HRC.out Y74 _ o (Lo.on D74).2 fo
            go_simp
            refine con.mono ?_
            rintro e Y75 ⟨qu, nu, cu, ru, mu, ku, rfl, R5, h5, h5', hb⟩
            have NE56 : (∀ a, qu = some a → 0 < nu → a.block ≠ t6) ∧ ∀ a, ru = some a → 0 < mu → a.block ≠ t6 := ⟨fun a h _ => by have h1 := h5 a h; have h2 := A6.lt; omega, fun a h _ => by have h1 := h5' a h; have h2 := A6.lt; omega⟩
            have D75 := D74.trans (hb.mono D74.size)
            replace R1 := R1.below hb
            replace R3 := R3.below hb
            replace A6 := A6.on hb
            clear con hb h5 h5' D74
            refine hK _ _ ⟨(Ff.on D75).c0, (Ll.on D75).c0, (Ll.on D75).c1, (Lo.on D75).c0, (Lo.on D75).c1⟩ ?_
            clear hK K
            refine plist #[true, true, true, true, true, true, true, false, false, false, false] (by kernel_rfl) ?_
            refine pone 7 (by kernel_rfl) rfl fun K hK => ?_
            go_simp
            obtain ⟨t7, ht⟩ : ∃ b, Y75.heap.size = b := ⟨_, rfl⟩
            obtain ⟨Y76, hY⟩ : ∃ Z, Y75.alloc (.cells #[.slice none 0 0, .slice none 0 0] 35) = Z := ⟨_, rfl⟩
            rewrite [hY, ht]
            have hb : Below Y75.heap.size Y75 Y76 := by rw [← hY]; exact below_alloc _
            have A7 : RB t7 #[.slice none 0 0, .slice none 0 0] Y76 := by rw [← hY, ← ht]; exact RB.new _ _
            have HT7 : X7.heap.size ≤ t7 := by rw [← ht]; exact D75.size
            have NE17 : ∀ a, qw = some a → 0 < nw → a.block ≠ t7 := by rw [← ht]; exact refIn_ne R1
            have NE37 : (∀ a, qv = some a → 0 < nv → a.block ≠ t7) ∧ ∀ a, rv = some a → 0 < mv → a.block ≠ t7 := by rw [← ht]; exact R3.ne
            have NE57 : (∀ a, qu = some a → 0 < nu → a.block ≠ t7) ∧ ∀ a, ru = some a → 0 < mu → a.block ≠ t7 := by rw [← ht]; exact R5.ne
            have NT : t6 ≠ t7 := by have h1 := A6.lt; omega
            have D76 := D75.trans (hb.mono D75.size)
            replace R1 := R1.below hb
            replace R3 := R3.below hb
            replace R5 := R5.below hb
            replace A6 := A6.on hb
            clear hb hY ht D75
            refine hK _ _ ⟨(Ff.on D76).c0, (Ll.on D76).c0, (Ll.on D76).c1, (Lo.on D76).c0, (Lo.on D76).c1⟩ ?_
            clear hK K
            refine plist #[true, true, true, true, true, true, true, true, false, false, false] (by kernel_rfl) ?_
            refine pone 8 (by kernel_rfl) rfl fun K hK => ?_
            go_simp
            refine hK _ _ ⟨(Ff.on D76).c0, (Ll.on D76).c0, (Ll.on D76).c1, (Lo.on D76).c0, (Lo.on D76).c1⟩ ?_
            clear hK K
            refine plist #[true, true, true, true, true, true, true, true, true, false, false] (by kernel_rfl) ?_
            refine pone 9 (by kernel_rfl) rfl fun K hK => ?_
            have kf0 := A6.frozen 0
            have kf1 := A6.frozen 1
            have z0 := A6.box 0 _ rfl
            have zz1 := A6.box 1 _ rfl
            obtain ⟨Y78, hY, A6', hk, hB⟩ := A6.put (.slice qv nv cv) (.slice rv mv kv)
            go_simp
            (try rewrite [hY])
            replace R1 := RefIn.off R1 A6 NE16 (hk _ (by simp))
            replace R3 := R3.off A6 NE36 (hk _ (by simp))
            replace R5 := R5.off A6 NE56 (hk _ (by simp))
            replace A7 := A7.away (hk (fun b => b ≠ t6) (by simp)) (by omega)
            have D78 := D76.trans (hB _ HT6)
            clear hY hk hB kf0 kf1 z0 zz1 A6 NE16 NE36 NE56 D76
            have A6 := A6'
            clear A6'
            refine hK _ _ ⟨(Ff.on D78).c0, (Ll.on D78).c0, (Ll.on D78).c1, (Lo.on D78).c0, (Lo.on D78).c1⟩ ?_
            clear hK K
            refine plist #[true, true, true, true, true, true, true, true, true, true, false] (by kernel_rfl) ?_
            refine pone 10 (by kernel_rfl) rfl fun K hK => ?_
            have kf0 := A7.frozen 0
            have kf1 := A7.frozen 1
            have z0 := A7.box 0 _ rfl
            have zz1 := A7.box 1 _ rfl
            obtain ⟨Y79, hY, A7', hk, hB⟩ := A7.put (.slice qu nu cu) (.slice ru mu ku)
            go_simp
            (try rewrite [hY])
            replace R1 := RefIn.off R1 A7 NE17 (hk _ (by simp))
            replace R3 := R3.off A7 NE37 (hk _ (by simp))
            replace R5 := R5.off A7 NE57 (hk _ (by simp))
            replace A6 := A6.away (hk (fun b => b ≠ t7) (by simp)) (by omega)
            have D79 := D78.trans (hB _ HT7)
            clear hY hk hB kf0 kf1 z0 zz1 A7 NE17 NE37 NE57 D78
            have A7 := A7'
            clear A7'
            refine hK _ _ ⟨(Ff.on D79).c0, (Ll.on D79).c0, (Ll.on D79).c1, (Lo.on D79).c0, (Lo.on D79).c1⟩ ?_
            clear hK K
            refine plist #[true, true, true, true, true, true, true, true, true, true, true] (by kernel_rfl) ?_
            refine pdone (by kernel_rfl) ?_ _
            go_wp2_with fail
            go_meet
            exact ⟨⟨qw, nw, cw, rfl, R1, z1⟩, ⟨_, qv, nv, cv, rv, mv, kv, rfl, A6, R3⟩, ⟨_, qu, nu, cu, ru, mu, ku, rfl, A7, R5⟩, D79⟩
          · skip
            go_simp
            obtain ⟨t7, ht⟩ : ∃ b, Y74.heap.size = b := ⟨_, rfl⟩
            obtain ⟨Y80, hY⟩ : ∃ Z, Y74.alloc (.cells #[.slice none 0 0, .slice none 0 0] 35) = Z := ⟨_, rfl⟩
            rewrite [hY, ht]
            have hb : Below Y74.heap.size Y74 Y80 := by rw [← hY]; exact below_alloc _
            have A7 : RB t7 #[.slice none 0 0, .slice none 0 0] Y80 := by rw [← hY, ← ht]; exact RB.new _ _
            have HT7 : X7.heap.size ≤ t7 := by rw [← ht]; exact D74.size
            have NE17 : ∀ a, qw = some a → 0 < nw → a.block ≠ t7 := by rw [← ht]; exact refIn_ne R1
            have NE37 : (∀ a, qv = some a → 0 < nv → a.block ≠ t7) ∧ ∀ a, rv = some a → 0 < mv → a.block ≠ t7 := by rw [← ht]; exact R3.ne
            have NT : t6 ≠ t7 := by have h1 := A6.lt; omega
            have D80 := D74.trans (hb.mono D74.size)
            replace R1 := R1.below hb
            replace R3 := R3.below hb
            replace A6 := A6.on hb
            clear hb hY ht D74
            refine hK _ _ ⟨(Ff.on D80).c0, (Ll.on D80).c0, (Ll.on D80).c1, (Lo.on D80).c0, (Lo.on D80).c1⟩ ?_
            clear hK K
            refine plist #[true, true, true, true, true, false, true, true, false, false, false] (by kernel_rfl) ?_
            refine pone 5 (by kernel_rfl) rfl fun K hK => ?_
            have con := HRC.out Y80 _ o (Lo.on D80).2 fo
            go_simp
            refine con.mono ?_
            rintro e Y81 ⟨qu, nu, cu, ru, mu, ku, rfl, R5, h5, h5', hb⟩
            have NE56 : (∀ a, qu = some a → 0 < nu → a.block ≠ t6) ∧ ∀ a, ru = some a → 0 < mu → a.block ≠ t6 := ⟨fun a h _ => by have h1 := h5 a h; have h2 := A6.lt; omega, fun a h _ => by have h1 := h5' a h; have h2 := A6.lt; omega⟩
            have NE57 : (∀ a, qu = some a → 0 < nu → a.block ≠ t7) ∧ ∀ a, ru = some a → 0 < mu → a.block ≠ t7 := ⟨fun a h _ => by have h1 := h5 a h; have h2 := A7.lt; omega, fun a h _ => by have h1 := h5' a h; have h2 := A7.lt; omega⟩
            have D81 := D80.trans (hb.mono D80.size)
            replace R1 := R1.below hb
            replace R3 := R3.below hb
            replace A6 := A6.on hb
            replace A7 := A7.on hb
            clear con hb h5 h5' D80
            refine hK _ _ ⟨(Ff.on D81).c0, (Ll.on D81).c0, (Ll.on D81).c1, (Lo.on D81).c0, (Lo.on D81).c1⟩ ?_
            clear hK K
            refine plist #[true, true, true, true, true, true, true, true, false, false, false] (by kernel_rfl) ?_
            refine pone 8 (by kernel_rfl) rfl fun K hK => ?_
            go_simp
            refine hK _ _ ⟨(Ff.on D81).c0, (Ll.on D81).c0, (Ll.on D81).c1, (Lo.on D81).c0, (Lo.on D81).c1⟩ ?_
            clear hK K
            refine plist #[true, true, true, true, true, true, true, true, true, false, false] (by kernel_rfl) ?_
            refine pone 9 (by kernel_rfl) rfl fun K hK => ?_
            have kf0 := A6.frozen 0
            have kf1 := A6.frozen 1
            have z0 := A6.box 0 _ rfl
            have zz1 := A6.box 1 _ rfl
            obtain ⟨Y83, hY, A6', hk, hB⟩ := A6.put (.slice qv nv cv) (.slice rv mv kv)
            go_simp
            (try rewrite [hY])
            replace R1 := RefIn.off R1 A6 NE16 (hk _ (by simp))
            replace R3 := R3.off A6 NE36 (hk _ (by simp))
            replace R5 := R5.off A6 NE56 (hk _ (by simp))
            replace A7 := A7.away (hk (fun b => b ≠ t6) (by simp)) (by omega)
            have D83 := D81.trans (hB _ HT6)
            clear hY hk hB kf0 kf1 z0 zz1 A6 NE16 NE36 NE56 D81
            have A6 := A6'
            clear A6'
            refine hK _ _ ⟨(Ff.on D83).c0, (Ll.on D83).c0, (Ll.on D83).c1, (Lo.on D83).c0, (Lo.on D83).c1⟩ ?_
            clear hK K
            refine plist #[true, true, true, true, true, true, true, true, true, true, false] (by kernel_rfl) ?_
            refine pone 10 (by kernel_rfl) rfl fun K hK => ?_
            have kf0 := A7.frozen 0
            have kf1 := A7.frozen 1
            have z0 := A7.box 0 _ rfl
            have zz1 := A7.box 1 _ rfl
            obtain ⟨Y84, hY, A7', hk, hB⟩ := A7.put (.slice qu nu cu) (.slice ru mu ku)
            go_simp
            (try rewrite [hY])
            replace R1 := RefIn.off R1 A7 NE17 (hk _ (by simp))
            replace R3 := R3.off A7 NE37 (hk _ (by simp))
            replace R5 := R5.off A7 NE57 (hk _ (by simp))
            replace A6 := A6.away (hk (fun b => b ≠ t7) (by simp)) (by omega)
            have D84 := D83.trans (hB _ HT7)
            clear hY hk hB kf0 kf1 z0 zz1 A7 NE17 NE37 NE57 D83
            have A7 := A7'
            clear A7'
            refine hK _ _ ⟨(Ff.on D84).c0, (Ll.on D84).c0, (Ll.on D84).c1, (Lo.on D84).c0, (Lo.on D84).c1⟩ ?_
            clear hK K
            refine plist #[true, true, true, true, true, true, true, true, true, true, true] (by kernel_rfl) ?_
            refine pdone (by kernel_rfl) ?_ _
            go_wp2_with fail
            go_meet
            exact ⟨⟨qw, nw, cw, rfl, R1, z1⟩, ⟨_, qv, nv, cv, rv, mv, kv, rfl, A6, R3⟩, ⟨_, qu, nu, cu, ru, mu, ku, rfl, A7, R5⟩, D84⟩
        · skip
          go_simp
          obtain ⟨t7, ht⟩ : ∃ b, Y73.heap.size = b := ⟨_, rfl⟩
          obtain ⟨Y85, hY⟩ : ∃ Z, Y73.alloc (.cells #[.slice none 0 0, .slice none 0 0] 35) = Z := ⟨_, rfl⟩
          rewrite [hY, ht]
          have hb : Below Y73.heap.size Y73 Y85 := by rw [← hY]; exact below_alloc _
          have A7 : RB t7 #[.slice none 0 0, .slice none 0 0] Y85 := by rw [← hY, ← ht]; exact RB.new _ _
          have HT7 : X7.heap.size ≤ t7 := by rw [← ht]; exact D73.size
          have NE17 : ∀ a, qw = some a → 0 < nw → a.block ≠ t7 := by rw [← ht]; exact refIn_ne R1
          have NT : t6 ≠ t7 := by have h1 := A6.lt; omega
          have D85 := D73.trans (hb.mono D73.size)
          replace R1 := R1.below hb
          replace A6 := A6.on hb
          clear hb hY ht D73
          refine hK _ _ ⟨(Ff.on D85).c0, (Ll.on D85).c0, (Ll.on D85).c1, (Lo.on D85).c0, (Lo.on D85).c1⟩ ?_
          clear hK K
          refine plist #[true, true, true, false, true, false, true, true, false, false, false] (by kernel_rfl) ?_
          refine pone 3 (by kernel_rfl) rfl fun K hK => ?_
          have con := HRC.out Y85 _ l (Ll.on D85).2 fl
          go_simp
          refine con.mono ?_
          rintro e Y86 ⟨qv, nv, cv, rv, mv, kv, rfl, R3, h3, h3', hb⟩
          have NE36 : (∀ a, qv = some a → 0 < nv → a.block ≠ t6) ∧ ∀ a, rv = some a → 0 < mv → a.block ≠ t6 := ⟨fun a h _ => by have h1 := h3 a h; have h2 := A6.lt; omega, fun a h _ => by have h1 := h3' a h; have h2 := A6.lt; omega⟩
          have NE37 : (∀ a, qv = some a → 0 < nv → a.block ≠ t7) ∧ ∀ a, rv = some a → 0 < mv → a.block ≠ t7 := ⟨fun a h _ => by have h1 := h3 a h; have h2 := A7.lt; omega, fun a h _ => by have h1 := h3' a h; have h2 := A7.lt; omega⟩
          have D86 := D85.trans (hb.mono D85.size)
          replace R1 := R1.below hb
          replace A6 := A6.on hb
          replace A7 := A7.on hb
          clear con hb h3 h3' D85
          refine hK _ _ ⟨(Ff.on D86).c0, (Ll.on D86).c0, (Ll.on D86).c1, (Lo.on D86).c0, (Lo.on D86).c1⟩ ?_
          clear hK K
          refine plist #[true, true, true, true, true, false, true, true, false, false, false] (by kernel_rfl) ?_
          refine pone 5 (by kernel_rfl) rfl fun K hK => ?_
          have con := HRC.out Y86 _ o (Lo.on D86).2 fo
          go_simp
          refine con.mono ?_
          rintro e Y87 ⟨qu, nu, cu, ru, mu, ku, rfl, R5, h5, h5', hb⟩
          have NE56 : (∀ a, qu = some a → 0 < nu → a.block ≠ t6) ∧ ∀ a, ru = some a → 0 < mu → a.block ≠ t6 := ⟨fun a h _ => by have h1 := h5 a h; have h2 := A6.lt; omega, fun a h _ => by have h1 := h5' a h; have h2 := A6.lt; omega⟩
          have NE57 : (∀ a, qu = some a → 0 < nu → a.block ≠ t7) ∧ ∀ a, ru = some a → 0 < mu → a.block ≠ t7 := ⟨fun a h _ => by have h1 := h5 a h; have h2 := A7.lt; omega, fun a h _ => by have h1 := h5' a h; have h2 := A7.lt; omega⟩
          have D87 := D86.trans (hb.mono D86.size)
          replace R1 := R1.below hb
          replace R3 := R3.below hb
          replace A6 := A6.on hb
          replace A7 := A7.on hb
          clear con hb h5 h5' D86
          refine hK _ _ ⟨(Ff.on D87).c0, (Ll.on D87).c0, (Ll.on D87).c1, (Lo.on D87).c0, (Lo.on D87).c1⟩ ?_
          clear hK K
          refine plist #[true, true, true, true, true, true, true, true, false, false, false] (by kernel_rfl) ?_
          refine pone 8 (by kernel_rfl) rfl fun K hK => ?_
          go_simp
          refine hK _ _ ⟨(Ff.on D87).c0, (Ll.on D87).c0, (Ll.on D87).c1, (Lo.on D87).c0, (Lo.on D87).c1⟩ ?_
          clear hK K
          refine plist #[true, true, true, true, true, true, true, true, true, false, false] (by kernel_rfl) ?_
          refine pone 9 (by kernel_rfl) rfl fun K hK => ?_
          have kf0 := A6.frozen 0
          have kf1 := A6.frozen 1
          have z0 := A6.box 0 _ rfl
          have zz1 := A6.box 1 _ rfl
          obtain ⟨Y89, hY, A6', hk, hB⟩ := A6.put (.slice qv nv cv) (.slice rv mv kv)
          go_simp
          (try rewrite [hY])
          replace R1 := RefIn.off R1 A6 NE16 (hk _ (by simp))
          replace R3 := R3.off A6 NE36 (hk _ (by simp))
          replace R5 := R5.off A6 NE56 (hk _ (by simp))
          replace A7 := A7.away (hk (fun b => b ≠ t6) (by simp)) (by omega)
          have D89 := D87.trans (hB _ HT6)
          clear hY hk hB kf0 kf1 z0 zz1 A6 NE16 NE36 NE56 D87
          have A6 := A6'
          clear A6'
          refine hK _ _ ⟨(Ff.on D89).c0, (Ll.on D89).c0, (Ll.on D89).c1, (Lo.on D89).c0, (Lo.on D89).c1⟩ ?_
          clear hK K
          refine plist #[true, true, true, true, true, true, true, true, true, true, false] (by kernel_rfl) ?_
          refine pone 10 (by kernel_rfl) rfl fun K hK => ?_
          have kf0 := A7.frozen 0
          have kf1 := A7.frozen 1
          have z0 := A7.box 0 _ rfl
          have zz1 := A7.box 1 _ rfl
          obtain ⟨Y90, hY, A7', hk, hB⟩ := A7.put (.slice qu nu cu) (.slice ru mu ku)
          go_simp
          (try rewrite [hY])
          replace R1 := RefIn.off R1 A7 NE17 (hk _ (by simp))
          replace R3 := R3.off A7 NE37 (hk _ (by simp))
          replace R5 := R5.off A7 NE57 (hk _ (by simp))
          replace A6 := A6.away (hk (fun b => b ≠ t7) (by simp)) (by omega)
          have D90 := D89.trans (hB _ HT7)
          clear hY hk hB kf0 kf1 z0 zz1 A7 NE17 NE37 NE57 D89
          have A7 := A7'
          clear A7'
          refine hK _ _ ⟨(Ff.on D90).c0, (Ll.on D90).c0, (Ll.on D90).c1, (Lo.on D90).c0, (Lo.on D90).c1⟩ ?_
          clear hK K
          refine plist #[true, true, true, true, true, true, true, true, true, true, true] (by kernel_rfl) ?_
          refine pdone (by kernel_rfl) ?_ _
          go_wp2_with fail
          go_meet
          exact ⟨⟨qw, nw, cw, rfl, R1, z1⟩, ⟨_, qv, nv, cv, rv, mv, kv, rfl, A6, R3⟩, ⟨_, qu, nu, cu, ru, mu, ku, rfl, A7, R5⟩, D90⟩
      · skip
        go_simp
        obtain ⟨t7, ht⟩ : ∃ b, Y72.heap.size = b := ⟨_, rfl⟩
        obtain ⟨Y91, hY⟩ : ∃ Z, Y72.alloc (.cells #[.slice none 0 0, .slice none 0 0] 35) = Z := ⟨_, rfl⟩
        rewrite [hY, ht]
        have hb : Below Y72.heap.size Y72 Y91 := by rw [← hY]; exact below_alloc _
        have A7 : RB t7 #[.slice none 0 0, .slice none 0 0] Y91 := by rw [← hY, ← ht]; exact RB.new _ _
        have HT7 : X7.heap.size ≤ t7 := by rw [← ht]; exact D72.size
        have NT : t6 ≠ t7 := by have h1 := A6.lt; omega
        have D91 := D72.trans (hb.mono D72.size)
        replace A6 := A6.on hb
        clear hb hY ht D72
        refine hK _ _ ⟨(Ff.on D91).c0, (Ll.on D91).c0, (Ll.on D91).c1, (Lo.on D91).c0, (Lo.on D91).c1⟩ ?_
        clear hK K
        refine plist #[true, false, true, false, true, false, true, true, false, false, false] (by kernel_rfl) ?_
        refine pone 1 (by kernel_rfl) rfl fun K hK => ?_
        have con := HRF.out Y91 (Ff.on D91).2
        go_simp
        refine con.mono ?_
        rintro e Y92 ⟨qw, nw, cw, rfl, R1, k1, z1, hb⟩
        have NE16 : ∀ a, qw = some a → 0 < nw → a.block ≠ t6 := fun a h _ => by have h1 := k1 a h; have h2 := A6.lt; omega
        have NE17 : ∀ a, qw = some a → 0 < nw → a.block ≠ t7 := fun a h _ => by have h1 := k1 a h; have h2 := A7.lt; omega
        have D92 := D91.trans (hb.mono D91.size)
        replace A6 := A6.on hb
        replace A7 := A7.on hb
        clear con hb k1 D91
        refine hK _ _ ⟨(Ff.on D92).c0, (Ll.on D92).c0, (Ll.on D92).c1, (Lo.on D92).c0, (Lo.on D92).c1⟩ ?_
        clear hK K
        refine plist #[true, true, true, false, true, false, true, true, false, false, false] (by kernel_rfl) ?_
        refine pone 3 (by kernel_rfl) rfl fun K hK => ?_
        have con := HRC.out Y92 _ l (Ll.on D92).2 fl
        go_simp
        refine con.mono ?_
        rintro e Y93 ⟨qv, nv, cv, rv, mv, kv, rfl, R3, h3, h3', hb⟩
        have NE36 : (∀ a, qv = some a → 0 < nv → a.block ≠ t6) ∧ ∀ a, rv = some a → 0 < mv → a.block ≠ t6 := ⟨fun a h _ => by have h1 := h3 a h; have h2 := A6.lt; omega, fun a h _ => by have h1 := h3' a h; have h2 := A6.lt; omega⟩
        have NE37 : (∀ a, qv = some a → 0 < nv → a.block ≠ t7) ∧ ∀ a, rv = some a → 0 < mv → a.block ≠ t7 := ⟨fun a h _ => by have h1 := h3 a h; have h2 := A7.lt; omega, fun a h _ => by have h1 := h3' a h; have h2 := A7.lt; omega⟩
        have D93 := D92.trans (hb.mono D92.size)
        replace R1 := R1.below hb
        replace A6 := A6.on hb
        replace A7 := A7.on hb
        clear con hb h3 h3' D92
        refine hK _ _ ⟨(Ff.on D93).c0, (Ll.on D93).c0, (Ll.on D93).c1, (Lo.on D93).c0, (Lo.on D93).c1⟩ ?_
        clear hK K
        refine plist #[true, true, true, true, true, false, true, true, false, false, false] (by kernel_rfl) ?_
        refine pone 5 (by kernel_rfl) rfl fun K hK => ?_
        have con := HRC.out Y93 _ o (Lo.on D93).2 fo
        go_simp
        refine con.mono ?_
        rintro e Y94 ⟨qu, nu, cu, ru, mu, ku, rfl, R5, h5, h5', hb⟩
        have NE56 : (∀ a, qu = some a → 0 < nu → a.block ≠ t6) ∧ ∀ a, ru = some a → 0 < mu → a.block ≠ t6 := ⟨fun a h _ => by have h1 := h5 a h; have h2 := A6.lt; omega, fun a h _ => by have h1 := h5' a h; have h2 := A6.lt; omega⟩
        have NE57 : (∀ a, qu = some a → 0 < nu → a.block ≠ t7) ∧ ∀ a, ru = some a → 0 < mu → a.block ≠ t7 := ⟨fun a h _ => by have h1 := h5 a h; have h2 := A7.lt; omega, fun a h _ => by have h1 := h5' a h; have h2 := A7.lt; omega⟩
        have D94 := D93.trans (hb.mono D93.size)
        replace R1 := R1.below hb
        replace R3 := R3.below hb
        replace A6 := A6.on hb
        replace A7 := A7.on hb
        clear con hb h5 h5' D93
        refine hK _ _ ⟨(Ff.on D94).c0, (Ll.on D94).c0, (Ll.on D94).c1, (Lo.on D94).c0, (Lo.on D94).c1⟩ ?_
        clear hK K
        refine plist #[true, true, true, true, true, true, true, true, false, false, false] (by kernel_rfl) ?_
        refine pone 8 (by kernel_rfl) rfl fun K hK => ?_
        go_simp
        refine hK _ _ ⟨(Ff.on D94).c0, (Ll.on D94).c0, (Ll.on D94).c1, (Lo.on D94).c0, (Lo.on D94).c1⟩ ?_
        clear hK K
        refine plist #[true, true, true, true, true, true, true, true, true, false, false] (by kernel_rfl) ?_
        refine pone 9 (by kernel_rfl) rfl fun K hK => ?_
        have kf0 := A6.frozen 0
        have kf1 := A6.frozen 1
        have z0 := A6.box 0 _ rfl
        have zz1 := A6.box 1 _ rfl
        obtain ⟨Y96, hY, A6', hk, hB⟩ := A6.put (.slice qv nv cv) (.slice rv mv kv)
        go_simp
        (try rewrite [hY])
        replace R1 := RefIn.off R1 A6 NE16 (hk _ (by simp))
        replace R3 := R3.off A6 NE36 (hk _ (by simp))
        replace R5 := R5.off A6 NE56 (hk _ (by simp))
        replace A7 := A7.away (hk (fun b => b ≠ t6) (by simp)) (by omega)
        have D96 := D94.trans (hB _ HT6)
        clear hY hk hB kf0 kf1 z0 zz1 A6 NE16 NE36 NE56 D94
        have A6 := A6'
        clear A6'
        refine hK _ _ ⟨(Ff.on D96).c0, (Ll.on D96).c0, (Ll.on D96).c1, (Lo.on D96).c0, (Lo.on D96).c1⟩ ?_
        clear hK K
        refine plist #[true, true, true, true, true, true, true, true, true, true, false] (by kernel_rfl) ?_
        refine pone 10 (by kernel_rfl) rfl fun K hK => ?_
        have kf0 := A7.frozen 0
        have kf1 := A7.frozen 1
        have z0 := A7.box 0 _ rfl
        have zz1 := A7.box 1 _ rfl
        obtain ⟨Y97, hY, A7', hk, hB⟩ := A7.put (.slice qu nu cu) (.slice ru mu ku)
        go_simp
        (try rewrite [hY])
        replace R1 := RefIn.off R1 A7 NE17 (hk _ (by simp))
        replace R3 := R3.off A7 NE37 (hk _ (by simp))
        replace R5 := R5.off A7 NE57 (hk _ (by simp))
        replace A6 := A6.away (hk (fun b => b ≠ t7) (by simp)) (by omega)
        have D97 := D96.trans (hB _ HT7)
        clear hY hk hB kf0 kf1 z0 zz1 A7 NE17 NE37 NE57 D96
        have A7 := A7'
        clear A7'
        refine hK _ _ ⟨(Ff.on D97).c0, (Ll.on D97).c0, (Ll.on D97).c1, (Lo.on D97).c0, (Lo.on D97).c1⟩ ?_
        clear hK K
        refine plist #[true, true, true, true, true, true, true, true, true, true, true] (by kernel_rfl) ?_
        refine pdone (by kernel_rfl) ?_ _
        go_wp2_with fail
        go_meet
        exact ⟨⟨qw, nw, cw, rfl, R1, z1⟩, ⟨_, qv, nv, cv, rv, mv, kv, rfl, A6, R3⟩, ⟨_, qu, nu, cu, ru, mu, ku, rfl, A7, R5⟩, D97⟩
    · skip
      go_simp
      obtain ⟨t7, ht⟩ : ∃ b, Y0.heap.size = b := ⟨_, rfl⟩
      obtain ⟨Y98, hY⟩ : ∃ Z, Y0.alloc (.cells #[.slice none 0 0, .slice none 0 0] 35) = Z := ⟨_, rfl⟩
      rewrite [hY, ht]
      have hb : Below Y0.heap.size Y0 Y98 := by rw [← hY]; exact below_alloc _
      have A7 : RB t7 #[.slice none 0 0, .slice none 0 0] Y98 := by rw [← hY, ← ht]; exact RB.new _ _
      have HT7 : X7.heap.size ≤ t7 := by rw [← ht]; exact D0.size
      have D98 := D0.trans (hb.mono D0.size)
      clear hb hY ht D0
      refine hK _ _ ⟨(Ff.on D98).c0, (Ll.on D98).c0, (Ll.on D98).c1, (Lo.on D98).c0, (Lo.on D98).c1⟩ ?_
      clear hK K
      refine plist #[true, false, true, false, true, false, false, true, false, false, false] (by kernel_rfl) ?_
      refine ptwoQ 1 6 (by kernel_rfl) rfl rfl (fun K hK => ?_) (fun K hK => ?_)
      · skip
        have con := HRF.out Y98 (Ff.on D98).2
        go_simp
        refine con.mono ?_
        rintro e Y99 ⟨qw, nw, cw, rfl, R1, k1, z1, hb⟩
        have NE17 : ∀ a, qw = some a → 0 < nw → a.block ≠ t7 := fun a h _ => by have h1 := k1 a h; have h2 := A7.lt; omega
        have D99 := D98.trans (hb.mono D98.size)
        replace A7 := A7.on hb
        clear con hb k1 D98
        refine hK _ _ ⟨(Ff.on D99).c0, (Ll.on D99).c0, (Ll.on D99).c1, (Lo.on D99).c0, (Lo.on D99).c1⟩ ?_
        clear hK K
        refine plist #[true, true, true, false, true, false, false, true, false, false, false] (by kernel_rfl) ?_
        refine ptwoQ 3 6 (by kernel_rfl) rfl rfl (fun K hK => ?_) (fun K hK => ?_)
        · skip
          have con := HRC.out Y99 _ l (Ll.on D99).2 fl
          go_simp
          refine con.mono ?_
          rintro e Y100 ⟨qv, nv, cv, rv, mv, kv, rfl, R3, h3, h3', hb⟩
          have NE37 : (∀ a, qv = some a → 0 < nv → a.block ≠ t7) ∧ ∀ a, rv = some a → 0 < mv → a.block ≠ t7 := ⟨fun a h _ => by have h1 := h3 a h; have h2 := A7.lt; omega, fun a h _ => by have h1 := h3' a h; have h2 := A7.lt; omega⟩
          have D100 := D99.trans (hb.mono D99.size)
          replace R1 := R1.below hb
          replace A7 := A7.on hb
          clear con hb h3 h3' D99
          refine hK _ _ ⟨(Ff.on D100).c0, (Ll.on D100).c0, (Ll.on D100).c1, (Lo.on D100).c0, (Lo.on D100).c1⟩ ?_
          clear hK K
          refine plist #[true, true, true, true, true, false, false, true, false, false, false] (by kernel_rfl) ?_
          refine ptwoQ 5 6 (by kernel_rfl) rfl rfl (fun K hK => ?_) (fun K hK => ?_)
          · skip
            have con := HRC.out Y100 _ o (Lo.on D100).2 fo
            go_simp
            refine con.mono ?_
            rintro e Y101 ⟨qu, nu, cu, ru, mu, ku, rfl, R5, h5, h5', hb⟩
            have NE57 : (∀ a, qu = some a → 0 < nu → a.block ≠ t7) ∧ ∀ a, ru = some a → 0 < mu → a.block ≠ t7 := ⟨fun a h _ => by have h1 := h5 a h; have h2 := A7.lt; omega, fun a h _ => by have h1 := h5' a h; have h2 := A7.lt; omega⟩
            have D101 := D100.trans (hb.mono D100.size)
            replace R1 := R1.below hb
            replace R3 := R3.below hb
            replace A7 := A7.on hb
            clear con hb h5 h5' D100
            refine hK _ _ ⟨(Ff.on D101).c0, (Ll.on D101).c0, (Ll.on D101).c1, (Lo.on D101).c0, (Lo.on D101).c1⟩ ?_
            clear hK K
            refine plist #[true, true, true, true, true, true, false, true, false, false, false] (by kernel_rfl) ?_
            refine pone 6 (by kernel_rfl) rfl fun K hK => ?_
            go_simp
            obtain ⟨t6, ht⟩ : ∃ b, Y101.heap.size = b := ⟨_, rfl⟩
            obtain ⟨Y102, hY⟩ : ∃ Z, Y101.alloc (.cells #[.slice none 0 0, .slice none 0 0] 35) = Z := ⟨_, rfl⟩
            rewrite [hY, ht]
            have hb : Below Y101.heap.size Y101 Y102 := by rw [← hY]; exact below_alloc _
            have A6 : RB t6 #[.slice none 0 0, .slice none 0 0] Y102 := by rw [← hY, ← ht]; exact RB.new _ _
            have HT6 : X7.heap.size ≤ t6 := by rw [← ht]; exact D101.size
            have NE16 : ∀ a, qw = some a → 0 < nw → a.block ≠ t6 := by rw [← ht]; exact refIn_ne R1
            have NE36 : (∀ a, qv = some a → 0 < nv → a.block ≠ t6) ∧ ∀ a, rv = some a → 0 < mv → a.block ≠ t6 := by rw [← ht]; exact R3.ne
            have NE56 : (∀ a, qu = some a → 0 < nu → a.block ≠ t6) ∧ ∀ a, ru = some a → 0 < mu → a.block ≠ t6 := by rw [← ht]; exact R5.ne
            have NT : t7 ≠ t6 := by have h1 := A7.lt; omega
            have D102 := D101.trans (hb.mono D101.size)
            replace R1 := R1.below hb
            replace R3 := R3.below hb
            replace R5 := R5.below hb
            replace A7 := A7.on hb
            clear hb hY ht D101
            refine hK _ _ ⟨(Ff.on D102).c0, (Ll.on D102).c0, (Ll.on D102).c1, (Lo.on D102).c0, (Lo.on D102).c1⟩ ?_
            clear hK K
            refine plist #[true, true, true, true, true, true, true, true, false, false, false] (by kernel_rfl) ?_
            refine pone 8 (by kernel_rfl) rfl fun K hK => ?_
            go_simp
            refine hK _ _ ⟨(Ff.on D102).c0, (Ll.on D102).c0, (Ll.on D102).c1, (Lo.on D102).c0, (Lo.on D102).c1⟩ ?_
            clear hK K
            refine plist #[true, true, true, true, true, true, true, true, true, false, false] (by kernel_rfl) ?_
            refine pone 9 (by kernel_rfl) rfl fun K hK => ?_
            have kf0 := A6.frozen 0
            have kf1 := A6.frozen 1
            have z0 := A6.box 0 _ rfl
            have zz1 := A6.box 1 _ rfl
            obtain ⟨Y104, hY, A6', hk, hB⟩ := A6.put (.slice qv nv cv) (.slice rv mv kv)
            go_simp
            (try rewrite [hY])
            replace R1 := RefIn.off R1 A6 NE16 (hk _ (by simp))
            replace R3 := R3.off A6 NE36 (hk _ (by simp))
            replace R5 := R5.off A6 NE56 (hk _ (by simp))
            replace A7 := A7.away (hk (fun b => b ≠ t6) (by simp)) (by omega)
            have D104 := D102.trans (hB _ HT6)
            clear hY hk hB kf0 kf1 z0 zz1 A6 NE16 NE36 NE56 D102
            have A6 := A6'
            clear A6'
            refine hK _ _ ⟨(Ff.on D104).c0, (Ll.on D104).c0, (Ll.on D104).c1, (Lo.on D104).c0, (Lo.on D104).c1⟩ ?_
            clear hK K
            refine plist #[true, true, true, true, true, true, true, true, true, true, false] (by kernel_rfl) ?_
            refine pone 10 (by kernel_rfl) rfl fun K hK => ?_
            have kf0 := A7.frozen 0
            have kf1 := A7.frozen 1
            have z0 := A7.box 0 _ rfl
            have zz1 := A7.box 1 _ rfl
            obtain ⟨Y105, hY, A7', hk, hB⟩ := A7.put (.slice qu nu cu) (.slice ru mu ku)
            go_simp
            (try rewrite [hY])
            replace R1 := RefIn.off R1 A7 NE17 (hk _ (by simp))
            replace R3 := R3.off A7 NE37 (hk _ (by simp))
            replace R5 := R5.off A7 NE57 (hk _ (by simp))
            replace A6 := A6.away (hk (fun b => b ≠ t7) (by simp)) (by omega)
            have D105 := D104.trans (hB _ HT7)
            clear hY hk hB kf0 kf1 z0 zz1 A7 NE17 NE37 NE57 D104
            have A7 := A7'
            clear A7'
            refine hK _ _ ⟨(Ff.on D105).c0, (Ll.on D105).c0, (Ll.on D105).c1, (Lo.on D105).c0, (Lo.on D105).c1⟩ ?_
            clear hK K
            refine plist #[true, true, true, true, true, true, true, true, true, true, true] (by kernel_rfl) ?_
            refine pdone (by kernel_rfl) ?_ _
            go_wp2_with fail
            go_meet
            exact ⟨⟨qw, nw, cw, rfl, R1, z1⟩, ⟨_, qv, nv, cv, rv, mv, kv, rfl, A6, R3⟩, ⟨_, qu, nu, cu, ru, mu, ku, rfl, A7, R5⟩, D105⟩
          · skip
            go_simp
            obtain ⟨t6, ht⟩ : ∃ b, Y100.heap.size = b := ⟨_, rfl⟩
            obtain ⟨Y106, hY⟩ : ∃ Z, Y100.alloc (.cells #[.slice none 0 0, .slice none 0 0] 35) = Z := ⟨_, rfl⟩
            rewrite [hY, ht]
            have hb : Below Y100.heap.size Y100 Y106 := by rw [← hY]; exact below_alloc _
            have A6 : RB t6 #[.slice none 0 0, .slice none 0 0] Y106 := by rw [← hY, ← ht]; exact RB.new _ _
            have HT6 : X7.heap.size ≤ t6 := by rw [← ht]; exact D100.size
            have NE16 : ∀ a, qw = some a → 0 < nw → a.block ≠ t6 := by rw [← ht]; exact refIn_ne R1
            have NE36 : (∀ a, qv = some a → 0 < nv → a.block ≠ t6) ∧ ∀ a, rv = some a → 0 < mv → a.block ≠ t6 := by rw [← ht]; exact R3.ne
            have NT : t7 ≠ t6 := by have h1 := A7.lt; omega
            have D106 := D100.trans (hb.mono D100.size)
            replace R1 := R1.below hb
            replace R3 := R3.below hb
            replace A7 := A7.on hb
            clear hb hY ht D100
            refine hK _ _ ⟨(Ff.on D106).c0, (Ll.on D106).c0, (Ll.on D106).c1, (Lo.on D106).c0, (Lo.on D106).c1⟩ ?_
            clear hK K
            refine plist #[true, true, true, true, true, false, true, true, false, false, false] (by kernel_rfl) ?_
            refine pone 5 (by kernel_rfl) rfl fun K hK => ?_
            have con := HRC.out Y106 _ o (Lo.on D106).2 fo
            go_simp
            refine con.mono ?_
            rintro e Y107 ⟨qu, nu, cu, ru, mu, ku, rfl, R5, h5, h5', hb⟩
            have NE57 : (∀ a, qu = some a → 0 < nu → a.block ≠ t7) ∧ ∀ a, ru = some a → 0 < mu → a.block ≠ t7 := ⟨fun a h _ => by have h1 := h5 a h; have h2 := A7.lt; omega, fun a h _ => by have h1 := h5' a h; have h2 := A7.lt; omega⟩
            have NE56 : (∀ a, qu = some a → 0 < nu → a.block ≠ t6) ∧ ∀ a, ru = some a → 0 < mu → a.block ≠ t6 := ⟨fun a h _ => by have h1 := h5 a h; have h2 := A6.lt; omega, fun a h _ => by have h1 := h5' a h; have h2 := A6.lt; omega⟩
            have D107 := D106.trans (hb.mono D106.size)
            replace R1 := R1.below hb
            replace R3 := R3.below hb
            replace A7 := A7.on hb
            replace A6 := A6.on hb
            clear con hb h5 h5' D106
            refine hK _ _ ⟨(Ff.on D107).c0, (Ll.on D107).c0, (Ll.on D107).c1, (Lo.on D107).c0, (Lo.on D107).c1⟩ ?_
            clear hK K
            refine plist #[true, true, true, true, true, true, true, true, false, false, false] (by kernel_rfl) ?_
            refine pone 8 (by kernel_rfl) rfl fun K hK => ?_
            go_simp
            refine hK _ _ ⟨(Ff.on D107).c0, (Ll.on D107).c0, (Ll.on D107).c1, (Lo.on D107).c0, (Lo.on D107).c1⟩ ?_
            clear hK K
            refine plist #[true, true, true, true, true, true, true, true, true, false, false] (by kernel_rfl) ?_
            refine pone 9 (by kernel_rfl) rfl fun K hK => ?_
            have kf0 := A6.frozen 0
            have kf1 := A6.frozen 1
            have z0 := A6.box 0 _ rfl
            have zz1 := A6.box 1 _ rfl
            obtain ⟨Y109, hY, A6', hk, hB⟩ := A6.put (.slice qv nv cv) (.slice rv mv kv)
            go_simp
            (try rewrite [hY])
            replace R1 := RefIn.off R1 A6 NE16 (hk _ (by simp))
            replace R3 := R3.off A6 NE36 (hk _ (by simp))
            replace R5 := R5.off A6 NE56 (hk _ (by simp))
            replace A7 := A7.away (hk (fun b => b ≠ t6) (by simp)) (by omega)
            have D109 := D107.trans (hB _ HT6)
            clear hY hk hB kf0 kf1 z0 zz1 A6 NE16 NE36 NE56 D107
            have A6 := A6'
            clear A6'
            refine hK _ _ ⟨(Ff.on D109).c0, (Ll.on D109).c0, (Ll.on D109).c1, (Lo.on D109).c0, (Lo.on D109).c1⟩ ?_
            clear hK K
            refine plist #[true, true, true, true, true, true, true, true, true, true, false] (by kernel_rfl) ?_
            refine pone 10 (by kernel_rfl) rfl fun K hK => ?_
            have kf0 := A7.frozen 0
            have kf1 := A7.frozen 1
            have z0 := A7.box 0 _ rfl
            have zz1 := A7.box 1 _ rfl
            obtain ⟨Y110, hY, A7', hk, hB⟩ := A7.put (.slice qu nu cu) (.slice ru mu ku)
            go_simp
            (try rewrite [hY])
            replace R1 := RefIn.off R1 A7 NE17 (hk _ (by simp))
            replace R3 := R3.off A7 NE37 (hk _ (by simp))
            replace R5 := R5.off A7 NE57 (hk _ (by simp))
            replace A6 := A6.away (hk (fun b => b ≠ t7) (by simp)) (by omega)
            have D110 := D109.trans (hB _ HT7)
            clear hY hk hB kf0 kf1 z0 zz1 A7 NE17 NE37 NE57 D109
            have A7 := A7'
            clear A7'
            refine hK _ _ ⟨(Ff.on D110).c0, (Ll.on D110).c0, (Ll.on D110).c1, (Lo.on D110).c0, (Lo.on D110).c1⟩ ?_
            clear hK K
            refine plist #[true, true, true, true, true, true, true, true, true, true, true] (by kernel_rfl) ?_
            refine pdone (by kernel_rfl) ?_ _
            go_wp2_with fail
            go_meet
            exact ⟨⟨qw, nw, cw, rfl, R1, z1⟩, ⟨_, qv, nv, cv, rv, mv, kv, rfl, A6, R3⟩, ⟨_, qu, nu, cu, ru, mu, ku, rfl, A7, R5⟩, D110⟩
        · skip
          go_simp
          obtain ⟨t6, ht⟩ : ∃ b, Y99.heap.size = b := ⟨_, rfl⟩
          obtain ⟨Y111, hY⟩ : ∃ Z, Y99.alloc (.cells #[.slice none 0 0, .slice none 0 0] 35) = Z := ⟨_, rfl⟩
          rewrite [hY, ht]
          have hb : Below Y99.heap.size Y99 Y111 := by rw [← hY]; exact below_alloc _
          have A6 : RB t6 #[.slice none 0 0, .slice none 0 0] Y111 := by rw [← hY, ← ht]; exact RB.new _ _
          have HT6 : X7.heap.size ≤ t6 := by rw [← ht]; exact D99.size
          have NE16 : ∀ a, qw = some a → 0 < nw → a.block ≠ t6 := by rw [← ht]; exact refIn_ne R1
          have NT : t7 ≠ t6 := by have h1 := A7.lt; omega
          have D111 := D99.trans (hb.mono D99.size)
          replace R1 := R1.below hb
          replace A7 := A7.on hb
          clear hb hY ht D99
          refine hK _ _ ⟨(Ff.on D111).c0, (Ll.on D111).c0, (Ll.on D111).c1, (Lo.on D111).c0, (Lo.on D111).c1⟩ ?_
          clear hK K
          refine plist #[true, true, true, false, true, false, true, true, false, false, false] (by kernel_rfl) ?_
          refine pone 3 (by kernel_rfl) rfl fun K hK => ?_
          have con := HRC.out Y111 _ l (Ll.on D111).2 fl
          go_simp
          refine con.mono ?_
          rintro e Y112 ⟨qv, nv, cv, rv, mv, kv, rfl, R3, h3, h3', hb⟩
          have NE37 : (∀ a, qv = some a → 0 < nv → a.block ≠ t7) ∧ ∀ a, rv = some a → 0 < mv → a.block ≠ t7 := ⟨fun a h _ => by have h1 := h3 a h; have h2 := A7.lt; omega, fun a h _ => by have h1 := h3' a h; have h2 := A7.lt; omega⟩
          have NE36 : (∀ a, qv = some a → 0 < nv → a.block ≠ t6) ∧ ∀ a, rv = some a → 0 < mv → a.block ≠ t6 := ⟨fun a h _ => by have h1 := h3 a h; have h2 := A6.lt; omega, fun a h _ => by have h1 := h3' a h; have h2 := A6.lt; omega⟩
          have D112 := D111.trans (hb.mono D111.size)
          replace R1 := R1.below hb
          replace A7 := A7.on hb
          replace A6 := A6.on hb
          clear con hb h3 h3' D111
          refine hK _ _ ⟨(Ff.on D112).c0, (Ll.on D112).c0, (Ll.on D112).c1, (Lo.on D112).c0, (Lo.on D112).c1⟩ ?_
          clear hK K
          refine plist #[true, true, true, true, true, false, true, true, false, false, false] (by kernel_rfl) ?_
          refine pone 5 (by kernel_rfl) rfl fun K hK => ?_
          have con := HRC.out Y112 _ o (Lo.on D112).2 fo
          go_simp
          refine con.mono ?_
          rintro e Y113 ⟨qu, nu, cu, ru, mu, ku, rfl, R5, h5, h5', hb⟩
          have NE57 : (∀ a, qu = some a → 0 < nu → a.block ≠ t7) ∧ ∀ a, ru = some a → 0 < mu → a.block ≠ t7 := ⟨fun a h _ => by have h1 := h5 a h; have h2 := A7.lt; omega, fun a h _ => by have h1 := h5' a h; have h2 := A7.lt; omega⟩
          have NE56 : (∀ a, qu = some a → 0 < nu → a.block ≠ t6) ∧ ∀ a, ru = some a → 0 < mu → a.block ≠ t6 := ⟨fun a h _ => by have h1 := h5 a h; have h2 := A6.lt; omega, fun a h _ => by have h1 := h5' a h; have h2 := A6.lt; omega⟩
          have D113 := D112.trans (hb.mono D112.size)
          replace R1 := R1.below hb
          replace R3 := R3.below hb
          replace A7 := A7.on hb
          replace A6 := A6.on hb
          clear con hb h5 h5' D112
          refine hK _ _ ⟨(Ff.on D113).c0, (Ll.on D113).c0, (Ll.on D113).c1, (Lo.on D113).c0, (Lo.on D113).c1⟩ ?_
          clear hK K
          refine plist #[true, true, true, true, true, true, true, true, false, false, false] (by kernel_rfl) ?_
          refine pone 8 (by kernel_rfl) rfl fun K hK => ?_
          go_simp
          refine hK _ _ ⟨(Ff.on D113).c0, (Ll.on D113).c0, (Ll.on D113).c1, (Lo.on D113).c0, (Lo.on D113).c1⟩ ?_
          clear hK K
          refine plist #[true, true, true, true, true, true, true, true, true, false, false] (by kernel_rfl) ?_
          refine pone 9 (by kernel_rfl) rfl fun K hK => ?_
          have kf0 := A6.frozen 0
          have kf1 := A6.frozen 1
          have z0 := A6.box 0 _ rfl
          have zz1 := A6.box 1 _ rfl
          obtain ⟨Y115, hY, A6', hk, hB⟩ := A6.put (.slice qv nv cv) (.slice rv mv kv)
          go_simp
          (try rewrite [hY])
          replace R1 := RefIn.off R1 A6 NE16 (hk _ (by simp))
          replace R3 := R3.off A6 NE36 (hk _ (by simp))
          replace R5 := R5.off A6 NE56 (hk _ (by simp))
          replace A7 := A7.away (hk (fun b => b ≠ t6) (by simp)) (by omega)
          have D115 := D113.trans (hB _ HT6)
          clear hY hk hB kf0 kf1 z0 zz1 A6 NE16 NE36 NE56 D113
          have A6 := A6'
          clear A6'
          refine hK _ _ ⟨(Ff.on D115).c0, (Ll.on D115).c0, (Ll.on D115).c1, (Lo.on D115).c0, (Lo.on D115).c1⟩ ?_
          clear hK K
          refine plist #[true, true, true, true, true, true, true, true, true, true, false] (by kernel_rfl) ?_
          refine pone 10 (by kernel_rfl) rfl fun K hK => ?_
          have kf0 := A7.frozen 0
          have kf1 := A7.frozen 1
          have z0 := A7.box 0 _ rfl
          have zz1 := A7.box 1 _ rfl
          obtain ⟨Y116, hY, A7', hk, hB⟩ := A7.put (.slice qu nu cu) (.slice ru mu ku)
          go_simp
          (try rewrite [hY])
          replace R1 := RefIn.off R1 A7 NE17 (hk _ (by simp))
          replace R3 := R3.off A7 NE37 (hk _ (by simp))
          replace R5 := R5.off A7 NE57 (hk _ (by simp))
          replace A6 := A6.away (hk (fun b => b ≠ t7) (by simp)) (by omega)
          have D116 := D115.trans (hB _ HT7)
          clear hY hk hB kf0 kf1 z0 zz1 A7 NE17 NE37 NE57 D115
          have A7 := A7'
          clear A7'
          refine hK _ _ ⟨(Ff.on D116).c0, (Ll.on D116).c0, (Ll.on D116).c1, (Lo.on D116).c0, (Lo.on D116).c1⟩ ?_
          clear hK K
          refine plist #[true, true, true, true, true, true, true, true, true, true, true] (by kernel_rfl) ?_
          refine pdone (by kernel_rfl) ?_ _
          go_wp2_with fail
          go_meet
          exact ⟨⟨qw, nw, cw, rfl, R1, z1⟩, ⟨_, qv, nv, cv, rv, mv, kv, rfl, A6, R3⟩, ⟨_, qu, nu, cu, ru, mu, ku, rfl, A7, R5⟩, D116⟩
      · skip
        go_simp
        obtain ⟨t6, ht⟩ : ∃ b, Y98.heap.size = b := ⟨_, rfl⟩
        obtain ⟨Y117, hY⟩ : ∃ Z, Y98.alloc (.cells #[.slice none 0 0, .slice none 0 0] 35) = Z := ⟨_, rfl⟩
        rewrite [hY, ht]
        have hb : Below Y98.heap.size Y98 Y117 := by rw [← hY]; exact below_alloc _
        have A6 : RB t6 #[.slice none 0 0, .slice none 0 0] Y117 := by rw [← hY, ← ht]; exact RB.new _ _
        have HT6 : X7.heap.size ≤ t6 := by rw [← ht]; exact D98.size
        have NT : t7 ≠ t6 := by have h1 := A7.lt; omega
        have D117 := D98.trans (hb.mono D98.size)
        replace A7 := A7.on hb
        clear hb hY ht D98
        refine hK _ _ ⟨(Ff.on D117).c0, (Ll.on D117).c0, (Ll.on D117).c1, (Lo.on D117).c0, (Lo.on D117).c1⟩ ?_
        clear hK K
        refine plist #[true, false, true, false, true, false, true, true, false, false, false] (by kernel_rfl) ?_
        refine pone 1 (by kernel_rfl) rfl fun K hK => ?_
        have con := HRF.out Y117 (Ff.on D117).2
        go_simp
        refine con.mono ?_
        rintro e Y118 ⟨qw, nw, cw, rfl, R1, k1, z1, hb⟩
        have NE17 : ∀ a, qw = some a → 0 < nw → a.block ≠ t7 := fun a h _ => by have h1 := k1 a h; have h2 := A7.lt; omega
        have NE16 : ∀ a, qw = some a → 0 < nw → a.block ≠ t6 := fun a h _ => by have h1 := k1 a h; have h2 := A6.lt; omega
        have D118 := D117.trans (hb.mono D117.size)
        replace A7 := A7.on hb
        replace A6 := A6.on hb
        clear con hb k1 D117
        refine hK _ _ ⟨(Ff.on D118).c0, (Ll.on D118).c0, (Ll.on D118).c1, (Lo.on D118).c0, (Lo.on D118).c1⟩ ?_
        clear hK K
        refine plist #[true, true, true, false, true, false, true, true, false, false, false] (by kernel_rfl) ?_
        refine pone 3 (by kernel_rfl) rfl fun K hK => ?_
        have con := HRC.out Y118 _ l (Ll.on D118).2 fl
        go_simp
        refine con.mono ?_
        rintro e Y119 ⟨qv, nv, cv, rv, mv, kv, rfl, R3, h3, h3', hb⟩
        have NE37 : (∀ a, qv = some a → 0 < nv → a.block ≠ t7) ∧ ∀ a, rv = some a → 0 < mv → a.block ≠ t7 := ⟨fun a h _ => by have h1 := h3 a h; have h2 := A7.lt; omega, fun a h _ => by have h1 := h3' a h; have h2 := A7.lt; omega⟩
        have NE36 : (∀ a, qv = some a → 0 < nv → a.block ≠ t6) ∧ ∀ a, rv = some a → 0 < mv → a.block ≠ t6 := ⟨fun a h _ => by have h1 := h3 a h; have h2 := A6.lt; omega, fun a h _ => by have h1 := h3' a h; have h2 := A6.lt; omega⟩
        have D119 := D118.trans (hb.mono D118.size)
        replace R1 := R1.below hb
        replace A7 := A7.on hb
        replace A6 := A6.on hb
        clear con hb h3 h3' D118
        refine hK _ _ ⟨(Ff.on D119).c0, (Ll.on D119).c0, (Ll.on D119).c1, (Lo.on D119).c0, (Lo.on D119).c1⟩ ?_
        clear hK K
        refine plist #[true, true, true, true, true, false, true, true, false, false, false] (by kernel_rfl) ?_
        refine pone 5 (by kernel_rfl) rfl fun K hK => ?_
        have con := HRC.out Y119 _ o (Lo.on D119).2 fo
        go_simp
        refine con.mono ?_
        rintro e Y120 ⟨qu, nu, cu, ru, mu, ku, rfl, R5, h5, h5', hb⟩
        have NE57 : (∀ a, qu = some a → 0 < nu → a.block ≠ t7) ∧ ∀ a, ru = some a → 0 < mu → a.block ≠ t7 := ⟨fun a h _ => by have h1 := h5 a h; have h2 := A7.lt; omega, fun a h _ => by have h1 := h5' a h; have h2 := A7.lt; omega⟩
        have NE56 : (∀ a, qu = some a → 0 < nu → a.block ≠ t6) ∧ ∀ a, ru = some a → 0 < mu → a.block ≠ t6 := ⟨fun a h _ => by have h1 := h5 a h; have h2 := A6.lt; omega, fun a h _ => by have h1 := h5' a h; have h2 := A6.lt; omega⟩
        have D120 := D119.trans (hb.mono D119.size)
        replace R1 := R1.below hb
        replace R3 := R3.below hb
        replace A7 := A7.on hb
        replace A6 := A6.on hb
        clear con hb h5 h5' D119
        refine hK _ _ ⟨(Ff.on D120).c0, (Ll.on D120).c0, (Ll.on D120).c1, (Lo.on D120).c0, (Lo.on D120).c1⟩ ?_
        clear hK K
        refine plist #[true, true, true, true, true, true, true, true, false, false, false] (by kernel_rfl) ?_
        refine pone 8 (by kernel_rfl) rfl fun K hK => ?_
        go_simp
        refine hK _ _ ⟨(Ff.on D120).c0, (Ll.on D120).c0, (Ll.on D120).c1, (Lo.on D120).c0, (Lo.on D120).c1⟩ ?_
        clear hK K
        refine plist #[true, true, true, true, true, true, true, true, true, false, false] (by kernel_rfl) ?_
        refine pone 9 (by kernel_rfl) rfl fun K hK => ?_
        have kf0 := A6.frozen 0
        have kf1 := A6.frozen 1
        have z0 := A6.box 0 _ rfl
        have zz1 := A6.box 1 _ rfl
        obtain ⟨Y122, hY, A6', hk, hB⟩ := A6.put (.slice qv nv cv) (.slice rv mv kv)
        go_simp
        (try rewrite [hY])
        replace R1 := RefIn.off R1 A6 NE16 (hk _ (by simp))
        replace R3 := R3.off A6 NE36 (hk _ (by simp))
        replace R5 := R5.off A6 NE56 (hk _ (by simp))
        replace A7 := A7.away (hk (fun b => b ≠ t6) (by simp)) (by omega)
        have D122 := D120.trans (hB _ HT6)
        clear hY hk hB kf0 kf1 z0 zz1 A6 NE16 NE36 NE56 D120
        have A6 := A6'
        clear A6'
        refine hK _ _ ⟨(Ff.on D122).c0, (Ll.on D122).c0, (Ll.on D122).c1, (Lo.on D122).c0, (Lo.on D122).c1⟩ ?_
        clear hK K
        refine plist #[true, true, true, true, true, true, true, true, true, true, false] (by kernel_rfl) ?_
        refine pone 10 (by kernel_rfl) rfl fun K hK => ?_
        have kf0 := A7.frozen 0
        have kf1 := A7.frozen 1
        have z0 := A7.box 0 _ rfl
        have zz1 := A7.box 1 _ rfl
        obtain ⟨Y123, hY, A7', hk, hB⟩ := A7.put (.slice qu nu cu) (.slice ru mu ku)
        go_simp
        (try rewrite [hY])
        replace R1 := RefIn.off R1 A7 NE17 (hk _ (by simp))
        replace R3 := R3.off A7 NE37 (hk _ (by simp))
        replace R5 := R5.off A7 NE57 (hk _ (by simp))
        replace A6 := A6.away (hk (fun b => b ≠ t7) (by simp)) (by omega)
        have D123 := D122.trans (hB _ HT7)
        clear hY hk hB kf0 kf1 z0 zz1 A7 NE17 NE37 NE57 D122
        have A7 := A7'
        clear A7'
        refine hK _ _ ⟨(Ff.on D123).c0, (Ll.on D123).c0, (Ll.on D123).c1, (Lo.on D123).c0, (Lo.on D123).c1⟩ ?_
        clear hK K
        refine plist #[true, true, true, true, true, true, true, true, true, true, true] (by kernel_rfl) ?_
        refine pdone (by kernel_rfl) ?_ _
        go_wp2_with fail
        go_meet
        exact ⟨⟨qw, nw, cw, rfl, R1, z1⟩, ⟨_, qv, nv, cv, rv, mv, kv, rfl, A6, R3⟩, ⟨_, qu, nu, cu, ru, mu, ku, rfl, A7, R5⟩, D123⟩
  case rest =>
  obtain ⟨⟨qw, nw, cw, rfl, Rw, zw⟩, ⟨bv, qv, nv, cv, rv, mv, kv, rfl, Rv⟩, ⟨bu, qu, nu, cu, ru, mu, ku, rfl, Ru⟩, hb⟩ := hcut
  have B_8 := B_7.trans (hb.mono B_7.size)
  replace Ff := Ff.on hb
  replace Ll := Ll.on hb
  replace Lo := Lo.on hb
  clear hb B_7 HRC HRF
  generalize wc = X8 at *
  have xRv0 := Rv.c0
  have xRv1 := Rv.c1
  have xRu0 := Ru.c0
  have xRu1 := Ru.c1
  obtain ⟨X9, hX9⟩ : ∃ Z, X8.alloc (.cells #[.slice qw nw cw, .slice qv nv cv, .slice rv mv kv, .slice qu nu cu, .slice ru mu ku] 32) = Z := ⟨_, rfl⟩
  have hb : Below X8.heap.size X8 X9 := by rw [← hX9]; exact below_alloc _
  have hcell := cell_five X8 32 (.slice qw nw cw) (.slice qv nv cv) (.slice rv mv kv) (.slice qu nu cu) (.slice ru mu ku)
  rw [hX9] at hcell
  have hsz : X8.heap.size < X9.heap.size := by rw [← hX9]; simp
  have B_9 := B_8.trans (hb.mono B_8.size)
  replace Ff := Ff.on hb
  replace Ll := Ll.on hb
  replace Lo := Lo.on hb
  replace Rv := Rv.on hb
  replace Ru := Ru.on hb
  replace Rw := Rw.below hb
  obtain ⟨p7, p7'⟩ := Rv.parts
  obtain ⟨p8, p8'⟩ := Ru.parts
  have nwl : nw ≤ 16 := by rw [← Rw.len]; exact ff
  have nvl : nv ≤ 16 := by rw [← p7.len]; exact fl.1
  have mvl : mv ≤ 16 := by rw [← p7'.len]; exact fl.2
  have nul : nu ≤ 16 := by rw [← p8.len]; exact fo.1
  have mul : mu ≤ 16 := by rw [← p8'.len]; exact fo.2
  have con := refPrinN_any X8.heap.size [((qw, nw, cw), f), ((qv, nv, cv), l.s), ((rv, mv, kv), l.i), ((qu, nu, cu), o.s), ((ru, mu, ku), o.i)] X9 5 rfl (by decide) (by decide) hsz
    (fun k r h => by
      rcases k with _ | _ | _ | _ | _ | k
      · cases h; exact hcell 0 _ rfl
      · cases h; exact hcell 1 _ rfl
      · cases h; exact hcell 2 _ rfl
      · cases h; exact hcell 3 _ rfl
      · cases h; exact hcell 4 _ rfl
      · simp at h)
    (fun r h => by
      simp only [List.mem_cons, List.not_mem_nil, or_false] at h
      rcases h with rfl | rfl | rfl | rfl | rfl
      · exact ⟨Rw, nwl⟩
      · exact ⟨p7, nvl⟩
      · exact ⟨p7', mvl⟩
      · exact ⟨p8, nul⟩
      · exact ⟨p8', mul⟩)
  have HX9 := Lib.hid hX9
  clear hX9 hb hcell hsz B_8 p7 p7' p8 p8'
  go_wp2_with fail
  rw [HX9.out]
  refine con.mono ?_
  rintro e X10 ⟨q9, n9, c9, rfl, s9, hb⟩
  have B_10 := B_9.trans (hb.mono B_9.size)
  replace Ff := Ff.on hb
  replace Ll := Ll.on hb
  replace Lo := Lo.on hb
  replace Rv := Rv.on hb
  replace Ru := Ru.on hb
  replace Rw := Rw.below hb
  replace s9 : SlIn encStr X10 q9 n9 (namesA [f, l.s, l.i, o.s, o.i]) := s9
  clear con hb B_9 HX9 xRv0 xRv1 xRu0 xRu1
  by_cases hnb : 8 < n9
  · have d1 : decide ((8 : Int) < (n9 : Int)) = true := by simp; omega
    clear Ff Ll Lo Rv Ru Rw s9 nwl nvl mvl nul mul fl fo ff
    go_wp2
    go_ret
    exact ⟨rfl, B_10⟩
  have d1 : decide ((8 : Int) < (n9 : Int)) = false := by simp; omega
  have hn9 : n9 ≤ 8 := by omega
  have HN9 := Lib.hid s9.1
  generalize namesA [f, l.s, l.i, o.s, o.i] = names at *
  clear hnb
  go_wp2_with fail
  have hM : 2 ^ n9 ≤ 256 := pow8 n9 hn9
  have hpw := pow_wrap n9 hn9
  rw [hpw]
  rw [HN9.out] at HFW
  clear hpw d1
  generalize 2 ^ n9 = M at hM HFW ⊢
  obtain ⟨p7, p7'⟩ := Rv.parts
  obtain ⟨p8, p8'⟩ := Ru.parts
  have HQ0 := Lib.hid (fun k (hk : k < 256) => refHolds_any qw nw cw f q9 n9 c9 names k X10 Rw s9 hk hn9 (by omega))
  have HQ1 := Lib.hid (fun k (hk : k < 256) => refHolds_any qu nu cu o.s q9 n9 c9 names k X10 p8 s9 hk hn9 (by omega))
  have HQ2 := Lib.hid (fun k (hk : k < 256) => refHolds_any qv nv cv l.s q9 n9 c9 names k X10 p7 s9 hk hn9 (by omega))
  have HQ3 := Lib.hid (fun k (hk : k < 256) => refHolds_any rv mv kv l.i q9 n9 c9 names k X10 p7' s9 hk hn9 (by omega))
  have HQ4 := Lib.hid (fun k (hk : k < 256) => refHolds_any ru mu ku o.i q9 n9 c9 names k X10 p8' s9 hk hn9 (by omega))
  have xRv0 := Rv.c0
  have xRv1 := Rv.c1
  have xRu0 := Ru.c0
  have xRu1 := Ru.c1
  clear p7 p7' p8 p8' s9 Rv Ru Rw nwl nvl mvl nul mul
  go_loop [14, 47] (fun s14 i => ∃ k : Nat, k ≤ M ∧ i = .int .i64 k ∧ s14 = .bool (byK f l o names k)) (fun _ i => M - (intOf i).toNat)
  case atStart => exact ⟨0, Nat.zero_le _, rfl, by rw [HF0.out]⟩
  case round =>
    obtain ⟨k, hk, rfl, rfl⟩ := hrel
    by_cases hlt : k < M
    · have hi := Lib.hid (HFS.out k)
      have con0 := Lib.hid (HQ0.out k (by omega))
      have con1 := Lib.hid (HQ1.out k (by omega))
      have con2 := Lib.hid (HQ2.out k (by omega))
      have con3 := Lib.hid (HQ3.out k (by omega))
      have con4 := Lib.hid (HQ4.out k (by omega))
      have HB := Lib.hid B_10
      clear Ff Ll Lo B_10
      generalize holdsB f (setB names k) = WW at hi con0
      generalize holdsB o.s (setB names k) = P at hi con1
      generalize holdsB l.s (setB names k) = Q at hi con2
      generalize holdsB l.i (setB names k) = U at hi con3
      generalize holdsB o.i (setB names k) = V at hi con4
      generalize byK f l o names k = m1 at hi ⊢
      obtain ⟨m2, hm2⟩ : ∃ b, byK f l o names (k + 1) = b := ⟨_, rfl⟩
      rw [hm2] at hi
      have HM2 := Lib.hid hm2
      clear hm2 HFW HFS HF0 HQ0 HQ1 HQ2 HQ3 HQ4
      have con := con0.out
      go_wp2_with fail
      refine con.mono ?_
      rintro e Y1 ⟨rfl, rfl⟩
      clear con
      cases WW with
      | false =>
        go_wp2
        go_round
        case rel => exact ⟨k + 1, by omega, by go_num, by rw [HM2.out, hi.out]; first | rfl | simp⟩
        case measure => simp [intOf]; omega
      | true =>
        cases m1 with
        | false =>
          go_wp2
          go_round
          case rel => exact ⟨k + 1, by omega, by go_num, by rw [HM2.out, hi.out]; first | rfl | simp⟩
          case measure => simp [intOf]; omega
        | true =>
          have con := con1.out
          go_wp2_with fail
          refine con.mono ?_
          rintro e Y1 ⟨rfl, rfl⟩
          clear con
          cases P with
          | false =>
            have con := con3.out
            go_wp2_with fail
            refine con.mono ?_
            rintro e Y1 ⟨rfl, rfl⟩
            clear con
            cases U with
            | false =>
              go_wp2
              go_round
              case rel => exact ⟨k + 1, by omega, by go_num, by rw [HM2.out, hi.out]; first | rfl | simp⟩
              case measure => simp [intOf]; omega
            | true =>
              have con := con4.out
              go_wp2_with fail
              refine con.mono ?_
              rintro e Y1 ⟨rfl, rfl⟩
              clear con
              cases V with
              | false =>
                go_wp2
                go_round
                case rel => exact ⟨k + 1, by omega, by go_num, by rw [HM2.out, hi.out]; first | rfl | simp⟩
                case measure => simp [intOf]; omega
              | true =>
                go_wp2
                go_round
                case rel => exact ⟨k + 1, by omega, by go_num, by rw [HM2.out, hi.out]; first | rfl | simp⟩
                case measure => simp [intOf]; omega
          | true =>
            have con := con2.out
            go_wp2_with fail
            refine con.mono ?_
            rintro e Y1 ⟨rfl, rfl⟩
            clear con
            cases Q with
            | false =>
              go_wp2
              go_round
              case rel => exact ⟨k + 1, by omega, by go_num, by rw [HM2.out, hi.out]; first | rfl | simp⟩
              case measure => simp [intOf]; omega
            | true =>
              have con := con3.out
              go_wp2_with fail
              refine con.mono ?_
              rintro e Y1 ⟨rfl, rfl⟩
              clear con
              cases U with
              | false =>
                go_wp2
                go_round
                case rel => exact ⟨k + 1, by omega, by go_num, by rw [HM2.out, hi.out]; first | rfl | simp⟩
                case measure => simp [intOf]; omega
              | true =>
                have con := con4.out
                go_wp2_with fail
                refine con.mono ?_
                rintro e Y1 ⟨rfl, rfl⟩
                clear con
                cases V with
                | false =>
                  go_wp2
                  go_round
                  case rel => exact ⟨k + 1, by omega, by go_num, by rw [HM2.out, hi.out]; first | rfl | simp⟩
                  case measure => simp [intOf]; omega
                | true =>
                  go_wp2
                  go_round
                  case rel => exact ⟨k + 1, by omega, by go_num, by rw [HM2.out, hi.out]; first | rfl | simp⟩
                  case measure => simp [intOf]; omega
    · obtain rfl : k = M := by omega
      have hF := Lib.hid HFW.out
      rw [hF.out]
      have con := Prv.Flows_any _ _ _ f l o X10 Ff.2 Ll.2 Lo.2 ff fl fo
      have xFf0 := Ff.c0
      have xLl0 := Ll.c0
      have xLl1 := Ll.c1
      have xLo0 := Lo.c0
      have xLo1 := Lo.c1
      clear HFW HFS HF0 HQ0 HQ1 HQ2 HQ3 HQ4 hF xRv0 xRv1 xRu0 xRu1
      generalize flowsBy f l o = m1 at con ⊢
      have e1 : (m1 == m1) = true := by cases m1 <;> rfl
      go_wp2_with fail
      refine con.mono ?_
      rintro e Y1 ⟨rfl, hb⟩
      have B_91 := B_10.trans (hb.mono B_10.size)
      clear con hb B_10 xFf0 xLl0 xLl1 xLo0 xLo1 Ff Ll Lo
      go_wp2
      go_ret
      exact ⟨by first | rfl | simp, B_91⟩

theorem proved : Rows.PrivMeansCardSaid := card walk
end Go.Proofs.YtpabhppghljipaaGreatDoor.privMeans
