/- CookieBack: the law returns true at whatever input, and writes nothing that was there: its tied card. Conditions: none. -/
import Derived.Test.YtdbpbfbjebjbeaaDoorBaseD
import Derived.Deep.DeepCutAuto
namespace Go.Proofs.YtdbpbfbjebjbeaaDoor.cookieBack
open Go.RowKit Go.Shelf Url Ck
attribute [local go_sem] Oper.semAt_some
set_option linter.unusedVariables false

theorem row_by {w : World} {a : Option Addr} {len cap : Nat} {zs : List Int} (h : IsRow .u8 w a len cap zs) : ∃ bs : List UInt8, By w (.slice a len cap) bs := by
  rcases h with ⟨rfl, rfl, rfl, rfl⟩ | ⟨x, rfl, h1, h2, h3, h4, h5⟩
  · exact ⟨[], by_nil w⟩
  · have hz : ∀ i, i < len → (Lib.numsL (Lib.bytesOf (zs.take len))).getD i 0 = zs.getD i 0 := fun i hi => by
      have hi' : i < zs.length := by omega
      have hw := bounds_u8 (h5 _ (List.getElem_mem hi'))
      have : (Lib.bytesOf (zs.take len)).getD i 0 = UInt8.ofNat (zs[i]).toNat := by
        simp [Lib.bytesOf, List.getD, hi, List.getElem?_eq_getElem hi']
      rw [numsL_getD _ _ (by simp [Lib.bytesOf]; omega), this, List.getD, List.getElem?_eq_getElem hi']
      simp only [Option.getD_some, UInt8.toNat_ofNat']
      omega
    refine ⟨Lib.bytesOf (zs.take len), By.of (by simp [Lib.bytesOf]; omega) h1 h2 (fun h => by cases h) (Lib.BytesIn.of_cells fun i hi => ?_)⟩
    rw [hz i hi]
    exact h4 i (by omega)


set_option maxRecDepth 100000 in
set_option maxHeartbeats 32000000 in
theorem walk : Walks := by
  intro a0 len0 cap0 z0 a1 len1 cap1 z1 w w0 w1 hG
  obtain ⟨tx, hx⟩ := row_by w0
  obtain ⟨tA, hA⟩ := row_by w1
  clear w0 w1
  have hl0 := hx.at.1
  have hl1 := hA.at.1
  by_cases hbig : 300 < len0
  · have d1 : decide ((300 : Int) < (len0 : Int)) = true := by simp; omega
    clear hx hA hl0 hl1 hbig
    have con := Ck.lives_any w hG
    have HG := Lib.hid hG
    clear hG
    go_enter Tryd.func3, Tryd.ntmps3
    go_wp2_with fail
    refine con.mono ?_
    rintro e w2 ⟨rfl, hb2⟩
    have con := Ck.lives_any w2 (HG.out.on hb2)
    go_wp2_with fail
    refine con.mono ?_
    rintro e w3 ⟨rfl, hb3⟩
    go_wp2
    go_ret
    exact ⟨rfl, hb2.trans (hb3.mono hb2.size)⟩
  have d1 : decide ((300 : Int) < (len0 : Int)) = false := by simp; omega
  by_cases hbig1 : 300 < len1
  · have d2 : decide ((300 : Int) < (len1 : Int)) = true := by simp; omega
    clear hx hA hl0 hl1 hbig hbig1
    have con := Ck.lives_any w hG
    have HG := Lib.hid hG
    clear hG
    go_enter Tryd.func3, Tryd.ntmps3
    go_wp2_with fail
    refine con.mono ?_
    rintro e w2 ⟨rfl, hb2⟩
    have con := Ck.lives_any w2 (HG.out.on hb2)
    go_wp2_with fail
    refine con.mono ?_
    rintro e w3 ⟨rfl, hb3⟩
    go_wp2
    go_ret
    exact ⟨rfl, hb2.trans (hb3.mono hb2.size)⟩
  have d2 : decide ((300 : Int) < (len1 : Int)) = false := by simp; omega
  have hn : len0 ≤ 1048576 := by omega
  have HN1 := Lib.hid (show len1 ≤ 400 by omega)
  have con := Ck.lives_any w hG
  have HG := Lib.hid hG
  have HPE := Lib.hid (fun e h => parse_err tx e (by omega) h)
  have HPI := Lib.hid (fun c h => (show Ck.Ok c ∧ Small 4096 c ∧ parseC (textC c) = .inr c ∧ (textC c).length ≤ 4096 from by
    have ho := Ck.parse_ok tx c h
    have hs := parse_small tx c h
    have := Ck.text_len c tx.length hs ho.age2
    exact ⟨ho, small_le hs (by omega), parse_back tx c (by omega) h, by omega⟩))
  have HUF := Lib.hid (fun u (h : parseU tA = .inr u) => (show Url.Ok u ∧ (textU u).length ≤ 4096 from ⟨Url.parse_ok tA u h, by have := Url.text_len tA u h; omega⟩))
  clear hG hl0 hl1 hbig hbig1
  go_enter Tryd.func3, Tryd.ntmps3
  go_wp2_with fail
  refine con.mono ?_
  rintro e X1 ⟨rfl, B_1⟩
  clear con
  replace hx := hx.on B_1
  replace hA := hA.on B_1
  have con := Parse_any a0 len0 cap0 tx X1 hx hn (HG.out.on B_1)
  generalize parseC tx = R at *
  clear hx hn
  go_wp2_with fail
  refine con.mono ?_
  rintro e X2 ⟨v, rfl, hC, hb⟩
  have B_2 := B_1.trans (hb.mono B_1.size)
  replace hA := hA.on hb
  clear con hb B_1 d1 d2
  cases R with
  | inl en =>
    obtain rfl := HPE.out en rfl
    simp only [ckE, ckV] at hC ⊢
    obtain ⟨q1, n1, c1, q2, n2, c2, q3, n3, c3, rfl, h1, h2, h3⟩ := hC
    clear hA HPE HPI h1 h2 h3
    go_wp2
    go_ret
    exact ⟨rfl, B_2.trans ((below_alloc _).mono B_2.size)⟩
  | inr c =>
    obtain ⟨ho, hs, hpb, htl⟩ := HPI.out c rfl
    have HO := Lib.hid ho
    have HS := Lib.hid hs
    simp only [ckE, ckV] at hC ⊢
    obtain ⟨q1, n1, c1, q2, n2, c2, q3, n3, c3, rfl, h1, h2, h3⟩ := id hC
    obtain ⟨b5, hb5⟩ : ∃ b, X2.heap.size = b := ⟨_, rfl⟩
    obtain ⟨X3, hX3⟩ : ∃ Z, X2.alloc (.cells #[.slice q1 n1 c1, .slice q2 n2 c2, .slice q3 n3 c3, .string ⟨c.dom.toArray⟩, .int .i64 c.age, .bool c.secure] 25) = Z := ⟨_, rfl⟩
    have hb : Below X2.heap.size X2 X3 := by rw [← hX3]; exact below_alloc _
    have K5 : CX b5 q1 n1 c1 q2 n2 c2 q3 n3 c3 c X3 := by rw [← hX3, ← hb5]; exact CX.new hC
    have V5 := h2.on hb
    have V3 := h3.on hb
    have A := B_2.trans (hb.mono B_2.size)
    replace hA := hA.on hb
    have HX3 := Lib.hid hX3
    have HB5 := Lib.hid hb5
    clear hX3 hb hb5 h1 h2 h3 hC ho hs HPE HPI B_2
    have HTX := Lib.hid (fun v W (h : CkIs W v c) (hg : Gl W) => Text_any v c W h HO.out HS.out hg)
    have con := HTX.out _ _ K5.2 (HG.out.on A)
    have HTL := Lib.hid htl
    have HPB := Lib.hid hpb
    generalize textC c = T at *
    clear htl hpb
    have r0 := K5.1.box 0 _ rfl
    have r1 := K5.1.box 1 _ rfl
    have r2 := K5.1.box 2 _ rfl
    have r3 := K5.1.box 3 _ rfl
    have r4 := K5.1.box 4 _ rfl
    have r5 := K5.1.box 5 _ rfl
    rewrite [← HX3.out] at r0 r1 r2 r3 r4 r5
    go_wp2_with fail
    rewrite [HX3.out, HB5.out]
    refine con.mono ?_
    clear con r0 r1 r2 r3 r4 r5 HX3 HB5
    rintro e X4 ⟨ra, ma, da, rfl, TA, hb⟩
    replace A := A.trans (hb.mono A.size)
    replace K5 := K5.on hb
    replace V5 := V5.on hb
    replace V3 := V3.on hb
    replace hA := hA.on hb
    clear hb
    have con := Parse_any ra ma da T X4 TA (by have := TA.at.1; have := HTL.out; omega) (HG.out.on A)
    rw [HPB.out] at con
    clear TA
    go_wp2_with fail
    refine con.mono ?_
    rintro e X5 ⟨v, rfl, hC, hb⟩
    simp only [ckE, ckV] at hC ⊢
    replace A := A.trans (hb.mono A.size)
    replace K5 := K5.on hb
    replace V5 := V5.on hb
    replace V3 := V3.on hb
    replace hA := hA.on hb
    clear con hb
    obtain ⟨p1, m1, d1, p2, m2, d2, p3, m3, d3, rfl, h1, h2, h3⟩ := id hC
    obtain ⟨b7, hb7⟩ : ∃ b, X5.heap.size = b := ⟨_, rfl⟩
    obtain ⟨X6, hX6⟩ : ∃ Z, (X5.alloc (.cells #[.slice p1 m1 d1, .slice p2 m2 d2, .slice p3 m3 d3, .string ⟨c.dom.toArray⟩, .int .i64 c.age, .bool c.secure] 25)).drew = Z := ⟨_, rfl⟩
    have hb : Below X5.heap.size X5 X6 := by rw [← hX6]; exact (below_alloc _).drew
    have K7 : CX b7 p1 m1 d1 p2 m2 d2 p3 m3 d3 c X6 := by rw [← hX6, ← hb7]; exact (CX.new hC).on (Below.refl _ _).drew
    have V7 := h2.on hb
    replace A := A.trans (hb.mono A.size)
    replace K5 := K5.on hb
    replace V5 := V5.on hb
    replace V3 := V3.on hb
    replace hA := hA.on hb
    have HX6 := Lib.hid hX6
    have HB7 := Lib.hid hb7
    clear hX6 hb hb7 h1 h2 h3 hC
    go_wp2_with fail
    rewrite [HB7.out]
    refine pregion_any (fun X => (Box b7 #[.slice p1 m1 d1, .slice p2 m2 d2, .slice p3 m3 d3, .string ⟨c.dom.toArray⟩, .int .i64 c.age, .bool c.secure] X ∧ Box b5 #[.slice q1 n1 c1, .slice q2 n2 c2, .slice q3 n3 c3, .string ⟨c.dom.toArray⟩, .int .i64 c.age, .bool c.secure] X) ∧ By X (.slice p2 m2 d2) c.value ∧ By X (.slice q2 n2 c2) c.value) (by kernel_rfl) ?_
    rewrite [HX6.out]
    clear HX6 HB7
    refine wpAnyH_take (i := 0) (v := (.int .i64 0)) rfl (by kernel_rfl) (by kernel_rfl) (by kernel_rfl) (fun _ _ _ h => h) (.inl ⟨by kernel_rfl, ?_⟩) ⟨⟨K7.1.box, K5.1.box⟩, V7, V5⟩ ?_
    · rintro w ⟨⟨h7, h5⟩, v7, v5⟩; go_simp <;> omega
    refine plist #[true, false, false, false, false, false, false, false, false, false, false, false, false, false, false, false, false, false, false, false, false, false, false, false, false, false, false] (by kernel_rfl) ?_
    refine wpAnyH_take (i := 1) (v := (.bool false)) rfl (by kernel_rfl) (by kernel_rfl) (by kernel_rfl) (fun _ _ _ h => h) (.inl ⟨by kernel_rfl, ?_⟩) ⟨⟨K7.1.box, K5.1.box⟩, V7, V5⟩ ?_
    · rintro w ⟨⟨h7, h5⟩, v7, v5⟩; go_simp <;> omega
    refine plist #[true, true, false, false, false, false, false, false, false, false, false, false, false, false, false, false, false, false, false, false, false, false, false, false, false, false, false] (by kernel_rfl) ?_
    refine wpAnyH_take (i := 2) (v := (.bool false)) rfl (by kernel_rfl) (by kernel_rfl) (by kernel_rfl) (fun _ _ _ h => h) (.inl ⟨by kernel_rfl, ?_⟩) ⟨⟨K7.1.box, K5.1.box⟩, V7, V5⟩ ?_
    · rintro w ⟨⟨h7, h5⟩, v7, v5⟩; go_simp <;> omega
    refine plist #[true, true, true, false, false, false, false, false, false, false, false, false, false, false, false, false, false, false, false, false, false, false, false, false, false, false, false] (by kernel_rfl) ?_
    refine wpAnyH_take (i := 3) (v := (.agg #[.slice p1 m1 d1, .slice p2 m2 d2, .slice p3 m3 d3, .string ⟨c.dom.toArray⟩, .int .i64 c.age, .bool c.secure])) rfl (by kernel_rfl) (by kernel_rfl) (by kernel_rfl) (fun _ _ _ h => h) (.inl ⟨by kernel_rfl, ?_⟩) ⟨⟨K7.1.box, K5.1.box⟩, V7, V5⟩ ?_
    · rintro w ⟨⟨h7, h5⟩, v7, v5⟩; have x0 := h7 0 _ rfl; have x1 := h7 1 _ rfl; have x2 := h7 2 _ rfl; have x3 := h7 3 _ rfl; have x4 := h7 4 _ rfl; have x5 := h7 5 _ rfl; go_simp <;> omega
    refine plist #[true, true, true, true, false, false, false, false, false, false, false, false, false, false, false, false, false, false, false, false, false, false, false, false, false, false, false] (by kernel_rfl) ?_
    refine wpAnyH_take (i := 6) (v := (.agg #[.slice q1 n1 c1, .slice q2 n2 c2, .slice q3 n3 c3, .string ⟨c.dom.toArray⟩, .int .i64 c.age, .bool c.secure])) rfl (by kernel_rfl) (by kernel_rfl) (by kernel_rfl) (fun _ _ _ h => h) (.inl ⟨by kernel_rfl, ?_⟩) ⟨⟨K7.1.box, K5.1.box⟩, V7, V5⟩ ?_
    · rintro w ⟨⟨h7, h5⟩, v7, v5⟩; have x0 := h5 0 _ rfl; have x1 := h5 1 _ rfl; have x2 := h5 2 _ rfl; have x3 := h5 3 _ rfl; have x4 := h5 4 _ rfl; have x5 := h5 5 _ rfl; go_simp <;> omega
    refine plist #[true, true, true, true, false, false, true, false, false, false, false, false, false, false, false, false, false, false, false, false, false, false, false, false, false, false, false] (by kernel_rfl) ?_
    have con := HTX.out _ _ K7.2 (HG.out.on A)
    refine pone 4 (by kernel_rfl) rfl fun K hK => ?_
    go_simp
    refine con.mono ?_
    rintro e Wa ⟨ra, ma, da, rfl, TA, hb⟩
    have A2 := A.trans (hb.mono A.size)
    clear A
    have A := A2
    clear A2
    replace K5 := K5.on hb
    replace K7 := K7.on hb
    replace V5 := V5.on hb
    replace V7 := V7.on hb
    replace V3 := V3.on hb
    replace hA := hA.on hb
    clear con hb 
    refine hK _ _ ⟨⟨K7.1.box, K5.1.box⟩, V7, V5⟩ ?_
    clear hK K
    refine pmore (S' := fun X => ((Box b7 #[.slice p1 m1 d1, .slice p2 m2 d2, .slice p3 m3 d3, .string ⟨c.dom.toArray⟩, .int .i64 c.age, .bool c.secure] X ∧ Box b5 #[.slice q1 n1 c1, .slice q2 n2 c2, .slice q3 n3 c3, .string ⟨c.dom.toArray⟩, .int .i64 c.age, .bool c.secure] X) ∧ By X (.slice p2 m2 d2) c.value ∧ By X (.slice q2 n2 c2) c.value) ∧ By X (.slice ra ma da) T) (fun _ h => h.1) ?_
    refine plist #[true, true, true, true, true, false, true, false, false, false, false, false, false, false, false, false, false, false, false, false, false, false, false, false, false, false, false] (by kernel_rfl) ?_
    refine wpAnyH_take (i := 5) (v := (.string ⟨T.toArray⟩)) rfl (by kernel_rfl) (by kernel_rfl) (by kernel_rfl) (fun _ _ _ h => h) (.inl ⟨by kernel_rfl, ?_⟩) ⟨⟨⟨K7.1.box, K5.1.box⟩, V7, V5⟩, TA⟩ ?_
    · rintro w ⟨⟨⟨h7, h5⟩, v7, v5⟩, tA⟩; have hcv := conv_by tA; go_simp
    refine plist #[true, true, true, true, true, true, true, false, false, false, false, false, false, false, false, false, false, false, false, false, false, false, false, false, false, false, false] (by kernel_rfl) ?_
    have con := HTX.out _ _ K5.2 (HG.out.on A)
    refine pone 7 (by kernel_rfl) rfl fun K hK => ?_
    go_simp
    refine con.mono ?_
    rintro e Wb ⟨rb, mb, db, rfl, TB, hb⟩
    have A2 := A.trans (hb.mono A.size)
    clear A
    have A := A2
    clear A2
    replace K5 := K5.on hb
    replace K7 := K7.on hb
    replace V5 := V5.on hb
    replace V7 := V7.on hb
    replace V3 := V3.on hb
    replace hA := hA.on hb
    replace TA := TA.on hb
    clear con hb HTX
    refine hK _ _ ⟨⟨⟨K7.1.box, K5.1.box⟩, V7, V5⟩, TA⟩ ?_
    clear hK K
    refine pmore (S' := fun X => (((Box b7 #[.slice p1 m1 d1, .slice p2 m2 d2, .slice p3 m3 d3, .string ⟨c.dom.toArray⟩, .int .i64 c.age, .bool c.secure] X ∧ Box b5 #[.slice q1 n1 c1, .slice q2 n2 c2, .slice q3 n3 c3, .string ⟨c.dom.toArray⟩, .int .i64 c.age, .bool c.secure] X) ∧ By X (.slice p2 m2 d2) c.value ∧ By X (.slice q2 n2 c2) c.value) ∧ By X (.slice ra ma da) T) ∧ By X (.slice rb mb db) T) (fun _ h => h.1) ?_
    refine plist #[true, true, true, true, true, true, true, true, false, false, false, false, false, false, false, false, false, false, false, false, false, false, false, false, false, false, false] (by kernel_rfl) ?_
    refine wpAnyH_take (i := 8) (v := (.string ⟨T.toArray⟩)) rfl (by kernel_rfl) (by kernel_rfl) (by kernel_rfl) (fun _ _ _ h => h) (.inl ⟨by kernel_rfl, ?_⟩) ⟨⟨⟨⟨K7.1.box, K5.1.box⟩, V7, V5⟩, TA⟩, TB⟩ ?_
    · rintro w ⟨⟨⟨⟨h7, h5⟩, v7, v5⟩, tA⟩, tB⟩; have hcv := conv_by tB; go_simp
    refine plist #[true, true, true, true, true, true, true, true, true, false, false, false, false, false, false, false, false, false, false, false, false, false, false, false, false, false, false] (by kernel_rfl) ?_
    refine wpAnyH_take (i := 9) (v := (.bool false)) rfl (by kernel_rfl) (by kernel_rfl) (by kernel_rfl) (fun _ _ _ h => h) (.inl ⟨by kernel_rfl, ?_⟩) ⟨⟨⟨⟨K7.1.box, K5.1.box⟩, V7, V5⟩, TA⟩, TB⟩ ?_
    · rintro w ⟨⟨⟨⟨h7, h5⟩, v7, v5⟩, tA⟩, tB⟩; go_simp <;> omega
    refine plist #[true, true, true, true, true, true, true, true, true, true, false, false, false, false, false, false, false, false, false, false, false, false, false, false, false, false, false] (by kernel_rfl) ?_
    refine wpAnyH_take (i := 10) (v := (.bool false)) rfl (by kernel_rfl) (by kernel_rfl) (by kernel_rfl) (fun _ _ _ h => h) (.inl ⟨by kernel_rfl, ?_⟩) ⟨⟨⟨⟨K7.1.box, K5.1.box⟩, V7, V5⟩, TA⟩, TB⟩ ?_
    · rintro w ⟨⟨⟨⟨h7, h5⟩, v7, v5⟩, tA⟩, tB⟩; go_simp <;> omega
    refine plist #[true, true, true, true, true, true, true, true, true, true, true, false, false, false, false, false, false, false, false, false, false, false, false, false, false, false, false] (by kernel_rfl) ?_
    refine wpAnyH_take (i := 11) (v := (.bool false)) rfl (by kernel_rfl) (by kernel_rfl) (by kernel_rfl) (fun _ _ _ h => h) (.inl ⟨by kernel_rfl, ?_⟩) ⟨⟨⟨⟨K7.1.box, K5.1.box⟩, V7, V5⟩, TA⟩, TB⟩ ?_
    · rintro w ⟨⟨⟨⟨h7, h5⟩, v7, v5⟩, tA⟩, tB⟩; go_simp <;> omega
    refine plist #[true, true, true, true, true, true, true, true, true, true, true, true, false, false, false, false, false, false, false, false, false, false, false, false, false, false, false] (by kernel_rfl) ?_
    refine wpAnyH_take (i := 12) (v := (.pointer (some ⟨b7, 4, none⟩))) rfl (by kernel_rfl) (by kernel_rfl) (by kernel_rfl) (fun _ _ _ h => h) (.inl ⟨by kernel_rfl, ?_⟩) ⟨⟨⟨⟨K7.1.box, K5.1.box⟩, V7, V5⟩, TA⟩, TB⟩ ?_
    · rintro w ⟨⟨⟨⟨h7, h5⟩, v7, v5⟩, tA⟩, tB⟩; go_simp
    refine plist #[true, true, true, true, true, true, true, true, true, true, true, true, true, false, false, false, false, false, false, false, false, false, false, false, false, false, false] (by kernel_rfl) ?_
    refine wpAnyH_take (i := 13) (v := (.int .i64 c.age)) rfl (by kernel_rfl) (by kernel_rfl) (by kernel_rfl) (fun _ _ _ h => h) (.inl ⟨by kernel_rfl, ?_⟩) ⟨⟨⟨⟨K7.1.box, K5.1.box⟩, V7, V5⟩, TA⟩, TB⟩ ?_
    · rintro w ⟨⟨⟨⟨h7, h5⟩, v7, v5⟩, tA⟩, tB⟩; have h' := h7 4 _ rfl; go_simp
    refine plist #[true, true, true, true, true, true, true, true, true, true, true, true, true, true, false, false, false, false, false, false, false, false, false, false, false, false, false] (by kernel_rfl) ?_
    refine wpAnyH_take (i := 14) (v := (.pointer (some ⟨b5, 4, none⟩))) rfl (by kernel_rfl) (by kernel_rfl) (by kernel_rfl) (fun _ _ _ h => h) (.inl ⟨by kernel_rfl, ?_⟩) ⟨⟨⟨⟨K7.1.box, K5.1.box⟩, V7, V5⟩, TA⟩, TB⟩ ?_
    · rintro w ⟨⟨⟨⟨h7, h5⟩, v7, v5⟩, tA⟩, tB⟩; go_simp
    refine plist #[true, true, true, true, true, true, true, true, true, true, true, true, true, true, true, false, false, false, false, false, false, false, false, false, false, false, false] (by kernel_rfl) ?_
    refine wpAnyH_take (i := 15) (v := (.int .i64 c.age)) rfl (by kernel_rfl) (by kernel_rfl) (by kernel_rfl) (fun _ _ _ h => h) (.inl ⟨by kernel_rfl, ?_⟩) ⟨⟨⟨⟨K7.1.box, K5.1.box⟩, V7, V5⟩, TA⟩, TB⟩ ?_
    · rintro w ⟨⟨⟨⟨h7, h5⟩, v7, v5⟩, tA⟩, tB⟩; have h' := h5 4 _ rfl; go_simp
    refine plist #[true, true, true, true, true, true, true, true, true, true, true, true, true, true, true, true, false, false, false, false, false, false, false, false, false, false, false] (by kernel_rfl) ?_
    refine wpAnyH_take (i := 16) (v := (.bool false)) rfl (by kernel_rfl) (by kernel_rfl) (by kernel_rfl) (fun _ _ _ h => h) (.inl ⟨by kernel_rfl, ?_⟩) ⟨⟨⟨⟨K7.1.box, K5.1.box⟩, V7, V5⟩, TA⟩, TB⟩ ?_
    · rintro w ⟨⟨⟨⟨h7, h5⟩, v7, v5⟩, tA⟩, tB⟩; go_simp <;> omega
    refine plist #[true, true, true, true, true, true, true, true, true, true, true, true, true, true, true, true, true, false, false, false, false, false, false, false, false, false, false] (by kernel_rfl) ?_
    refine wpAnyH_take (i := 17) (v := (.bool false)) rfl (by kernel_rfl) (by kernel_rfl) (by kernel_rfl) (fun _ _ _ h => h) (.inl ⟨by kernel_rfl, ?_⟩) ⟨⟨⟨⟨K7.1.box, K5.1.box⟩, V7, V5⟩, TA⟩, TB⟩ ?_
    · rintro w ⟨⟨⟨⟨h7, h5⟩, v7, v5⟩, tA⟩, tB⟩; go_simp <;> omega
    refine plist #[true, true, true, true, true, true, true, true, true, true, true, true, true, true, true, true, true, true, false, false, false, false, false, false, false, false, false] (by kernel_rfl) ?_
    refine wpAnyH_take (i := 18) (v := (.bool false)) rfl (by kernel_rfl) (by kernel_rfl) (by kernel_rfl) (fun _ _ _ h => h) (.inl ⟨by kernel_rfl, ?_⟩) ⟨⟨⟨⟨K7.1.box, K5.1.box⟩, V7, V5⟩, TA⟩, TB⟩ ?_
    · rintro w ⟨⟨⟨⟨h7, h5⟩, v7, v5⟩, tA⟩, tB⟩; go_simp <;> omega
    refine plist #[true, true, true, true, true, true, true, true, true, true, true, true, true, true, true, true, true, true, true, false, false, false, false, false, false, false, false] (by kernel_rfl) ?_
    refine wpAnyH_take (i := 19) (v := (.pointer (some ⟨b7, 1, none⟩))) rfl (by kernel_rfl) (by kernel_rfl) (by kernel_rfl) (fun _ _ _ h => h) (.inl ⟨by kernel_rfl, ?_⟩) ⟨⟨⟨⟨K7.1.box, K5.1.box⟩, V7, V5⟩, TA⟩, TB⟩ ?_
    · rintro w ⟨⟨⟨⟨h7, h5⟩, v7, v5⟩, tA⟩, tB⟩; go_simp
    refine plist #[true, true, true, true, true, true, true, true, true, true, true, true, true, true, true, true, true, true, true, true, false, false, false, false, false, false, false] (by kernel_rfl) ?_
    refine wpAnyH_take (i := 20) (v := (.slice p2 m2 d2)) rfl (by kernel_rfl) (by kernel_rfl) (by kernel_rfl) (fun _ _ _ h => h) (.inl ⟨by kernel_rfl, ?_⟩) ⟨⟨⟨⟨K7.1.box, K5.1.box⟩, V7, V5⟩, TA⟩, TB⟩ ?_
    · rintro w ⟨⟨⟨⟨h7, h5⟩, v7, v5⟩, tA⟩, tB⟩; have h' := h7 1 _ rfl; go_simp
    refine plist #[true, true, true, true, true, true, true, true, true, true, true, true, true, true, true, true, true, true, true, true, true, false, false, false, false, false, false] (by kernel_rfl) ?_
    refine wpAnyH_take (i := 21) (v := (.string ⟨c.value.toArray⟩)) rfl (by kernel_rfl) (by kernel_rfl) (by kernel_rfl) (fun _ _ _ h => h) (.inl ⟨by kernel_rfl, ?_⟩) ⟨⟨⟨⟨K7.1.box, K5.1.box⟩, V7, V5⟩, TA⟩, TB⟩ ?_
    · rintro w ⟨⟨⟨⟨h7, h5⟩, v7, v5⟩, tA⟩, tB⟩; have hcv := conv_by v7; go_simp
    refine plist #[true, true, true, true, true, true, true, true, true, true, true, true, true, true, true, true, true, true, true, true, true, true, false, false, false, false, false] (by kernel_rfl) ?_
    refine wpAnyH_take (i := 22) (v := (.pointer (some ⟨b5, 1, none⟩))) rfl (by kernel_rfl) (by kernel_rfl) (by kernel_rfl) (fun _ _ _ h => h) (.inl ⟨by kernel_rfl, ?_⟩) ⟨⟨⟨⟨K7.1.box, K5.1.box⟩, V7, V5⟩, TA⟩, TB⟩ ?_
    · rintro w ⟨⟨⟨⟨h7, h5⟩, v7, v5⟩, tA⟩, tB⟩; go_simp
    refine plist #[true, true, true, true, true, true, true, true, true, true, true, true, true, true, true, true, true, true, true, true, true, true, true, false, false, false, false] (by kernel_rfl) ?_
    refine wpAnyH_take (i := 23) (v := (.slice q2 n2 c2)) rfl (by kernel_rfl) (by kernel_rfl) (by kernel_rfl) (fun _ _ _ h => h) (.inl ⟨by kernel_rfl, ?_⟩) ⟨⟨⟨⟨K7.1.box, K5.1.box⟩, V7, V5⟩, TA⟩, TB⟩ ?_
    · rintro w ⟨⟨⟨⟨h7, h5⟩, v7, v5⟩, tA⟩, tB⟩; have h' := h5 1 _ rfl; go_simp
    refine plist #[true, true, true, true, true, true, true, true, true, true, true, true, true, true, true, true, true, true, true, true, true, true, true, true, false, false, false] (by kernel_rfl) ?_
    refine wpAnyH_take (i := 24) (v := (.string ⟨c.value.toArray⟩)) rfl (by kernel_rfl) (by kernel_rfl) (by kernel_rfl) (fun _ _ _ h => h) (.inl ⟨by kernel_rfl, ?_⟩) ⟨⟨⟨⟨K7.1.box, K5.1.box⟩, V7, V5⟩, TA⟩, TB⟩ ?_
    · rintro w ⟨⟨⟨⟨h7, h5⟩, v7, v5⟩, tA⟩, tB⟩; have hcv := conv_by v5; go_simp
    refine plist #[true, true, true, true, true, true, true, true, true, true, true, true, true, true, true, true, true, true, true, true, true, true, true, true, true, false, false] (by kernel_rfl) ?_
    refine wpAnyH_take (i := 25) (v := (.bool false)) rfl (by kernel_rfl) (by kernel_rfl) (by kernel_rfl) (fun _ _ _ h => h) (.inl ⟨by kernel_rfl, ?_⟩) ⟨⟨⟨⟨K7.1.box, K5.1.box⟩, V7, V5⟩, TA⟩, TB⟩ ?_
    · rintro w ⟨⟨⟨⟨h7, h5⟩, v7, v5⟩, tA⟩, tB⟩; go_simp <;> omega
    refine plist #[true, true, true, true, true, true, true, true, true, true, true, true, true, true, true, true, true, true, true, true, true, true, true, true, true, true, false] (by kernel_rfl) ?_
    refine pone 26 (by kernel_rfl) rfl fun K hK => ?_
    go_simp
    refine hK _ _ ⟨⟨⟨⟨K7.1.box, K5.1.box⟩, V7, V5⟩, TA⟩, TB⟩ ?_
    clear hK K
    refine pdone (by kernel_rfl) ?_ _
    have con := Parse_is a1 len1 cap1 tA Wb hA HN1.out (HG.out.on A)
    clear K7 V7 TA TB HTL HPB
    go_wp2_with fail
    refine con.mono ?_
    rintro e X7 ⟨y0, l0, z0', y1, l1, z1', pt, y3, l3, z3', y4, l4, z4', y5, l5, z5', hq, hf, m, rfl, hm, hb⟩
    replace A := A.trans (hb.mono A.size)
    replace K5 := K5.on hb
    replace V3 := V3.on hb
    clear con hb hA V5
    by_cases hm0 : m ≠ 0
    · have em : (m != 0) = true := by rw [bne_iff_ne]; exact hm0
      clear hm
      go_wp2
      go_ret
      exact ⟨rfl, A.trans ((below_alloc _).mono A.size)⟩
    obtain ⟨u, rfl, hpu, rfl, rfl, rfl, hU⟩ := hm.resolve_left hm0
    obtain ⟨huo, hul⟩ := HUF.out u hpu
    clear hm hm0 HUF hpu
    obtain ⟨b9, hb9⟩ : ∃ b, X7.heap.size = b := ⟨_, rfl⟩
    obtain ⟨X8, hX8⟩ : ∃ Z, X7.alloc (.cells #[.slice y0 l0 z0', .slice y1 l1 z1', .int .i64 u.port, .slice y3 l3 z3', .slice y4 l4 z4', .slice y5 l5 z5', .bool u.hq, .bool u.hf] 31) = Z := ⟨_, rfl⟩
    have hb : Below X7.heap.size X7 X8 := by rw [← hX8]; exact below_alloc _
    have KU : UB b9 #[.slice y0 l0 z0', .slice y1 l1 z1', .int .i64 u.port, .slice y3 l3 z3', .slice y4 l4 z4', .slice y5 l5 z5', .bool u.hq, .bool u.hf] X8 := by rw [← hX8, ← hb9]; exact UB.new X7 _
    replace hU := hU.on hb
    replace A := A.trans (hb.mono A.size)
    replace K5 := K5.on hb
    replace V3 := V3.on hb
    have HX8 := Lib.hid hX8
    have HB9 := Lib.hid hb9
    clear hX8 hb hb9
    have hl3 := V3.at.1
    have con := May_any _ _ c u X8 K5.2 HS.out hU hul (HG.out.on A)
    have r0 := K5.1.box 0 _ rfl
    have r1 := K5.1.box 1 _ rfl
    have r2 := K5.1.box 2 _ rfl
    have r3 := K5.1.box 3 _ rfl
    have r4 := K5.1.box 4 _ rfl
    have r5 := K5.1.box 5 _ rfl
    have t0 := KU.box 0 _ rfl
    have t1 := KU.box 1 _ rfl
    have t2 := KU.box 2 _ rfl
    have t3 := KU.box 3 _ rfl
    have t4 := KU.box 4 _ rfl
    have t5 := KU.box 5 _ rfl
    have t6 := KU.box 6 _ rfl
    have t7 := KU.box 7 _ rfl
    rewrite [← HX8.out] at r0 r1 r2 r3 r4 r5 t0 t1 t2 t3 t4 t5 t6 t7
    cases hmay : mayB c u.host u.scheme with
    | false =>
      rw [hmay, if_neg (by decide)] at con
      go_wp2_with fail
      rewrite [HX8.out, HB9.out]
      refine con.mono ?_
      rintro e X9 ⟨rfl, hb⟩
      clear con r0 r1 r2 r3 r4 r5 t0 t1 t2 t3 t4 t5 t6 t7
      replace A := A.trans (hb.mono A.size)
      go_wp2
      go_ret
      exact ⟨rfl, A⟩
    | true =>
      rw [hmay, if_pos rfl] at con
      go_wp2_with fail
      rewrite [HX8.out, HB9.out]
      refine con.mono ?_
      rintro e X9 ⟨rfl, hb⟩
      clear con r0 r1 r2 r3 r4 r5 t0 t1 t2 t3 t4 t5 t6 t7
      replace A := A.trans (hb.mono A.size)
      replace K5 := K5.on hb
      replace KU := KU.on hb
      replace hU := hU.on hb
      clear hb V3 HX8 HB9
      have r0 := K5.1.box 0 _ rfl
      have r1 := K5.1.box 1 _ rfl
      have r2 := K5.1.box 2 _ rfl
      have r3 := K5.1.box 3 _ rfl
      have r4 := K5.1.box 4 _ rfl
      have r5 := K5.1.box 5 _ rfl
      have t0 := KU.box 0 _ rfl
      have t1 := KU.box 1 _ rfl
      have t2 := KU.box 2 _ rfl
      have t3 := KU.box 3 _ rfl
      have t4 := KU.box 4 _ rfl
      have t5 := KU.box 5 _ rfl
      have t6 := KU.box 6 _ rfl
      have t7 := KU.box 7 _ rfl
      by_cases hp : c.path = []
      · obtain rfl : n3 = 0 := by rw [← hl3, hp]; rfl
        have hu47 : u.path.head? = some 47 := by obtain ⟨R, -, hR, -⟩ := huo.path; rw [hR]; rfl
        obtain ⟨hself, h47⟩ := meant_self c u.host u.path u.scheme hp hu47 hmay
        have d3 : decide ((0 : Int) < ((0 : Nat) : Int)) = false := rfl
        have con := Meant_any _ _ _ c u u X9 K5.2 HS.out hU huo hul hU huo hul (HG.out.on A)
        rw [hself] at con
        clear hself hmay hu47 hp hl3
        go_wp2_with fail
        refine con.mono ?_
        rintro e Xa ⟨rfl, hb⟩
        clear con r0 r1 r2 r3 r4 r5 t0 t1 t2 t3 t4 t5 t6 t7
        replace A := A.trans (hb.mono A.size)
        replace K5 := K5.on hb
        replace KU := KU.on hb
        replace hU := hU.on hb
        clear hb
        have r0 := K5.1.box 0 _ rfl
        have r1 := K5.1.box 1 _ rfl
        have r2 := K5.1.box 2 _ rfl
        have r3 := K5.1.box 3 _ rfl
        have r4 := K5.1.box 4 _ rfl
        have r5 := K5.1.box 5 _ rfl
        have t0 := KU.box 0 _ rfl
        have t1 := KU.box 1 _ rfl
        have t2 := KU.box 2 _ rfl
        have t3 := KU.box 3 _ rfl
        have t4 := KU.box 4 _ rfl
        have t5 := KU.box 5 _ rfl
        have t6 := KU.box 6 _ rfl
        have t7 := KU.box 7 _ rfl
        have con := Home_any _ _ c u Xa K5.2 HS.out hU huo hul (HG.out.on A)
        obtain ⟨hr, hhr⟩ : ∃ r, homeL c u.path = 47 :: r := by
          cases he : homeL c u.path with
          | nil => rw [he] at h47; cases h47
          | cons x r => rw [he] at h47; simp only [List.head?_cons, Option.some.injEq] at h47; exact ⟨r, by rw [h47]⟩
        rw [hhr] at con
        clear hhr h47
        go_wp2_with fail
        refine con.mono ?_
        rintro e Xb ⟨qh, nh, ch, rfl, hB, hb⟩
        clear con r0 r1 r2 r3 r4 r5 t0 t1 t2 t3 t4 t5 t6 t7
        replace A := A.trans (hb.mono A.size)
        have hnh := hB.at.1
        obtain ⟨bh, oh, rfl, hch⟩ := hB.at.2.2.2.2.at (by rw [← hnh]; simp)
        have ch0 := hch 0 (by rw [← hnh]; simp)
        have d4 : decide ((0 : Int) < (nh : Int)) = true := by rw [← hnh]; simp
        simp only [Nat.add_zero] at ch0
        rw [numsL_getD _ _ (by simp)] at ch0
        have hlt : (0 : Nat) < nh := by rw [← hnh]; simp
        clear hch hB hb hnh
        go_wp2
        go_ret
        exact ⟨rfl, A⟩
      · have d3 : decide ((0 : Int) < (n3 : Int)) = true := by
          have : c.path.length ≠ 0 := fun h => hp (List.length_eq_zero_iff.1 h)
          simp; omega
        have hpos : 0 < n3 := by simpa using d3
        have hne : ¬ n3 = 0 := by omega
        clear hmay hp hl3
        go_wp2
        go_ret
        exact ⟨rfl, A⟩

theorem proved : Rows.CookieBackCardSaid := card walk
end Go.Proofs.YtdbpbfbjebjbeaaDoor.cookieBack
