/- OriginBack: the law returns true at whatever input, and writes nothing that was there: its tied card. Conditions: none. -/
import Derived.Test.YtajojgimbagjoaaDoorBaseC
import Derived.Deep.DeepCutAuto
namespace Go.Proofs.YtajojgimbagjoaaDoor.originBack
open Go.RowKit Go.Shelf Url Org
attribute [local go_sem] Oper.semAt_some
set_option linter.unusedVariables false

theorem row_by {w : World} {a : Option Addr} {len cap : Nat} {zs : List Int} (h : IsRow .u8 w a len cap zs) : ∃ bs : List UInt8, By w (.slice a len cap) bs := by
  rcases h with ⟨rfl, rfl, rfl, rfl⟩ | ⟨x, rfl, h1, h2, h3, h4, h5⟩
  · exact ⟨[], by_nil w⟩
  · have hz : ∀ i, i < len → (Lib.numsL (Lib.bytesOf (zs.take len))).getD i 0 = zs.getD i 0 := fun i hi => by
      have hi' : i < zs.length := by omega
      have hw := bounds_u8 (h5 _ (List.getElem_mem hi'))
      have : (Lib.bytesOf (zs.take len)).getD i 0 = UInt8.ofNat (zs[i]).toNat := by
        simp [Lib.bytesOf, List.getD, hi, List.getElem?_eq_getElem hi']
      rw [numsL_getD _ _ (by simp [Lib.bytesOf]; omega), this, List.getD, List.getElem?_eq_getElem hi']
      simp only [Option.getD_some, UInt8.toNat_ofNat']
      omega
    refine ⟨Lib.bytesOf (zs.take len), By.of (by simp [Lib.bytesOf]; omega) h1 h2 (fun h => by cases h) (Lib.BytesIn.of_cells fun i hi => ?_)⟩
    rw [hz i hi]
    exact h4 i (by omega)

set_option maxRecDepth 100000 in
set_option maxHeartbeats 16000000 in
theorem walk : Walks := by
  intro a0 len0 cap0 z0 n w w0 w1 hG
  obtain ⟨bs, hb0⟩ := row_by w0
  have hn := bounds_i64 w1
  clear w0 w1
  by_cases hbig : 400 < len0
  · have d1 : decide ((400 : Int) < (len0 : Int)) = true := by simp; omega
    clear hb0
    have con := lives_any w hG
    go_enter Tryd.func3, Tryd.ntmps3
    go_wp2_with fail
    refine con.mono ?_
    rintro e w2 ⟨rfl, hb2⟩
    clear con
    have con := lives_any w2 (hG.on hb2)
    go_wp2_with fail
    refine con.mono ?_
    rintro e w3 ⟨rfl, hb3⟩
    go_wp2
    go_ret
    exact ⟨rfl, hb2.trans (hb3.mono hb2.size)⟩
  have d1 : decide ((400 : Int) < (len0 : Int)) = false := by simp; omega
  have hl0 := hb0.at.1
  have HG := Lib.hid hG
  have con := lives_any w hG
  go_enter Tryd.func3, Tryd.ntmps3
  go_wp2_with fail
  refine con.mono ?_
  rintro e X1 ⟨rfl, B_1⟩
  clear con
  have T_1 := hb0.on B_1
  clear hb0 hG
  have HR := Lib.hid (Q_round bs (by omega))
  have con := Parse_any a0 len0 cap0 bs X1 T_1 (by omega) (HG.out.on B_1) (fun u hu => by have := (url_facts bs u hu (by omega)).2.1; omega)
  obtain ⟨p0, p1, p2, p3, m, hr, hm⟩ := Q_cases 1099511627776 bs
  rw [hr] at con
  have HM := Lib.hid hm
  clear hr hm hl0
  go_wp2_with fail
  refine con.mono ?_
  rintro e X2 ⟨rfl, hb⟩
  have B_2 := B_1.trans (hb.mono B_1.size)
  clear con hb B_1 T_1
  obtain ⟨X3, hX3⟩ : ∃ Z, X2.alloc (.cells #[.string p0, .string p1, .int .i64 p2, .int .i64 p3] 25) = Z := ⟨_, rfl⟩
  obtain ⟨b5, hb5⟩ : ∃ b, X2.heap.size = b := ⟨_, rfl⟩
  have OB_b5 : OB b5 #[.string p0, .string p1, .int .i64 p2, .int .i64 p3] X3 := by rw [← hX3, ← hb5]; exact OB.new X2 _
  have hb : Below X2.heap.size X2 X3 := by rw [← hX3]; exact (Below.refl _ _).alloc (Nat.le_refl _) _
  have HX3 := Lib.hid hX3
  have Hb5 := Lib.hid hb5
  clear hX3 hb5
  have B_3 := B_2.trans (hb.mono B_2.size)
  clear hb B_2
  go_upto_if 29 with fail
  rw [HX3.out, Hb5.out]
  go_cut [7, 8] from 28 to 49 (fun s7 s8 X => Below X3.heap.size X3 X)
  case first =>
    by_cases hm0 : m ≠ 0
    · have e5 : (m == 0) = false := by rw [beq_eq_false_iff_ne]; exact hm0
      clear hm0 HM HR
      go_wp2_with fail
      go_meet
      exact Below.refl _ _
    · obtain ⟨x, rfl, hq, hv⟩ := HM.out.resolve_left hm0
      obtain ⟨hok, hlen, hT, y, hpy, hvy, hoky, hty⟩ := HR.out x hq
      rw [hv] at hvy
      have ct := fun W (h : Gl W) => Text_val x hok W h
      rw [hv] at ct
      have HP := Lib.hid (fun W (h : Gl W) => Principal_yes y hoky (textO x) W (by omega) h hT (hpy _ (by decide)) hty)
      have HQ := Lib.hid (show retQ (parseQ 1099511627776 (textO x)) = .tuple #[.agg #[.string p0, .string p1, .int .i64 p2, .int .i64 p3], .int .i64 0] by rw [hpy _ (Nat.le_refl _), retQ_inr, hvy])
      have HT := Lib.hid hT
      clear hm0 HM HR hq hv hok hpy hvy hoky hty hT y
      generalize textO x = T at *
      have x0 := OB_b5.box 0 _ rfl
      have x1 := OB_b5.box 1 _ rfl
      have x2 := OB_b5.box 2 _ rfl
      have x3 := OB_b5.box 3 _ rfl
      have con := ct X3 (HG.out.on B_3)
      have HC := Lib.hid ct
      clear ct
      go_wp2_with fail
      refine con.mono ?_
      rintro e X4 ⟨rfl, hb⟩
      have OB_4 := OB_b5.on hb
      have D_4 := hb
      clear con hb x0 x1 x2 x3
      obtain ⟨c, X5, k0, hby, hb, -⟩ := conv_new X4 T (by omega)
      have D_5 := D_4.trans (hb.mono D_4.size)
      have OB_5 := OB_4.on hb
      have con := Parse_any (some ⟨X4.heap.size, 0, none⟩) T.length c T X5 hby (by omega) (HG.out.on (B_3.trans (D_5.mono B_3.size))) HT.out
      rw [HQ.out] at con
      clear hby hb OB_4 D_4
      go_wp2_with fail
      (try rw [k0])
      go_wp2_with fail
      refine con.mono ?_
      rintro e X6 ⟨rfl, hb⟩
      have D_6 := D_5.trans (hb.mono D_5.size)
      have OB_6 := OB_5.on hb
      clear con hb k0 OB_5 D_5
      have hb : Below X6.heap.size X6 (X6.alloc (.cells #[.string p0, .string p1, .int .i64 p2, .int .i64 p3] 25)) := (Below.refl _ _).alloc (Nat.le_refl _) _
      have OB_b7 := OB.new X6 #[.string p0, .string p1, .int .i64 p2, .int .i64 p3]
      have D_7 := D_6.trans (hb.mono D_6.size)
      have OB_7 := OB_6.on hb
      clear hb D_6 OB_6
      have x0 := OB_7.box 0 _ rfl
      have x1 := OB_7.box 1 _ rfl
      have x2 := OB_7.box 2 _ rfl
      have x3 := OB_7.box 3 _ rfl
      have y0 := OB_b7.box 0 _ rfl
      have y1 := OB_b7.box 1 _ rfl
      have y2 := OB_b7.box 2 _ rfl
      have y3 := OB_b7.box 3 _ rfl
      have con := HC.out _ (HG.out.on (B_3.trans (D_7.mono B_3.size)))
      go_wp2_with fail
      refine con.mono ?_
      rintro e X8 ⟨rfl, hb⟩
      have D_8 := D_7.trans (hb.mono D_7.size)
      clear con hb D_7 x0 x1 x2 x3 y0 y1 y2 y3
      have con := HP.out X8 (HG.out.on (B_3.trans (D_8.mono B_3.size)))
      go_wp2_with fail
      refine con.mono ?_
      rintro e X9 ⟨rfl, hb⟩
      have D_9 := D_8.trans (hb.mono D_8.size)
      clear con hb D_8
      go_wp2_with fail
      go_meet
      exact D_9
  case rest =>
    have B_4 := B_3.trans (hcut.mono B_3.size)
    clear hcut HM HR HX3 Hb5 OB_b5 B_3 d1
    generalize wc = X4 at *
    have con := Closed_any n X4
    unfold orgV at con
    by_cases hn1 : n < 1
    · rw [if_pos hn1] at con
      have d1 : decide (n < 1) = true := by simp; omega
      clear hn hn1
      go_wp2_with fail
      refine con.mono ?_
      rintro e X5 ⟨rfl, hb⟩
      have B_5 := B_4.trans (hb.mono B_4.size)
      clear con hb B_4
      obtain ⟨X6, hX6⟩ : ∃ Z, X5.alloc (.cells #[.string ⟨#[]⟩, .string ⟨#[]⟩, .int .i64 0, .int .i64 0] 25) = Z := ⟨_, rfl⟩
      obtain ⟨b9, hb9⟩ : ∃ b, X5.heap.size = b := ⟨_, rfl⟩
      have OB_b9 : OB b9 #[.string ⟨#[]⟩, .string ⟨#[]⟩, .int .i64 0, .int .i64 0] X6 := by rw [← hX6, ← hb9]; exact OB.new X5 _
      have hb : Below X5.heap.size X5 X6 := by rw [← hX6]; exact (Below.refl _ _).alloc (Nat.le_refl _) _
      have HX6 := Lib.hid hX6
      have Hb9 := Lib.hid hb9
      clear hX6 hb9
      have B_6 := B_5.trans (hb.mono B_5.size)
      clear hb B_5
      have x0 := OB_b9.box 0 _ rfl
      have x1 := OB_b9.box 1 _ rfl
      have x2 := OB_b9.box 2 _ rfl
      have x3 := OB_b9.box 3 _ rfl
      have con := URL_bad ⟨#[]⟩ ⟨#[]⟩ 0 0 [] X6 (HG.out.on B_6) (by decide) (no_url [] (by simp)) (fun W _ => Text_zero W)
      unfold zeroU at con
      go_wp2_with fail
      rw [HX6.out, Hb9.out]
      go_wp2_with fail
      refine con.mono ?_
      rintro e X7 ⟨rfl, hb⟩
      have B_7 := B_6.trans (hb.mono B_6.size)
      have OB_7 := OB_b9.on hb
      clear con hb B_6 x0 x1 x2 x3 OB_b9
      have hb : Below X7.heap.size X7 (X7.alloc (.cells #[.slice none 0 0, .slice none 0 0, .int .i64 0, .slice none 0 0, .slice none 0 0, .slice none 0 0, .bool false, .bool false] 33)) := (Below.refl _ _).alloc (Nat.le_refl _) _
      have UB_b11 := UB.new X7 #[.slice none 0 0, .slice none 0 0, .int .i64 0, .slice none 0 0, .slice none 0 0, .slice none 0 0, .bool false, .bool false]
      have B_8 := B_7.trans (hb.mono B_7.size)
      have OB_8 := OB_7.on hb
      clear hb B_7 OB_7 UB_b11
      have x0 := OB_8.box 0 _ rfl
      have x1 := OB_8.box 1 _ rfl
      have x2 := OB_8.box 2 _ rfl
      have x3 := OB_8.box 3 _ rfl
      have con := Text_zero (X7.alloc (.cells #[.slice none 0 0, .slice none 0 0, .int .i64 0, .slice none 0 0, .slice none 0 0, .slice none 0 0, .bool false, .bool false] 33))
      unfold orgV at con
      go_wp2_with fail
      refine con.mono ?_
      rintro e X9 ⟨rfl, hb⟩
      have B_9 := B_8.trans (hb.mono B_8.size)
      clear con hb B_8 x0 x1 x2 x3 OB_8
      have con := Principal_nil X9 (HG.out.on B_9)
      go_wp2_with fail
      refine con.mono ?_
      rintro e XA ⟨rfl, hb⟩
      have B_A := B_9.trans (hb.mono B_9.size)
      clear con hb B_9
      go_wp2
      go_ret
      exact ⟨rfl, B_A⟩
    · rw [if_neg hn1] at con
      have d1 : decide (n < 1) = false := by simp; omega
      obtain ⟨k, rfl⟩ : ∃ k : Nat, n = (k : Int) := ⟨n.toNat, by omega⟩
      have h1 : 1 ≤ k := by omega
      have h2 : k ≤ 9223372036854775807 := by omega
      have hc := closed_text k h2
      have HC := Lib.hid hc
      have HK := Lib.hid (And.intro h1 h2)
      have HQ := Lib.hid (show k ≤ 1099511627776 → parseQ 1099511627776 (textO (.inl k)) = .inr (.inl k) from fun h => Q_closed _ k h1 h)
      have HN := Lib.hid (show ¬ k ≤ 1099511627776 → parseQ 1099511627776 (textO (.inl k)) = .inl 2 from fun h => Q_great _ k (by omega))
      have HT := Lib.hid (fun W (h : Gl W) => Text_closed k h1 h2 W h)
      clear hn hn1 h1 h2 hc
      go_wp2_with fail
      refine con.mono ?_
      rintro e X5 ⟨rfl, hb⟩
      have B_5 := B_4.trans (hb.mono B_4.size)
      clear con hb B_4
      obtain ⟨X6, hX6⟩ : ∃ Z, X5.alloc (.cells #[.string ⟨#[]⟩, .string ⟨#[]⟩, .int .i64 0, .int .i64 (k : Int)] 25) = Z := ⟨_, rfl⟩
      obtain ⟨b9, hb9⟩ : ∃ b, X5.heap.size = b := ⟨_, rfl⟩
      have OB_b9 : OB b9 #[.string ⟨#[]⟩, .string ⟨#[]⟩, .int .i64 0, .int .i64 (k : Int)] X6 := by rw [← hX6, ← hb9]; exact OB.new X5 _
      have hb : Below X5.heap.size X5 X6 := by rw [← hX6]; exact (Below.refl _ _).alloc (Nat.le_refl _) _
      have HX6 := Lib.hid hX6
      have Hb9 := Lib.hid hb9
      clear hX6 hb9
      have B_6 := B_5.trans (hb.mono B_5.size)
      clear hb B_5
      have x0 := OB_b9.box 0 _ rfl
      have x1 := OB_b9.box 1 _ rfl
      have x2 := OB_b9.box 2 _ rfl
      have x3 := OB_b9.box 3 _ rfl
      have con := URL_bad ⟨#[]⟩ ⟨#[]⟩ 0 (k : Int) (textO (.inl k)) X6 (HG.out.on B_6) (by have := HC.out.1; omega) HC.out.2 (fun W h => HT.out W h)
      unfold zeroU at con
      go_wp2_with fail
      rw [HX6.out, Hb9.out]
      go_wp2_with fail
      refine con.mono ?_
      rintro e X7 ⟨rfl, hb⟩
      have B_7 := B_6.trans (hb.mono B_6.size)
      have OB_7 := OB_b9.on hb
      clear con hb B_6 x0 x1 x2 x3 OB_b9
      have hb : Below X7.heap.size X7 (X7.alloc (.cells #[.slice none 0 0, .slice none 0 0, .int .i64 0, .slice none 0 0, .slice none 0 0, .slice none 0 0, .bool false, .bool false] 33)) := (Below.refl _ _).alloc (Nat.le_refl _) _
      have UB_b11 := UB.new X7 #[.slice none 0 0, .slice none 0 0, .int .i64 0, .slice none 0 0, .slice none 0 0, .slice none 0 0, .bool false, .bool false]
      have B_8 := B_7.trans (hb.mono B_7.size)
      have OB_8 := OB_7.on hb
      clear hb B_7 OB_7 UB_b11
      have x0 := OB_8.box 0 _ rfl
      have x1 := OB_8.box 1 _ rfl
      have x2 := OB_8.box 2 _ rfl
      have x3 := OB_8.box 3 _ rfl
      have con := HT.out _ (HG.out.on B_8)
      unfold orgV at con
      go_wp2_with fail
      refine con.mono ?_
      rintro e X9 ⟨rfl, hb⟩
      have B_9 := B_8.trans (hb.mono B_8.size)
      have OB_9 := OB_8.on hb
      clear con hb B_8 x0 x1 x2 x3 OB_8
      have hlen : (closedS ++ digL k).length ≤ 26 := HC.out.1
      obtain ⟨c, XA, k0, hby, hb, -⟩ := conv_new X9 (closedS ++ digL k) (by omega)
      have B_A := B_9.trans (hb.mono B_9.size)
      have OB_A := OB_9.on hb
      have con := Parse_any (some ⟨X9.heap.size, 0, none⟩) (closedS ++ digL k).length c (closedS ++ digL k) XA hby (by omega) (HG.out.on B_A) (fun u hu => absurd hu (HC.out.2 u))
      clear hby hb B_9 OB_9
      by_cases hk : k ≤ 1099511627776
      · rw [show parseQ 1099511627776 (closedS ++ digL k) = .inr (.inl k) from HQ.out hk] at con
        unfold retQ orgV at con
        have d2 : decide ((k : Int) ≤ 1099511627776) = true := by simp; omega
        clear hk HC HK HQ HN HT hlen
        generalize closedS ++ digL k = T at *
        go_wp2_with fail
        (try rw [k0])
        go_wp2_with fail
        refine con.mono ?_
        rintro e XB ⟨rfl, hb⟩
        have B_B := B_A.trans (hb.mono B_A.size)
        have OB_B := OB_A.on hb
        clear con hb B_A OB_A k0
        have hb : Below XB.heap.size XB (XB.alloc (.cells #[.string ⟨#[]⟩, .string ⟨#[]⟩, .int .i64 0, .int .i64 (k : Int)] 25)) := (Below.refl _ _).alloc (Nat.le_refl _) _
        have OB_b13 := OB.new XB #[.string ⟨#[]⟩, .string ⟨#[]⟩, .int .i64 0, .int .i64 (k : Int)]
        have B_C := B_B.trans (hb.mono B_B.size)
        have OB_C := OB_B.on hb
        clear hb B_B OB_B
        have x0 := OB_C.box 0 _ rfl
        have x1 := OB_C.box 1 _ rfl
        have x2 := OB_C.box 2 _ rfl
        have x3 := OB_C.box 3 _ rfl
        have y0 := OB_b13.box 0 _ rfl
        have y1 := OB_b13.box 1 _ rfl
        have y2 := OB_b13.box 2 _ rfl
        have y3 := OB_b13.box 3 _ rfl
        go_wp2
        go_ret
        exact ⟨rfl, B_C⟩
      · rw [show parseQ 1099511627776 (closedS ++ digL k) = .inl 2 from HN.out hk] at con
        unfold retQ orgV at con
        have d2 : decide ((k : Int) ≤ 1099511627776) = false := by simp; omega
        clear hk HC HK HQ HN HT hlen
        generalize closedS ++ digL k = T at *
        go_wp2_with fail
        (try rw [k0])
        go_wp2_with fail
        refine con.mono ?_
        rintro e XB ⟨rfl, hb⟩
        have B_B := B_A.trans (hb.mono B_A.size)
        have OB_B := OB_A.on hb
        clear con hb B_A OB_A k0
        have hb : Below XB.heap.size XB (XB.alloc (.cells #[.string ⟨#[]⟩, .string ⟨#[]⟩, .int .i64 0, .int .i64 0] 25)) := (Below.refl _ _).alloc (Nat.le_refl _) _
        have OB_b13 := OB.new XB #[.string ⟨#[]⟩, .string ⟨#[]⟩, .int .i64 0, .int .i64 0]
        have B_C := B_B.trans (hb.mono B_B.size)
        have OB_C := OB_B.on hb
        clear hb B_B OB_B
        have x0 := OB_C.box 0 _ rfl
        have x1 := OB_C.box 1 _ rfl
        have x2 := OB_C.box 2 _ rfl
        have x3 := OB_C.box 3 _ rfl
        go_wp2
        go_ret
        exact ⟨rfl, B_C⟩

theorem proved : Rows.OriginBackCardSaid := card walk

end Go.Proofs.YtajojgimbagjoaaDoor.originBack
