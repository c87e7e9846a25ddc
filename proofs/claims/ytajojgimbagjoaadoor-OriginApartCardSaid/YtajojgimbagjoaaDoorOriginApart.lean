/- OriginApart: the law returns true at whatever input, and writes nothing that was there: its tied card. Conditions: none. -/
import Derived.Test.YtajojgimbagjoaaDoorBaseC
import Derived.Deep.DeepCutAuto
namespace Go.Proofs.YtajojgimbagjoaaDoor.originApart
open Go.RowKit Go.Shelf Url Org
attribute [local go_sem] Oper.semAt_some
set_option linter.unusedVariables false

theorem row_by {w : World} {a : Option Addr} {len cap : Nat} {zs : List Int} (h : IsRow .u8 w a len cap zs) : ∃ bs : List UInt8, By w (.slice a len cap) bs := by
  rcases h with ⟨rfl, rfl, rfl, rfl⟩ | ⟨x, rfl, h1, h2, h3, h4, h5⟩
  · exact ⟨[], by_nil w⟩
  · have hz : ∀ i, i < len → (Lib.numsL (Lib.bytesOf (zs.take len))).getD i 0 = zs.getD i 0 := fun i hi => by
      have hi' : i < zs.length := by omega
      have hw := bounds_u8 (h5 _ (List.getElem_mem hi'))
      have : (Lib.bytesOf (zs.take len)).getD i 0 = UInt8.ofNat (zs[i]).toNat := by
        simp [Lib.bytesOf, List.getD, hi, List.getElem?_eq_getElem hi']
      rw [numsL_getD _ _ (by simp [Lib.bytesOf]; omega), this, List.getD, List.getElem?_eq_getElem hi']
      simp only [Option.getD_some, UInt8.toNat_ofNat']
      omega
    refine ⟨Lib.bytesOf (zs.take len), By.of (by simp [Lib.bytesOf]; omega) h1 h2 (fun h => by cases h) (Lib.BytesIn.of_cells fun i hi => ?_)⟩
    rw [hz i hi]
    exact h4 i (by omega)

theorem eq3 {P Q R : Prop} [Decidable P] [Decidable Q] [Decidable R] {sm : Bool} (h : sm = true ↔ P ∧ Q ∧ R) (X : World) :
    (if P then if Q then if R then Result.ok (Next.value (Value.bool true)) X else Result.ok (Next.value (Value.bool false)) X else Result.ok (Next.value (Value.bool false)) X else Result.ok (Next.value (Value.bool false)) X) = Result.ok (Next.value (Value.bool sm)) X := by
  cases sm with
  | true =>
    obtain ⟨h1, h2, h3⟩ := h.1 rfl
    rw [if_pos h1, if_pos h2, if_pos h3]
  | false =>
    by_cases h1 : P
    · rw [if_pos h1]
      by_cases h2 : Q
      · rw [if_pos h2]
        by_cases h3 : R
        · exact absurd (h.2 ⟨h1, h2, h3⟩) (by simp)
        · rw [if_neg h3]
      · rw [if_neg h2]
    · rw [if_neg h1]

set_option maxRecDepth 100000 in
set_option maxHeartbeats 16000000 in
theorem walk : Walks := by
  intro a0 len0 cap0 z0 a1 len1 cap1 z1 w w0 w1 hG
  obtain ⟨bs, hb0⟩ := row_by w0
  obtain ⟨ds, hb1⟩ := row_by w1
  clear w0 w1
  by_cases hbig : 400 < len0
  · have d1 : decide ((400 : Int) < (len0 : Int)) = true := by simp; omega
    clear hb0 hb1
    have con := lives_any w hG
    go_enter Tryd.func4, Tryd.ntmps4
    go_wp2_with fail
    refine con.mono ?_
    rintro e w2 ⟨rfl, hb2⟩
    clear con
    have con := lives_any w2 (hG.on hb2)
    go_wp2_with fail
    refine con.mono ?_
    rintro e w3 ⟨rfl, hb3⟩
    go_wp2
    go_ret
    exact ⟨rfl, hb2.trans (hb3.mono hb2.size)⟩
  have d1 : decide ((400 : Int) < (len0 : Int)) = false := by simp; omega
  by_cases hbig1 : 400 < len1
  · have d2 : decide ((400 : Int) < (len1 : Int)) = true := by simp; omega
    clear hb0 hb1
    have con := lives_any w hG
    go_enter Tryd.func4, Tryd.ntmps4
    go_wp2_with fail
    refine con.mono ?_
    rintro e w2 ⟨rfl, hb2⟩
    clear con
    have con := lives_any w2 (hG.on hb2)
    go_wp2_with fail
    refine con.mono ?_
    rintro e w3 ⟨rfl, hb3⟩
    go_wp2
    go_ret
    exact ⟨rfl, hb2.trans (hb3.mono hb2.size)⟩
  have d2 : decide ((400 : Int) < (len1 : Int)) = false := by simp; omega
  have hl0 := hb0.at.1
  have hl1 := hb1.at.1
  have HG := Lib.hid hG
  have con := lives_any w hG
  go_enter Tryd.func4, Tryd.ntmps4
  go_wp2_with fail
  refine con.mono ?_
  rintro e X1 ⟨rfl, B_1⟩
  clear con
  have T_1 := hb0.on B_1
  have F_1 := hb1.on B_1
  clear hb0 hb1 hG
  have con := Parse_is a0 len0 cap0 bs X1 T_1 (by omega) (HG.out.on B_1)
  go_wp2_with fail
  refine con.mono ?_
  rintro e X2 ⟨q50, n50, c50, q51, n51, c51, p5, q53, n53, c53, q54, n54, c54, q55, n55, c55, hq5, hf5, m5, rfl, hm5, hb⟩
  clear con
  have B_2 := B_1.trans (hb.mono B_1.size)
  have F_2 := F_1.on hb
  clear F_1 T_1 B_1 hb
  have HM5 := Lib.hid hm5
  clear hm5
  obtain ⟨X3, hX3⟩ : ∃ Z, X2.alloc (.cells #[.slice q50 n50 c50, .slice q51 n51 c51, .int .i64 p5, .slice q53 n53 c53, .slice q54 n54 c54, .slice q55 n55 c55, .bool hq5, .bool hf5] 33) = Z := ⟨_, rfl⟩
  obtain ⟨b5, hb5⟩ : ∃ b, X2.heap.size = b := ⟨_, rfl⟩
  have U5_3 : UB b5 #[.slice q50 n50 c50, .slice q51 n51 c51, .int .i64 p5, .slice q53 n53 c53, .slice q54 n54 c54, .slice q55 n55 c55, .bool hq5, .bool hf5] X3 := by rw [← hX3, ← hb5]; exact UB.new X2 _
  have hb : Below X2.heap.size X2 X3 := by rw [← hX3]; exact (Below.refl _ _).alloc (Nat.le_refl _) _
  have HX3 := Lib.hid hX3
  have HB5 := Lib.hid hb5
  clear hX3 hb5
  have B_3 := B_2.trans (hb.mono B_2.size)
  have F_3 := F_2.on hb
  have HM5 := Lib.hid (show m5 ≠ 0 ∨ ∃ u : U, m5 = 0 ∧ parseU bs = .inr u ∧ (u.port : Int) = p5 ∧ u.hq = hq5 ∧ u.hf = hf5 ∧ UrlIn X3 (.agg #[.slice q50 n50 c50, .slice q51 n51 c51, .int .i64 p5, .slice q53 n53 c53, .slice q54 n54 c54, .slice q55 n55 c55, .bool hq5, .bool hf5]) u by
    rcases HM5.out with h | ⟨u, h1, h2, h3, h4, h5, h6⟩
    · exact .inl h
    · exact .inr ⟨u, h1, h2, h3, h4, h5, h6.on hb⟩)
  clear F_2 B_2 hb
  have con := Parse_is a1 len1 cap1 ds X3 F_3 (by omega) (HG.out.on B_3)
  go_wp2_with fail
  rw [HB5.out, HX3.out]
  refine con.mono ?_
  rintro e X4 ⟨q70, n70, c70, q71, n71, c71, p7, q73, n73, c73, q74, n74, c74, q75, n75, c75, hq7, hf7, m7, rfl, hm7, hb⟩
  clear con
  have B_4 := B_3.trans (hb.mono B_3.size)
  have U5_4 := U5_3.on hb
  have HM5 := Lib.hid (show m5 ≠ 0 ∨ ∃ u : U, m5 = 0 ∧ parseU bs = .inr u ∧ (u.port : Int) = p5 ∧ u.hq = hq5 ∧ u.hf = hf5 ∧ UrlIn X4 (.agg #[.slice q50 n50 c50, .slice q51 n51 c51, .int .i64 p5, .slice q53 n53 c53, .slice q54 n54 c54, .slice q55 n55 c55, .bool hq5, .bool hf5]) u by
    rcases HM5.out with h | ⟨u, h1, h2, h3, h4, h5, h6⟩
    · exact .inl h
    · exact .inr ⟨u, h1, h2, h3, h4, h5, h6.on hb⟩)
  clear F_3 B_3 U5_3 hb HX3 HB5
  have HM7 := Lib.hid hm7
  clear hm7
  obtain ⟨X5, hX5⟩ : ∃ Z, X4.alloc (.cells #[.slice q70 n70 c70, .slice q71 n71 c71, .int .i64 p7, .slice q73 n73 c73, .slice q74 n74 c74, .slice q75 n75 c75, .bool hq7, .bool hf7] 33) = Z := ⟨_, rfl⟩
  obtain ⟨b7, hb7⟩ : ∃ b, X4.heap.size = b := ⟨_, rfl⟩
  have U7_5 : UB b7 #[.slice q70 n70 c70, .slice q71 n71 c71, .int .i64 p7, .slice q73 n73 c73, .slice q74 n74 c74, .slice q75 n75 c75, .bool hq7, .bool hf7] X5 := by rw [← hX5, ← hb7]; exact UB.new X4 _
  have hb : Below X4.heap.size X4 X5 := by rw [← hX5]; exact (Below.refl _ _).alloc (Nat.le_refl _) _
  have HX5 := Lib.hid hX5
  have HB7 := Lib.hid hb7
  clear hX5 hb7
  have B_5 := B_4.trans (hb.mono B_4.size)
  have U5_5 := U5_4.on hb
  have HM5 := Lib.hid (show m5 ≠ 0 ∨ ∃ u : U, m5 = 0 ∧ parseU bs = .inr u ∧ (u.port : Int) = p5 ∧ u.hq = hq5 ∧ u.hf = hf5 ∧ UrlIn X5 (.agg #[.slice q50 n50 c50, .slice q51 n51 c51, .int .i64 p5, .slice q53 n53 c53, .slice q54 n54 c54, .slice q55 n55 c55, .bool hq5, .bool hf5]) u by
    rcases HM5.out with h | ⟨u, h1, h2, h3, h4, h5, h6⟩
    · exact .inl h
    · exact .inr ⟨u, h1, h2, h3, h4, h5, h6.on hb⟩)
  have HM7 := Lib.hid (show m7 ≠ 0 ∨ ∃ u : U, m7 = 0 ∧ parseU ds = .inr u ∧ (u.port : Int) = p7 ∧ u.hq = hq7 ∧ u.hf = hf7 ∧ UrlIn X5 (.agg #[.slice q70 n70 c70, .slice q71 n71 c71, .int .i64 p7, .slice q73 n73 c73, .slice q74 n74 c74, .slice q75 n75 c75, .bool hq7, .bool hf7]) u by
    rcases HM7.out with h | ⟨u, h1, h2, h3, h4, h5, h6⟩
    · exact .inl h
    · exact .inr ⟨u, h1, h2, h3, h4, h5, h6.on hb⟩)
  clear B_4 U5_4 hb
  by_cases hm5 : m5 ≠ 0
  · have e5 : ((m5 : Int) != 0) = true := by rw [bne_iff_ne]; exact hm5
    clear hm5 HM5 HM7 U5_5 U7_5
    have con := lives_any X5 (HG.out.on B_5)
    go_wp2_with fail
    rw [HX5.out]
    refine con.mono ?_
    rintro e w3 ⟨rfl, hb3⟩
    go_wp2
    go_ret
    exact ⟨rfl, B_5.trans (hb3.mono B_5.size)⟩
  by_cases hm7 : m7 ≠ 0
  · have hm5 : m5 = 0 := Decidable.not_not.1 hm5
    have e7 : ((m7 : Int) != 0) = true := by rw [bne_iff_ne]; exact hm7
    clear hm7 HM5 HM7 U5_5 U7_5
    subst hm5
    have con := lives_any X5 (HG.out.on B_5)
    go_wp2_with fail
    rw [HX5.out]
    refine con.mono ?_
    rintro e w3 ⟨rfl, hb3⟩
    go_wp2
    go_ret
    exact ⟨rfl, B_5.trans (hb3.mono B_5.size)⟩
  obtain ⟨u, rfl, hpu, rfl, rfl, rfl, I5_5⟩ := HM5.out.resolve_left hm5
  obtain ⟨v, rfl, hpv, rfl, rfl, rfl, I7_5⟩ := HM7.out.resolve_left hm7
  obtain ⟨oku, lu1, lu2⟩ := url_facts bs u hpu (by omega)
  obtain ⟨okv, lv1, lv2⟩ := url_facts ds v hpv (by omega)
  clear hm5 hm7 HM5 HM7 hpu hpv
  have HOU := Lib.hid oku
  have HOV := Lib.hid okv
  have HIN := Lib.hid (place_inj u v oku okv (by omega) (by omega))
  have HEQ := Lib.hid (place_eq u v)
  clear oku okv lu1 lu2 lv1 lv2 hl0 hl1
  obtain ⟨_, _, _, _, _, _, _, _, _, _, _, _, _, _, _, he5, i50, i51, _, _, _⟩ := id I5_5
  obtain ⟨_, _, _, _, _, _, _, _, _, _, _, _, _, _, _, he7, i70, i71, _, _, _⟩ := id I7_5
  cases he5
  cases he7
  have k50 := conv_bytes (c := c50) i50.at.2.2.2.2 i50.at.1
  have k51 := conv_bytes (c := c51) i51.at.2.2.2.2 i51.at.1
  have k70 := conv_bytes (c := c70) i70.at.2.2.2.2 i70.at.1
  have k71 := conv_bytes (c := c71) i71.at.2.2.2.2 i71.at.1
  have x50 := U5_5.box 0 _ rfl
  have x51 := U5_5.box 1 _ rfl
  have x52 := U5_5.box 2 _ rfl
  have x70 := U7_5.box 0 _ rfl
  have x71 := U7_5.box 1 _ rfl
  have x72 := U7_5.box 2 _ rfl
  clear i50 i51 i70 i71
  go_upto_region 7 with fail
  rw [HB7.out, HX5.out]
  go_cut [9] from 40 to 62 (fun s9 X => s9 = .bool (decide (u.scheme = v.scheme ∧ u.host = v.host ∧ u.port = v.port)) ∧ X = X5)
  case first =>
    go_wp2_with fail
    all_goals go_meet
    all_goals refine ⟨?_, rfl⟩
    all_goals first
      | exact congrArg Value.bool (decide_eq_false (fun h => absurd h.1 (by assumption))).symm
      | exact congrArg Value.bool (decide_eq_false (fun h => absurd h.2.1 (by assumption))).symm
      | (refine congrArg Value.bool ?_
         rw [Bool.eq_iff_iff, beq_iff_eq, decide_eq_true_iff]
         exact ⟨fun h => ⟨by assumption, by assumption, by omega⟩, fun h => by rw [h.2.2]⟩)
  case rest =>
    obtain ⟨rfl, hcut⟩ := hcut
    rw [hcut]
    clear hcut x50 x51 x52 x70 x71 x72 k50 k51 k70 k71 HX5 HB7
    have HS := Lib.hid (show decide (u.scheme = v.scheme ∧ u.host = v.host ∧ u.port = v.port) = true ↔ u.scheme = v.scheme ∧ u.host = v.host ∧ u.port = v.port from decide_eq_true_iff)
    generalize decide (u.scheme = v.scheme ∧ u.host = v.host ∧ u.port = v.port) = sm at *
    go_wp2_with fail
    refine pregion_any (fun X => Box b5 #[.slice q50 n50 c50, .slice q51 n51 c51, .int .i64 u.port, .slice q53 n53 c53, .slice q54 n54 c54, .slice q55 n55 c55, .bool u.hq, .bool u.hf] X ∧ Box b7 #[.slice q70 n70 c70, .slice q71 n71 c71, .int .i64 v.port, .slice q73 n73 c73, .slice q74 n74 c74, .slice q75 n75 c75, .bool v.hq, .bool v.hf] X) (by kernel_rfl) ?_
    have hb : Below X5.heap.size X5 X5.drew := (Below.refl _ _).drew
    have B_6 := B_5.trans (hb.mono B_5.size)
    have I5_6 := I5_5.on hb
    have I7_6 := I7_5.on hb
    have U5_6 := U5_5.on hb
    have U7_6 := U7_5.on hb
    clear hb B_5 I5_5 I7_5 U5_5 U7_5
    generalize X5.drew = X6 at *
    have hS0 := And.intro U5_6.box U7_6.box
    refine wpAnyH_take (i := 0) (v := (.agg #[.slice q50 n50 c50, .slice q51 n51 c51, .int .i64 u.port, .slice q53 n53 c53, .slice q54 n54 c54, .slice q55 n55 c55, .bool u.hq, .bool u.hf])) rfl (by kernel_rfl) (by kernel_rfl) (by kernel_rfl) (fun _ _ _ h => h) (.inl ⟨by kernel_rfl, ?_⟩) hS0 ?_
    · rintro w ⟨h, k⟩; have h0 := h 0 _ rfl; have h1 := h 1 _ rfl; have h2 := h 2 _ rfl; have h3 := h 3 _ rfl; have h4 := h 4 _ rfl; have h5 := h 5 _ rfl; have h6 := h 6 _ rfl; have h7 := h 7 _ rfl; go_simp <;> omega
    refine plist #[true, false, false, false, false, false, false, false, false, false, false, false, false, false, false, false, false, false, false] (by kernel_rfl) ?_
    refine wpAnyH_take (i := 2) (v := (.agg #[.slice q70 n70 c70, .slice q71 n71 c71, .int .i64 v.port, .slice q73 n73 c73, .slice q74 n74 c74, .slice q75 n75 c75, .bool v.hq, .bool v.hf])) rfl (by kernel_rfl) (by kernel_rfl) (by kernel_rfl) (fun _ _ _ h => h) (.inl ⟨by kernel_rfl, ?_⟩) hS0 ?_
    · rintro w ⟨h, k⟩; have k0 := k 0 _ rfl; have k1 := k 1 _ rfl; have k2 := k 2 _ rfl; have k3 := k 3 _ rfl; have k4 := k 4 _ rfl; have k5 := k 5 _ rfl; have k6 := k 6 _ rfl; have k7 := k 7 _ rfl; go_simp <;> omega
    refine plist #[true, false, true, false, false, false, false, false, false, false, false, false, false, false, false, false, false, false, false] (by kernel_rfl) ?_
    refine wpAnyH_take (i := 5) (v := (.bool sm)) rfl (by kernel_rfl) (by kernel_rfl) (by kernel_rfl) (fun _ _ _ h => h) (.inl ⟨by kernel_rfl, ?_⟩) hS0 ?_
    · rintro w ⟨h, k⟩; go_simp <;> omega
    refine plist #[true, false, true, false, false, true, false, false, false, false, false, false, false, false, false, false, false, false, false] (by kernel_rfl) ?_
    have con := Of_any u _ X6 I5_6
    refine pone 1 (by kernel_rfl) rfl fun K hK => ?_
    go_simp
    refine con.mono ?_
    rintro e X7 ⟨rfl, hb⟩
    have B_7 := B_6.trans (hb.mono B_6.size)
    have I5_7 := I5_6.on hb
    have I7_7 := I7_6.on hb
    have U5_7 := U5_6.on hb
    have U7_7 := U7_6.on hb
    clear con hb B_6 I5_6 I7_6 U5_6 U7_6 hS0
    have hS0 := And.intro U5_7.box U7_7.box
    refine hK _ _ hS0 ?_
    clear hK K
    refine plist #[true, true, true, false, false, true, false, false, false, false, false, false, false, false, false, false, false, false, false] (by kernel_rfl) ?_
    have con := Of_any v _ X7 I7_7
    refine pone 3 (by kernel_rfl) rfl fun K hK => ?_
    go_simp
    refine con.mono ?_
    rintro e X8 ⟨rfl, hb⟩
    have B_8 := B_7.trans (hb.mono B_7.size)
    have I5_8 := I5_7.on hb
    have I7_8 := I7_7.on hb
    have U5_8 := U5_7.on hb
    have U7_8 := U7_7.on hb
    clear con hb B_7 I5_7 I7_7 U5_7 U7_7 hS0
    have hS0 := And.intro U5_8.box U7_8.box
    refine hK _ _ hS0 ?_
    clear hK K
    refine plist #[true, true, true, true, false, true, false, false, false, false, false, false, false, false, false, false, false, false, false] (by kernel_rfl) ?_
    unfold orgV
    refine pone 4 (by kernel_rfl) rfl fun K hK => ?_
    go_simp
    rw [eq3 (show sm = true ↔ u.scheme = v.scheme ∧ u.host = v.host ∧ (u.port : Int) = (v.port : Int) by rw [HS.out, Int.ofNat_inj]) X8, Oper.upon_value]
    refine hK _ _ hS0 ?_
    clear hK K
    refine plist #[true, true, true, true, true, true, false, false, false, false, false, false, false, false, false, false, false, false, false] (by kernel_rfl) ?_
    refine pone 6 (by kernel_rfl) rfl fun K hK => ?_
    go_simp
    refine hK _ _ hS0 ?_
    clear hK K
    refine plist #[true, true, true, true, true, true, true, false, false, false, false, false, false, false, false, false, false, false, false] (by kernel_rfl) ?_
    refine pone 7 (by kernel_rfl) rfl fun K hK => ?_
    go_simp
    refine hK _ _ hS0 ?_
    clear hK K
    refine plist #[true, true, true, true, true, true, true, true, false, false, false, false, false, false, false, false, false, false, false] (by kernel_rfl) ?_
    refine wpAnyH_take (i := 8) (v := (.agg #[.slice q50 n50 c50, .slice q51 n51 c51, .int .i64 u.port, .slice q53 n53 c53, .slice q54 n54 c54, .slice q55 n55 c55, .bool u.hq, .bool u.hf])) rfl (by kernel_rfl) (by kernel_rfl) (by kernel_rfl) (fun _ _ _ h => h) (.inl ⟨by kernel_rfl, ?_⟩) hS0 ?_
    · rintro w ⟨h, k⟩; have h0 := h 0 _ rfl; have h1 := h 1 _ rfl; have h2 := h 2 _ rfl; have h3 := h 3 _ rfl; have h4 := h 4 _ rfl; have h5 := h 5 _ rfl; have h6 := h 6 _ rfl; have h7 := h 7 _ rfl; go_simp <;> omega
    refine plist #[true, true, true, true, true, true, true, true, true, false, false, false, false, false, false, false, false, false, false] (by kernel_rfl) ?_
    refine wpAnyH_take (i := 11) (v := (.agg #[.slice q70 n70 c70, .slice q71 n71 c71, .int .i64 v.port, .slice q73 n73 c73, .slice q74 n74 c74, .slice q75 n75 c75, .bool v.hq, .bool v.hf])) rfl (by kernel_rfl) (by kernel_rfl) (by kernel_rfl) (fun _ _ _ h => h) (.inl ⟨by kernel_rfl, ?_⟩) hS0 ?_
    · rintro w ⟨h, k⟩; have k0 := k 0 _ rfl; have k1 := k 1 _ rfl; have k2 := k 2 _ rfl; have k3 := k 3 _ rfl; have k4 := k 4 _ rfl; have k5 := k 5 _ rfl; have k6 := k 6 _ rfl; have k7 := k 7 _ rfl; go_simp <;> omega
    refine plist #[true, true, true, true, true, true, true, true, true, false, false, true, false, false, false, false, false, false, false] (by kernel_rfl) ?_
    refine wpAnyH_take (i := 15) (v := (.bool sm)) rfl (by kernel_rfl) (by kernel_rfl) (by kernel_rfl) (fun _ _ _ h => h) (.inl ⟨by kernel_rfl, ?_⟩) hS0 ?_
    · rintro w ⟨h, k⟩; go_simp <;> omega
    refine plist #[true, true, true, true, true, true, true, true, true, false, false, true, false, false, false, true, false, false, false] (by kernel_rfl) ?_
    have con := Of_any u _ X8 I5_8
    refine pone 9 (by kernel_rfl) rfl fun K hK => ?_
    go_simp
    refine con.mono ?_
    rintro e X9 ⟨rfl, hb⟩
    have B_9 := B_8.trans (hb.mono B_8.size)
    have I5_9 := I5_8.on hb
    have I7_9 := I7_8.on hb
    have U5_9 := U5_8.on hb
    have U7_9 := U7_8.on hb
    clear con hb B_8 I5_8 I7_8 U5_8 U7_8 hS0
    have hS0 := And.intro U5_9.box U7_9.box
    refine hK _ _ hS0 ?_
    clear hK K
    refine plist #[true, true, true, true, true, true, true, true, true, true, false, true, false, false, false, true, false, false, false] (by kernel_rfl) ?_
    have con := Text_server u HOU.out X9 (HG.out.on B_9)
    refine pone 10 (by kernel_rfl) rfl fun K hK => ?_
    go_simp
    refine con.mono ?_
    rintro e XA ⟨rfl, hb⟩
    have B_A := B_9.trans (hb.mono B_9.size)
    have I5_A := I5_9.on hb
    have I7_A := I7_9.on hb
    have U5_A := U5_9.on hb
    have U7_A := U7_9.on hb
    clear con hb B_9 I5_9 I7_9 U5_9 U7_9 hS0
    have hS0 := And.intro U5_A.box U7_A.box
    refine hK _ _ hS0 ?_
    clear hK K
    refine plist #[true, true, true, true, true, true, true, true, true, true, true, true, false, false, false, true, false, false, false] (by kernel_rfl) ?_
    have con := Of_any v _ XA I7_A
    refine pone 12 (by kernel_rfl) rfl fun K hK => ?_
    go_simp
    refine con.mono ?_
    rintro e XB ⟨rfl, hb⟩
    have B_B := B_A.trans (hb.mono B_A.size)
    have I5_B := I5_A.on hb
    have I7_B := I7_A.on hb
    have U5_B := U5_A.on hb
    have U7_B := U7_A.on hb
    clear con hb B_A I5_A I7_A U5_A U7_A hS0
    have hS0 := And.intro U5_B.box U7_B.box
    refine hK _ _ hS0 ?_
    clear hK K
    refine plist #[true, true, true, true, true, true, true, true, true, true, true, true, true, false, false, true, false, false, false] (by kernel_rfl) ?_
    have con := Text_server v HOV.out XB (HG.out.on B_B)
    refine pone 13 (by kernel_rfl) rfl fun K hK => ?_
    go_simp
    refine con.mono ?_
    rintro e XC ⟨rfl, hb⟩
    have B_C := B_B.trans (hb.mono B_B.size)
    have I5_C := I5_B.on hb
    have I7_C := I7_B.on hb
    have U5_C := U5_B.on hb
    have U7_C := U7_B.on hb
    clear con hb B_B I5_B I7_B U5_B U7_B hS0
    have hS0 := And.intro U5_C.box U7_C.box
    refine hK _ _ hS0 ?_
    clear hK K
    refine plist #[true, true, true, true, true, true, true, true, true, true, true, true, true, true, false, true, false, false, false] (by kernel_rfl) ?_
    have hpl : decide (placeU u = placeU v) = sm := by
      rw [Bool.eq_iff_iff, decide_eq_true_iff, HS.out]
      exact ⟨HIN.out, HEQ.out⟩
    have hpl2 : (placeU u == placeU v) = sm := by
      rw [← hpl, Bool.eq_iff_iff, beq_iff_eq, decide_eq_true_iff]
    refine pone 14 (by kernel_rfl) rfl fun K hK => ?_
    go_simp
    refine hK _ _ hS0 ?_
    clear hK K
    refine plist #[true, true, true, true, true, true, true, true, true, true, true, true, true, true, true, true, false, false, false] (by kernel_rfl) ?_
    clear hpl hpl2
    refine pone 16 (by kernel_rfl) rfl fun K hK => ?_
    go_simp
    refine hK _ _ hS0 ?_
    clear hK K
    refine plist #[true, true, true, true, true, true, true, true, true, true, true, true, true, true, true, true, true, false, false] (by kernel_rfl) ?_
    refine pone 17 (by kernel_rfl) rfl fun K hK => ?_
    go_simp
    refine hK _ _ hS0 ?_
    clear hK K
    refine plist #[true, true, true, true, true, true, true, true, true, true, true, true, true, true, true, true, true, true, false] (by kernel_rfl) ?_
    refine pone 18 (by kernel_rfl) rfl fun K hK => ?_
    go_simp
    refine hK _ _ hS0 ?_
    clear hK K
    refine pdone (by kernel_rfl) ?_ _
    clear hS0
    go_wp2
    go_ret
    exact ⟨rfl, B_C⟩

theorem proved : Rows.OriginApartCardSaid := card walk

end Go.Proofs.YtajojgimbagjoaaDoor.originApart
