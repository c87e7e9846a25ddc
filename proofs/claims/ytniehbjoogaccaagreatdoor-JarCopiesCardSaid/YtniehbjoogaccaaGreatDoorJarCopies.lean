/- JarCopies: the law returns true at whatever input, and writes nothing that was there: its tied card. Conditions: none. -/
import Derived.Test.YtniehbjoogaccaaGreatDoorBaseF
import Derived.Deep.DeepCutAuto
namespace Go.Proofs.YtniehbjoogaccaaGreatDoor.jarCopies
open Go.RowKit Go.Shelf Url Ck Jar
attribute [local go_sem] Oper.semAt_some
set_option linter.unusedVariables false

theorem row_by {w : World} {a : Option Addr} {len cap : Nat} {zs : List Int} (h : IsRow .u8 w a len cap zs) : ∃ bs : List UInt8, By w (.slice a len cap) bs := by
  rcases h with ⟨rfl, rfl, rfl, rfl⟩ | ⟨x, rfl, h1, h2, h3, h4, h5⟩
  · exact ⟨[], by_nil w⟩
  · have hz : ∀ i, i < len → (Lib.numsL (Lib.bytesOf (zs.take len))).getD i 0 = zs.getD i 0 := fun i hi => by
      have hi' : i < zs.length := by omega
      have hw := bounds_u8 (h5 _ (List.getElem_mem hi'))
      have : (Lib.bytesOf (zs.take len)).getD i 0 = UInt8.ofNat (zs[i]).toNat := by
        simp [Lib.bytesOf, List.getD, hi, List.getElem?_eq_getElem hi']
      rw [numsL_getD _ _ (by simp [Lib.bytesOf]; omega), this, List.getD, List.getElem?_eq_getElem hi']
      simp only [Option.getD_some, UInt8.toNat_ofNat']
      omega
    refine ⟨Lib.bytesOf (zs.take len), By.of (by simp [Lib.bytesOf]; omega) h1 h2 (fun h => by cases h) (Lib.BytesIn.of_cells fun i hi => ?_)⟩
    rw [hz i hi]
    exact h4 i (by omega)


theorem url_okZ (t : List UInt8) (h : t.length ≤ 400) : OkZ (urlV (parseU t)) := by
  cases hp : parseU t with
  | inl e => exact .inl rfl
  | inr u => exact .inr ⟨Url.parse_ok t u hp, by have := Url.text_len t u hp; show (textU u).length ≤ _; omega⟩

set_option maxRecDepth 100000 in
set_option maxHeartbeats 32000000 in
theorem walk : Walks := by
  intro a0 len0 cap0 a1 len1 cap1 a2 len2 cap2 z2 w w0 w1 w2 hG
  obtain ⟨L, hL⟩ := acts_in w0
  obtain ⟨K, hK⟩ := acts_in w1
  obtain ⟨tx, hx⟩ := row_by w2
  clear w0 w1 w2
  have hl1 := hx.at.1
  have con := Jar.lives_any w hG
  have HG := Lib.hid hG
  clear hG
  go_enter Tryz.func6, Tryz.ntmps6
  go_wp2_with fail
  refine con.mono ?_
  rintro e w2 ⟨rfl, hb2⟩
  clear con
  have con := few_any a0 len0 cap0 L w2 (hL.on hb2)
  go_wp2_with fail
  refine con.mono ?_
  rintro e w3 ⟨rfl, hb3⟩
  clear con
  replace hb2 := hb2.trans (hb3.mono hb2.size)
  clear hb3
  cases hfew : fewB L with
  | false =>
    clear hL hK hx hl1 hfew
    have con := Jar.lives_any w3 (HG.out.on hb2)
    go_wp2_with fail
    refine con.mono ?_
    rintro e w4 ⟨rfl, hb3⟩
    go_wp2
    go_ret
    exact ⟨rfl, hb2.trans (hb3.mono hb2.size)⟩
  | true =>
    have con := few_any a1 len1 cap1 K w3 (hK.on hb2)
    go_wp2_with fail
    refine con.mono ?_
    rintro e w4 ⟨rfl, hb3⟩
    clear con
    replace hb2 := hb2.trans (hb3.mono hb2.size)
    clear hb3
    cases hfewK : fewB K with
    | false =>
      clear hL hK hx hl1 hfew hfewK
      have con := Jar.lives_any w4 (HG.out.on hb2)
      go_wp2_with fail
      refine con.mono ?_
      rintro e w5 ⟨rfl, hb3⟩
      go_wp2
      go_ret
      exact ⟨rfl, hb2.trans (hb3.mono hb2.size)⟩
    | true =>
      by_cases hbig : 200 < len2
      · have d1 : decide ((200 : Int) < (len2 : Int)) = true := by simp; omega
        clear hL hK hx hl1 hfew hfewK hbig
        have con := Jar.lives_any w4 (HG.out.on hb2)
        go_wp2_with fail
        refine con.mono ?_
        rintro e w5 ⟨rfl, hb3⟩
        go_wp2
        go_ret
        exact ⟨rfl, hb2.trans (hb3.mono hb2.size)⟩
      · have d1 : decide ((200 : Int) < (len2 : Int)) = false := by simp; omega
        have HLA := Lib.hid hL
        have HKA := Lib.hid hK
        have HFW := Lib.hid hfew
        have HFK := Lib.hid hfewK
        have con := UParse_any a2 len2 cap2 tx w4 (hx.on hb2) (by omega) (HG.out.on hb2)
        have HUZ := Lib.hid (url_okZ tx (by omega))
        generalize hu : urlV (parseU tx) = u at *
        clear hL hK hx hl1 hbig hfew hfewK
        go_wp2_with fail
        refine con.mono ?_
        rintro e X1 ⟨r0, m0, k0, r1, m1, k1, pp, r3, m3, k3, r4, m4, k4, r5, m5, k5, hq, hf, rfl, hU, -, hb⟩
        rw [hu] at hU
        generalize urlE (parseU tx) = en at *
        have A := hb2.trans (hb.mono hb2.size)
        clear con hb d1 hb2 hu
        obtain ⟨bu, hbu⟩ : ∃ b, X1.heap.size = b := ⟨_, rfl⟩
        obtain ⟨X2, hX2⟩ : ∃ Z, X1.alloc (.cells #[.slice r0 m0 k0, .slice r1 m1 k1, .int .i64 pp, .slice r3 m3 k3, .slice r4 m4 k4, .slice r5 m5 k5, .bool hq, .bool hf] 33) = Z := ⟨_, rfl⟩
        have hb : Below X1.heap.size X1 X2 := hX2 ▸ below_alloc _
        have ub : Box bu #[.slice r0 m0 k0, .slice r1 m1 k1, .int .i64 pp, .slice r3 m3 k3, .slice r4 m4 k4, .slice r5 m5 k5, .bool hq, .bool hf] X2 := hX2 ▸ hbu ▸ Box.new X1 _ _
        replace A := A.trans (hb.mono A.size)
        replace hU := hU.on hb
        have con := Org.Of_any u _ _ hU
        have u0 := ub 0 _ rfl
        have u1 := ub 1 _ rfl
        have u2 := ub 2 _ rfl
        have u3 := ub 3 _ rfl
        have u4 := ub 4 _ rfl
        have u5 := ub 5 _ rfl
        have u6 := ub 6 _ rfl
        have u7 := ub 7 _ rfl
        rw [← hX2] at u0 u1 u2 u3 u4 u5 u6 u7
        have HX2 := Lib.hid hX2
        have HBU := Lib.hid hbu
        have HUB := Lib.hid ub
        clear hX2 hbu ub hb
        go_wp2_with fail
        rw [HX2.out, HBU.out]
        refine con.mono ?_
        rintro e X3 ⟨rfl, hb⟩
        replace A := A.trans (hb.mono A.size)
        replace hU := hU.on hb
        replace HUB := Lib.hid (Box.on HUB.out hb)
        clear con hb HX2 HBU u0 u1 u2 u3 u4 u5 u6 u7
        obtain ⟨bo, hbo⟩ : ∃ b, X3.heap.size = b := ⟨_, rfl⟩
        obtain ⟨X4, hX4⟩ : ∃ Z, X3.alloc (.cells #[.string ⟨u.scheme.toArray⟩, .string ⟨u.host.toArray⟩, .int .i64 u.port, .int .i64 0] 62) = Z := ⟨_, rfl⟩
        have hb : Below X3.heap.size X3 X4 := hX4 ▸ below_alloc _
        have ob : Box bo #[.string ⟨u.scheme.toArray⟩, .string ⟨u.host.toArray⟩, .int .i64 u.port, .int .i64 0] X4 := hX4 ▸ hbo ▸ Box.new X3 _ _
        replace A := A.trans (hb.mono A.size)
        replace hU := hU.on hb
        replace HUB := Lib.hid (Box.on HUB.out hb)
        have HX4 := Lib.hid hX4
        have HBO := Lib.hid hbo
        clear hX4 hbo hb
        have con := New_any X4
        have hx4 : Org.orgV u.scheme u.host u.port 0 = .agg #[.string ⟨u.scheme.toArray⟩, .string ⟨u.host.toArray⟩, .int .i64 u.port, .int .i64 0] := rfl
        rw [hx4]
        go_wp2_with fail
        rw [HX4.out, HBO.out]
        refine con.mono ?_
        rintro e X5 ⟨M1, p1, rfl, hJ1, hM1, B5⟩
        clear con HX4 HBO hx4
        have HM1 := Lib.hid hM1
        have HU := Lib.hid hU
        have HOB := Lib.hid ob
        have HA := Lib.hid A
        have HG4 := Lib.hid (show GlB X4.heap.size X4 from Gl.glb (HG.out.on A))
        have HNL := HLA.out.1
        have HNK := HKA.out.1
        have hn60 := few_len HFW.out
        have hk60 := few_len HFK.out
        clear hM1 hU ob A
        go_wp2
        go_loopw [47] (fun i wr => ∃ (k : Nat) (M1 : Nat → Prop) (l1 : List En), k ≤ len0 ∧ i = .int .i64 k ∧ JarIn M1 (.pointer (some p1)) l1 wr ∧ Hid (∀ b, M1 b → X4.heap.size ≤ b) ∧ Hid (l1.length ≤ k) ∧ Below X4.heap.size X4 wr) (fun i _ => len0 - (intOf i).toNat)
        case atStart => exact ⟨0, M1, [], Nat.zero_le _, rfl, hJ1, HM1, Lib.hid (Nat.le_refl _), B5⟩
        case round =>
          obtain ⟨k, M1, l1, hk, rfl, hJ1, HM1, HLL, hB⟩ := hrel
          by_cases hlt : k < len0
          · obtain ⟨x, hx⟩ : ∃ x, L[k]? = some x := ⟨_, List.getElem?_eq_getElem (by omega)⟩
            have A := HA.out.trans (hB.mono HA.out.size)
            obtain ⟨g, o, rfl, hg, hc⟩ := (HLA.out.on A).2 (by omega)
            obtain ⟨q1, n1, c1, q2, n2, c2, q3, n3, c3, j0, j1, j2, j3, j4, hi, y1, y2, y3⟩ := hc k x hx
            obtain ⟨t1, t2, t3⟩ := few_fit HFW.out (List.mem_of_getElem? hx)
            have hb : Below wr.heap.size wr (wr.alloc (.cells #[.int .i64 x.kind, .int .i64 x.now, .slice q1 n1 c1, .slice q2 n2 c2, .slice q3 n3 c3] 31)) := below_alloc _
            replace hJ1 := keep_own hJ1 hb
            have hB1 := hB.trans (hb.mono hB.size)
            have con := put_any M1 p1 l1 x q1 n1 c1 q2 n2 c2 q3 n3 c3 _ hJ1 (y1.on hb) (y3.on hb) hi.1 t1 t3 X4.heap.size HM1.out hB1.size (HG4.out.on hB1)
            clear hc hx hi y1 y2 y3 t1 t2 t3 hJ1 hg A hb
            go_wp2_with fail
            refine con.mono ?_
            rintro e Y2 ⟨N1, rfl, hJ1, hN1, hk2⟩
            have HN1 := Lib.hid (show ∀ b, N1 b → X4.heap.size ≤ b from fun b h => by
              rcases hN1 b h with h | h
              · exact HM1.out b h
              · exact Nat.le_trans hB1.size h)
            have hB2 := hB1.trans (Keep.below (hk2.mono fun b _ (h : b < X4.heap.size) hm => by have := HM1.out b hm; omega) hB1.size)
            have HL2 := Lib.hid (show (actN l1 x).length ≤ k + 1 by have := act_len l1 x; have := HLL.out; omega)
            clear con hN1 hk2 hB1 hB HM1 j0 j1 j2 j3 j4
            go_wp2
            go_roundw
            case rel => exact ⟨k + 1, N1, _, by omega, by go_num, hJ1, HN1, HL2, hB2⟩
            case measure => simp [intOf]; omega
          · obtain rfl : k = len0 := by omega
            have HOW := Lib.hid (show (ownersJ l1).length ≤ 1099511627776 by have := owners_len l1; have := HLL.out; omega)
            have HLC := Lib.hid (show l1.length ≤ 60 by have := HLL.out; omega)
            have HLB := Lib.hid (show l1.length ≤ 1048576 by have := HLC.out; omega)
            have HOF := Lib.hid hJ1.off
            have con := Copy_any M1 p1 l1 wr hJ1
            go_wp2_with fail
            refine con.mono ?_
            rintro e Y1 ⟨M2, p2, rfl, hJ2, hM2, hb⟩
            replace hJ1 := keep_own hJ1 hb
            have HDJ := Lib.hid (show ∀ b, M1 b → ¬ M2 b from fun b h1 h2 => by have := (HOF.out b h1).1; have := hM2 b h2; omega)
            have HM2 := Lib.hid (show ∀ b, M2 b → X4.heap.size ≤ b from fun b h => Nat.le_trans hB.size (hM2 b h))
            replace hB := hB.trans (hb.mono hB.size)
            clear con hb hM2 HLL
            have ub := Box.below HUB.out hB (World.block_lt_of_cell? X4 _ (HUB.out 0 _ rfl))
            have ob := Box.below HOB.out hB (World.block_lt_of_cell? X4 _ (HOB.out 0 _ rfl))
            have hU := HU.out.on hB
            obtain ⟨Z5, hZ5⟩ : ∃ Z, Y1.drew = Z := ⟨_, rfl⟩
            have hb : Below Y1.heap.size Y1 Z5 := by rw [← hZ5]; exact (Below.refl _ _).drew
            replace hB := hB.trans (hb.mono hB.size)
            replace hJ1 := keep_own hJ1 hb
            replace hJ2 := keep_own hJ2 hb
            replace ub := Box.on ub hb
            replace ob := Box.on ob hb
            replace hU := hU.on hb
            have HO2 := Lib.hid hJ2.off
            have HZ5 := Lib.hid hZ5
            clear hZ5 hb
            go_wp2_with fail
            refine pregion_any (fun X => (Box bu #[.slice r0 m0 k0, .slice r1 m1 k1, .int .i64 pp, .slice r3 m3 k3, .slice r4 m4 k4, .slice r5 m5 k5, .bool hq, .bool hf] X ∧ Box bo #[.string ⟨u.scheme.toArray⟩, .string ⟨u.host.toArray⟩, .int .i64 u.port, .int .i64 0] X)) (by kernel_rfl) ?_
            rw [HZ5.out]
            refine wpAnyH_take (i := 0) (v := (.pointer (some p1))) rfl (by kernel_rfl) (by kernel_rfl) (by kernel_rfl) (fun _ _ _ h => h) (.inl ⟨by kernel_rfl, ?_⟩) ⟨ub, ob⟩ ?_
            · rintro w ⟨hv, ho⟩; go_simp
            refine plist #[true, false, false, false, false, false, false, false, false, false] (by kernel_rfl) ?_
            refine wpAnyH_take (i := 1) (v := (.agg #[.string ⟨u.scheme.toArray⟩, .string ⟨u.host.toArray⟩, .int .i64 u.port, .int .i64 0])) rfl (by kernel_rfl) (by kernel_rfl) (by kernel_rfl) (fun _ _ _ h => h) (.inl ⟨by kernel_rfl, ?_⟩) ⟨ub, ob⟩ ?_
            · rintro w ⟨hv, ho⟩; have y0 := ho 0 _ rfl; have y1 := ho 1 _ rfl; have y2 := ho 2 _ rfl; have y3 := ho 3 _ rfl; go_simp <;> omega
            refine plist #[true, true, false, false, false, false, false, false, false, false] (by kernel_rfl) ?_
            refine wpAnyH_take (i := 2) (v := (.agg #[.slice r0 m0 k0, .slice r1 m1 k1, .int .i64 pp, .slice r3 m3 k3, .slice r4 m4 k4, .slice r5 m5 k5, .bool hq, .bool hf])) rfl (by kernel_rfl) (by kernel_rfl) (by kernel_rfl) (fun _ _ _ h => h) (.inl ⟨by kernel_rfl, ?_⟩) ⟨ub, ob⟩ ?_
            · rintro w ⟨hv, ho⟩; have x0 := hv 0 _ rfl; have x1 := hv 1 _ rfl; have x2 := hv 2 _ rfl; have x3 := hv 3 _ rfl; have x4 := hv 4 _ rfl; have x5 := hv 5 _ rfl; have x6 := hv 6 _ rfl; have x7 := hv 7 _ rfl; go_simp <;> omega
            refine plist #[true, true, true, false, false, false, false, false, false, false] (by kernel_rfl) ?_
            refine wpAnyH_take (i := 5) (v := (.pointer (some p1))) rfl (by kernel_rfl) (by kernel_rfl) (by kernel_rfl) (fun _ _ _ h => h) (.inl ⟨by kernel_rfl, ?_⟩) ⟨ub, ob⟩ ?_
            · rintro w ⟨hv, ho⟩; go_simp
            refine plist #[true, true, true, false, false, true, false, false, false, false] (by kernel_rfl) ?_
            have con := Line_any M1 p1 l1 u u _ 0 _ hJ1 HUZ.out hU HUZ.out (by omega) (HG4.out.on hB).gl
            rw [show Org.orgV u.scheme u.host u.port 0 = .agg #[.string ⟨u.scheme.toArray⟩, .string ⟨u.host.toArray⟩, .int .i64 u.port, .int .i64 0] from rfl] at con
            refine pone 3 (by kernel_rfl) rfl fun K hK => ?_
            go_simp
            refine con.mono ?_
            rintro e Za ⟨ra, ma, da, rfl, TA, hb⟩
            replace hB := hB.trans (hb.mono hB.size)
            replace hJ1 := keep_own hJ1 hb
            replace hJ2 := keep_own hJ2 hb
            replace ub := Box.on ub hb
            replace ob := Box.on ob hb
            replace hU := hU.on hb
            clear con hb 
            refine hK _ _ ⟨ub, ob⟩ ?_
            clear hK K
            refine pmore (S' := fun X => (Box bu #[.slice r0 m0 k0, .slice r1 m1 k1, .int .i64 pp, .slice r3 m3 k3, .slice r4 m4 k4, .slice r5 m5 k5, .bool hq, .bool hf] X ∧ Box bo #[.string ⟨u.scheme.toArray⟩, .string ⟨u.host.toArray⟩, .int .i64 u.port, .int .i64 0] X) ∧ By X (.slice ra ma da) (lineL (forJ (keyU u) u 0 l1))) (fun _ h => h.1) ?_
            refine plist #[true, true, true, true, false, true, false, false, false, false] (by kernel_rfl) ?_
            refine wpAnyH_take (i := 4) (v := (.string ⟨(lineL (forJ (keyU u) u 0 l1)).toArray⟩)) rfl (by kernel_rfl) (by kernel_rfl) (by kernel_rfl) (fun _ _ _ h => h) (.inl ⟨by kernel_rfl, ?_⟩) ⟨⟨ub, ob⟩, TA⟩ ?_
            · rintro w ⟨⟨hv, ho⟩, tA⟩; have hcv := conv_by tA; go_simp
            refine plist #[true, true, true, true, true, true, false, false, false, false] (by kernel_rfl) ?_
            have con := Owners_any M1 p1 l1 _ hJ1 (HG4.out.on hB).gl HLB.out
            refine pone 6 (by kernel_rfl) rfl fun K hK => ?_
            go_simp
            refine con.mono ?_
            rintro e Zb ⟨gf, lb, RB, rfl, heg, hit, hRB, hb⟩
            replace hB := hB.trans (hb.mono hB.size)
            replace hJ1 := keep_own hJ1 hb
            replace hJ2 := keep_own hJ2 hb
            replace ub := Box.on ub hb
            replace ob := Box.on ob hb
            replace hU := hU.on hb
            replace TA := TA.on hb
            have HO3 := Lib.hid hJ2.off
            clear con hb 
            refine hK _ _ ⟨⟨ub, ob⟩, TA⟩ ?_
            clear hK K
            refine plist #[true, true, true, true, true, true, true, false, false, false] (by kernel_rfl) ?_
            have con := texts_at gf lb (ownersJ l1) RB _ heg hit hRB HOW.out
            refine pone 7 (by kernel_rfl) rfl fun K hK => ?_
            go_simp
            refine con.mono ?_
            rintro e Zc ⟨qo, co, rfl, hTX, hb⟩
            have hLO := hb.size
            replace hB := hB.trans (hb.mono hB.size)
            replace hJ1 := keep_own hJ1 hb
            replace hJ2 := keep_own hJ2 hb
            replace ub := Box.on ub hb
            replace ob := Box.on ob hb
            replace hU := hU.on hb
            replace TA := TA.on hb
            clear con hb 
            refine hK _ _ ⟨⟨ub, ob⟩, TA⟩ ?_
            clear hK K
            refine plist #[true, true, true, true, true, true, true, true, false, false] (by kernel_rfl) ?_
            refine pone 8 (by kernel_rfl) rfl fun K hK => ?_
            go_simp
            refine hK _ _ ⟨⟨ub, ob⟩, TA⟩ ?_
            clear hK K
            refine plist #[true, true, true, true, true, true, true, true, true, false] (by kernel_rfl) ?_
            refine pone 9 (by kernel_rfl) rfl fun K hK => ?_
            go_simp
            refine hK _ _ ⟨⟨ub, ob⟩, TA⟩ ?_
            clear hK K
            refine pdone (by kernel_rfl) ?_ _
            have HL2 := Lib.hid (show ∀ b, M2 b → b < Zb.heap.size from fun b h => (HO3.out b h).1)
            clear hit heg hRB HO3 HO2 hLO TA HOF
            have con := Line_any M2 p2 l1 u u _ 0 _ hJ2 HUZ.out hU HUZ.out (by omega) (HG4.out.on hB).gl
            have hx4 : Org.orgV u.scheme u.host u.port 0 = .agg #[.string ⟨u.scheme.toArray⟩, .string ⟨u.host.toArray⟩, .int .i64 u.port, .int .i64 0] := rfl
            rw [hx4] at con
            have x0 := ub 0 _ rfl
            have x1 := ub 1 _ rfl
            have x2 := ub 2 _ rfl
            have x3 := ub 3 _ rfl
            have x4 := ub 4 _ rfl
            have x5 := ub 5 _ rfl
            have x6 := ub 6 _ rfl
            have x7 := ub 7 _ rfl
            have y0 := ob 0 _ rfl
            have y1 := ob 1 _ rfl
            have y2 := ob 2 _ rfl
            have y3 := ob 3 _ rfl
            go_wp2_with fail
            refine con.mono ?_
            rintro e Zd ⟨rb, mb, db, rfl, TB, hb⟩
            have hcv := conv_by TB
            replace hB := hB.trans (hb.mono hB.size)
            replace hJ1 := keep_own hJ1 hb
            replace hJ2 := keep_own hJ2 hb
            replace hTX := hTX.on hb
            clear con hb TB ub ob hU x0 y0 x1 y1 x2 y2 x3 y3 x4 x5 x6 x7
            have con := Owners_any M2 p2 l1 _ hJ2 (HG4.out.on hB).gl HLB.out
            go_wp2_with fail
            refine con.mono ?_
            rintro e Ze ⟨gf, lb, RB, rfl, heg, hit, hRB, hb⟩
            replace hB := hB.trans (hb.mono hB.size)
            replace hJ1 := keep_own hJ1 hb
            replace hJ2 := keep_own hJ2 hb
            replace hTX := hTX.on hb
            clear con hb hcv
            have con := texts_at gf lb (ownersJ l1) RB _ heg hit hRB HOW.out
            go_wp2_with fail
            refine con.mono ?_
            rintro e Zf ⟨qp, cp, rfl, hTY, hb⟩
            replace hB := hB.trans (hb.mono hB.size)
            replace hJ1 := keep_own hJ1 hb
            replace hJ2 := keep_own hJ2 hb
            replace hTX := hTX.on hb
            clear con hb heg hit hRB
            have con := same_at _ _ _ _ _ hTY hTX HOW.out HOW.out
            rw [decide_eq_true rfl] at con
            go_wp2_with fail
            refine con.mono ?_
            rintro e Zg ⟨rfl, hb⟩
            replace hB := hB.trans (hb.mono hB.size)
            replace hJ1 := keep_own hJ1 hb
            replace hJ2 := keep_own hJ2 hb
            replace hTX := hTX.on hb
            clear con hb hTY
            have HZW := Lib.hid hTX
            have HJ1 := Lib.hid hJ1
            have HBZ := Lib.hid hB
            have HLZ := Lib.hid (show ∀ b, M2 b → b < Zg.heap.size from fun b h => (hJ2.off b h).1)
            have HO2 := Lib.hid hJ2.off
            clear hTX hJ1 hB
            go_wp2
            go_loopw [82] (fun i wr => ∃ (k : Nat) (N : Nat → Prop) (l2 : List En), k ≤ len1 ∧ i = .int .i64 k ∧ JarIn N (.pointer (some p2)) l2 wr ∧ Hid (∀ b, N b → M2 b ∨ Zg.heap.size ≤ b) ∧ Hid (l2.length ≤ 60 + k) ∧ Keep (fun b => ¬ M2 b) Zg wr) (fun i _ => len1 - (intOf i).toNat)
            case atStart => exact ⟨0, M2, l1, Nat.zero_le _, rfl, hJ2, Lib.hid (fun b h => .inl h), Lib.hid (by have := HLC.out; omega), Keep.refl _ _⟩
            case round =>
              obtain ⟨k, N, l2, hk, rfl, hJ2, HN, HLX, hK⟩ := hrel
              have HNX := Lib.hid (show ∀ b, N b → X4.heap.size ≤ b from fun b h => by
                rcases HN.out b h with h | h
                · exact HM2.out b h
                · exact Nat.le_trans HBZ.out.size h)
              have hB := HBZ.out.trans (Keep.below (hK.mono fun b _ (h : b < X4.heap.size) hm => by have := HM2.out b hm; omega) HBZ.out.size)
              by_cases hlt : k < len1
              · obtain ⟨x, hx⟩ : ∃ x, K[k]? = some x := ⟨_, List.getElem?_eq_getElem (by omega)⟩
                have A := HA.out.trans (hB.mono HA.out.size)
                obtain ⟨g, o, rfl, hg, hc⟩ := (HKA.out.on A).2 (by omega)
                obtain ⟨q1, n1, c1, q2, n2, c2, q3, n3, c3, j0, j1, j2, j3, j4, hi, y1, y2, y3⟩ := hc k x hx
                obtain ⟨t1, t2, t3⟩ := few_fit HFK.out (List.mem_of_getElem? hx)
                have hb : Below wr.heap.size wr (wr.alloc (.cells #[.int .i64 x.kind, .int .i64 x.now, .slice q1 n1 c1, .slice q2 n2 c2, .slice q3 n3 c3] 31)) := below_alloc _
                replace hJ2 := keep_own hJ2 hb
                have hB1 := hB.trans (hb.mono hB.size)
                have hK1 := hK.trans (keep_not (M := M2) hb)
                have con := put_any N p2 l2 x q1 n1 c1 q2 n2 c2 q3 n3 c3 _ hJ2 (y1.on hb) (y3.on hb) hi.1 t1 t3 X4.heap.size HNX.out hB1.size (HG4.out.on hB1)
                have HSZ := Lib.hid (show Zg.heap.size ≤ (wr.alloc (.cells #[.int .i64 x.kind, .int .i64 x.now, .slice q1 n1 c1, .slice q2 n2 c2, .slice q3 n3 c3] 31)).heap.size from hK1.size)
                clear hc hx hi y1 y2 y3 t1 t2 t3 hJ2 hg A hb hB hK hB1
                go_wp2_with fail
                refine con.mono ?_
                rintro e Y2 ⟨N1, rfl, hJ2, hN1, hk2⟩
                have HN1 := Lib.hid (show ∀ b, N1 b → M2 b ∨ Zg.heap.size ≤ b from fun b h => by
                  rcases hN1 b h with h | h
                  · exact HN.out b h
                  · exact .inr (Nat.le_trans HSZ.out h))
                have hK2 : Keep (fun b => ¬ M2 b) Zg Y2 := ⟨hk2.os.trans hK1.os, hk2.tape.trans hK1.tape, hk2.output.trans hK1.output, Nat.le_trans hK1.size hk2.size, fun b hb h => (hk2.block b (Nat.lt_of_lt_of_le hb hK1.size) (fun hn => by
                  rcases HN.out b hn with h' | h'
                  · exact h h'
                  · omega)).trans (hK1.block b hb h)⟩
                have HLY := Lib.hid (show (actN l2 x).length ≤ 60 + (k + 1) by have := act_len l2 x; have := HLX.out; omega)
                clear con hN1 hk2 hK1 HN HNX j0 j1 j2 j3 j4
                go_wp2
                go_roundw
                case rel => exact ⟨k + 1, N1, _, by omega, by go_num, hJ2, HN1, HLY, hK2⟩
                case measure => simp [intOf]; omega
              · obtain rfl : k = len1 := by omega
                have con := Sweep_any N p2 l2 1099511627776 wr hJ2 (by omega) X4.heap.size HNX.out (HG4.out.on hB) (by have := HLX.out; omega)
                go_wp2_with fail
                refine con.mono ?_
                rintro e Z1 ⟨N1, rfl, -, -, hk2⟩
                have hK2 : Keep (fun b => ¬ M2 b) Zg Z1 := ⟨hk2.os.trans hK.os, hk2.tape.trans hK.tape, hk2.output.trans hK.output, Nat.le_trans hK.size hk2.size, fun b hb h => (hk2.block b (Nat.lt_of_lt_of_le hb hK.size) (fun hn => by
                  rcases HN.out b hn with h' | h'
                  · exact h h'
                  · omega)).trans (hK.block b hb h)⟩
                have hB2 := HBZ.out.trans (Keep.below (hK2.mono fun b _ (h : b < X4.heap.size) hm => by have := HM2.out b hm; omega) HBZ.out.size)
                have hJ1 := HJ1.out.keep (hK2.mono fun b _ h => HDJ.out b h) (HO2.out.soft hK2)
                have hTX := HZW.out.keep hK2 (fun b h1 h2 hm => by have := HL2.out b hm; omega)
                clear con hk2 hK2 hJ2 hK hB
                have ub := Box.below HUB.out hB2 (World.block_lt_of_cell? X4 _ (HUB.out 0 _ rfl))
                have ob := Box.below HOB.out hB2 (World.block_lt_of_cell? X4 _ (HOB.out 0 _ rfl))
                have hU := HU.out.on hB2
                obtain ⟨Z5, hZ5⟩ : ∃ Z, Z1.drew = Z := ⟨_, rfl⟩
                have hb : Below Z1.heap.size Z1 Z5 := by rw [← hZ5]; exact (Below.refl _ _).drew
                replace hB2 := hB2.trans (hb.mono hB2.size)
                replace hJ1 := keep_own hJ1 hb
                replace ub := Box.on ub hb
                replace ob := Box.on ob hb
                replace hU := hU.on hb
                replace hTX := hTX.on hb
                have HZ5 := Lib.hid hZ5
                clear hZ5 hb
                go_wp2_with fail
                refine pregion_any (fun X => (Box bu #[.slice r0 m0 k0, .slice r1 m1 k1, .int .i64 pp, .slice r3 m3 k3, .slice r4 m4 k4, .slice r5 m5 k5, .bool hq, .bool hf] X ∧ Box bo #[.string ⟨u.scheme.toArray⟩, .string ⟨u.host.toArray⟩, .int .i64 u.port, .int .i64 0] X)) (by kernel_rfl) ?_
                rw [HZ5.out]
                refine wpAnyH_take (i := 0) (v := (.pointer (some p1))) rfl (by kernel_rfl) (by kernel_rfl) (by kernel_rfl) (fun _ _ _ h => h) (.inl ⟨by kernel_rfl, ?_⟩) ⟨ub, ob⟩ ?_
                · rintro w ⟨hv, ho⟩; go_simp
                refine plist #[true, false, false, false, false, false, false, false, false, false, false, false, false, false, false, false, false, false, false, false, false, false, false, false, false, false, false, false, false, false, false, false, false, false, false, false, false, false, false, false, false, false, false, false, false, false, false] (by kernel_rfl) ?_
                refine wpAnyH_take (i := 1) (v := (.agg #[.string ⟨u.scheme.toArray⟩, .string ⟨u.host.toArray⟩, .int .i64 u.port, .int .i64 0])) rfl (by kernel_rfl) (by kernel_rfl) (by kernel_rfl) (fun _ _ _ h => h) (.inl ⟨by kernel_rfl, ?_⟩) ⟨ub, ob⟩ ?_
                · rintro w ⟨hv, ho⟩; have y0 := ho 0 _ rfl; have y1 := ho 1 _ rfl; have y2 := ho 2 _ rfl; have y3 := ho 3 _ rfl; go_simp <;> omega
                refine plist #[true, true, false, false, false, false, false, false, false, false, false, false, false, false, false, false, false, false, false, false, false, false, false, false, false, false, false, false, false, false, false, false, false, false, false, false, false, false, false, false, false, false, false, false, false, false, false] (by kernel_rfl) ?_
                refine wpAnyH_take (i := 2) (v := (.agg #[.slice r0 m0 k0, .slice r1 m1 k1, .int .i64 pp, .slice r3 m3 k3, .slice r4 m4 k4, .slice r5 m5 k5, .bool hq, .bool hf])) rfl (by kernel_rfl) (by kernel_rfl) (by kernel_rfl) (fun _ _ _ h => h) (.inl ⟨by kernel_rfl, ?_⟩) ⟨ub, ob⟩ ?_
                · rintro w ⟨hv, ho⟩; have x0 := hv 0 _ rfl; have x1 := hv 1 _ rfl; have x2 := hv 2 _ rfl; have x3 := hv 3 _ rfl; have x4 := hv 4 _ rfl; have x5 := hv 5 _ rfl; have x6 := hv 6 _ rfl; have x7 := hv 7 _ rfl; go_simp <;> omega
                refine plist #[true, true, true, false, false, false, false, false, false, false, false, false, false, false, false, false, false, false, false, false, false, false, false, false, false, false, false, false, false, false, false, false, false, false, false, false, false, false, false, false, false, false, false, false, false, false, false] (by kernel_rfl) ?_
                refine wpAnyH_take (i := 5) (v := (.string ⟨(lineL (forJ (keyU u) u 0 l1)).toArray⟩)) rfl (by kernel_rfl) (by kernel_rfl) (by kernel_rfl) (fun _ _ _ h => h) (.inl ⟨by kernel_rfl, ?_⟩) ⟨ub, ob⟩ ?_
                · rintro w ⟨hv, ho⟩; go_simp
                refine plist #[true, true, true, false, false, true, false, false, false, false, false, false, false, false, false, false, false, false, false, false, false, false, false, false, false, false, false, false, false, false, false, false, false, false, false, false, false, false, false, false, false, false, false, false, false, false, false] (by kernel_rfl) ?_
                have con := Line_any M1 p1 l1 u u _ 0 _ hJ1 HUZ.out hU HUZ.out (by omega) (HG4.out.on hB2).gl
                rw [show Org.orgV u.scheme u.host u.port 0 = .agg #[.string ⟨u.scheme.toArray⟩, .string ⟨u.host.toArray⟩, .int .i64 u.port, .int .i64 0] from rfl] at con
                refine pone 3 (by kernel_rfl) rfl fun K hK => ?_
                go_simp
                refine con.mono ?_
                rintro e Va ⟨rc, mc, dc, rfl, TA, hb⟩
                replace hB2 := hB2.trans (hb.mono hB2.size)
                replace hJ1 := keep_own hJ1 hb
                replace ub := Box.on ub hb
                replace ob := Box.on ob hb
                replace hU := hU.on hb
                replace hTX := hTX.on hb
                clear con hb 
                refine hK _ _ ⟨ub, ob⟩ ?_
                clear hK K
                refine pmore (S' := fun X => (Box bu #[.slice r0 m0 k0, .slice r1 m1 k1, .int .i64 pp, .slice r3 m3 k3, .slice r4 m4 k4, .slice r5 m5 k5, .bool hq, .bool hf] X ∧ Box bo #[.string ⟨u.scheme.toArray⟩, .string ⟨u.host.toArray⟩, .int .i64 u.port, .int .i64 0] X) ∧ By X (.slice rc mc dc) (lineL (forJ (keyU u) u 0 l1))) (fun _ h => h.1) ?_
                refine plist #[true, true, true, true, false, true, false, false, false, false, false, false, false, false, false, false, false, false, false, false, false, false, false, false, false, false, false, false, false, false, false, false, false, false, false, false, false, false, false, false, false, false, false, false, false, false, false] (by kernel_rfl) ?_
                refine wpAnyH_take (i := 4) (v := (.string ⟨(lineL (forJ (keyU u) u 0 l1)).toArray⟩)) rfl (by kernel_rfl) (by kernel_rfl) (by kernel_rfl) (fun _ _ _ h => h) (.inl ⟨by kernel_rfl, ?_⟩) ⟨⟨ub, ob⟩, TA⟩ ?_
                · rintro w ⟨⟨hv, ho⟩, tA⟩; have hcv := conv_by tA; go_simp
                refine plist #[true, true, true, true, true, true, false, false, false, false, false, false, false, false, false, false, false, false, false, false, false, false, false, false, false, false, false, false, false, false, false, false, false, false, false, false, false, false, false, false, false, false, false, false, false, false, false] (by kernel_rfl) ?_
                refine wpAnyH_take (i := 6) (v := (.bool true)) rfl (by kernel_rfl) (by kernel_rfl) (by kernel_rfl) (fun _ _ _ h => h) (.inl ⟨by kernel_rfl, ?_⟩) ⟨⟨ub, ob⟩, TA⟩ ?_
                · rintro w ⟨⟨hv, ho⟩, tA⟩; go_simp
                refine plist #[true, true, true, true, true, true, true, false, false, false, false, false, false, false, false, false, false, false, false, false, false, false, false, false, false, false, false, false, false, false, false, false, false, false, false, false, false, false, false, false, false, false, false, false, false, false, false] (by kernel_rfl) ?_
                refine wpAnyH_take (i := 7) (v := (.bool true)) rfl (by kernel_rfl) (by kernel_rfl) (by kernel_rfl) (fun _ _ _ h => h) (.inl ⟨by kernel_rfl, ?_⟩) ⟨⟨ub, ob⟩, TA⟩ ?_
                · rintro w ⟨⟨hv, ho⟩, tA⟩; go_simp
                refine plist #[true, true, true, true, true, true, true, true, false, false, false, false, false, false, false, false, false, false, false, false, false, false, false, false, false, false, false, false, false, false, false, false, false, false, false, false, false, false, false, false, false, false, false, false, false, false, false] (by kernel_rfl) ?_
                refine wpAnyH_take (i := 8) (v := (.pointer (some p1))) rfl (by kernel_rfl) (by kernel_rfl) (by kernel_rfl) (fun _ _ _ h => h) (.inl ⟨by kernel_rfl, ?_⟩) ⟨⟨ub, ob⟩, TA⟩ ?_
                · rintro w ⟨⟨hv, ho⟩, tA⟩; go_simp
                refine plist #[true, true, true, true, true, true, true, true, true, false, false, false, false, false, false, false, false, false, false, false, false, false, false, false, false, false, false, false, false, false, false, false, false, false, false, false, false, false, false, false, false, false, false, false, false, false, false] (by kernel_rfl) ?_
                refine wpAnyH_take (i := 11) (v := (.slice qo (ownersJ l1).length co)) rfl (by kernel_rfl) (by kernel_rfl) (by kernel_rfl) (fun _ _ _ h => h) (.inl ⟨by kernel_rfl, ?_⟩) ⟨⟨ub, ob⟩, TA⟩ ?_
                · rintro w ⟨⟨hv, ho⟩, tA⟩; go_simp
                refine plist #[true, true, true, true, true, true, true, true, true, false, false, true, false, false, false, false, false, false, false, false, false, false, false, false, false, false, false, false, false, false, false, false, false, false, false, false, false, false, false, false, false, false, false, false, false, false, false] (by kernel_rfl) ?_
                have con := Owners_any M1 p1 l1 _ hJ1 (HG4.out.on hB2).gl HLB.out
                refine pone 9 (by kernel_rfl) rfl fun K hK => ?_
                go_simp
                refine con.mono ?_
                rintro e Vb ⟨gf, lb, RB, rfl, heg, hit, hRB, hb⟩
                replace hB2 := hB2.trans (hb.mono hB2.size)
                replace hJ1 := keep_own hJ1 hb
                replace ub := Box.on ub hb
                replace ob := Box.on ob hb
                replace hU := hU.on hb
                replace hTX := hTX.on hb
                replace TA := TA.on hb
                clear con hb 
                refine hK _ _ ⟨⟨ub, ob⟩, TA⟩ ?_
                clear hK K
                refine plist #[true, true, true, true, true, true, true, true, true, true, false, true, false, false, false, false, false, false, false, false, false, false, false, false, false, false, false, false, false, false, false, false, false, false, false, false, false, false, false, false, false, false, false, false, false, false, false] (by kernel_rfl) ?_
                have con := texts_at gf lb (ownersJ l1) RB _ heg hit hRB HOW.out
                refine pone 10 (by kernel_rfl) rfl fun K hK => ?_
                go_simp
                refine con.mono ?_
                rintro e Vc ⟨qr, cr, rfl, hTY, hb⟩
                replace hB2 := hB2.trans (hb.mono hB2.size)
                replace hJ1 := keep_own hJ1 hb
                replace ub := Box.on ub hb
                replace ob := Box.on ob hb
                replace hU := hU.on hb
                replace hTX := hTX.on hb
                replace TA := TA.on hb
                clear con hb heg hit hRB
                refine hK _ _ ⟨⟨ub, ob⟩, TA⟩ ?_
                clear hK K
                refine plist #[true, true, true, true, true, true, true, true, true, true, true, true, false, false, false, false, false, false, false, false, false, false, false, false, false, false, false, false, false, false, false, false, false, false, false, false, false, false, false, false, false, false, false, false, false, false, false] (by kernel_rfl) ?_
                have con := same_at _ _ _ _ _ hTY hTX HOW.out HOW.out
                rw [decide_eq_true rfl] at con
                refine pone 12 (by kernel_rfl) rfl fun K hK => ?_
                go_simp
                refine con.mono ?_
                rintro e Vd ⟨rfl, hb⟩
                replace hB2 := hB2.trans (hb.mono hB2.size)
                replace hJ1 := keep_own hJ1 hb
                replace ub := Box.on ub hb
                replace ob := Box.on ob hb
                replace hU := hU.on hb
                replace hTX := hTX.on hb
                replace TA := TA.on hb
                clear con hb hTY
                refine hK _ _ ⟨⟨ub, ob⟩, TA⟩ ?_
                clear hK K
                refine plist #[true, true, true, true, true, true, true, true, true, true, true, true, true, false, false, false, false, false, false, false, false, false, false, false, false, false, false, false, false, false, false, false, false, false, false, false, false, false, false, false, false, false, false, false, false, false, false] (by kernel_rfl) ?_
                refine wpAnyH_take (i := 13) (v := (.bool true)) rfl (by kernel_rfl) (by kernel_rfl) (by kernel_rfl) (fun _ _ _ h => h) (.inl ⟨by kernel_rfl, ?_⟩) ⟨⟨ub, ob⟩, TA⟩ ?_
                · rintro w ⟨⟨hv, ho⟩, tA⟩; go_simp
                refine plist #[true, true, true, true, true, true, true, true, true, true, true, true, true, true, false, false, false, false, false, false, false, false, false, false, false, false, false, false, false, false, false, false, false, false, false, false, false, false, false, false, false, false, false, false, false, false, false] (by kernel_rfl) ?_
                refine wpAnyH_take (i := 14) (v := (.bool true)) rfl (by kernel_rfl) (by kernel_rfl) (by kernel_rfl) (fun _ _ _ h => h) (.inl ⟨by kernel_rfl, ?_⟩) ⟨⟨ub, ob⟩, TA⟩ ?_
                · rintro w ⟨⟨hv, ho⟩, tA⟩; go_simp
                refine plist #[true, true, true, true, true, true, true, true, true, true, true, true, true, true, true, false, false, false, false, false, false, false, false, false, false, false, false, false, false, false, false, false, false, false, false, false, false, false, false, false, false, false, false, false, false, false, false] (by kernel_rfl) ?_
                refine wpAnyH_take (i := 15) (v := (.pointer none)) rfl (by kernel_rfl) (by kernel_rfl) (by kernel_rfl) (fun _ _ _ h => h) (.inl ⟨by kernel_rfl, ?_⟩) ⟨⟨ub, ob⟩, TA⟩ ?_
                · rintro w ⟨⟨hv, ho⟩, tA⟩; go_simp
                refine plist #[true, true, true, true, true, true, true, true, true, true, true, true, true, true, true, true, false, false, false, false, false, false, false, false, false, false, false, false, false, false, false, false, false, false, false, false, false, false, false, false, false, false, false, false, false, false, false] (by kernel_rfl) ?_
                refine wpAnyH_take (i := 16) (v := (.agg #[.slice r0 m0 k0, .slice r1 m1 k1, .int .i64 pp, .slice r3 m3 k3, .slice r4 m4 k4, .slice r5 m5 k5, .bool hq, .bool hf])) rfl (by kernel_rfl) (by kernel_rfl) (by kernel_rfl) (fun _ _ _ h => h) (.inl ⟨by kernel_rfl, ?_⟩) ⟨⟨ub, ob⟩, TA⟩ ?_
                · rintro w ⟨⟨hv, ho⟩, tA⟩; have x0 := hv 0 _ rfl; have x1 := hv 1 _ rfl; have x2 := hv 2 _ rfl; have x3 := hv 3 _ rfl; have x4 := hv 4 _ rfl; have x5 := hv 5 _ rfl; have x6 := hv 6 _ rfl; have x7 := hv 7 _ rfl; go_simp <;> omega
                refine plist #[true, true, true, true, true, true, true, true, true, true, true, true, true, true, true, true, true, false, false, false, false, false, false, false, false, false, false, false, false, false, false, false, false, false, false, false, false, false, false, false, false, false, false, false, false, false, false] (by kernel_rfl) ?_
                refine wpAnyH_take (i := 17) (v := (.agg #[.slice none 0 0, .slice none 0 0, .slice none 0 0, .string ⟨#[]⟩, .int .i64 0, .bool false])) rfl (by kernel_rfl) (by kernel_rfl) (by kernel_rfl) (fun _ _ _ h => h) (.inl ⟨by kernel_rfl, ?_⟩) ⟨⟨ub, ob⟩, TA⟩ ?_
                · rintro w ⟨⟨hv, ho⟩, tA⟩; go_simp
                refine plist #[true, true, true, true, true, true, true, true, true, true, true, true, true, true, true, true, true, true, false, false, false, false, false, false, false, false, false, false, false, false, false, false, false, false, false, false, false, false, false, false, false, false, false, false, false, false, false] (by kernel_rfl) ?_
                have con := Set_nil _ _ u zeroC 0 _ hU (zero_is _) (by omega)
                refine pone 18 (by kernel_rfl) rfl fun K hK => ?_
                go_simp
                refine con.mono ?_
                rintro e Ve ⟨rfl, hb⟩
                replace hB2 := hB2.trans (hb.mono hB2.size)
                replace hJ1 := keep_own hJ1 hb
                replace ub := Box.on ub hb
                replace ob := Box.on ob hb
                replace hU := hU.on hb
                replace hTX := hTX.on hb
                replace TA := TA.on hb
                clear con hb 
                refine hK _ _ ⟨⟨ub, ob⟩, TA⟩ ?_
                clear hK K
                refine plist #[true, true, true, true, true, true, true, true, true, true, true, true, true, true, true, true, true, true, true, false, false, false, false, false, false, false, false, false, false, false, false, false, false, false, false, false, false, false, false, false, false, false, false, false, false, false, false] (by kernel_rfl) ?_
                refine wpAnyH_take (i := 19) (v := (.bool true)) rfl (by kernel_rfl) (by kernel_rfl) (by kernel_rfl) (fun _ _ _ h => h) (.inl ⟨by kernel_rfl, ?_⟩) ⟨⟨ub, ob⟩, TA⟩ ?_
                · rintro w ⟨⟨hv, ho⟩, tA⟩; go_simp
                refine plist #[true, true, true, true, true, true, true, true, true, true, true, true, true, true, true, true, true, true, true, true, false, false, false, false, false, false, false, false, false, false, false, false, false, false, false, false, false, false, false, false, false, false, false, false, false, false, false] (by kernel_rfl) ?_
                refine wpAnyH_take (i := 20) (v := (.bool true)) rfl (by kernel_rfl) (by kernel_rfl) (by kernel_rfl) (fun _ _ _ h => h) (.inl ⟨by kernel_rfl, ?_⟩) ⟨⟨ub, ob⟩, TA⟩ ?_
                · rintro w ⟨⟨hv, ho⟩, tA⟩; go_simp
                refine plist #[true, true, true, true, true, true, true, true, true, true, true, true, true, true, true, true, true, true, true, true, true, false, false, false, false, false, false, false, false, false, false, false, false, false, false, false, false, false, false, false, false, false, false, false, false, false, false] (by kernel_rfl) ?_
                refine wpAnyH_take (i := 21) (v := (.bool true)) rfl (by kernel_rfl) (by kernel_rfl) (by kernel_rfl) (fun _ _ _ h => h) (.inl ⟨by kernel_rfl, ?_⟩) ⟨⟨ub, ob⟩, TA⟩ ?_
                · rintro w ⟨⟨hv, ho⟩, tA⟩; go_simp
                refine plist #[true, true, true, true, true, true, true, true, true, true, true, true, true, true, true, true, true, true, true, true, true, true, false, false, false, false, false, false, false, false, false, false, false, false, false, false, false, false, false, false, false, false, false, false, false, false, false] (by kernel_rfl) ?_
                refine wpAnyH_take (i := 22) (v := (.pointer none)) rfl (by kernel_rfl) (by kernel_rfl) (by kernel_rfl) (fun _ _ _ h => h) (.inl ⟨by kernel_rfl, ?_⟩) ⟨⟨ub, ob⟩, TA⟩ ?_
                · rintro w ⟨⟨hv, ho⟩, tA⟩; go_simp
                refine plist #[true, true, true, true, true, true, true, true, true, true, true, true, true, true, true, true, true, true, true, true, true, true, true, false, false, false, false, false, false, false, false, false, false, false, false, false, false, false, false, false, false, false, false, false, false, false, false] (by kernel_rfl) ?_
                refine wpAnyH_take (i := 23) (v := (.agg #[.string ⟨u.scheme.toArray⟩, .string ⟨u.host.toArray⟩, .int .i64 u.port, .int .i64 0])) rfl (by kernel_rfl) (by kernel_rfl) (by kernel_rfl) (fun _ _ _ h => h) (.inl ⟨by kernel_rfl, ?_⟩) ⟨⟨ub, ob⟩, TA⟩ ?_
                · rintro w ⟨⟨hv, ho⟩, tA⟩; have y0 := ho 0 _ rfl; have y1 := ho 1 _ rfl; have y2 := ho 2 _ rfl; have y3 := ho 3 _ rfl; go_simp <;> omega
                refine plist #[true, true, true, true, true, true, true, true, true, true, true, true, true, true, true, true, true, true, true, true, true, true, true, true, false, false, false, false, false, false, false, false, false, false, false, false, false, false, false, false, false, false, false, false, false, false, false] (by kernel_rfl) ?_
                refine wpAnyH_take (i := 24) (v := (.agg #[.slice r0 m0 k0, .slice r1 m1 k1, .int .i64 pp, .slice r3 m3 k3, .slice r4 m4 k4, .slice r5 m5 k5, .bool hq, .bool hf])) rfl (by kernel_rfl) (by kernel_rfl) (by kernel_rfl) (fun _ _ _ h => h) (.inl ⟨by kernel_rfl, ?_⟩) ⟨⟨ub, ob⟩, TA⟩ ?_
                · rintro w ⟨⟨hv, ho⟩, tA⟩; have x0 := hv 0 _ rfl; have x1 := hv 1 _ rfl; have x2 := hv 2 _ rfl; have x3 := hv 3 _ rfl; have x4 := hv 4 _ rfl; have x5 := hv 5 _ rfl; have x6 := hv 6 _ rfl; have x7 := hv 7 _ rfl; go_simp <;> omega
                refine plist #[true, true, true, true, true, true, true, true, true, true, true, true, true, true, true, true, true, true, true, true, true, true, true, true, true, false, false, false, false, false, false, false, false, false, false, false, false, false, false, false, false, false, false, false, false, false, false] (by kernel_rfl) ?_
                refine wpAnyH_take (i := 27) (v := (.pointer none)) rfl (by kernel_rfl) (by kernel_rfl) (by kernel_rfl) (fun _ _ _ h => h) (.inl ⟨by kernel_rfl, ?_⟩) ⟨⟨ub, ob⟩, TA⟩ ?_
                · rintro w ⟨⟨hv, ho⟩, tA⟩; go_simp
                refine plist #[true, true, true, true, true, true, true, true, true, true, true, true, true, true, true, true, true, true, true, true, true, true, true, true, true, false, false, true, false, false, false, false, false, false, false, false, false, false, false, false, false, false, false, false, false, false, false] (by kernel_rfl) ?_
                refine wpAnyH_take (i := 30) (v := (.pointer none)) rfl (by kernel_rfl) (by kernel_rfl) (by kernel_rfl) (fun _ _ _ h => h) (.inl ⟨by kernel_rfl, ?_⟩) ⟨⟨ub, ob⟩, TA⟩ ?_
                · rintro w ⟨⟨hv, ho⟩, tA⟩; go_simp
                refine plist #[true, true, true, true, true, true, true, true, true, true, true, true, true, true, true, true, true, true, true, true, true, true, true, true, true, false, false, true, false, false, true, false, false, false, false, false, false, false, false, false, false, false, false, false, false, false, false] (by kernel_rfl) ?_
                refine wpAnyH_take (i := 31) (v := (.agg #[.string ⟨u.scheme.toArray⟩, .string ⟨u.host.toArray⟩, .int .i64 u.port, .int .i64 0])) rfl (by kernel_rfl) (by kernel_rfl) (by kernel_rfl) (fun _ _ _ h => h) (.inl ⟨by kernel_rfl, ?_⟩) ⟨⟨ub, ob⟩, TA⟩ ?_
                · rintro w ⟨⟨hv, ho⟩, tA⟩; have y0 := ho 0 _ rfl; have y1 := ho 1 _ rfl; have y2 := ho 2 _ rfl; have y3 := ho 3 _ rfl; go_simp <;> omega
                refine plist #[true, true, true, true, true, true, true, true, true, true, true, true, true, true, true, true, true, true, true, true, true, true, true, true, true, false, false, true, false, false, true, true, false, false, false, false, false, false, false, false, false, false, false, false, false, false, false] (by kernel_rfl) ?_
                refine wpAnyH_take (i := 34) (v := (.pointer none)) rfl (by kernel_rfl) (by kernel_rfl) (by kernel_rfl) (fun _ _ _ h => h) (.inl ⟨by kernel_rfl, ?_⟩) ⟨⟨ub, ob⟩, TA⟩ ?_
                · rintro w ⟨⟨hv, ho⟩, tA⟩; go_simp
                refine plist #[true, true, true, true, true, true, true, true, true, true, true, true, true, true, true, true, true, true, true, true, true, true, true, true, true, false, false, true, false, false, true, true, false, false, true, false, false, false, false, false, false, false, false, false, false, false, false] (by kernel_rfl) ?_
                have con := Line_nil u u _ 0 _ HUZ.out hU HUZ.out (by omega) (HG4.out.on hB2).gl
                rw [show Org.orgV u.scheme u.host u.port 0 = .agg #[.string ⟨u.scheme.toArray⟩, .string ⟨u.host.toArray⟩, .int .i64 u.port, .int .i64 0] from rfl] at con
                refine pone 25 (by kernel_rfl) rfl fun K hK => ?_
                go_simp
                refine con.mono ?_
                rintro e Vf ⟨rd, md, dd, rfl, TB, hb⟩
                replace hB2 := hB2.trans (hb.mono hB2.size)
                replace hJ1 := keep_own hJ1 hb
                replace ub := Box.on ub hb
                replace ob := Box.on ob hb
                replace hU := hU.on hb
                replace hTX := hTX.on hb
                replace TA := TA.on hb
                obtain rfl : 0 = md := TB.at.1
                clear con hb TB
                refine hK _ _ ⟨⟨ub, ob⟩, TA⟩ ?_
                clear hK K
                refine plist #[true, true, true, true, true, true, true, true, true, true, true, true, true, true, true, true, true, true, true, true, true, true, true, true, true, true, false, true, false, false, true, true, false, false, true, false, false, false, false, false, false, false, false, false, false, false, false] (by kernel_rfl) ?_
                refine wpAnyH_take (i := 26) (v := (.int .i64 0)) rfl (by kernel_rfl) (by kernel_rfl) (by kernel_rfl) (fun _ _ _ h => h) (.inl ⟨by kernel_rfl, ?_⟩) ⟨⟨ub, ob⟩, TA⟩ ?_
                · rintro w ⟨⟨hv, ho⟩, tA⟩; go_simp
                refine plist #[true, true, true, true, true, true, true, true, true, true, true, true, true, true, true, true, true, true, true, true, true, true, true, true, true, true, true, true, false, false, true, true, false, false, true, false, false, false, false, false, false, false, false, false, false, false, false] (by kernel_rfl) ?_
                have con := Sweep_nil 0 Vf
                refine pone 28 (by kernel_rfl) rfl fun K hK => ?_
                go_simp
                refine con.mono ?_
                rintro e Vg ⟨rfl, hb⟩
                replace hB2 := hB2.trans (hb.mono hB2.size)
                replace hJ1 := keep_own hJ1 hb
                replace ub := Box.on ub hb
                replace ob := Box.on ob hb
                replace hU := hU.on hb
                replace hTX := hTX.on hb
                replace TA := TA.on hb
                clear con hb 
                refine hK _ _ ⟨⟨ub, ob⟩, TA⟩ ?_
                clear hK K
                refine plist #[true, true, true, true, true, true, true, true, true, true, true, true, true, true, true, true, true, true, true, true, true, true, true, true, true, true, true, true, true, false, true, true, false, false, true, false, false, false, false, false, false, false, false, false, false, false, false] (by kernel_rfl) ?_
                refine wpAnyH_take (i := 29) (v := (.int .i64 0)) rfl (by kernel_rfl) (by kernel_rfl) (by kernel_rfl) (fun _ _ _ h => h) (.inl ⟨by kernel_rfl, ?_⟩) ⟨⟨ub, ob⟩, TA⟩ ?_
                · rintro w ⟨⟨hv, ho⟩, tA⟩; go_simp; rfl
                refine plist #[true, true, true, true, true, true, true, true, true, true, true, true, true, true, true, true, true, true, true, true, true, true, true, true, true, true, true, true, true, true, true, true, false, false, true, false, false, false, false, false, false, false, false, false, false, false, false] (by kernel_rfl) ?_
                have con := Len_nil u Vg
                rw [show Org.orgV u.scheme u.host u.port 0 = .agg #[.string ⟨u.scheme.toArray⟩, .string ⟨u.host.toArray⟩, .int .i64 u.port, .int .i64 0] from rfl] at con
                refine pone 32 (by kernel_rfl) rfl fun K hK => ?_
                go_simp
                refine con.mono ?_
                rintro e Vh ⟨rfl, hb⟩
                replace hB2 := hB2.trans (hb.mono hB2.size)
                replace hJ1 := keep_own hJ1 hb
                replace ub := Box.on ub hb
                replace ob := Box.on ob hb
                replace hU := hU.on hb
                replace hTX := hTX.on hb
                replace TA := TA.on hb
                clear con hb 
                refine hK _ _ ⟨⟨ub, ob⟩, TA⟩ ?_
                clear hK K
                refine plist #[true, true, true, true, true, true, true, true, true, true, true, true, true, true, true, true, true, true, true, true, true, true, true, true, true, true, true, true, true, true, true, true, true, false, true, false, false, false, false, false, false, false, false, false, false, false, false] (by kernel_rfl) ?_
                refine wpAnyH_take (i := 33) (v := (.int .i64 0)) rfl (by kernel_rfl) (by kernel_rfl) (by kernel_rfl) (fun _ _ _ h => h) (.inl ⟨by kernel_rfl, ?_⟩) ⟨⟨ub, ob⟩, TA⟩ ?_
                · rintro w ⟨⟨hv, ho⟩, tA⟩; go_simp; rfl
                refine plist #[true, true, true, true, true, true, true, true, true, true, true, true, true, true, true, true, true, true, true, true, true, true, true, true, true, true, true, true, true, true, true, true, true, true, true, false, false, false, false, false, false, false, false, false, false, false, false] (by kernel_rfl) ?_
                have con := Owners_nil Vh (HG4.out.on hB2).gl
                refine pone 35 (by kernel_rfl) rfl fun K hK => ?_
                go_simp
                refine con.mono ?_
                rintro e Vi ⟨gf, lb, RB, rfl, heg, hit, hRB, hb⟩
                replace hB2 := hB2.trans (hb.mono hB2.size)
                replace hJ1 := keep_own hJ1 hb
                replace ub := Box.on ub hb
                replace ob := Box.on ob hb
                replace hU := hU.on hb
                replace hTX := hTX.on hb
                replace TA := TA.on hb
                clear con hb 
                refine hK _ _ ⟨⟨ub, ob⟩, TA⟩ ?_
                clear hK K
                refine plist #[true, true, true, true, true, true, true, true, true, true, true, true, true, true, true, true, true, true, true, true, true, true, true, true, true, true, true, true, true, true, true, true, true, true, true, true, false, false, false, false, false, false, false, false, false, false, false] (by kernel_rfl) ?_
                have con := texts_at gf lb [] RB _ heg hit hRB (by simp)
                refine pone 36 (by kernel_rfl) rfl fun K hK => ?_
                go_simp
                refine con.mono ?_
                rintro e Vj ⟨qs, cs, rfl, hTY, hb⟩
                replace hB2 := hB2.trans (hb.mono hB2.size)
                replace hJ1 := keep_own hJ1 hb
                replace ub := Box.on ub hb
                replace ob := Box.on ob hb
                replace hU := hU.on hb
                replace hTX := hTX.on hb
                replace TA := TA.on hb
                clear con hb heg hit hRB hTY
                refine hK _ _ ⟨⟨ub, ob⟩, TA⟩ ?_
                clear hK K
                refine plist #[true, true, true, true, true, true, true, true, true, true, true, true, true, true, true, true, true, true, true, true, true, true, true, true, true, true, true, true, true, true, true, true, true, true, true, true, true, false, false, false, false, false, false, false, false, false, false] (by kernel_rfl) ?_
                refine wpAnyH_take (i := 37) (v := (.int .i64 0)) rfl (by kernel_rfl) (by kernel_rfl) (by kernel_rfl) (fun _ _ _ h => h) (.inl ⟨by kernel_rfl, ?_⟩) ⟨⟨ub, ob⟩, TA⟩ ?_
                · rintro w ⟨⟨hv, ho⟩, tA⟩; go_simp
                refine plist #[true, true, true, true, true, true, true, true, true, true, true, true, true, true, true, true, true, true, true, true, true, true, true, true, true, true, true, true, true, true, true, true, true, true, true, true, true, true, false, false, false, false, false, false, false, false, false] (by kernel_rfl) ?_
                refine wpAnyH_take (i := 38) (v := (.int .i64 0)) rfl (by kernel_rfl) (by kernel_rfl) (by kernel_rfl) (fun _ _ _ h => h) (.inl ⟨by kernel_rfl, ?_⟩) ⟨⟨ub, ob⟩, TA⟩ ?_
                · rintro w ⟨⟨hv, ho⟩, tA⟩; go_simp; rfl
                refine plist #[true, true, true, true, true, true, true, true, true, true, true, true, true, true, true, true, true, true, true, true, true, true, true, true, true, true, true, true, true, true, true, true, true, true, true, true, true, true, true, false, false, false, false, false, false, false, false] (by kernel_rfl) ?_
                refine wpAnyH_take (i := 39) (v := (.bool true)) rfl (by kernel_rfl) (by kernel_rfl) (by kernel_rfl) (fun _ _ _ h => h) (.inl ⟨by kernel_rfl, ?_⟩) ⟨⟨ub, ob⟩, TA⟩ ?_
                · rintro w ⟨⟨hv, ho⟩, tA⟩; go_simp
                refine plist #[true, true, true, true, true, true, true, true, true, true, true, true, true, true, true, true, true, true, true, true, true, true, true, true, true, true, true, true, true, true, true, true, true, true, true, true, true, true, true, true, false, false, false, false, false, false, false] (by kernel_rfl) ?_
                refine wpAnyH_take (i := 40) (v := (.bool true)) rfl (by kernel_rfl) (by kernel_rfl) (by kernel_rfl) (fun _ _ _ h => h) (.inl ⟨by kernel_rfl, ?_⟩) ⟨⟨ub, ob⟩, TA⟩ ?_
                · rintro w ⟨⟨hv, ho⟩, tA⟩; go_simp
                refine plist #[true, true, true, true, true, true, true, true, true, true, true, true, true, true, true, true, true, true, true, true, true, true, true, true, true, true, true, true, true, true, true, true, true, true, true, true, true, true, true, true, true, false, false, false, false, false, false] (by kernel_rfl) ?_
                refine wpAnyH_take (i := 41) (v := (.bool true)) rfl (by kernel_rfl) (by kernel_rfl) (by kernel_rfl) (fun _ _ _ h => h) (.inl ⟨by kernel_rfl, ?_⟩) ⟨⟨ub, ob⟩, TA⟩ ?_
                · rintro w ⟨⟨hv, ho⟩, tA⟩; go_simp
                refine plist #[true, true, true, true, true, true, true, true, true, true, true, true, true, true, true, true, true, true, true, true, true, true, true, true, true, true, true, true, true, true, true, true, true, true, true, true, true, true, true, true, true, true, false, false, false, false, false] (by kernel_rfl) ?_
                refine wpAnyH_take (i := 42) (v := (.pointer none)) rfl (by kernel_rfl) (by kernel_rfl) (by kernel_rfl) (fun _ _ _ h => h) (.inl ⟨by kernel_rfl, ?_⟩) ⟨⟨ub, ob⟩, TA⟩ ?_
                · rintro w ⟨⟨hv, ho⟩, tA⟩; go_simp
                refine plist #[true, true, true, true, true, true, true, true, true, true, true, true, true, true, true, true, true, true, true, true, true, true, true, true, true, true, true, true, true, true, true, true, true, true, true, true, true, true, true, true, true, true, true, false, false, false, false] (by kernel_rfl) ?_
                have con := Copy_nil Vj
                refine pone 43 (by kernel_rfl) rfl fun K hK => ?_
                go_simp
                refine con.mono ?_
                rintro e Vk ⟨rfl, hb⟩
                replace hB2 := hB2.trans (hb.mono hB2.size)
                replace hJ1 := keep_own hJ1 hb
                replace ub := Box.on ub hb
                replace ob := Box.on ob hb
                replace hU := hU.on hb
                replace hTX := hTX.on hb
                replace TA := TA.on hb
                clear con hb 
                refine hK _ _ ⟨⟨ub, ob⟩, TA⟩ ?_
                clear hK K
                refine plist #[true, true, true, true, true, true, true, true, true, true, true, true, true, true, true, true, true, true, true, true, true, true, true, true, true, true, true, true, true, true, true, true, true, true, true, true, true, true, true, true, true, true, true, true, false, false, false] (by kernel_rfl) ?_
                refine wpAnyH_take (i := 44) (v := (.bool true)) rfl (by kernel_rfl) (by kernel_rfl) (by kernel_rfl) (fun _ _ _ h => h) (.inl ⟨by kernel_rfl, ?_⟩) ⟨⟨ub, ob⟩, TA⟩ ?_
                · rintro w ⟨⟨hv, ho⟩, tA⟩; go_simp
                refine plist #[true, true, true, true, true, true, true, true, true, true, true, true, true, true, true, true, true, true, true, true, true, true, true, true, true, true, true, true, true, true, true, true, true, true, true, true, true, true, true, true, true, true, true, true, true, false, false] (by kernel_rfl) ?_
                refine wpAnyH_take (i := 45) (v := (.bool true)) rfl (by kernel_rfl) (by kernel_rfl) (by kernel_rfl) (fun _ _ _ h => h) (.inl ⟨by kernel_rfl, ?_⟩) ⟨⟨ub, ob⟩, TA⟩ ?_
                · rintro w ⟨⟨hv, ho⟩, tA⟩; go_simp
                refine plist #[true, true, true, true, true, true, true, true, true, true, true, true, true, true, true, true, true, true, true, true, true, true, true, true, true, true, true, true, true, true, true, true, true, true, true, true, true, true, true, true, true, true, true, true, true, true, false] (by kernel_rfl) ?_
                refine pone 46 (by kernel_rfl) rfl fun K hK => ?_
                go_simp
                refine hK _ _ ⟨⟨ub, ob⟩, TA⟩ ?_
                clear hK K
                refine pdone (by kernel_rfl) ?_ _
                go_wp2
                go_ret
                exact ⟨rfl, HA.out.trans (hB2.mono HA.out.size)⟩

theorem proved : Rows.JarCopiesCardSaid := card walk
end Go.Proofs.YtniehbjoogaccaaGreatDoor.jarCopies
