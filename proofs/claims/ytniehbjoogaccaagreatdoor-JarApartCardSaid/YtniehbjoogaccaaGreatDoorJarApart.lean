/- JarApart: the law returns true at whatever input, and writes nothing that was there: its tied card. Conditions: none. -/
import Derived.Test.YtniehbjoogaccaaGreatDoorBaseH
import Derived.Deep.DeepCutAuto
namespace Go.Proofs.YtniehbjoogaccaaGreatDoor.jarApart
open Go.RowKit Go.Shelf Url Ck Jar
attribute [local go_sem] Oper.semAt_some
set_option linter.unusedVariables false

theorem row_by {w : World} {a : Option Addr} {len cap : Nat} {zs : List Int} (h : IsRow .u8 w a len cap zs) : ∃ bs : List UInt8, By w (.slice a len cap) bs := by
  rcases h with ⟨rfl, rfl, rfl, rfl⟩ | ⟨x, rfl, h1, h2, h3, h4, h5⟩
  · exact ⟨[], by_nil w⟩
  · have hz : ∀ i, i < len → (Lib.numsL (Lib.bytesOf (zs.take len))).getD i 0 = zs.getD i 0 := fun i hi => by
      have hi' : i < zs.length := by omega
      have hw := bounds_u8 (h5 _ (List.getElem_mem hi'))
      have : (Lib.bytesOf (zs.take len)).getD i 0 = UInt8.ofNat (zs[i]).toNat := by
        simp [Lib.bytesOf, List.getD, hi, List.getElem?_eq_getElem hi']
      rw [numsL_getD _ _ (by simp [Lib.bytesOf]; omega), this, List.getD, List.getElem?_eq_getElem hi']
      simp only [Option.getD_some, UInt8.toNat_ofNat']
      omega
    refine ⟨Lib.bytesOf (zs.take len), By.of (by simp [Lib.bytesOf]; omega) h1 h2 (fun h => by cases h) (Lib.BytesIn.of_cells fun i hi => ?_)⟩
    rw [hz i hi]
    exact h4 i (by omega)


set_option maxRecDepth 100000 in
set_option maxHeartbeats 32000000 in
theorem walk : Walks := by
  intro a0 len0 cap0 a1 len1 cap1 z1 a2 w w0 w1 w2 hG
  obtain ⟨L, hL⟩ := acts_in w0
  obtain ⟨tx, hx⟩ := row_by w1
  have hnow := wf_i64 w2
  clear w0 w1 w2
  have hl1 := hx.at.1
  have con := Jar.lives_any w hG
  have HG := Lib.hid hG
  clear hG
  go_enter Tryz.func4, Tryz.ntmps4
  go_wp2_with fail
  refine con.mono ?_
  rintro e w2 ⟨rfl, hb2⟩
  clear con
  have con := few_any a0 len0 cap0 L w2 (hL.on hb2)
  go_wp2_with fail
  refine con.mono ?_
  rintro e w3 ⟨rfl, hb3⟩
  clear con
  replace hb2 := hb2.trans (hb3.mono hb2.size)
  clear hb3
  cases hfew : fewB L with
  | false =>
    clear hL hx hl1 hnow hfew
    have con := Jar.lives_any w3 (HG.out.on hb2)
    go_wp2_with fail
    refine con.mono ?_
    rintro e w4 ⟨rfl, hb3⟩
    go_wp2
    go_ret
    exact ⟨rfl, hb2.trans (hb3.mono hb2.size)⟩
  | true =>
    by_cases hbig : 200 < len1
    · have d1 : decide ((200 : Int) < (len1 : Int)) = true := by simp; omega
      clear hL hx hl1 hnow hfew hbig
      have con := Jar.lives_any w3 (HG.out.on hb2)
      go_wp2_with fail
      refine con.mono ?_
      rintro e w4 ⟨rfl, hb3⟩
      go_wp2
      go_ret
      exact ⟨rfl, hb2.trans (hb3.mono hb2.size)⟩
    · have d1 : decide ((200 : Int) < (len1 : Int)) = false := by simp; omega
      by_cases hneg : a2 < 0
      · have d2 : decide (a2 < 0) = true := by simpa using hneg
        clear hL hx hl1 hnow hfew hbig hneg
        have con := Jar.lives_any w3 (HG.out.on hb2)
        go_wp2_with fail
        refine con.mono ?_
        rintro e w4 ⟨rfl, hb3⟩
        go_wp2
        go_ret
        exact ⟨rfl, hb2.trans (hb3.mono hb2.size)⟩
      · have d2 : decide (a2 < 0) = false := by simpa using hneg
        have HN := Lib.hid hnow
        have HLA := Lib.hid hL
        have HFW := Lib.hid hfew
        have HNN := Lib.hid (show 0 ≤ a2 by omega)
        have con := UParse_any a1 len1 cap1 tx w3 (hx.on hb2) (by omega) (HG.out.on hb2)
        have HU1 := Lib.hid (fun u hu => (show Url.Ok u ∧ (textU u).length ≤ 4096 from ⟨Url.parse_ok tx u hu, by have := Url.text_len _ u hu; omega⟩))
        generalize parseU tx = R1 at *
        clear hnow hL hx hl1 hbig hneg hfew
        go_wp2_with fail
        refine con.mono ?_
        rintro e X1 ⟨r0, m0, k0, r1, m1, k1, pp, r3, m3, k3, r4, m4, k4, r5, m5, k5, hq, hf, rfl, hU, hm, hb⟩
        have A := hb2.trans (hb.mono hb2.size)
        clear con hb d1 d2 hb2
        have hb : Below X1.heap.size X1 (X1.alloc (.cells #[.slice r0 m0 k0, .slice r1 m1 k1, .int .i64 pp, .slice r3 m3 k3, .slice r4 m4 k4, .slice r5 m5 k5, .bool hq, .bool hf] 33)) := below_alloc _
        have ub : Box X1.heap.size #[.slice r0 m0 k0, .slice r1 m1 k1, .int .i64 pp, .slice r3 m3 k3, .slice r4 m4 k4, .slice r5 m5 k5, .bool hq, .bool hf] (X1.alloc (.cells #[.slice r0 m0 k0, .slice r1 m1 k1, .int .i64 pp, .slice r3 m3 k3, .slice r4 m4 k4, .slice r5 m5 k5, .bool hq, .bool hf] 33)) := Box.new X1 _ _
        replace A := A.trans (hb.mono A.size)
        replace hU := hU.on hb
        cases R1 with
        | inl m1 =>
          have d3 : (m1 != 0) = true := by simpa using hm m1 rfl
          clear hm hU hb ub
          simp only [urlE] at *
          go_wp2
          go_ret
          exact ⟨rfl, A⟩
        | inr u =>
          obtain ⟨hu1, hu2⟩ := HU1.out u rfl
          have HUO := Lib.hid hu1
          have HUT := Lib.hid hu2
          simp only [urlE, urlV] at *
          obtain ⟨bu, hbu⟩ : ∃ b, X1.heap.size = b := ⟨_, rfl⟩
          obtain ⟨X2, hX2⟩ : ∃ Z, X1.alloc (.cells #[.slice r0 m0 k0, .slice r1 m1 k1, .int .i64 pp, .slice r3 m3 k3, .slice r4 m4 k4, .slice r5 m5 k5, .bool hq, .bool hf] 33) = Z := ⟨_, rfl⟩
          have con := Org.Of_any u _ _ hU
          have u0 := ub 0 _ rfl
          have u1 := ub 1 _ rfl
          have u2 := ub 2 _ rfl
          have u3 := ub 3 _ rfl
          have u4 := ub 4 _ rfl
          have u5 := ub 5 _ rfl
          have u6 := ub 6 _ rfl
          have u7 := ub 7 _ rfl
          rw [hX2, hbu] at ub
          rw [hX2] at hU A hb
          have HX2 := Lib.hid hX2
          have HBU := Lib.hid hbu
          have HUB := Lib.hid ub
          clear hm hX2 hbu ub hb hu1 hu2 HU1
          go_wp2_with fail
          rw [HX2.out, HBU.out]
          rw [HX2.out] at con
          refine con.mono ?_
          rintro e X3 ⟨rfl, hb⟩
          replace A := A.trans (hb.mono A.size)
          replace hU := hU.on hb
          replace HUB := Lib.hid (Box.on HUB.out hb)
          clear con hb HX2 HBU u0 u1 u2 u3 u4 u5 u6 u7
          obtain ⟨bo, hbo⟩ : ∃ b, X3.heap.size = b := ⟨_, rfl⟩
          obtain ⟨X4, hX4⟩ : ∃ Z, X3.alloc (.cells #[.string ⟨u.scheme.toArray⟩, .string ⟨u.host.toArray⟩, .int .i64 u.port, .int .i64 0] 62) = Z := ⟨_, rfl⟩
          have hb : Below X3.heap.size X3 X4 := hX4 ▸ below_alloc _
          have ob : Box bo #[.string ⟨u.scheme.toArray⟩, .string ⟨u.host.toArray⟩, .int .i64 u.port, .int .i64 0] X4 := hX4 ▸ hbo ▸ Box.new X3 _ _
          replace A := A.trans (hb.mono A.size)
          replace hU := hU.on hb
          replace HUB := Lib.hid (Box.on HUB.out hb)
          have HX4 := Lib.hid hX4
          have HBO := Lib.hid hbo
          clear hX4 hbo hb
          have con := New_any X4
          have hx4 : Org.orgV u.scheme u.host u.port 0 = .agg #[.string ⟨u.scheme.toArray⟩, .string ⟨u.host.toArray⟩, .int .i64 u.port, .int .i64 0] := rfl
          rw [hx4]
          go_wp2_with fail
          rw [HX4.out, HBO.out]
          refine con.mono ?_
          rintro e X5 ⟨M1, p1, rfl, hJ1, hM1, hb⟩
          have hlt := hJ1.off
          have B5 := hb
          clear con hb HX4 HBO hx4
          have con := New_any X5
          go_wp2_with fail
          refine con.mono ?_
          rintro e X6 ⟨M2, p2, rfl, hJ2, hM2, hb⟩
          replace hJ1 := keep_own hJ1 hb
          have B6 := B5.trans (hb.mono B5.size)
          have HD := Lib.hid (show ∀ b, M1 b → ¬ M2 b from fun b h1 h2 => by have := (hlt b h1).1; have := hM2 b h2; omega)
          have HM1 := Lib.hid hM1
          have HM2 := Lib.hid (show ∀ b, M2 b → X4.heap.size ≤ b from fun b h => Nat.le_trans B5.size (hM2 b h))
          have HU := Lib.hid hU
          have HOB := Lib.hid ob
          have HA := Lib.hid A
          have HG4 := Lib.hid (show GlB X4.heap.size X4 from Gl.glb (HG.out.on A))
          have HNL := HLA.out.1
          have hn60 := few_len HFW.out
          clear con hb hlt hM1 hM2 hU ob A B5
          go_wp2
          go_loopw [46] (fun i wr => ∃ (k : Nat) (M1 M2 : Nat → Prop) (l1 l2 : List En), k ≤ len0 ∧ i = .int .i64 k ∧ JarIn M1 (.pointer (some p1)) l1 wr ∧ JarIn M2 (.pointer (some p2)) l2 wr ∧ Hid (∀ b, M1 b → X4.heap.size ≤ b) ∧ Hid (∀ b, M2 b → X4.heap.size ≤ b) ∧ Hid (∀ b, M1 b → ¬ M2 b) ∧
            Hid (l1.filter (mine (keyU u)) = l2.filter (mine (keyU u))) ∧ Hid (∀ k, lenJ k l1 ≤ 8) ∧ Below X4.heap.size X4 wr) (fun i _ => len0 - (intOf i).toNat)
          case atStart => exact ⟨0, M1, M2, [], [], Nat.zero_le _, rfl, hJ1, hJ2, HM1, HM2, HD, Lib.hid rfl, Lib.hid (fun k => by simp [lenJ]), B6⟩
          case round =>
            obtain ⟨k, M1, M2, l1, l2, hk, rfl, hJ1, hJ2, HM1, HM2, HD, HE, H8, hB⟩ := hrel
            by_cases hlt : k < len0
            · obtain ⟨x, hx⟩ : ∃ x, L[k]? = some x := ⟨_, List.getElem?_eq_getElem (by omega)⟩
              have A := HA.out.trans (hB.mono HA.out.size)
              obtain ⟨g, o, rfl, hg, hc⟩ := (HLA.out.on A).2 (by omega)
              obtain ⟨q1, n1, c1, q2, n2, c2, q3, n3, c3, j0, j1, j2, j3, j4, hi, y1, y2, y3⟩ := hc k x hx
              obtain ⟨t1, t2, t3⟩ := few_fit HFW.out (List.mem_of_getElem? hx)
              have e1 := y1.at.1
              have HI := Lib.hid hi.1
              obtain ⟨ba, hba⟩ : ∃ b, wr.heap.size = b := ⟨_, rfl⟩
              obtain ⟨Y1, hY1⟩ : ∃ Z, wr.alloc (.cells #[.int .i64 x.kind, .int .i64 x.now, .slice q1 n1 c1, .slice q2 n2 c2, .slice q3 n3 c3] 31) = Z := ⟨_, rfl⟩
              have hb : Below wr.heap.size wr Y1 := hY1 ▸ below_alloc _
              have ab : Box ba #[.int .i64 x.kind, .int .i64 x.now, .slice q1 n1 c1, .slice q2 n2 c2, .slice q3 n3 c3] Y1 := hY1 ▸ hba ▸ Box.new wr _ _
              have HAL := Lib.hid (show ∀ b, M1 b ∨ M2 b → b < ba from fun b h => hba ▸ h.elim (fun h => (hJ1.off b h).1) (fun h => (hJ2.off b h).1))
              have HBA := Lib.hid (show X4.heap.size ≤ ba from hba ▸ hB.size)
              replace hJ1 := keep_own hJ1 hb
              replace hJ2 := keep_own hJ2 hb
              have hB1 := hB.trans (hb.mono hB.size)
              have A1 := A.trans (hb.mono A.size)
              have con := put_any M1 p1 l1 x q1 n1 c1 q2 n2 c2 q3 n3 c3 Y1 hJ1 (y1.on hb) (y3.on hb) HI.out t1 t3 X4.heap.size HM1.out hB1.size (HG4.out.on hB1)
              have HY1 := Lib.hid hY1
              have HSY := Lib.hid (show ba < Y1.heap.size from World.block_lt_of_cell? Y1 _ (ab 0 _ rfl))
              have HY3 := Lib.hid (y3.on hb)
              have HXB := Lib.hid (y1.on hb)
              have HT := Lib.hid (show x.at_.length ≤ 200 ∧ x.set.length ≤ 300 from ⟨t1, t3⟩)
              have HO1 := Lib.hid hJ1.off
              have a0' := ab 0 _ rfl
              have a1' := ab 1 _ rfl
              have a2' := ab 2 _ rfl
              have a3' := ab 3 _ rfl
              have a4' := ab 4 _ rfl
              rw [← HY1.out] at a0' a1' a2' a3' a4'
              have HBA2 := Lib.hid hba
              clear hc hx hi y1 y2 y3 t1 t2 t3 hY1 hba hJ1 hg A hb
              go_wp2_with fail
              rw [HY1.out, HBA2.out]
              refine con.mono ?_
              rintro e Y2 ⟨N1, rfl, hJ1, hN1, hk2⟩
              replace hJ2 := hJ2.keep (hk2.mono fun b _ h2 h1 => HD.out b h1 h2) (HO1.out.soft hk2)
              have HNM1 := Lib.hid (show ∀ b, N1 b → X4.heap.size ≤ b ∧ b ≠ ba ∧ ¬ M2 b from fun b h => by
                rcases hN1 b h with h | h
                · exact ⟨HM1.out b h, by have := HAL.out b (.inl h); omega, HD.out b h⟩
                · have h0 := HSY.out
                  exact ⟨by have := HBA.out; omega, by omega, fun h2 => by have := HAL.out b (.inr h2); omega⟩)
              have hB2 := hB1.trans (Keep.below (hk2.mono fun b _ (h : b < X4.heap.size) hm => by have := HM1.out b hm; omega) hB1.size)
              replace ab : Box ba #[.int .i64 x.kind, .int .i64 x.now, .slice q1 n1 c1, .slice q2 n2 c2, .slice q3 n3 c3] Y2 := fun i z h => (World.cell?_of_block (hk2.block ba HSY.out (fun h => by have := HAL.out ba (.inl h); omega))).trans (ab i z h)
              replace HY3 := Lib.hid ((HO1.out.soft hk2).1 _ _ HY3.out)
              replace HXB := Lib.hid ((HO1.out.soft hk2).1 _ _ HXB.out)
              clear con hN1 hk2 a0' a1' a2' a3' a4' j0 j1 j2 j3 j4 A1 hB1 HO1 HY1 hB HM1 HD HAL HSY
              have A2 := HA.out.trans (hB2.mono HA.out.size)
              have con := UParse_any q1 n1 c1 x.at_ Y2 HXB.out (by have := HT.out.1; omega) (HG4.out.on hB2).gl
              have a2' := ab 2 _ rfl
              have HUX := Lib.hid (fun v hv => (show Url.Ok v ∧ (textU v).length ≤ 4096 from ⟨Url.parse_ok x.at_ v hv, by have := Url.text_len _ v hv; have := HT.out.1; omega⟩))
              have HAC := Lib.hid (fun l => show actN l x = (match parseU x.at_, parseC x.set with
                | .inr u, .inr c => setN l u c x.now
                | _, _ => l) from rfl)
              generalize hR : parseU x.at_ = R at *
              go_wp2_with fail
              refine con.mono ?_
              rintro e Y3 ⟨s0, e0, f0, s1, e1, f1, pq, s3, e3, f3, s4, e4, f4, s5, e5, f5, hr, hg, rfl, hV, hm, hb⟩
              replace hJ1 := keep_own hJ1 hb
              replace hJ2 := keep_own hJ2 hb
              replace hB2 := hB2.trans (hb.mono hB2.size)
              replace ab := Box.on ab hb
              replace HY3 := Lib.hid (HY3.out.on hb)
              replace HXB := Lib.hid (HXB.out.on hb)
              have HNM := Lib.hid (show ∀ b, N1 b → X4.heap.size ≤ b ∧ ¬ M2 b from fun b h => ⟨(HNM1.out b h).1, (HNM1.out b h).2.2⟩)
              clear con hb a2' A2 HNM1
              obtain ⟨bv, hbv⟩ : ∃ b, Y3.heap.size = b := ⟨_, rfl⟩
              obtain ⟨Y4, hY4⟩ : ∃ Z, Y3.alloc (.cells #[.slice s0 e0 f0, .slice s1 e1 f1, .int .i64 pq, .slice s3 e3 f3, .slice s4 e4 f4, .slice s5 e5 f5, .bool hr, .bool hg] 33) = Z := ⟨_, rfl⟩
              have hb : Below Y3.heap.size Y3 Y4 := hY4 ▸ below_alloc _
              have vb : Box bv #[.slice s0 e0 f0, .slice s1 e1 f1, .int .i64 pq, .slice s3 e3 f3, .slice s4 e4 f4, .slice s5 e5 f5, .bool hr, .bool hg] Y4 := hY4 ▸ hbv ▸ Box.new Y3 _ _
              replace hJ1 := keep_own hJ1 hb
              replace hJ2 := keep_own hJ2 hb
              replace hB2 := hB2.trans (hb.mono hB2.size)
              replace ab := Box.on ab hb
              replace hV := hV.on hb
              replace HY3 := Lib.hid (HY3.out.on hb)
              replace HXB := Lib.hid (HXB.out.on hb)
              have HY4 := Lib.hid hY4
              have HBV := Lib.hid hbv
              clear hb hY4 hbv
              obtain ⟨Y5, hY5⟩ : ∃ Z, Y4.drew = Z := ⟨_, rfl⟩
              have hb : Below Y4.heap.size Y4 Y5 := by rw [← hY5]; exact (Below.refl _ _).drew
              replace hJ1 := keep_own hJ1 hb
              replace hJ2 := keep_own hJ2 hb
              replace hB2 := hB2.trans (hb.mono hB2.size)
              replace ab := Box.on ab hb
              replace vb := Box.on vb hb
              replace hV := hV.on hb
              replace HY3 := Lib.hid (HY3.out.on hb)
              replace HXB := Lib.hid (HXB.out.on hb)
              have HY5 := Lib.hid hY5
              clear hb hY5
              cases R with
              | inl m1 =>
                have d3 : (m1 == 0) = false := by simpa using hm m1 rfl
                have HR := Lib.hid (show actN l1 x = l1 from by rw [HAC.out])
                rw [HR.out] at hJ1
                clear hm hV HUX HAC
                simp only [urlE] at *
                go_wp2_with fail
                refine pregion_any (fun X => True) (by kernel_rfl) ?_
                rw [HY4.out, HY5.out, HBV.out]
                refine wpAnyH_take (i := 0) (v := (.int .i64 m1)) rfl (by kernel_rfl) (by kernel_rfl) (by kernel_rfl) (fun _ _ _ h => h) (.inl ⟨by kernel_rfl, ?_⟩) trivial ?_
                · rintro w -; go_simp
                refine plist #[true, false, false, false, false, false, false, false] (by kernel_rfl) ?_
                refine wpAnyH_take (i := 1) (v := (.bool false)) rfl (by kernel_rfl) (by kernel_rfl) (by kernel_rfl) (fun _ _ _ h => h) (.inl ⟨by kernel_rfl, ?_⟩) trivial ?_
                · rintro w -; go_simp
                refine plist #[true, true, false, false, false, false, false, false] (by kernel_rfl) ?_
                refine wpAnyH_take (i := 2) (v := (.bool false)) rfl (by kernel_rfl) (by kernel_rfl) (by kernel_rfl) (fun _ _ _ h => h) (.inl ⟨by kernel_rfl, ?_⟩) trivial ?_
                · rintro w -; go_simp
                refine plist #[true, true, true, false, false, false, false, false] (by kernel_rfl) ?_
                refine wpAnyH_take (i := 3) (v := (undef)) rfl (by kernel_rfl) (by kernel_rfl) (by kernel_rfl) (fun _ _ _ h => h) (.inr ⟨by kernel_rfl, rfl⟩) trivial ?_
                refine plist #[true, true, true, true, false, false, false, false] (by kernel_rfl) ?_
                refine wpAnyH_take (i := 5) (v := (undef)) rfl (by kernel_rfl) (by kernel_rfl) (by kernel_rfl) (fun _ _ _ h => h) (.inr ⟨by kernel_rfl, rfl⟩) trivial ?_
                refine plist #[true, true, true, true, false, true, false, false] (by kernel_rfl) ?_
                refine pone 4 (by kernel_rfl) rfl fun K hK => ?_
                go_simp
                refine hK _ _ trivial ?_
                clear hK K
                refine plist #[true, true, true, true, true, true, false, false] (by kernel_rfl) ?_
                refine wpAnyH_take (i := 6) (v := (undef)) rfl (by kernel_rfl) (by kernel_rfl) (by kernel_rfl) (fun _ _ _ h => h) (.inr ⟨by kernel_rfl, rfl⟩) trivial ?_
                refine plist #[true, true, true, true, true, true, true, false] (by kernel_rfl) ?_
                refine pone 7 (by kernel_rfl) rfl fun K hK => ?_
                go_simp
                refine hK _ _ trivial ?_
                clear hK K
                refine pdone (by kernel_rfl) ?_ _
                go_wp2
                go_roundw
                case rel => exact ⟨k + 1, N1, M2, l1, l2, by omega, by go_num, hJ1, hJ2, Lib.hid fun b h => (HNM.out b h).1, HM2, Lib.hid fun b h => (HNM.out b h).2, HE, H8, hB2⟩
                case measure => simp [intOf]; omega
              | inr v =>
                simp only [urlE, urlV] at *
                obtain ⟨hv1, hv2⟩ := HUX.out v rfl
                have HOU := Lib.hid (Box.below HOB.out hB2 (World.block_lt_of_cell? X4 _ (HOB.out 0 _ rfl)))
                have ob := HOU.out
                clear hm HUX
                go_wp2_with fail
                refine pregion_any (fun X => Box bv #[.slice s0 e0 f0, .slice s1 e1 f1, .int .i64 pq, .slice s3 e3 f3, .slice s4 e4 f4, .slice s5 e5 f5, .bool hr, .bool hg] X ∧ Box bo #[.string ⟨u.scheme.toArray⟩, .string ⟨u.host.toArray⟩, .int .i64 u.port, .int .i64 0] X) (by kernel_rfl) ?_
                rw [HY4.out, HY5.out, HBV.out]
                refine wpAnyH_take (i := 0) (v := (.int .i64 0)) rfl (by kernel_rfl) (by kernel_rfl) (by kernel_rfl) (fun _ _ _ h => h) (.inl ⟨by kernel_rfl, ?_⟩) ⟨vb, ob⟩ ?_
                · rintro w ⟨hv, ho⟩; go_simp
                refine plist #[true, false, false, false, false, false, false, false] (by kernel_rfl) ?_
                refine wpAnyH_take (i := 1) (v := (.bool true)) rfl (by kernel_rfl) (by kernel_rfl) (by kernel_rfl) (fun _ _ _ h => h) (.inl ⟨by kernel_rfl, ?_⟩) ⟨vb, ob⟩ ?_
                · rintro w ⟨hv, ho⟩; go_simp
                refine plist #[true, true, false, false, false, false, false, false] (by kernel_rfl) ?_
                refine wpAnyH_take (i := 2) (v := (.bool true)) rfl (by kernel_rfl) (by kernel_rfl) (by kernel_rfl) (fun _ _ _ h => h) (.inl ⟨by kernel_rfl, ?_⟩) ⟨vb, ob⟩ ?_
                · rintro w ⟨hv, ho⟩; go_simp
                refine plist #[true, true, true, false, false, false, false, false] (by kernel_rfl) ?_
                refine wpAnyH_take (i := 3) (v := (.agg #[.slice s0 e0 f0, .slice s1 e1 f1, .int .i64 pq, .slice s3 e3 f3, .slice s4 e4 f4, .slice s5 e5 f5, .bool hr, .bool hg])) rfl (by kernel_rfl) (by kernel_rfl) (by kernel_rfl) (fun _ _ _ h => h) (.inl ⟨by kernel_rfl, ?_⟩) ⟨vb, ob⟩ ?_
                · rintro w ⟨hv, ho⟩; have x0 := hv 0 _ rfl; have x1 := hv 1 _ rfl; have x2 := hv 2 _ rfl; have x3 := hv 3 _ rfl; have x4 := hv 4 _ rfl; have x5 := hv 5 _ rfl; have x6 := hv 6 _ rfl; have x7 := hv 7 _ rfl; go_simp <;> omega
                refine plist #[true, true, true, true, false, false, false, false] (by kernel_rfl) ?_
                refine wpAnyH_take (i := 5) (v := (.agg #[.string ⟨u.scheme.toArray⟩, .string ⟨u.host.toArray⟩, .int .i64 u.port, .int .i64 0])) rfl (by kernel_rfl) (by kernel_rfl) (by kernel_rfl) (fun _ _ _ h => h) (.inl ⟨by kernel_rfl, ?_⟩) ⟨vb, ob⟩ ?_
                · rintro w ⟨hv, ho⟩; have y0 := ho 0 _ rfl; have y1 := ho 1 _ rfl; have y2 := ho 2 _ rfl; have y3 := ho 3 _ rfl; go_simp <;> omega
                refine plist #[true, true, true, true, false, true, false, false] (by kernel_rfl) ?_
                have con := Org.Of_any v _ _ hV
                refine pone 4 (by kernel_rfl) rfl fun K hK => ?_
                go_simp
                refine con.mono ?_
                rintro e Y6 ⟨rfl, hb⟩
                replace hB2 := hB2.trans (hb.mono hB2.size)
                replace hJ1 := keep_own hJ1 hb
                replace hJ2 := keep_own hJ2 hb
                replace vb := Box.on vb hb
                replace ob := Box.on ob hb
                replace ab := Box.on ab hb
                replace HY3 := Lib.hid (HY3.out.on hb)
                replace HXB := Lib.hid (HXB.out.on hb)
                clear con hb 
                refine hK _ _ ⟨vb, ob⟩ ?_
                clear hK K
                refine plist #[true, true, true, true, true, true, false, false] (by kernel_rfl) ?_
                refine wpAnyH_take (i := 6) (v := (.bool (decide (keyU v = keyU u)))) rfl (by kernel_rfl) (by kernel_rfl) (by kernel_rfl) (fun _ _ _ h => h) (.inl ⟨by kernel_rfl, ?_⟩) ⟨vb, ob⟩ ?_
                · rintro w ⟨hv, ho⟩; have q := fun W => eq_org v u W; unfold Org.orgV at q ⊢; go_simp
                refine plist #[true, true, true, true, true, true, true, false] (by kernel_rfl) ?_
                refine pone 7 (by kernel_rfl) rfl fun K hK => ?_
                go_simp
                refine hK _ _ ⟨vb, ob⟩ ?_
                clear hK K
                refine pdone (by kernel_rfl) ?_ _
                have HS := Lib.hid (hJ2.off)
                by_cases hk : keyU v = keyU u
                · have hd : decide (keyU v = keyU u) = true := decide_eq_true hk
                  rw [hd]
                  have HE2 := Lib.hid (act_same (x := x) hR hk HE.out)
                  have HF8 := Lib.hid (act_few (x := x) H8.out)
                  have con := put_any M2 p2 l2 x q1 n1 c1 q2 n2 c2 q3 n3 c3 Y6 hJ2 HXB.out HY3.out HI.out HT.out.1 HT.out.2 X4.heap.size HM2.out hB2.size (HG4.out.on hB2)
                  have a0' := ab 0 _ rfl
                  have a1' := ab 1 _ rfl
                  have a2' := ab 2 _ rfl
                  have a3' := ab 3 _ rfl
                  have a4' := ab 4 _ rfl
                  clear hk hd hJ2 vb ob ab hV hv1 hv2
                  go_wp2_with fail
                  refine con.mono ?_
                  rintro e Y7 ⟨N2, rfl, hJ2, hN2, hk7⟩
                  have HO1 := Lib.hid hJ1.off
                  replace hJ1 := hJ1.keep (hk7.mono fun b _ h1 h2 => (HNM.out b h1).2 h2) (HS.out.soft hk7)
                  have HM2' := Lib.hid (show ∀ b, N2 b → X4.heap.size ≤ b from fun b h => by
                    rcases hN2 b h with h | h
                    · exact HM2.out b h
                    · exact Nat.le_trans hB2.size h)
                  have HD' := Lib.hid (show ∀ b, N1 b → ¬ N2 b from fun b h1 h2 => by
                    rcases hN2 b h2 with h | h
                    · exact (HNM.out b h1).2 h
                    · have := (HO1.out b h1).1; omega)
                  have hB3 := hB2.trans (Keep.below (hk7.mono fun b _ (h : b < X4.heap.size) hm => by have := HM2.out b hm; omega) hB2.size)
                  clear con hN2 hk7 a0' a1' a2' a3' a4' hB2
                  go_wp2
                  go_roundw
                  case rel => exact ⟨k + 1, N1, N2, _, _, by omega, by go_num, hJ1, hJ2, Lib.hid fun b h => (HNM.out b h).1, HM2', HD', HE2, HF8, hB3⟩
                  case measure => simp [intOf]; omega
                · have hd : decide (keyU v = keyU u) = false := decide_eq_false hk
                  rw [hd]
                  have HE2 := Lib.hid ((act_other (x := x) l1 hR hk).trans HE.out)
                  have HF8 := Lib.hid (act_few (x := x) H8.out)
                  clear hk hd vb ob ab hV hv1 hv2
                  go_wp2
                  go_roundw
                  case rel => exact ⟨k + 1, N1, M2, _, l2, by omega, by go_num, hJ1, hJ2, Lib.hid fun b h => (HNM.out b h).1, HM2, Lib.hid fun b h => (HNM.out b h).2, HE2, HF8, hB2⟩
                  case measure => simp [intOf]; omega
            · obtain rfl : k = len0 := by omega
              have ub := Box.below HUB.out hB (World.block_lt_of_cell? X4 _ (HUB.out 0 _ rfl))
              have ob := Box.below HOB.out hB (World.block_lt_of_cell? X4 _ (HOB.out 0 _ rfl))
              have hU := HU.out.on hB
              have A := HA.out.trans (hB.mono HA.out.size)
              have HT := Lib.hid (show lineL (forJ (keyU u) u a2 l2) = lineL (forJ (keyU u) u a2 l1) by rw [here_mine (keyU u) u a2 l1 l2 HE.out])
              have HNL := Lib.hid (show lenJ (keyU u) l2 = lenJ (keyU u) l1 by unfold lenJ; rw [HE.out])
              have h8 := H8.out (keyU u)
              have HLN := Lib.hid (fun (M : Nat → Prop) (p : Addr) (l : List En) (b : Value) (W : World) (h : JarIn M (.pointer (some p)) l W) (hb : UrlIn W b u) (hg : Gl W) => Line_any M p l u u b a2 W h (.inr ⟨HUO.out, HUT.out⟩) hb (.inr ⟨HUO.out, HUT.out⟩) ⟨HNN.out, HN.out.2⟩ hg)
              have HLE := Lib.hid (fun (M : Nat → Prop) (p : Addr) (l : List En) (W : World) (h : JarIn M (.pointer (some p)) l W) (hg : Gl W) => Len_any M p l u W h)
              obtain ⟨Z5, hZ5⟩ : ∃ Z, wr.drew = Z := ⟨_, rfl⟩
              have hb : Below wr.heap.size wr Z5 := by rw [← hZ5]; exact (Below.refl _ _).drew
              replace A := A.trans (hb.mono A.size)
              replace hJ1 := keep_own hJ1 hb
              replace hJ2 := keep_own hJ2 hb
              replace ub := Box.on ub hb
              replace ob := Box.on ob hb
              replace hU := hU.on hb
              have HZ5 := Lib.hid hZ5
              clear hZ5 hb HUB HOB HU hB HM1 HM2 HD
              go_wp2_with fail
              refine pregion_any (fun X => (Box bu #[.slice r0 m0 k0, .slice r1 m1 k1, .int .i64 pp, .slice r3 m3 k3, .slice r4 m4 k4, .slice r5 m5 k5, .bool hq, .bool hf] X ∧ Box bo #[.string ⟨u.scheme.toArray⟩, .string ⟨u.host.toArray⟩, .int .i64 u.port, .int .i64 0] X)) (by kernel_rfl) ?_
              rw [HZ5.out]
              refine wpAnyH_take (i := 0) (v := (.pointer (some p1))) rfl (by kernel_rfl) (by kernel_rfl) (by kernel_rfl) (fun _ _ _ h => h) (.inl ⟨by kernel_rfl, ?_⟩) ⟨ub, ob⟩ ?_
              · rintro w ⟨hv, ho⟩; go_simp
              refine plist #[true, false, false, false, false, false, false, false, false, false, false, false, false, false, false, false, false, false, false, false, false, false, false, false, false, false, false, false, false] (by kernel_rfl) ?_
              refine wpAnyH_take (i := 1) (v := (.agg #[.string ⟨u.scheme.toArray⟩, .string ⟨u.host.toArray⟩, .int .i64 u.port, .int .i64 0])) rfl (by kernel_rfl) (by kernel_rfl) (by kernel_rfl) (fun _ _ _ h => h) (.inl ⟨by kernel_rfl, ?_⟩) ⟨ub, ob⟩ ?_
              · rintro w ⟨hv, ho⟩; have y0 := ho 0 _ rfl; have y1 := ho 1 _ rfl; have y2 := ho 2 _ rfl; have y3 := ho 3 _ rfl; go_simp <;> omega
              refine plist #[true, true, false, false, false, false, false, false, false, false, false, false, false, false, false, false, false, false, false, false, false, false, false, false, false, false, false, false, false] (by kernel_rfl) ?_
              refine wpAnyH_take (i := 2) (v := (.agg #[.slice r0 m0 k0, .slice r1 m1 k1, .int .i64 pp, .slice r3 m3 k3, .slice r4 m4 k4, .slice r5 m5 k5, .bool hq, .bool hf])) rfl (by kernel_rfl) (by kernel_rfl) (by kernel_rfl) (fun _ _ _ h => h) (.inl ⟨by kernel_rfl, ?_⟩) ⟨ub, ob⟩ ?_
              · rintro w ⟨hv, ho⟩; have x0 := hv 0 _ rfl; have x1 := hv 1 _ rfl; have x2 := hv 2 _ rfl; have x3 := hv 3 _ rfl; have x4 := hv 4 _ rfl; have x5 := hv 5 _ rfl; have x6 := hv 6 _ rfl; have x7 := hv 7 _ rfl; go_simp <;> omega
              refine plist #[true, true, true, false, false, false, false, false, false, false, false, false, false, false, false, false, false, false, false, false, false, false, false, false, false, false, false, false, false] (by kernel_rfl) ?_
              refine wpAnyH_take (i := 3) (v := (.int .i64 a2)) rfl (by kernel_rfl) (by kernel_rfl) (by kernel_rfl) (fun _ _ _ h => h) (.inl ⟨by kernel_rfl, ?_⟩) ⟨ub, ob⟩ ?_
              · rintro w ⟨hv, ho⟩; go_simp
              refine plist #[true, true, true, true, false, false, false, false, false, false, false, false, false, false, false, false, false, false, false, false, false, false, false, false, false, false, false, false, false] (by kernel_rfl) ?_
              refine wpAnyH_take (i := 6) (v := (.pointer (some p2))) rfl (by kernel_rfl) (by kernel_rfl) (by kernel_rfl) (fun _ _ _ h => h) (.inl ⟨by kernel_rfl, ?_⟩) ⟨ub, ob⟩ ?_
              · rintro w ⟨hv, ho⟩; go_simp
              refine plist #[true, true, true, true, false, false, true, false, false, false, false, false, false, false, false, false, false, false, false, false, false, false, false, false, false, false, false, false, false] (by kernel_rfl) ?_
              refine wpAnyH_take (i := 7) (v := (.agg #[.string ⟨u.scheme.toArray⟩, .string ⟨u.host.toArray⟩, .int .i64 u.port, .int .i64 0])) rfl (by kernel_rfl) (by kernel_rfl) (by kernel_rfl) (fun _ _ _ h => h) (.inl ⟨by kernel_rfl, ?_⟩) ⟨ub, ob⟩ ?_
              · rintro w ⟨hv, ho⟩; have y0 := ho 0 _ rfl; have y1 := ho 1 _ rfl; have y2 := ho 2 _ rfl; have y3 := ho 3 _ rfl; go_simp <;> omega
              refine plist #[true, true, true, true, false, false, true, true, false, false, false, false, false, false, false, false, false, false, false, false, false, false, false, false, false, false, false, false, false] (by kernel_rfl) ?_
              refine wpAnyH_take (i := 8) (v := (.agg #[.slice r0 m0 k0, .slice r1 m1 k1, .int .i64 pp, .slice r3 m3 k3, .slice r4 m4 k4, .slice r5 m5 k5, .bool hq, .bool hf])) rfl (by kernel_rfl) (by kernel_rfl) (by kernel_rfl) (fun _ _ _ h => h) (.inl ⟨by kernel_rfl, ?_⟩) ⟨ub, ob⟩ ?_
              · rintro w ⟨hv, ho⟩; have x0 := hv 0 _ rfl; have x1 := hv 1 _ rfl; have x2 := hv 2 _ rfl; have x3 := hv 3 _ rfl; have x4 := hv 4 _ rfl; have x5 := hv 5 _ rfl; have x6 := hv 6 _ rfl; have x7 := hv 7 _ rfl; go_simp <;> omega
              refine plist #[true, true, true, true, false, false, true, true, true, false, false, false, false, false, false, false, false, false, false, false, false, false, false, false, false, false, false, false, false] (by kernel_rfl) ?_
              refine wpAnyH_take (i := 9) (v := (.int .i64 a2)) rfl (by kernel_rfl) (by kernel_rfl) (by kernel_rfl) (fun _ _ _ h => h) (.inl ⟨by kernel_rfl, ?_⟩) ⟨ub, ob⟩ ?_
              · rintro w ⟨hv, ho⟩; go_simp
              refine plist #[true, true, true, true, false, false, true, true, true, true, false, false, false, false, false, false, false, false, false, false, false, false, false, false, false, false, false, false, false] (by kernel_rfl) ?_
              have con := HLN.out M1 p1 l1 _ _ hJ1 hU (HG.out.on A)
              rw [show Org.orgV u.scheme u.host u.port 0 = .agg #[.string ⟨u.scheme.toArray⟩, .string ⟨u.host.toArray⟩, .int .i64 u.port, .int .i64 0] from rfl] at con
              refine pone 4 (by kernel_rfl) rfl fun K hK => ?_
              go_simp
              refine con.mono ?_
              rintro e Za ⟨ra, ma, da, rfl, TA, hb⟩
              replace A := A.trans (hb.mono A.size)
              replace hJ1 := keep_own hJ1 hb
              replace hJ2 := keep_own hJ2 hb
              replace ub := Box.on ub hb
              replace ob := Box.on ob hb
              replace hU := hU.on hb
              clear con hb 
              refine hK _ _ ⟨ub, ob⟩ ?_
              clear hK K
              refine pmore (S' := fun X => (Box bu #[.slice r0 m0 k0, .slice r1 m1 k1, .int .i64 pp, .slice r3 m3 k3, .slice r4 m4 k4, .slice r5 m5 k5, .bool hq, .bool hf] X ∧ Box bo #[.string ⟨u.scheme.toArray⟩, .string ⟨u.host.toArray⟩, .int .i64 u.port, .int .i64 0] X) ∧ By X (.slice ra ma da) (lineL (forJ (keyU u) u a2 l1))) (fun _ h => h.1) ?_
              refine plist #[true, true, true, true, true, false, true, true, true, true, false, false, false, false, false, false, false, false, false, false, false, false, false, false, false, false, false, false, false] (by kernel_rfl) ?_
              refine wpAnyH_take (i := 5) (v := (.string ⟨(lineL (forJ (keyU u) u a2 l1)).toArray⟩)) rfl (by kernel_rfl) (by kernel_rfl) (by kernel_rfl) (fun _ _ _ h => h) (.inl ⟨by kernel_rfl, ?_⟩) ⟨⟨ub, ob⟩, TA⟩ ?_
              · rintro w ⟨⟨hv, ho⟩, tA⟩; have hcv := conv_by tA; go_simp
              refine plist #[true, true, true, true, true, true, true, true, true, true, false, false, false, false, false, false, false, false, false, false, false, false, false, false, false, false, false, false, false] (by kernel_rfl) ?_
              have con := HLN.out M2 p2 l2 _ _ hJ2 hU (HG.out.on A)
              rw [show Org.orgV u.scheme u.host u.port 0 = .agg #[.string ⟨u.scheme.toArray⟩, .string ⟨u.host.toArray⟩, .int .i64 u.port, .int .i64 0] from rfl] at con
              rw [HT.out] at con
              refine pone 10 (by kernel_rfl) rfl fun K hK => ?_
              go_simp
              refine con.mono ?_
              rintro e Zb ⟨rb, mb, db, rfl, TB, hb⟩
              replace A := A.trans (hb.mono A.size)
              replace hJ1 := keep_own hJ1 hb
              replace hJ2 := keep_own hJ2 hb
              replace ub := Box.on ub hb
              replace ob := Box.on ob hb
              replace hU := hU.on hb
              replace TA := TA.on hb
              clear con hb 
              refine hK _ _ ⟨⟨ub, ob⟩, TA⟩ ?_
              clear hK K
              refine pmore (S' := fun X => ((Box bu #[.slice r0 m0 k0, .slice r1 m1 k1, .int .i64 pp, .slice r3 m3 k3, .slice r4 m4 k4, .slice r5 m5 k5, .bool hq, .bool hf] X ∧ Box bo #[.string ⟨u.scheme.toArray⟩, .string ⟨u.host.toArray⟩, .int .i64 u.port, .int .i64 0] X) ∧ By X (.slice ra ma da) (lineL (forJ (keyU u) u a2 l1))) ∧ By X (.slice rb mb db) (lineL (forJ (keyU u) u a2 l1))) (fun _ h => h.1) ?_
              refine plist #[true, true, true, true, true, true, true, true, true, true, true, false, false, false, false, false, false, false, false, false, false, false, false, false, false, false, false, false, false] (by kernel_rfl) ?_
              refine wpAnyH_take (i := 11) (v := (.string ⟨(lineL (forJ (keyU u) u a2 l1)).toArray⟩)) rfl (by kernel_rfl) (by kernel_rfl) (by kernel_rfl) (fun _ _ _ h => h) (.inl ⟨by kernel_rfl, ?_⟩) ⟨⟨⟨ub, ob⟩, TA⟩, TB⟩ ?_
              · rintro w ⟨⟨⟨hv, ho⟩, tA⟩, tB⟩; have hcv := conv_by tB; go_simp
              refine plist #[true, true, true, true, true, true, true, true, true, true, true, true, false, false, false, false, false, false, false, false, false, false, false, false, false, false, false, false, false] (by kernel_rfl) ?_
              refine wpAnyH_take (i := 12) (v := (.bool true)) rfl (by kernel_rfl) (by kernel_rfl) (by kernel_rfl) (fun _ _ _ h => h) (.inl ⟨by kernel_rfl, ?_⟩) ⟨⟨⟨ub, ob⟩, TA⟩, TB⟩ ?_
              · rintro w ⟨⟨⟨hv, ho⟩, tA⟩, tB⟩; go_simp
              refine plist #[true, true, true, true, true, true, true, true, true, true, true, true, true, false, false, false, false, false, false, false, false, false, false, false, false, false, false, false, false] (by kernel_rfl) ?_
              refine wpAnyH_take (i := 13) (v := (.bool true)) rfl (by kernel_rfl) (by kernel_rfl) (by kernel_rfl) (fun _ _ _ h => h) (.inl ⟨by kernel_rfl, ?_⟩) ⟨⟨⟨ub, ob⟩, TA⟩, TB⟩ ?_
              · rintro w ⟨⟨⟨hv, ho⟩, tA⟩, tB⟩; go_simp
              refine plist #[true, true, true, true, true, true, true, true, true, true, true, true, true, true, false, false, false, false, false, false, false, false, false, false, false, false, false, false, false] (by kernel_rfl) ?_
              refine wpAnyH_take (i := 14) (v := (.pointer (some p1))) rfl (by kernel_rfl) (by kernel_rfl) (by kernel_rfl) (fun _ _ _ h => h) (.inl ⟨by kernel_rfl, ?_⟩) ⟨⟨⟨ub, ob⟩, TA⟩, TB⟩ ?_
              · rintro w ⟨⟨⟨hv, ho⟩, tA⟩, tB⟩; go_simp
              refine plist #[true, true, true, true, true, true, true, true, true, true, true, true, true, true, true, false, false, false, false, false, false, false, false, false, false, false, false, false, false] (by kernel_rfl) ?_
              refine wpAnyH_take (i := 15) (v := (.agg #[.string ⟨u.scheme.toArray⟩, .string ⟨u.host.toArray⟩, .int .i64 u.port, .int .i64 0])) rfl (by kernel_rfl) (by kernel_rfl) (by kernel_rfl) (fun _ _ _ h => h) (.inl ⟨by kernel_rfl, ?_⟩) ⟨⟨⟨ub, ob⟩, TA⟩, TB⟩ ?_
              · rintro w ⟨⟨⟨hv, ho⟩, tA⟩, tB⟩; have y0 := ho 0 _ rfl; have y1 := ho 1 _ rfl; have y2 := ho 2 _ rfl; have y3 := ho 3 _ rfl; go_simp <;> omega
              refine plist #[true, true, true, true, true, true, true, true, true, true, true, true, true, true, true, true, false, false, false, false, false, false, false, false, false, false, false, false, false] (by kernel_rfl) ?_
              refine wpAnyH_take (i := 17) (v := (.pointer (some p2))) rfl (by kernel_rfl) (by kernel_rfl) (by kernel_rfl) (fun _ _ _ h => h) (.inl ⟨by kernel_rfl, ?_⟩) ⟨⟨⟨ub, ob⟩, TA⟩, TB⟩ ?_
              · rintro w ⟨⟨⟨hv, ho⟩, tA⟩, tB⟩; go_simp
              refine plist #[true, true, true, true, true, true, true, true, true, true, true, true, true, true, true, true, false, true, false, false, false, false, false, false, false, false, false, false, false] (by kernel_rfl) ?_
              refine wpAnyH_take (i := 18) (v := (.agg #[.string ⟨u.scheme.toArray⟩, .string ⟨u.host.toArray⟩, .int .i64 u.port, .int .i64 0])) rfl (by kernel_rfl) (by kernel_rfl) (by kernel_rfl) (fun _ _ _ h => h) (.inl ⟨by kernel_rfl, ?_⟩) ⟨⟨⟨ub, ob⟩, TA⟩, TB⟩ ?_
              · rintro w ⟨⟨⟨hv, ho⟩, tA⟩, tB⟩; have y0 := ho 0 _ rfl; have y1 := ho 1 _ rfl; have y2 := ho 2 _ rfl; have y3 := ho 3 _ rfl; go_simp <;> omega
              refine plist #[true, true, true, true, true, true, true, true, true, true, true, true, true, true, true, true, false, true, true, false, false, false, false, false, false, false, false, false, false] (by kernel_rfl) ?_
              have con := HLE.out M1 p1 l1 _ hJ1 (HG.out.on A)
              rw [show Org.orgV u.scheme u.host u.port 0 = .agg #[.string ⟨u.scheme.toArray⟩, .string ⟨u.host.toArray⟩, .int .i64 u.port, .int .i64 0] from rfl] at con
              refine pone 16 (by kernel_rfl) rfl fun K hK => ?_
              go_simp
              refine con.mono ?_
              rintro e Zc ⟨rfl, hb⟩
              replace A := A.trans (hb.mono A.size)
              replace hJ1 := keep_own hJ1 hb
              replace hJ2 := keep_own hJ2 hb
              replace ub := Box.on ub hb
              replace ob := Box.on ob hb
              replace hU := hU.on hb
              replace TA := TA.on hb
              replace TB := TB.on hb
              clear con hb 
              refine hK _ _ ⟨⟨⟨ub, ob⟩, TA⟩, TB⟩ ?_
              clear hK K
              refine plist #[true, true, true, true, true, true, true, true, true, true, true, true, true, true, true, true, true, true, true, false, false, false, false, false, false, false, false, false, false] (by kernel_rfl) ?_
              have con := HLE.out M2 p2 l2 _ hJ2 (HG.out.on A)
              rw [show Org.orgV u.scheme u.host u.port 0 = .agg #[.string ⟨u.scheme.toArray⟩, .string ⟨u.host.toArray⟩, .int .i64 u.port, .int .i64 0] from rfl] at con
              rw [HNL.out] at con
              refine pone 19 (by kernel_rfl) rfl fun K hK => ?_
              go_simp
              refine con.mono ?_
              rintro e Zd ⟨rfl, hb⟩
              replace A := A.trans (hb.mono A.size)
              replace hJ1 := keep_own hJ1 hb
              replace hJ2 := keep_own hJ2 hb
              replace ub := Box.on ub hb
              replace ob := Box.on ob hb
              replace hU := hU.on hb
              replace TA := TA.on hb
              replace TB := TB.on hb
              clear con hb 
              refine hK _ _ ⟨⟨⟨ub, ob⟩, TA⟩, TB⟩ ?_
              clear hK K
              refine plist #[true, true, true, true, true, true, true, true, true, true, true, true, true, true, true, true, true, true, true, true, false, false, false, false, false, false, false, false, false] (by kernel_rfl) ?_
              refine wpAnyH_take (i := 20) (v := (.bool true)) rfl (by kernel_rfl) (by kernel_rfl) (by kernel_rfl) (fun _ _ _ h => h) (.inl ⟨by kernel_rfl, ?_⟩) ⟨⟨⟨ub, ob⟩, TA⟩, TB⟩ ?_
              · rintro w ⟨⟨⟨hv, ho⟩, tA⟩, tB⟩; go_simp
              refine plist #[true, true, true, true, true, true, true, true, true, true, true, true, true, true, true, true, true, true, true, true, true, false, false, false, false, false, false, false, false] (by kernel_rfl) ?_
              refine wpAnyH_take (i := 21) (v := (.bool true)) rfl (by kernel_rfl) (by kernel_rfl) (by kernel_rfl) (fun _ _ _ h => h) (.inl ⟨by kernel_rfl, ?_⟩) ⟨⟨⟨ub, ob⟩, TA⟩, TB⟩ ?_
              · rintro w ⟨⟨⟨hv, ho⟩, tA⟩, tB⟩; go_simp
              refine plist #[true, true, true, true, true, true, true, true, true, true, true, true, true, true, true, true, true, true, true, true, true, true, false, false, false, false, false, false, false] (by kernel_rfl) ?_
              refine wpAnyH_take (i := 22) (v := (.bool true)) rfl (by kernel_rfl) (by kernel_rfl) (by kernel_rfl) (fun _ _ _ h => h) (.inl ⟨by kernel_rfl, ?_⟩) ⟨⟨⟨ub, ob⟩, TA⟩, TB⟩ ?_
              · rintro w ⟨⟨⟨hv, ho⟩, tA⟩, tB⟩; go_simp
              refine plist #[true, true, true, true, true, true, true, true, true, true, true, true, true, true, true, true, true, true, true, true, true, true, true, false, false, false, false, false, false] (by kernel_rfl) ?_
              refine wpAnyH_take (i := 23) (v := (.pointer (some p1))) rfl (by kernel_rfl) (by kernel_rfl) (by kernel_rfl) (fun _ _ _ h => h) (.inl ⟨by kernel_rfl, ?_⟩) ⟨⟨⟨ub, ob⟩, TA⟩, TB⟩ ?_
              · rintro w ⟨⟨⟨hv, ho⟩, tA⟩, tB⟩; go_simp
              refine plist #[true, true, true, true, true, true, true, true, true, true, true, true, true, true, true, true, true, true, true, true, true, true, true, true, false, false, false, false, false] (by kernel_rfl) ?_
              refine wpAnyH_take (i := 24) (v := (.agg #[.string ⟨u.scheme.toArray⟩, .string ⟨u.host.toArray⟩, .int .i64 u.port, .int .i64 0])) rfl (by kernel_rfl) (by kernel_rfl) (by kernel_rfl) (fun _ _ _ h => h) (.inl ⟨by kernel_rfl, ?_⟩) ⟨⟨⟨ub, ob⟩, TA⟩, TB⟩ ?_
              · rintro w ⟨⟨⟨hv, ho⟩, tA⟩, tB⟩; have y0 := ho 0 _ rfl; have y1 := ho 1 _ rfl; have y2 := ho 2 _ rfl; have y3 := ho 3 _ rfl; go_simp <;> omega
              refine plist #[true, true, true, true, true, true, true, true, true, true, true, true, true, true, true, true, true, true, true, true, true, true, true, true, true, false, false, false, false] (by kernel_rfl) ?_
              have con := HLE.out M1 p1 l1 _ hJ1 (HG.out.on A)
              rw [show Org.orgV u.scheme u.host u.port 0 = .agg #[.string ⟨u.scheme.toArray⟩, .string ⟨u.host.toArray⟩, .int .i64 u.port, .int .i64 0] from rfl] at con
              refine pone 25 (by kernel_rfl) rfl fun K hK => ?_
              go_simp
              refine con.mono ?_
              rintro e Ze ⟨rfl, hb⟩
              replace A := A.trans (hb.mono A.size)
              replace hJ1 := keep_own hJ1 hb
              replace hJ2 := keep_own hJ2 hb
              replace ub := Box.on ub hb
              replace ob := Box.on ob hb
              replace hU := hU.on hb
              replace TA := TA.on hb
              replace TB := TB.on hb
              clear con hb 
              refine hK _ _ ⟨⟨⟨ub, ob⟩, TA⟩, TB⟩ ?_
              clear hK K
              refine plist #[true, true, true, true, true, true, true, true, true, true, true, true, true, true, true, true, true, true, true, true, true, true, true, true, true, true, false, false, false] (by kernel_rfl) ?_
              refine wpAnyH_take (i := 26) (v := (.bool true)) rfl (by kernel_rfl) (by kernel_rfl) (by kernel_rfl) (fun _ _ _ h => h) (.inl ⟨by kernel_rfl, ?_⟩) ⟨⟨⟨ub, ob⟩, TA⟩, TB⟩ ?_
              · rintro w ⟨⟨⟨hv, ho⟩, tA⟩, tB⟩; have hd : decide ((lenJ (keyU u) l1 : Int) ≤ 8) = true := by simp; omega
                go_simp
              refine plist #[true, true, true, true, true, true, true, true, true, true, true, true, true, true, true, true, true, true, true, true, true, true, true, true, true, true, true, false, false] (by kernel_rfl) ?_
              refine wpAnyH_take (i := 27) (v := (.bool true)) rfl (by kernel_rfl) (by kernel_rfl) (by kernel_rfl) (fun _ _ _ h => h) (.inl ⟨by kernel_rfl, ?_⟩) ⟨⟨⟨ub, ob⟩, TA⟩, TB⟩ ?_
              · rintro w ⟨⟨⟨hv, ho⟩, tA⟩, tB⟩; go_simp
              refine plist #[true, true, true, true, true, true, true, true, true, true, true, true, true, true, true, true, true, true, true, true, true, true, true, true, true, true, true, true, false] (by kernel_rfl) ?_
              refine pone 28 (by kernel_rfl) rfl fun K hK => ?_
              go_simp
              refine hK _ _ ⟨⟨⟨ub, ob⟩, TA⟩, TB⟩ ?_
              clear hK K
              refine pdone (by kernel_rfl) ?_ _
              go_wp2
              go_ret
              exact ⟨rfl, A⟩

theorem proved : Rows.JarApartCardSaid := card walk
end Go.Proofs.YtniehbjoogaccaaGreatDoor.jarApart
