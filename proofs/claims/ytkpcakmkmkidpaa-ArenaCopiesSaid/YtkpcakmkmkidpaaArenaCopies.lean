/- ArenaCopies: the law returns true at whatever input, and writes nothing that was there. Conditions: none. -/
import Derived.Test.YtkpcakmkmkidpaaRows
import Derived.Test.YtkpcakmkmkidpaaArnG
import Derived.Test.YtkpcakmkmkidpaaArnK
import Derived.Test.YtkpcakmkmkidpaaArnN
import Derived.Test.YtkpcakmkmkidpaaArnO
import Derived.WalkKit
import Derived.ProofKit
import Derived.OpenShut
import Derived.ShutString
import Derived.ChangeOld
import Derived.Below
import Derived.IntWalk
import Derived.Deep.Cut
import Derived.Deep.CutRange
import Derived.Deep.CutBlock
namespace Go.Proofs.Ytkpcakmkmkidpaa.arenaCopies
open Go.ChangeShapes Go.WideShapes Go.ChangeAt Go.RowKit Arn
set_option linter.unusedVariables false

theorem own : ownKnob Try.prog.godebug = none := by kernel_rfl
theorem laidOut : laidOutB Try.prog = true := by kernel_rfl

open Go.Shelf
attribute [local go_sem] Oper.semAt_some wide_fn
/-- Two arenas apart. -/
structure Duo (w : World) (b bc size : Nat) (va vc : Value) (sa sc : List (Sl Int)) (W : World) : Prop where
  a : At w.heap.size b size va sa W
  c : At w.heap.size bc size vc sc W
  ne : b ≠ bc
  d1 : va.ownBlock ≠ some bc
  d2 : vc.ownBlock ≠ some b
  d3 : ∀ k, vc.ownBlock = some k → va.ownBlock ≠ some k
  bel : Below w.heap.size w W
section
variable {w : World} {b bc size : Nat} {va vc va' vc' : Value} {sa sc sa' sc' : List (Sl Int)} {W W' : World}
theorem Duo.on (h : Duo w b bc size va vc sa sc W) (hb : Below W.heap.size W W') : Duo w b bc size va vc sa sc W' := ⟨h.a.on hb, h.c.on hb, h.ne, h.d1, h.d2, h.d3, h.bel.trans (hb.mono h.bel.size)⟩
theorem bel_wrote {b : Nat} {v v' : Value} {sl : List (Sl Int)} {size : Nat} (hb : Below w.heap.size w W) (h : At w.heap.size b size v sl W) (hw : Wrote b v v' W W') : Below w.heap.size w W' :=
  hb.trans ((hw.1.mono fun j _ hj => ⟨by have := h.lo; omega, fun e => by have := (h.row.lt _ e).1; omega⟩).below hb.size)
theorem Duo.left (h : Duo w b bc size va vc sa sc W) (ha : At w.heap.size b size va' sa' W') (hw : Wrote b va va' W W') : Duo w b bc size va' vc sa' sc W' := by
  have hc := h.c.bl.lt
  have hr := h.c.row.lt
  refine ⟨ha, h.c.keep hw.1 ⟨fun e => h.ne e.symm, h.d1⟩ (fun k hk => ⟨fun e => h.d2 (e ▸ hk), h.d3 k hk⟩), h.ne, fun e => ?_, h.d2, fun k hk e => ?_, bel_wrote h.bel h.a hw⟩
  · rcases hw.2 bc e with h1 | h1
    · exact h.d1 h1
    · omega
  · rcases hw.2 k e with h1 | h1
    · exact h.d3 k hk h1
    · have := (hr k hk).2; omega
theorem Duo.right (h : Duo w b bc size va vc sa sc W) (hc' : At w.heap.size bc size vc' sc' W') (hw : Wrote bc vc vc' W W') : Duo w b bc size va vc' sa sc' W' := by
  have hb := h.a.bl.lt
  have hr := h.a.row.lt
  refine ⟨h.a.keep hw.1 ⟨h.ne, h.d2⟩ (fun k hk => ⟨fun e => h.d1 (e ▸ hk), fun e => h.d3 k e hk⟩), hc', h.ne, h.d1, fun e => ?_, fun k hk e => ?_, bel_wrote h.bel h.c hw⟩
  · rcases hw.2 b e with h1 | h1
    · exact h.d2 h1
    · omega
  · rcases hw.2 k hk with h1 | h1
    · exact h.d3 k h1 e
    · have := (hr k e).2; omega
end
/-- A row of numbers stays when an arena is written. -/
theorem row_stays {N base b size : Nat} {v v' g : Value} {sl : List (Sl Int)} {n : Nat} {xs : List Value} {W W' : World} (r : W.ownsRow N 3 1 g n xs) (h : At base b size v sl W) (hw : Wrote b v v' W W') : W'.ownsRow N 3 1 g n xs :=
  hw.1.row r fun k hk => ⟨fun e => h.bl.ne_row (by decide) r (e ▸ hk), rows_ne r h.row (by decide) k hk⟩
theorem row_on {N : Nat} {g : Value} {n : Nat} {xs : List Value} {W W' : World} (r : W.ownsRow N 3 1 g n xs) (hb : Below W.heap.size W W') : W'.ownsRow N 3 1 g n xs := (Keep.of_below hb).row r fun k hk => (r.lt k hk).2
theorem At.lower {base base' b size : Nat} {v : Value} {sl : List (Sl Int)} {w : World} (h : At base b size v sl w) (hb : base' ≤ base) : At base' b size v sl w := ⟨h.bl, Nat.le_trans hb h.lo, row_lower h.row hb, h.len, h.size1, h.size2⟩

set_option maxHeartbeats 8000000 in
set_option maxRecDepth 100000 in
theorem walk (a0 : Int) (a1 : Option Addr) (len1 cap1 : Nat) (z1 : List Ax) (a2 : Option Addr) (len2 cap2 : Nat) (z2 : List Ax) (w : World) (w0 : i64B a0) (w1 : ActsIn w a1 len1 z1) (w2 : ActsIn w a2 len2 z2) :
    Calls Try.prog 5 #[.int .i64 a0, .slice a1 len1 cap1, .slice a2 len2 cap2] w fun e w' => e = .returned (.bool true) ∧ Below w.heap.size w w' := by
  obtain ⟨u, hu⟩ : ∃ u : Int, a0 % 18446744073709551616 = u := ⟨_, rfl⟩
  have hu1 : 0 ≤ u ∧ u < 18446744073709551616 := by omega
  obtain ⟨j, hj⟩ : ∃ j : Nat, u % 8 = (j : Int) := ⟨(u % 8).toNat, by omega⟩
  have hj8 : j < 8 := by omega
  have s1 : IntKind.u64.wrap a0 = u := by rw [← hu]; rfl
  have s3 : u.tmod 8 = (j : Int) := by rw [Int.tmod_eq_emod_of_nonneg hu1.1]; exact hj
  obtain ⟨size, hsz⟩ : ∃ size : Nat, 1 + j = size := ⟨_, rfl⟩
  have s4 : (1 : Int) + (j : Int) = (size : Int) := by omega
  have hz1 : 1 ≤ size := by omega
  have hz2 : size ≤ 1024 := by omega
  have p0 : (0 : Int) ≤ u := hu1.1
  clear hu hj w0 hsz hu1
  by_cases hbig : 60 < len1 ∨ 60 < len2
  · have BIG : ∀ K : Prop, (decide ((60 : Int) < (len1 : Int)) = true → K) → (decide ((60 : Int) < (len1 : Int)) = false → decide ((60 : Int) < (len2 : Int)) = true → K) → K := fun K h1 h2 => by
      by_cases h : 60 < len1
      · exact h1 (decide_eq_true (by omega))
      · exact h2 (decide_eq_false (by omega)) (decide_eq_true (by omega))
    clear hbig w1 w2
    refine BIG _ (fun e1 => ?_) (fun e1 e2 => ?_)
    all_goals
      clear BIG
      go_enter Try.func5, Try.ntmps5
      go_wp2_with fail
      refine (New_good size w (by omega)).mono ?_
      rintro e w' ⟨rfl, rfl⟩
      have hb1 := blk_alloc (w := w) (.cells #[.int .i64 size, .slice none 0 0] 64)
      go_wp2_with fail
      refine (lives_any _).mono ?_
      rintro e W2 ⟨rfl, hb2⟩
      replace hb2 := hb1.trans (hb2.mono (by simp))
      clear hb1
      go_wp2_with fail
      refine (lives_any _).mono ?_
      rintro e W3 ⟨rfl, hb3⟩
      replace hb3 := hb2.trans (hb3.mono hb2.size)
      clear hb2
      go_wp2
      go_ret
      exact ⟨rfl, hb3⟩
  have e1 : decide ((60 : Int) < (len1 : Int)) = false := decide_eq_false (by omega)
  have e2 : decide ((60 : Int) < (len2 : Int)) = false := decide_eq_false (by omega)
  have hl1 : len1 ≤ 60 := by omega
  have hl2 : len2 ≤ 60 := by omega
  have HZ1 := Lib.hid w1
  have HZ2 := Lib.hid w2
  have efn := enters_of Try.func21 (by kernel_rfl) rfl
  have A0 := At.new w.heap.size size w (Nat.le_refl _) hz1 hz2
  have hb0 := blk_alloc (w := w) (.cells #[.int .i64 size, .slice none 0 0] 64)
  obtain ⟨W0, hW0⟩ : ∃ W0, w.alloc (.cells #[.int .i64 size, .slice none 0 0] 64) = W0 := ⟨_, rfl⟩
  rw [hW0] at A0 hb0
  have HW0 := Lib.hid hW0
  obtain ⟨b1, hb1e⟩ : ∃ b1, w.heap.size = b1 := ⟨_, rfl⟩
  have HA0 := Lib.hid (show At w.heap.size b1 size (.slice none 0 0) [] W0 from hb1e ▸ A0)
  have HB0 := Lib.hid hb0
  have HB1 := Lib.hid hb1e
  clear hbig w1 w2 hW0 hb1e A0 hb0
  go_enter Try.func5, Try.ntmps5
  go_wp2_with fail
  refine (New_good size w (by omega)).mono ?_
  rintro e w' ⟨rfl, rfl⟩
  rw [HW0.out, HB1.out]
  go_wp2_with fail
  refine (lives_any W0).mono ?_
  rintro e W1 ⟨rfl, hb1⟩
  have HA1 := Lib.hid (HA0.out.on hb1)
  have hbw1 := HB0.out.trans (hb1.mono HB0.out.size)
  have HBW1 := Lib.hid hbw1
  clear hb1 hbw1
  have conD := do_any w b1 size _ [] a1 len1 cap1 z1 0 W1 HA1.out HZ1.out (fun s hs => by cases hs) (by omega) HBW1.out
  obtain ⟨sa, hsa⟩ : ∃ sa, runD size [] z1 = sa := ⟨_, rfl⟩
  rw [hsa] at conD
  go_wp2_with fail
  refine conD.mono ?_
  rintro e W2 ⟨rfl, hf2, va, hA2, hw2⟩
  have hbw2 := bel_wrote HBW1.out HA1.out hw2
  have HA2 := Lib.hid hA2
  have HBW2 := Lib.hid hbw2
  have HF0 := Lib.hid (hf2.mono (show 0 + len1 ≤ 60 by omega))
  have HFa := Lib.hid (hf2.mono (show 0 + len1 ≤ 1099511627776 by omega))
  clear conD hA2 hw2 hbw2 hf2 hsa
  have conC := Copy_any _ _ _ _ _ W2 HA2.out HFa.out
  go_wp2_with fail
  refine conC.mono ?_
  rintro e W3 ⟨c1, vc, rfl, hC3, hb3⟩
  have HD3 := Lib.hid (show Duo w b1 c1 size va vc sa sa W3 from ⟨HA2.out.on hb3, At.lower hC3 HBW2.out.size, by have h1 := HA2.out.bl.lt; have h2 := hC3.lo; omega, fun e => by have h1 := (HA2.out.row.lt _ e).2; have h2 := hC3.lo; omega, fun e => by have h1 := HA2.out.bl.lt; have h2 := (hC3.row.lt _ e).1; omega, fun k hk e => by have h1 := (HA2.out.row.lt _ e).2; have h2 := (hC3.row.lt _ hk).1; omega, HBW2.out.trans (hb3.mono HBW2.out.size)⟩)
  clear conC hC3 hb3
  have HFc := HFa
  obtain ⟨la, hla⟩ : ∃ la, allS 0 sa = la := ⟨_, rfl⟩
  have hll : la.length ≤ 1024 := by rw [← hla]; have h1 := allS_le sa 0; have h2 := HD3.out.a.len; omega
  have HLa := Lib.hid hla
  have HLc := HLa
  clear hla
  have hlies := lies_of HD3.out.a HFa.out
  have conA := All_any (some ⟨b1, 0, none⟩) W3 b1 rfl
  have conB := all_arena _ _ _ _ _ _ hlies (by have := HD3.out.a.bl.lt; simp; omega)
  unfold AllOut at conB
  rw [HLa.out] at conB
  clear hlies
  go_wp2_with fail
  refine conA.mono ?_
  rintro e w' ⟨rfl, rfl⟩
  go_wp2_with fail
  refine conB.mono ?_
  rintro e V11 ⟨qp1, dp1, qp2, dp2, rfl, r1, r2, hb⟩
  clear conA conB
  have hbx : Below W3.heap.size W3 V11 := (blk_alloc (.cells #[.pointer (some ⟨b1, 0, none⟩)] 24)).trans (hb.mono (by simp))
  have D11 := Lib.hid (HD3.out.on hbx)
  have Rp1 := Lib.hid r1
  have Rp2 := Lib.hid r2
  clear r1 r2 hb hbx
  have hlies := lies_of D11.out.c HFc.out
  have conA := All_any (some ⟨c1, 0, none⟩) V11 c1 rfl
  have conB := all_arena _ _ _ _ _ _ hlies (by have := D11.out.c.bl.lt; simp; omega)
  unfold AllOut at conB
  rw [HLc.out] at conB
  clear hlies
  go_wp2_with fail
  refine conA.mono ?_
  rintro e w' ⟨rfl, rfl⟩
  go_wp2_with fail
  refine conB.mono ?_
  rintro e V12 ⟨qq1, dq1, qq2, dq2, rfl, r1, r2, hb⟩
  clear conA conB
  have hbx : Below V11.heap.size V11 V12 := (blk_alloc (.cells #[.pointer (some ⟨c1, 0, none⟩)] 24)).trans (hb.mono (by simp))
  have D12 := Lib.hid (D11.out.on hbx)
  have Rq1 := Lib.hid r1
  have Rq2 := Lib.hid r2
  replace Rp1 := Lib.hid (row_on Rp1.out hbx)
  replace Rp2 := Lib.hid (row_on Rp2.out hbx)
  clear r1 r2 hb hbx
  go_wp2_with fail
  refine (same_yes _ _ _ _ _ _ _ V12 (NumsIn.of Rp1.out) (NumsIn.of Rq1.out) (by omega) (by omega)).mono ?_
  rintro e V13 ⟨rfl, hb⟩
  have D13 := Lib.hid (D12.out.on hb)
  replace Rp1 := Lib.hid (row_on Rp1.out hb)
  replace Rp2 := Lib.hid (row_on Rp2.out hb)
  replace Rq2 := Lib.hid (row_on Rq2.out hb)
  clear hb
  go_wp2_with fail
  refine (same_yes _ _ _ _ _ _ _ V13 (NumsIn.of Rp2.out) (NumsIn.of Rq2.out) (by omega) (by omega)).mono ?_
  rintro e V14 ⟨rfl, hb⟩
  have D14 := Lib.hid (D13.out.on hb)
  replace Rp1 := Lib.hid (row_on Rp1.out hb)
  replace Rp2 := Lib.hid (row_on Rp2.out hb)
  clear hb
  have conD := do_any w c1 size _ sa a2 len2 cap2 z2 60 V14 D14.out.c HZ2.out HF0.out (by omega) D14.out.bel
  obtain ⟨sb, hsb⟩ : ∃ sb, runD size sa z2 = sb := ⟨_, rfl⟩
  rw [hsb] at conD
  have HSB := Lib.hid hsb
  clear hsb
  go_wp2_with fail
  refine conD.mono ?_
  rintro e W20 ⟨rfl, hf, vc2, hC, hw⟩
  have HD20 := Lib.hid (D14.out.right hC hw)
  replace Rp1 := Lib.hid (row_stays Rp1.out D14.out.c hw)
  replace Rp2 := Lib.hid (row_stays Rp2.out D14.out.c hw)
  have HFb := Lib.hid (hf.mono (show 60 + len2 ≤ 1099511627776 by omega))
  clear conD hC hw hf
  have hlies := lies_of HD20.out.a HFa.out
  have conA := All_any (some ⟨b1, 0, none⟩) W20 b1 rfl
  have conB := all_arena _ _ _ _ _ _ hlies (by have := HD20.out.a.bl.lt; simp; omega)
  unfold AllOut at conB
  rw [HLa.out] at conB
  clear hlies
  go_wp2_with fail
  refine conA.mono ?_
  rintro e w' ⟨rfl, rfl⟩
  go_wp2_with fail
  refine conB.mono ?_
  rintro e V15 ⟨qs1, ds1, qs2, ds2, rfl, r1, r2, hb⟩
  clear conA conB
  have hbx : Below W20.heap.size W20 V15 := (blk_alloc (.cells #[.pointer (some ⟨b1, 0, none⟩)] 24)).trans (hb.mono (by simp))
  have D15 := Lib.hid (HD20.out.on hbx)
  have Rs1 := Lib.hid r1
  have Rs2 := Lib.hid r2
  replace Rp1 := Lib.hid (row_on Rp1.out hbx)
  replace Rp2 := Lib.hid (row_on Rp2.out hbx)
  clear r1 r2 hb hbx
  go_wp2_with fail
  refine (same_yes _ _ _ _ _ _ _ V15 (NumsIn.of Rp1.out) (NumsIn.of Rs1.out) (by omega) (by omega)).mono ?_
  rintro e V16 ⟨rfl, hb⟩
  have D16 := Lib.hid (D15.out.on hb)
  replace Rp1 := Lib.hid (row_on Rp1.out hb)
  replace Rp2 := Lib.hid (row_on Rp2.out hb)
  replace Rs2 := Lib.hid (row_on Rs2.out hb)
  clear hb
  go_wp2_with fail
  refine (same_yes _ _ _ _ _ _ _ V16 (NumsIn.of Rp2.out) (NumsIn.of Rs2.out) (by omega) (by omega)).mono ?_
  rintro e V17 ⟨rfl, hb⟩
  have D17 := Lib.hid (D16.out.on hb)
  clear hb
  have conL := Len_any _ _ _ _ _ V17 D17.out.a HFa.out
  rw [HLa.out] at conL
  have f0 : ((la.length : Int) != (la.length : Int)) = false := by simp
  go_wp2_with fail
  refine conL.mono ?_
  rintro e W30 ⟨rfl, hb⟩
  have HD30 := Lib.hid (D17.out.on hb)
  clear conL hb
  have conD := do_any w b1 size _ sa a2 len2 cap2 z2 60 W30 HD30.out.a HZ2.out HF0.out (by omega) HD30.out.bel
  rw [HSB.out] at conD
  go_wp2_with fail
  refine conD.mono ?_
  rintro e W31 ⟨rfl, hf, va2, hC, hw⟩
  have HD31 := Lib.hid (HD30.out.left hC hw)
  clear conD hC hw hf HFa HFc HLa HLc
  have HFa := HFb
  have HFc := HFb
  obtain ⟨lb, hlb⟩ : ∃ lb, allS 0 sb = lb := ⟨_, rfl⟩
  have hllb : lb.length ≤ 1024 := by rw [← hlb]; have h1 := allS_le sb 0; have h2 := HD31.out.a.len; omega
  have HLa := Lib.hid hlb
  have HLc := HLa
  clear hlb
  have hlies := lies_of HD31.out.a HFa.out
  have conA := All_any (some ⟨b1, 0, none⟩) W31 b1 rfl
  have conB := all_arena _ _ _ _ _ _ hlies (by have := HD31.out.a.bl.lt; simp; omega)
  unfold AllOut at conB
  rw [HLa.out] at conB
  clear hlies
  go_wp2_with fail
  refine conA.mono ?_
  rintro e w' ⟨rfl, rfl⟩
  go_wp2_with fail
  refine conB.mono ?_
  rintro e V18 ⟨qx1, dx1, qx2, dx2, rfl, r1, r2, hb⟩
  clear conA conB
  have hbx : Below W31.heap.size W31 V18 := (blk_alloc (.cells #[.pointer (some ⟨b1, 0, none⟩)] 24)).trans (hb.mono (by simp))
  have D18 := Lib.hid (HD31.out.on hbx)
  have Rx1 := Lib.hid r1
  have Rx2 := Lib.hid r2
  clear r1 r2 hb hbx
  have hlies := lies_of D18.out.c HFc.out
  have conA := All_any (some ⟨c1, 0, none⟩) V18 c1 rfl
  have conB := all_arena _ _ _ _ _ _ hlies (by have := D18.out.c.bl.lt; simp; omega)
  unfold AllOut at conB
  rw [HLc.out] at conB
  clear hlies
  go_wp2_with fail
  refine conA.mono ?_
  rintro e w' ⟨rfl, rfl⟩
  go_wp2_with fail
  refine conB.mono ?_
  rintro e V19 ⟨qy1, dy1, qy2, dy2, rfl, r1, r2, hb⟩
  clear conA conB
  have hbx : Below V18.heap.size V18 V19 := (blk_alloc (.cells #[.pointer (some ⟨c1, 0, none⟩)] 24)).trans (hb.mono (by simp))
  have D19 := Lib.hid (D18.out.on hbx)
  have Ry1 := Lib.hid r1
  have Ry2 := Lib.hid r2
  replace Rx1 := Lib.hid (row_on Rx1.out hbx)
  replace Rx2 := Lib.hid (row_on Rx2.out hbx)
  clear r1 r2 hb hbx
  go_wp2_with fail
  refine (same_yes _ _ _ _ _ _ _ V19 (NumsIn.of Rx1.out) (NumsIn.of Ry1.out) (by omega) (by omega)).mono ?_
  rintro e V20 ⟨rfl, hb⟩
  have D20 := Lib.hid (D19.out.on hb)
  replace Rx2 := Lib.hid (row_on Rx2.out hb)
  replace Ry2 := Lib.hid (row_on Ry2.out hb)
  clear hb
  go_wp2_with fail
  refine (same_yes _ _ _ _ _ _ _ V20 (NumsIn.of Rx2.out) (NumsIn.of Ry2.out) (by omega) (by omega)).mono ?_
  rintro e V21 ⟨rfl, hb⟩
  have D21 := Lib.hid (D20.out.on hb)
  clear hb
  go_wp2
  go_ret
  exact ⟨rfl, D21.out.bel⟩

set_option maxRecDepth 100000 in
theorem lifted (os : Os) (started : os.Started) (H : Type) (enc : TypeId × Value → H) :
    ReturnsInHanded {} Try.checked os 5 .any (Rows.arenaCopiesSpec.pre6 enc Try.prog Try.f5 Rows.arenaCopiesRow.domain false) (Rows.arenaCopiesSpec.post enc Try.prog Try.f5 false true false false) := by
  refine returnsInHanded_of_change (C := Try.checked) own started (by kernel_rfl) Try.func5
    (ChangeSpec.witness6 (enc := enc) (C := Try.checked) false ⟨#[], #[.int .i64 0, .slice none 0 0, .slice none 0 0], []⟩ 8 (by kernel_rfl) (by kernel_rfl) (by kernel_rfl) (by kernel_rfl)) ?_
  intro W base args ds gs before hval0 hW hcnd _
  have hval : ∀ (j : Nat) t v, Try.f5.params[j]? = some t → args[j]? = some v → Value.okWide Try.prog W .any base t v := hval0
  have hW' := hW
  obtain ⟨p, q, hA0, hV, rfl, hfz, hnd⟩ := hW
  have hA : DataW.TrodAll enc Try.prog W 0 (fun _ => true) true Try.f5.params.toList args.toList ds p := hA0
  rw [Try.params5] at hA hval
  obtain ⟨v0, vs0, d0, ds0, p0, q0, hargs, rfl, rfl, h0, r0⟩ := trodAll_cons hA
  obtain ⟨v1, vs1, d1, ds1, p1, q1, rfl, rfl, rfl, h1, r1⟩ := trodAll_cons r0
  obtain ⟨v2, vs2, d2, ds2, p2, q2, rfl, rfl, rfl, h2, r2⟩ := trodAll_cons r1
  obtain ⟨rfl, rfl, rfl⟩ := trodAll_nil r2
  obtain rfl : args = #[v0, v1, v2] := by cases args; simp_all
  obtain ⟨rfl, rfl⟩ := trodVars_none hV
  obtain ⟨a0, rfl, rfl, rfl, w0⟩ := open_int Try.underlying3 (hval 0 3 v0 rfl rfl) h0
  obtain ⟨a1, len1, cap1, rfl⟩ := okWide_slice Try.underlying22 (hval 1 22 v1 rfl rfl)
  have k1 := h1
  have lt1 : ∀ x ∈ p1, x.block < W.heap.size := by obtain ⟨m, hm⟩ := k1; exact DataW.trod_lt m _ _ _ hm
  obtain ⟨z1, w1⟩ : ∃ z, ActsIn W a1 len1 z := by
    obtain ⟨fuel, hf⟩ := h1
    exact open_acts hf
  obtain ⟨a2, len2, cap2, rfl⟩ := okWide_slice Try.underlying22 (hval 2 22 v2 rfl rfl)
  have k2 := h2
  have lt2 : ∀ x ∈ p2, x.block < W.heap.size := by obtain ⟨m, hm⟩ := k2; exact DataW.trod_lt m _ _ _ hm
  obtain ⟨z2, w2⟩ : ∃ z, ActsIn W a2 len2 z := by
    obtain ⟨fuel, hf⟩ := h2
    exact open_acts hf
  clear hA0 hval0
  refine (walk a0 a1 len1 cap1 z1 a2 len2 cap2 z2 W (bounds_i64 w0) w1 w2).mono fun e W' ⟨he, bel⟩ => ?_
  subst he
  exact ⟨_, rfl, _, _, _, [], _, [], hW', trodAll_mk1 (shut_bool Try.underlying4 _), (trodAll_cons_mk (shut_int Try.underlying3 w0) (trodAll_cons_mk (Below.trod laidOut (by kernel_rfl) (of_decide_eq_true (by kernel_rfl)) k1 bel lt1) (trodAll_cons_mk (Below.trod laidOut (by kernel_rfl) (of_decide_eq_true (by kernel_rfl)) k2 bel lt2) trodAll_mk0))), rfl, bel.frame _, fun h => by cases h⟩

theorem over : Rows.arenaCopiesRow.holds Try.pinned (OpenSpec.ofChange Rows.arenaCopiesSpec) :=
  OpenClaim.holds_of_wide 5 Try.f5 rfl rfl rfl rfl rfl rfl rfl ⟨rfl, rfl, rfl, rfl, rfl⟩ rfl rfl rfl rfl rfl (by kernel_rfl) Try.func5 (by kernel_rfl)
    (of_decide_eq_true (by kernel_rfl)) (by unfold Func.isWrapper; first | (rw [if_pos (by decide +kernel)]; kernel_rfl) | (rw [if_neg (by decide +kernel)]; exact ⟨rfl, rfl⟩))
    (fun os started H enc _ => lifted os started H enc)

theorem proved : Rows.ArenaCopiesSaid := over
end Go.Proofs.Ytkpcakmkmkidpaa.arenaCopies
