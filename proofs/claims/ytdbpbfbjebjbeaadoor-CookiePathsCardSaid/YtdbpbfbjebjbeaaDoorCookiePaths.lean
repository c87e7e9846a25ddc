/- CookiePaths: the law returns true at whatever input, and writes nothing that was there: its tied card. Conditions: none. -/
import Derived.Test.YtdbpbfbjebjbeaaDoorBaseD
import Derived.Deep.DeepCutAuto
namespace Go.Proofs.YtdbpbfbjebjbeaaDoor.cookiePaths
open Go.RowKit Go.Shelf Url Ck
attribute [local go_sem] Oper.semAt_some
set_option linter.unusedVariables false

theorem row_by {w : World} {a : Option Addr} {len cap : Nat} {zs : List Int} (h : IsRow .u8 w a len cap zs) : ∃ bs : List UInt8, By w (.slice a len cap) bs := by
  rcases h with ⟨rfl, rfl, rfl, rfl⟩ | ⟨x, rfl, h1, h2, h3, h4, h5⟩
  · exact ⟨[], by_nil w⟩
  · have hz : ∀ i, i < len → (Lib.numsL (Lib.bytesOf (zs.take len))).getD i 0 = zs.getD i 0 := fun i hi => by
      have hi' : i < zs.length := by omega
      have hw := bounds_u8 (h5 _ (List.getElem_mem hi'))
      have : (Lib.bytesOf (zs.take len)).getD i 0 = UInt8.ofNat (zs[i]).toNat := by
        simp [Lib.bytesOf, List.getD, hi, List.getElem?_eq_getElem hi']
      rw [numsL_getD _ _ (by simp [Lib.bytesOf]; omega), this, List.getD, List.getElem?_eq_getElem hi']
      simp only [Option.getD_some, UInt8.toNat_ofNat']
      omega
    refine ⟨Lib.bytesOf (zs.take len), By.of (by simp [Lib.bytesOf]; omega) h1 h2 (fun h => by cases h) (Lib.BytesIn.of_cells fun i hi => ?_)⟩
    rw [hz i hi]
    exact h4 i (by omega)


set_option maxRecDepth 100000 in
set_option maxHeartbeats 32000000 in
theorem walk : Walks := by
  intro a0 len0 cap0 z0 a1 len1 cap1 z1 a2 w w0 w1 hG
  obtain ⟨tx, hx⟩ := row_by w0
  obtain ⟨tA, hA⟩ := row_by w1
  clear w0 w1
  have hl0 := hx.at.1
  have hl1 := hA.at.1
  by_cases hbig : 20 < len0
  · have d1 : decide ((20 : Int) < (len0 : Int)) = true := by simp; omega
    clear hx hA hl0 hl1 hbig
    have con := Ck.lives_any w hG
    have HG := Lib.hid hG
    clear hG
    go_enter Tryd.func4, Tryd.ntmps4
    go_wp2_with fail
    refine con.mono ?_
    rintro e w2 ⟨rfl, hb2⟩
    have con := Ck.lives_any w2 (HG.out.on hb2)
    go_wp2_with fail
    refine con.mono ?_
    rintro e w3 ⟨rfl, hb3⟩
    go_wp2
    go_ret
    exact ⟨rfl, hb2.trans (hb3.mono hb2.size)⟩
  have d1 : decide ((20 : Int) < (len0 : Int)) = false := by simp; omega
  by_cases hbig1 : 20 < len1
  · have d2 : decide ((20 : Int) < (len1 : Int)) = true := by simp; omega
    clear hx hA hl0 hl1 hbig hbig1
    have con := Ck.lives_any w hG
    have HG := Lib.hid hG
    clear hG
    go_enter Tryd.func4, Tryd.ntmps4
    go_wp2_with fail
    refine con.mono ?_
    rintro e w2 ⟨rfl, hb2⟩
    have con := Ck.lives_any w2 (HG.out.on hb2)
    go_wp2_with fail
    refine con.mono ?_
    rintro e w3 ⟨rfl, hb3⟩
    go_wp2
    go_ret
    exact ⟨rfl, hb2.trans (hb3.mono hb2.size)⟩
  have d2 : decide ((20 : Int) < (len1 : Int)) = false := by simp; omega
  have hn0 : len0 ≤ 20 := by omega
  have hn1 : len1 ≤ 20 := by omega
  have con := Ck.lives_any w hG
  have HG := Lib.hid hG
  have HLP := Lib.hid (name_lets tx)
  have HLM := Lib.hid (name_lets tA)
  have hP : (nameL tx).length = len0 := by simp [nameL]; exact hl0
  have hM : (nameL tA).length = len1 := by simp [nameL]; exact hl1
  clear hG hl0 hl1 hbig hbig1
  go_enter Tryd.func4, Tryd.ntmps4
  go_wp2_with fail
  refine con.mono ?_
  rintro e X1 ⟨rfl, B_1⟩
  clear con
  replace hx := hx.on B_1
  replace hA := hA.on B_1
  have con := name_any a0 len0 cap0 tx X1 hx hn0
  have conA := fun W (h : By W (.slice a1 len1 cap1) tA) => name_any a1 len1 cap1 tA W h hn1
  generalize nameL tx = P at *
  generalize nameL tA = M at *
  clear hx
  go_wp2_with fail
  refine con.mono ?_
  rintro e X2 ⟨rfl, hb⟩
  have A := B_1.trans (hb.mono B_1.size)
  replace hA := hA.on hb
  clear con hb B_1 d1 d2
  obtain ⟨L1, hL1⟩ : ∃ Z, [97, 61, 49, 59, 32, 80, 97, 116, 104, 61] ++ 47 :: P = Z := ⟨_, rfl⟩
  have hs1 : L1.length ≤ 100 := by rw [← hL1]; simp; omega
  have HP1 := Lib.hid (show parseC L1 = .inr (pathC P) by rw [← hL1]; exact path_parse P HLP.out (by omega))
  obtain ⟨qs, cc, X3, hcv, hby, hb⟩ := conv_str X2 (⟨#[97, 61, 49, 59, 32, 80, 97, 116, 104, 61]⟩ ++ (⟨#[47]⟩ ++ ⟨P.toArray⟩)) L1 (by rw [← hL1]; apply ByteArray.ext; simp) (by omega)
  clear hL1
  replace A := A.trans (hb.mono A.size)
  replace hA := hA.on hb
  clear hb
  have con := Parse_any qs L1.length cc L1 X3 hby (by omega) (HG.out.on A)
  rw [HP1.out] at con
  clear hby HP1
  go_wp2_with omega
  refine con.mono ?_
  rintro e X4 ⟨v, rfl, hC, hb⟩
  simp only [ckE, ckV] at hC ⊢
  replace A := A.trans (hb.mono A.size)
  replace hA := hA.on hb
  clear con hb hcv
  have kc := fun (w : World) (C : Array Value) (n c : Nat) => Lib.run_convert_bytes_const (P := Tryd.prog) w 22 5 C n c Tryd.underlying22 Tryd.underlying5
  obtain ⟨q1, n1, c1, q2, n2, c2, q3, n3, c3, rfl, -⟩ := id hC
  obtain ⟨bc, hbx⟩ : ∃ b, X4.heap.size = b := ⟨_, rfl⟩
  obtain ⟨X5, hW⟩ : ∃ Z, X4.alloc (.cells #[.slice q1 n1 c1, .slice q2 n2 c2, .slice q3 n3 c3, .string ⟨(pathC P).dom.toArray⟩, .int .i64 (pathC P).age, .bool (pathC P).secure] 25) = Z := ⟨_, rfl⟩
  have hb : Below X4.heap.size X4 X5 := by rw [← hW]; exact below_alloc _
  have K : CX bc q1 n1 c1 q2 n2 c2 q3 n3 c3 (pathC P) X5 := by rw [← hW, ← hbx]; exact CX.new hC
  replace A := A.trans (hb.mono A.size)
  replace hA := hA.on hb
  have HX5 := Lib.hid hW
  have HBc := Lib.hid hbx
  clear hW hbx hb
  clear hC
  cases a2 with
  | true =>
    have con := conA X5 hA
    go_wp2_with omega
    rewrite [HX5.out, HBc.out]
    refine con.mono ?_
    rintro e X6 ⟨rfl, hb⟩
    replace A := A.trans (hb.mono A.size)
    replace K := K.on hb
    clear con hb HX5 HBc hA conA
    obtain ⟨X7, hW⟩ : ∃ Z, X6.alloc (.cells #[.int .u8 104, .int .u8 116, .int .u8 116, .int .u8 112, .int .u8 58, .int .u8 47, .int .u8 47, .int .u8 104, .int .u8 47] 5 (9, 10)) = Z := ⟨_, rfl⟩
    have hb : Below X6.heap.size X6 X7 := by rw [← hW]; exact below_alloc _
    have hby : By X7 (.slice (some ⟨X6.heap.size, 0, none⟩) 9 9) [104, 116, 116, 112, 58, 47, 47, 104, 47] := by rw [← hW]; exact by_lit X6 #[.int .u8 104, .int .u8 116, .int .u8 116, .int .u8 112, .int .u8 58, .int .u8 47, .int .u8 47, .int .u8 104, .int .u8 47] [104, 116, 116, 112, 58, 47, 47, 104, 47] (9, 10) 9 rfl rfl (by decide)
    replace A := A.trans (hb.mono A.size)
    replace K := K.on hb
    have HX7 := Lib.hid hW
    clear hW hb
    have con := Parse_yes _ 9 9 [104, 116, 116, 112, 58, 47, 47, 104, 47] (hostU 104 [47]) X7 hby (by decide) (HG.out.on A) (host_parse 104 [47] (by decide) (by decide) root_ok (by decide))
    clear hby
    have HMu := Lib.hid (fun v a b W h ha hb hg => Meant_path P M true 104 true (by decide) (by decide) (by decide) HLP.out HLM.out (by omega) (by omega) v a b W h ha hb hg)
    have HMv := Lib.hid (fun v a b W h ha hb hg => Meant_path P M true 105 false (by decide) (by decide) (by decide) HLP.out HLM.out (by omega) (by omega) v a b W h ha hb hg)
    have HPu := Lib.hid (host_parse 104 (toL P M true) (by decide) (by decide) (to_ok P M true HLP.out HLM.out) (by simp [toL]; omega))
    have HPv := Lib.hid (host_parse 105 (toL P M true) (by decide) (by decide) (to_ok P M true HLP.out HLM.out) (by simp [toL]; omega))
    obtain ⟨L2, hL2⟩ : ∃ Z, [104, 116, 116, 112, 58, 47, 47, 104] ++ toL P M true = Z := ⟨_, rfl⟩
    obtain ⟨L3, hL3⟩ : ∃ Z, [104, 116, 116, 112, 58, 47, 47, 105] ++ toL P M true = Z := ⟨_, rfl⟩
    have hs2 : L2.length ≤ 100 := by rw [← hL2]; simp [toL]; omega
    have hs3 : L3.length ≤ 100 := by rw [← hL3]; simp [toL]; omega
    have HE2 := Lib.hid (show (⟨#[104, 116, 116, 112, 58, 47, 47, 104]⟩ ++ (((⟨#[47]⟩ ++ ⟨P.toArray⟩) ++ ⟨#[47]⟩) ++ ⟨M.toArray⟩) : ByteArray) = ⟨L2.toArray⟩ by rw [← hL2]; apply ByteArray.ext; simp [toL])
    have HE3 := Lib.hid (show (⟨#[104, 116, 116, 112, 58, 47, 47, 105]⟩ ++ (((⟨#[47]⟩ ++ ⟨P.toArray⟩) ++ ⟨#[47]⟩) ++ ⟨M.toArray⟩) : ByteArray) = ⟨L3.toArray⟩ by rw [← hL3]; apply ByteArray.ext; simp [toL])
    rw [hL2] at HPu
    rw [hL3] at HPv
    clear hL2 hL3
    generalize pathC P = c at *
    generalize hostU 104 [47] = ua at *
    generalize hostU 104 (toL P M true) = uu at *
    generalize hostU 105 (toL P M true) = uv at *
    go_wp2_with omega
    rewrite [HX7.out]
    refine con.mono ?_
    rintro e X8 ⟨v, rfl, Ia, hb⟩
    replace A := A.trans (hb.mono A.size)
    replace K := K.on hb
    clear con hb HX7 kc
    obtain ⟨aq0, an0, ac0, aq1, an1, ac1, aq3, an3, ac3, aq4, an4, ac4, aq5, an5, ac5, rfl, -⟩ := id Ia
    obtain ⟨ba, hbx⟩ : ∃ b, X8.heap.size = b := ⟨_, rfl⟩
    obtain ⟨X9, hW⟩ : ∃ Z, X8.alloc (.cells #[.slice aq0 an0 ac0, .slice aq1 an1 ac1, .int .i64 ua.port, .slice aq3 an3 ac3, .slice aq4 an4 ac4, .slice aq5 an5 ac5, .bool ua.hq, .bool ua.hf] 31) = Z := ⟨_, rfl⟩
    have hb : Below X8.heap.size X8 X9 := by rw [← hW]; exact below_alloc _
    have Ua : UB ba #[.slice aq0 an0 ac0, .slice aq1 an1 ac1, .int .i64 ua.port, .slice aq3 an3 ac3, .slice aq4 an4 ac4, .slice aq5 an5 ac5, .bool ua.hq, .bool ua.hf] X9 := by rw [← hW, ← hbx]; exact UB.new X8 _
    replace Ia := Ia.on hb
    replace A := A.trans (hb.mono A.size)
    replace K := K.on hb
    have HX9 := Lib.hid hW
    have HBa := Lib.hid hbx
    clear hW hbx hb
    obtain ⟨qs, cc, Xa, hcv, hby, hb⟩ := conv_str X9 (⟨#[104, 116, 116, 112, 58, 47, 47, 104]⟩ ++ (((⟨#[47]⟩ ++ ⟨P.toArray⟩) ++ ⟨#[47]⟩) ++ ⟨M.toArray⟩)) L2 HE2.out (by omega)
    rewrite [← HX9.out] at hcv
    replace A := A.trans (hb.mono A.size)
    replace K := K.on hb
    replace Ua := Ua.on hb
    replace Ia := Ia.on hb
    clear hb
    have con := Parse_yes qs L2.length cc L2 uu Xa hby (by omega) (HG.out.on A) HPu.out
    clear hby
    go_wp2_with omega
    rewrite [HBa.out]
    refine con.mono ?_
    rintro e Xb ⟨v, rfl, Iu, hb⟩
    replace A := A.trans (hb.mono A.size)
    replace K := K.on hb
    replace Ua := Ua.on hb
    replace Ia := Ia.on hb
    clear con hb hcv HX9 HBa HE2 HPu
    obtain ⟨uq0, un0, uc0, uq1, un1, uc1, uq3, un3, uc3, uq4, un4, uc4, uq5, un5, uc5, rfl, -⟩ := id Iu
    obtain ⟨bu, hbx⟩ : ∃ b, Xb.heap.size = b := ⟨_, rfl⟩
    obtain ⟨Xd, hW⟩ : ∃ Z, Xb.alloc (.cells #[.slice uq0 un0 uc0, .slice uq1 un1 uc1, .int .i64 uu.port, .slice uq3 un3 uc3, .slice uq4 un4 uc4, .slice uq5 un5 uc5, .bool uu.hq, .bool uu.hf] 31) = Z := ⟨_, rfl⟩
    have hb : Below Xb.heap.size Xb Xd := by rw [← hW]; exact below_alloc _
    have Uu : UB bu #[.slice uq0 un0 uc0, .slice uq1 un1 uc1, .int .i64 uu.port, .slice uq3 un3 uc3, .slice uq4 un4 uc4, .slice uq5 un5 uc5, .bool uu.hq, .bool uu.hf] Xd := by rw [← hW, ← hbx]; exact UB.new Xb _
    replace Iu := Iu.on hb
    replace A := A.trans (hb.mono A.size)
    replace K := K.on hb
    replace Ua := Ua.on hb
    replace Ia := Ia.on hb
    have HXd := Lib.hid hW
    have HBu := Lib.hid hbx
    clear hW hbx hb
    obtain ⟨qs, cc, Xe, hcv, hby, hb⟩ := conv_str Xd (⟨#[104, 116, 116, 112, 58, 47, 47, 105]⟩ ++ (((⟨#[47]⟩ ++ ⟨P.toArray⟩) ++ ⟨#[47]⟩) ++ ⟨M.toArray⟩)) L3 HE3.out (by omega)
    rewrite [← HXd.out] at hcv
    replace A := A.trans (hb.mono A.size)
    replace K := K.on hb
    replace Ua := Ua.on hb
    replace Ia := Ia.on hb
    replace Uu := Uu.on hb
    replace Iu := Iu.on hb
    clear hb
    have con := Parse_yes qs L3.length cc L3 uv Xe hby (by omega) (HG.out.on A) HPv.out
    clear hby
    go_wp2_with omega
    rewrite [HBu.out]
    refine con.mono ?_
    rintro e Xf ⟨v, rfl, Iv, hb⟩
    replace A := A.trans (hb.mono A.size)
    replace K := K.on hb
    replace Ua := Ua.on hb
    replace Ia := Ia.on hb
    replace Uu := Uu.on hb
    replace Iu := Iu.on hb
    clear con hb hcv HXd HBu HE3 HPv
    obtain ⟨vq0, vn0, vc0, vq1, vn1, vc1, vq3, vn3, vc3, vq4, vn4, vc4, vq5, vn5, vc5, rfl, -⟩ := id Iv
    obtain ⟨bv, hbx⟩ : ∃ b, Xf.heap.size = b := ⟨_, rfl⟩
    obtain ⟨Xg, hW⟩ : ∃ Z, Xf.alloc (.cells #[.slice vq0 vn0 vc0, .slice vq1 vn1 vc1, .int .i64 uv.port, .slice vq3 vn3 vc3, .slice vq4 vn4 vc4, .slice vq5 vn5 vc5, .bool uv.hq, .bool uv.hf] 31) = Z := ⟨_, rfl⟩
    have hb : Below Xf.heap.size Xf Xg := by rw [← hW]; exact below_alloc _
    have Uv : UB bv #[.slice vq0 vn0 vc0, .slice vq1 vn1 vc1, .int .i64 uv.port, .slice vq3 vn3 vc3, .slice vq4 vn4 vc4, .slice vq5 vn5 vc5, .bool uv.hq, .bool uv.hf] Xg := by rw [← hW, ← hbx]; exact UB.new Xf _
    replace Iv := Iv.on hb
    replace A := A.trans (hb.mono A.size)
    replace K := K.on hb
    replace Ua := Ua.on hb
    replace Ia := Ia.on hb
    replace Uu := Uu.on hb
    replace Iu := Iu.on hb
    have HXg := Lib.hid hW
    have HBv := Lib.hid hbx
    clear hW hbx hb
    have con := HMu.out _ _ _ _ K.2 Ia Iu (HG.out.on A)
    rw [show (true && (true || M.isEmpty || P.isEmpty)) = true from by simp] at con
    have r0 := K.1.box 0 _ rfl
    have r1 := K.1.box 1 _ rfl
    have r2 := K.1.box 2 _ rfl
    have r3 := K.1.box 3 _ rfl
    have r4 := K.1.box 4 _ rfl
    have r5 := K.1.box 5 _ rfl
    have ax0 := Ua.box 0 _ rfl
    have ax1 := Ua.box 1 _ rfl
    have ax2 := Ua.box 2 _ rfl
    have ax3 := Ua.box 3 _ rfl
    have ax4 := Ua.box 4 _ rfl
    have ax5 := Ua.box 5 _ rfl
    have ax6 := Ua.box 6 _ rfl
    have ax7 := Ua.box 7 _ rfl
    have ux0 := Uu.box 0 _ rfl
    have ux1 := Uu.box 1 _ rfl
    have ux2 := Uu.box 2 _ rfl
    have ux3 := Uu.box 3 _ rfl
    have ux4 := Uu.box 4 _ rfl
    have ux5 := Uu.box 5 _ rfl
    have ux6 := Uu.box 6 _ rfl
    have ux7 := Uu.box 7 _ rfl
    have vx0 := Uv.box 0 _ rfl
    have vx1 := Uv.box 1 _ rfl
    have vx2 := Uv.box 2 _ rfl
    have vx3 := Uv.box 3 _ rfl
    have vx4 := Uv.box 4 _ rfl
    have vx5 := Uv.box 5 _ rfl
    have vx6 := Uv.box 6 _ rfl
    have vx7 := Uv.box 7 _ rfl
    rewrite [← HXg.out] at r0 r1 r2 r3 r4 r5 ax0 ax1 ax2 ax3 ax4 ax5 ax6 ax7 ux0 ux1 ux2 ux3 ux4 ux5 ux6 ux7 vx0 vx1 vx2 vx3 vx4 vx5 vx6 vx7
    go_wp2_with omega
    rewrite [HXg.out, HBv.out]
    refine con.mono ?_
    rintro e Xh ⟨rfl, hb⟩
    clear con HXg HBv r0 r1 r2 r3 r4 r5 ax0 ax1 ax2 ax3 ax4 ax5 ax6 ax7 ux0 ux1 ux2 ux3 ux4 ux5 ux6 ux7 vx0 vx1 vx2 vx3 vx4 vx5 vx6 vx7
    replace A := A.trans (hb.mono A.size)
    replace K := K.on hb
    replace Ua := Ua.on hb
    replace Ia := Ia.on hb
    replace Uu := Uu.on hb
    replace Iu := Iu.on hb
    replace Uv := Uv.on hb
    replace Iv := Iv.on hb
    clear hb
    have con := HMv.out _ _ _ _ K.2 Ia Iv (HG.out.on A)
    rw [Bool.false_and] at con
    have r0 := K.1.box 0 _ rfl
    have r1 := K.1.box 1 _ rfl
    have r2 := K.1.box 2 _ rfl
    have r3 := K.1.box 3 _ rfl
    have r4 := K.1.box 4 _ rfl
    have r5 := K.1.box 5 _ rfl
    have ax0 := Ua.box 0 _ rfl
    have ax1 := Ua.box 1 _ rfl
    have ax2 := Ua.box 2 _ rfl
    have ax3 := Ua.box 3 _ rfl
    have ax4 := Ua.box 4 _ rfl
    have ax5 := Ua.box 5 _ rfl
    have ax6 := Ua.box 6 _ rfl
    have ax7 := Ua.box 7 _ rfl
    have ux0 := Uu.box 0 _ rfl
    have ux1 := Uu.box 1 _ rfl
    have ux2 := Uu.box 2 _ rfl
    have ux3 := Uu.box 3 _ rfl
    have ux4 := Uu.box 4 _ rfl
    have ux5 := Uu.box 5 _ rfl
    have ux6 := Uu.box 6 _ rfl
    have ux7 := Uu.box 7 _ rfl
    have vx0 := Uv.box 0 _ rfl
    have vx1 := Uv.box 1 _ rfl
    have vx2 := Uv.box 2 _ rfl
    have vx3 := Uv.box 3 _ rfl
    have vx4 := Uv.box 4 _ rfl
    have vx5 := Uv.box 5 _ rfl
    have vx6 := Uv.box 6 _ rfl
    have vx7 := Uv.box 7 _ rfl
    go_wp2_with omega
    refine con.mono ?_
    rintro e Xi ⟨rfl, hb⟩
    clear con r0 r1 r2 r3 r4 r5 ax0 ax1 ax2 ax3 ax4 ax5 ax6 ax7 ux0 ux1 ux2 ux3 ux4 ux5 ux6 ux7 vx0 vx1 vx2 vx3 vx4 vx5 vx6 vx7
    replace A := A.trans (hb.mono A.size)
    replace K := K.on hb
    replace Ua := Ua.on hb
    replace Ia := Ia.on hb
    replace Uu := Uu.on hb
    replace Iu := Iu.on hb
    replace Uv := Uv.on hb
    replace Iv := Iv.on hb
    clear hb
    go_wp2
    go_ret
    exact ⟨rfl, A⟩
  | false =>
    have con := conA X5 hA
    go_wp2_with omega
    rewrite [HX5.out, HBc.out]
    refine con.mono ?_
    rintro e X6 ⟨rfl, hb⟩
    replace A := A.trans (hb.mono A.size)
    replace K := K.on hb
    clear con hb HX5 HBc hA conA
    obtain ⟨X7, hW⟩ : ∃ Z, X6.alloc (.cells #[.int .u8 104, .int .u8 116, .int .u8 116, .int .u8 112, .int .u8 58, .int .u8 47, .int .u8 47, .int .u8 104, .int .u8 47] 5 (9, 10)) = Z := ⟨_, rfl⟩
    have hb : Below X6.heap.size X6 X7 := by rw [← hW]; exact below_alloc _
    have hby : By X7 (.slice (some ⟨X6.heap.size, 0, none⟩) 9 9) [104, 116, 116, 112, 58, 47, 47, 104, 47] := by rw [← hW]; exact by_lit X6 #[.int .u8 104, .int .u8 116, .int .u8 116, .int .u8 112, .int .u8 58, .int .u8 47, .int .u8 47, .int .u8 104, .int .u8 47] [104, 116, 116, 112, 58, 47, 47, 104, 47] (9, 10) 9 rfl rfl (by decide)
    replace A := A.trans (hb.mono A.size)
    replace K := K.on hb
    have HX7 := Lib.hid hW
    clear hW hb
    have con := Parse_yes _ 9 9 [104, 116, 116, 112, 58, 47, 47, 104, 47] (hostU 104 [47]) X7 hby (by decide) (HG.out.on A) (host_parse 104 [47] (by decide) (by decide) root_ok (by decide))
    clear hby
    have HMu := Lib.hid (fun v a b W h ha hb hg => Meant_path P M false 104 true (by decide) (by decide) (by decide) HLP.out HLM.out (by omega) (by omega) v a b W h ha hb hg)
    have HMv := Lib.hid (fun v a b W h ha hb hg => Meant_path P M false 105 false (by decide) (by decide) (by decide) HLP.out HLM.out (by omega) (by omega) v a b W h ha hb hg)
    have HPu := Lib.hid (host_parse 104 (toL P M false) (by decide) (by decide) (to_ok P M false HLP.out HLM.out) (by simp [toL]; omega))
    have HPv := Lib.hid (host_parse 105 (toL P M false) (by decide) (by decide) (to_ok P M false HLP.out HLM.out) (by simp [toL]; omega))
    obtain ⟨L2, hL2⟩ : ∃ Z, [104, 116, 116, 112, 58, 47, 47, 104] ++ toL P M false = Z := ⟨_, rfl⟩
    obtain ⟨L3, hL3⟩ : ∃ Z, [104, 116, 116, 112, 58, 47, 47, 105] ++ toL P M false = Z := ⟨_, rfl⟩
    have hs2 : L2.length ≤ 100 := by rw [← hL2]; simp [toL]; omega
    have hs3 : L3.length ≤ 100 := by rw [← hL3]; simp [toL]; omega
    have HE2 := Lib.hid (show (⟨#[104, 116, 116, 112, 58, 47, 47, 104]⟩ ++ ((⟨#[47]⟩ ++ ⟨P.toArray⟩) ++ ⟨M.toArray⟩) : ByteArray) = ⟨L2.toArray⟩ by rw [← hL2]; apply ByteArray.ext; simp [toL])
    have HE3 := Lib.hid (show (⟨#[104, 116, 116, 112, 58, 47, 47, 105]⟩ ++ ((⟨#[47]⟩ ++ ⟨P.toArray⟩) ++ ⟨M.toArray⟩) : ByteArray) = ⟨L3.toArray⟩ by rw [← hL3]; apply ByteArray.ext; simp [toL])
    rw [hL2] at HPu
    rw [hL3] at HPv
    clear hL2 hL3
    generalize pathC P = c at *
    generalize hostU 104 [47] = ua at *
    generalize hostU 104 (toL P M false) = uu at *
    generalize hostU 105 (toL P M false) = uv at *
    go_wp2_with omega
    rewrite [HX7.out]
    refine con.mono ?_
    rintro e X8 ⟨v, rfl, Ia, hb⟩
    replace A := A.trans (hb.mono A.size)
    replace K := K.on hb
    clear con hb HX7 kc
    obtain ⟨aq0, an0, ac0, aq1, an1, ac1, aq3, an3, ac3, aq4, an4, ac4, aq5, an5, ac5, rfl, -⟩ := id Ia
    obtain ⟨ba, hbx⟩ : ∃ b, X8.heap.size = b := ⟨_, rfl⟩
    obtain ⟨X9, hW⟩ : ∃ Z, X8.alloc (.cells #[.slice aq0 an0 ac0, .slice aq1 an1 ac1, .int .i64 ua.port, .slice aq3 an3 ac3, .slice aq4 an4 ac4, .slice aq5 an5 ac5, .bool ua.hq, .bool ua.hf] 31) = Z := ⟨_, rfl⟩
    have hb : Below X8.heap.size X8 X9 := by rw [← hW]; exact below_alloc _
    have Ua : UB ba #[.slice aq0 an0 ac0, .slice aq1 an1 ac1, .int .i64 ua.port, .slice aq3 an3 ac3, .slice aq4 an4 ac4, .slice aq5 an5 ac5, .bool ua.hq, .bool ua.hf] X9 := by rw [← hW, ← hbx]; exact UB.new X8 _
    replace Ia := Ia.on hb
    replace A := A.trans (hb.mono A.size)
    replace K := K.on hb
    have HX9 := Lib.hid hW
    have HBa := Lib.hid hbx
    clear hW hbx hb
    obtain ⟨qs, cc, Xa, hcv, hby, hb⟩ := conv_str X9 (⟨#[104, 116, 116, 112, 58, 47, 47, 104]⟩ ++ ((⟨#[47]⟩ ++ ⟨P.toArray⟩) ++ ⟨M.toArray⟩)) L2 HE2.out (by omega)
    rewrite [← HX9.out] at hcv
    replace A := A.trans (hb.mono A.size)
    replace K := K.on hb
    replace Ua := Ua.on hb
    replace Ia := Ia.on hb
    clear hb
    have con := Parse_yes qs L2.length cc L2 uu Xa hby (by omega) (HG.out.on A) HPu.out
    clear hby
    go_wp2_with omega
    rewrite [HBa.out]
    refine con.mono ?_
    rintro e Xb ⟨v, rfl, Iu, hb⟩
    replace A := A.trans (hb.mono A.size)
    replace K := K.on hb
    replace Ua := Ua.on hb
    replace Ia := Ia.on hb
    clear con hb hcv HX9 HBa HE2 HPu
    obtain ⟨uq0, un0, uc0, uq1, un1, uc1, uq3, un3, uc3, uq4, un4, uc4, uq5, un5, uc5, rfl, -⟩ := id Iu
    obtain ⟨bu, hbx⟩ : ∃ b, Xb.heap.size = b := ⟨_, rfl⟩
    obtain ⟨Xd, hW⟩ : ∃ Z, Xb.alloc (.cells #[.slice uq0 un0 uc0, .slice uq1 un1 uc1, .int .i64 uu.port, .slice uq3 un3 uc3, .slice uq4 un4 uc4, .slice uq5 un5 uc5, .bool uu.hq, .bool uu.hf] 31) = Z := ⟨_, rfl⟩
    have hb : Below Xb.heap.size Xb Xd := by rw [← hW]; exact below_alloc _
    have Uu : UB bu #[.slice uq0 un0 uc0, .slice uq1 un1 uc1, .int .i64 uu.port, .slice uq3 un3 uc3, .slice uq4 un4 uc4, .slice uq5 un5 uc5, .bool uu.hq, .bool uu.hf] Xd := by rw [← hW, ← hbx]; exact UB.new Xb _
    replace Iu := Iu.on hb
    replace A := A.trans (hb.mono A.size)
    replace K := K.on hb
    replace Ua := Ua.on hb
    replace Ia := Ia.on hb
    have HXd := Lib.hid hW
    have HBu := Lib.hid hbx
    clear hW hbx hb
    obtain ⟨qs, cc, Xe, hcv, hby, hb⟩ := conv_str Xd (⟨#[104, 116, 116, 112, 58, 47, 47, 105]⟩ ++ ((⟨#[47]⟩ ++ ⟨P.toArray⟩) ++ ⟨M.toArray⟩)) L3 HE3.out (by omega)
    rewrite [← HXd.out] at hcv
    replace A := A.trans (hb.mono A.size)
    replace K := K.on hb
    replace Ua := Ua.on hb
    replace Ia := Ia.on hb
    replace Uu := Uu.on hb
    replace Iu := Iu.on hb
    clear hb
    have con := Parse_yes qs L3.length cc L3 uv Xe hby (by omega) (HG.out.on A) HPv.out
    clear hby
    go_wp2_with omega
    rewrite [HBu.out]
    refine con.mono ?_
    rintro e Xf ⟨v, rfl, Iv, hb⟩
    replace A := A.trans (hb.mono A.size)
    replace K := K.on hb
    replace Ua := Ua.on hb
    replace Ia := Ia.on hb
    replace Uu := Uu.on hb
    replace Iu := Iu.on hb
    clear con hb hcv HXd HBu HE3 HPv
    obtain ⟨vq0, vn0, vc0, vq1, vn1, vc1, vq3, vn3, vc3, vq4, vn4, vc4, vq5, vn5, vc5, rfl, -⟩ := id Iv
    obtain ⟨bv, hbx⟩ : ∃ b, Xf.heap.size = b := ⟨_, rfl⟩
    obtain ⟨Xg, hW⟩ : ∃ Z, Xf.alloc (.cells #[.slice vq0 vn0 vc0, .slice vq1 vn1 vc1, .int .i64 uv.port, .slice vq3 vn3 vc3, .slice vq4 vn4 vc4, .slice vq5 vn5 vc5, .bool uv.hq, .bool uv.hf] 31) = Z := ⟨_, rfl⟩
    have hb : Below Xf.heap.size Xf Xg := by rw [← hW]; exact below_alloc _
    have Uv : UB bv #[.slice vq0 vn0 vc0, .slice vq1 vn1 vc1, .int .i64 uv.port, .slice vq3 vn3 vc3, .slice vq4 vn4 vc4, .slice vq5 vn5 vc5, .bool uv.hq, .bool uv.hf] Xg := by rw [← hW, ← hbx]; exact UB.new Xf _
    replace Iv := Iv.on hb
    replace A := A.trans (hb.mono A.size)
    replace K := K.on hb
    replace Ua := Ua.on hb
    replace Ia := Ia.on hb
    replace Uu := Uu.on hb
    replace Iu := Iu.on hb
    have HXg := Lib.hid hW
    have HBv := Lib.hid hbx
    clear hW hbx hb
    by_cases h1 : len1 = 0
    · subst h1
      obtain rfl : M = [] := List.length_eq_zero_iff.1 hM
      have con := HMu.out _ _ _ _ K.2 Ia Iu (HG.out.on A)
      rw [show (true && (false || ([] : List UInt8).isEmpty || P.isEmpty)) = true from by simp] at con
      have r0 := K.1.box 0 _ rfl
      have r1 := K.1.box 1 _ rfl
      have r2 := K.1.box 2 _ rfl
      have r3 := K.1.box 3 _ rfl
      have r4 := K.1.box 4 _ rfl
      have r5 := K.1.box 5 _ rfl
      have ax0 := Ua.box 0 _ rfl
      have ax1 := Ua.box 1 _ rfl
      have ax2 := Ua.box 2 _ rfl
      have ax3 := Ua.box 3 _ rfl
      have ax4 := Ua.box 4 _ rfl
      have ax5 := Ua.box 5 _ rfl
      have ax6 := Ua.box 6 _ rfl
      have ax7 := Ua.box 7 _ rfl
      have ux0 := Uu.box 0 _ rfl
      have ux1 := Uu.box 1 _ rfl
      have ux2 := Uu.box 2 _ rfl
      have ux3 := Uu.box 3 _ rfl
      have ux4 := Uu.box 4 _ rfl
      have ux5 := Uu.box 5 _ rfl
      have ux6 := Uu.box 6 _ rfl
      have ux7 := Uu.box 7 _ rfl
      have vx0 := Uv.box 0 _ rfl
      have vx1 := Uv.box 1 _ rfl
      have vx2 := Uv.box 2 _ rfl
      have vx3 := Uv.box 3 _ rfl
      have vx4 := Uv.box 4 _ rfl
      have vx5 := Uv.box 5 _ rfl
      have vx6 := Uv.box 6 _ rfl
      have vx7 := Uv.box 7 _ rfl
      rewrite [← HXg.out] at r0 r1 r2 r3 r4 r5 ax0 ax1 ax2 ax3 ax4 ax5 ax6 ax7 ux0 ux1 ux2 ux3 ux4 ux5 ux6 ux7 vx0 vx1 vx2 vx3 vx4 vx5 vx6 vx7
      go_wp2_with omega
      rewrite [HXg.out, HBv.out]
      refine con.mono ?_
      rintro e Xh ⟨rfl, hb⟩
      clear con HXg HBv r0 r1 r2 r3 r4 r5 ax0 ax1 ax2 ax3 ax4 ax5 ax6 ax7 ux0 ux1 ux2 ux3 ux4 ux5 ux6 ux7 vx0 vx1 vx2 vx3 vx4 vx5 vx6 vx7
      replace A := A.trans (hb.mono A.size)
      replace K := K.on hb
      replace Ua := Ua.on hb
      replace Ia := Ia.on hb
      replace Uu := Uu.on hb
      replace Iu := Iu.on hb
      replace Uv := Uv.on hb
      replace Iv := Iv.on hb
      clear hb
      have con := HMv.out _ _ _ _ K.2 Ia Iv (HG.out.on A)
      rw [Bool.false_and] at con
      have r0 := K.1.box 0 _ rfl
      have r1 := K.1.box 1 _ rfl
      have r2 := K.1.box 2 _ rfl
      have r3 := K.1.box 3 _ rfl
      have r4 := K.1.box 4 _ rfl
      have r5 := K.1.box 5 _ rfl
      have ax0 := Ua.box 0 _ rfl
      have ax1 := Ua.box 1 _ rfl
      have ax2 := Ua.box 2 _ rfl
      have ax3 := Ua.box 3 _ rfl
      have ax4 := Ua.box 4 _ rfl
      have ax5 := Ua.box 5 _ rfl
      have ax6 := Ua.box 6 _ rfl
      have ax7 := Ua.box 7 _ rfl
      have ux0 := Uu.box 0 _ rfl
      have ux1 := Uu.box 1 _ rfl
      have ux2 := Uu.box 2 _ rfl
      have ux3 := Uu.box 3 _ rfl
      have ux4 := Uu.box 4 _ rfl
      have ux5 := Uu.box 5 _ rfl
      have ux6 := Uu.box 6 _ rfl
      have ux7 := Uu.box 7 _ rfl
      have vx0 := Uv.box 0 _ rfl
      have vx1 := Uv.box 1 _ rfl
      have vx2 := Uv.box 2 _ rfl
      have vx3 := Uv.box 3 _ rfl
      have vx4 := Uv.box 4 _ rfl
      have vx5 := Uv.box 5 _ rfl
      have vx6 := Uv.box 6 _ rfl
      have vx7 := Uv.box 7 _ rfl
      go_wp2_with omega
      refine con.mono ?_
      rintro e Xi ⟨rfl, hb⟩
      clear con r0 r1 r2 r3 r4 r5 ax0 ax1 ax2 ax3 ax4 ax5 ax6 ax7 ux0 ux1 ux2 ux3 ux4 ux5 ux6 ux7 vx0 vx1 vx2 vx3 vx4 vx5 vx6 vx7
      replace A := A.trans (hb.mono A.size)
      replace K := K.on hb
      replace Ua := Ua.on hb
      replace Ia := Ia.on hb
      replace Uu := Uu.on hb
      replace Iu := Iu.on hb
      replace Uv := Uv.on hb
      replace Iv := Iv.on hb
      clear hb
      go_wp2
      go_ret
      exact ⟨rfl, A⟩
    have e1 : ((len1 : Int) == 0) = false := by rw [beq_eq_false_iff_ne]; omega
    have hMe : M.isEmpty = false := by cases M with
      | nil => exact absurd hM.symm h1
      | cons x r => rfl
    by_cases h0 : len0 = 0
    · subst h0
      obtain rfl : P = [] := List.length_eq_zero_iff.1 hP
      have con := HMu.out _ _ _ _ K.2 Ia Iu (HG.out.on A)
      rw [show (true && (false || M.isEmpty || ([] : List UInt8).isEmpty)) = true from by simp] at con
      have r0 := K.1.box 0 _ rfl
      have r1 := K.1.box 1 _ rfl
      have r2 := K.1.box 2 _ rfl
      have r3 := K.1.box 3 _ rfl
      have r4 := K.1.box 4 _ rfl
      have r5 := K.1.box 5 _ rfl
      have ax0 := Ua.box 0 _ rfl
      have ax1 := Ua.box 1 _ rfl
      have ax2 := Ua.box 2 _ rfl
      have ax3 := Ua.box 3 _ rfl
      have ax4 := Ua.box 4 _ rfl
      have ax5 := Ua.box 5 _ rfl
      have ax6 := Ua.box 6 _ rfl
      have ax7 := Ua.box 7 _ rfl
      have ux0 := Uu.box 0 _ rfl
      have ux1 := Uu.box 1 _ rfl
      have ux2 := Uu.box 2 _ rfl
      have ux3 := Uu.box 3 _ rfl
      have ux4 := Uu.box 4 _ rfl
      have ux5 := Uu.box 5 _ rfl
      have ux6 := Uu.box 6 _ rfl
      have ux7 := Uu.box 7 _ rfl
      have vx0 := Uv.box 0 _ rfl
      have vx1 := Uv.box 1 _ rfl
      have vx2 := Uv.box 2 _ rfl
      have vx3 := Uv.box 3 _ rfl
      have vx4 := Uv.box 4 _ rfl
      have vx5 := Uv.box 5 _ rfl
      have vx6 := Uv.box 6 _ rfl
      have vx7 := Uv.box 7 _ rfl
      rewrite [← HXg.out] at r0 r1 r2 r3 r4 r5 ax0 ax1 ax2 ax3 ax4 ax5 ax6 ax7 ux0 ux1 ux2 ux3 ux4 ux5 ux6 ux7 vx0 vx1 vx2 vx3 vx4 vx5 vx6 vx7
      go_wp2_with omega
      rewrite [HXg.out, HBv.out]
      refine con.mono ?_
      rintro e Xh ⟨rfl, hb⟩
      clear con HXg HBv r0 r1 r2 r3 r4 r5 ax0 ax1 ax2 ax3 ax4 ax5 ax6 ax7 ux0 ux1 ux2 ux3 ux4 ux5 ux6 ux7 vx0 vx1 vx2 vx3 vx4 vx5 vx6 vx7
      replace A := A.trans (hb.mono A.size)
      replace K := K.on hb
      replace Ua := Ua.on hb
      replace Ia := Ia.on hb
      replace Uu := Uu.on hb
      replace Iu := Iu.on hb
      replace Uv := Uv.on hb
      replace Iv := Iv.on hb
      clear hb
      have con := HMv.out _ _ _ _ K.2 Ia Iv (HG.out.on A)
      rw [Bool.false_and] at con
      have r0 := K.1.box 0 _ rfl
      have r1 := K.1.box 1 _ rfl
      have r2 := K.1.box 2 _ rfl
      have r3 := K.1.box 3 _ rfl
      have r4 := K.1.box 4 _ rfl
      have r5 := K.1.box 5 _ rfl
      have ax0 := Ua.box 0 _ rfl
      have ax1 := Ua.box 1 _ rfl
      have ax2 := Ua.box 2 _ rfl
      have ax3 := Ua.box 3 _ rfl
      have ax4 := Ua.box 4 _ rfl
      have ax5 := Ua.box 5 _ rfl
      have ax6 := Ua.box 6 _ rfl
      have ax7 := Ua.box 7 _ rfl
      have ux0 := Uu.box 0 _ rfl
      have ux1 := Uu.box 1 _ rfl
      have ux2 := Uu.box 2 _ rfl
      have ux3 := Uu.box 3 _ rfl
      have ux4 := Uu.box 4 _ rfl
      have ux5 := Uu.box 5 _ rfl
      have ux6 := Uu.box 6 _ rfl
      have ux7 := Uu.box 7 _ rfl
      have vx0 := Uv.box 0 _ rfl
      have vx1 := Uv.box 1 _ rfl
      have vx2 := Uv.box 2 _ rfl
      have vx3 := Uv.box 3 _ rfl
      have vx4 := Uv.box 4 _ rfl
      have vx5 := Uv.box 5 _ rfl
      have vx6 := Uv.box 6 _ rfl
      have vx7 := Uv.box 7 _ rfl
      go_wp2_with omega
      refine con.mono ?_
      rintro e Xi ⟨rfl, hb⟩
      clear con r0 r1 r2 r3 r4 r5 ax0 ax1 ax2 ax3 ax4 ax5 ax6 ax7 ux0 ux1 ux2 ux3 ux4 ux5 ux6 ux7 vx0 vx1 vx2 vx3 vx4 vx5 vx6 vx7
      replace A := A.trans (hb.mono A.size)
      replace K := K.on hb
      replace Ua := Ua.on hb
      replace Ia := Ia.on hb
      replace Uu := Uu.on hb
      replace Iu := Iu.on hb
      replace Uv := Uv.on hb
      replace Iv := Iv.on hb
      clear hb
      go_wp2
      go_ret
      exact ⟨rfl, A⟩
    · have e0 : ((len0 : Int) == 0) = false := by rw [beq_eq_false_iff_ne]; omega
      have hPe : P.isEmpty = false := by cases P with
        | nil => exact absurd hP.symm h0
        | cons x r => rfl
      have con := HMu.out _ _ _ _ K.2 Ia Iu (HG.out.on A)
      rw [show (true && (false || M.isEmpty || P.isEmpty)) = false from by rw [hMe, hPe]; rfl] at con
      have r0 := K.1.box 0 _ rfl
      have r1 := K.1.box 1 _ rfl
      have r2 := K.1.box 2 _ rfl
      have r3 := K.1.box 3 _ rfl
      have r4 := K.1.box 4 _ rfl
      have r5 := K.1.box 5 _ rfl
      have ax0 := Ua.box 0 _ rfl
      have ax1 := Ua.box 1 _ rfl
      have ax2 := Ua.box 2 _ rfl
      have ax3 := Ua.box 3 _ rfl
      have ax4 := Ua.box 4 _ rfl
      have ax5 := Ua.box 5 _ rfl
      have ax6 := Ua.box 6 _ rfl
      have ax7 := Ua.box 7 _ rfl
      have ux0 := Uu.box 0 _ rfl
      have ux1 := Uu.box 1 _ rfl
      have ux2 := Uu.box 2 _ rfl
      have ux3 := Uu.box 3 _ rfl
      have ux4 := Uu.box 4 _ rfl
      have ux5 := Uu.box 5 _ rfl
      have ux6 := Uu.box 6 _ rfl
      have ux7 := Uu.box 7 _ rfl
      have vx0 := Uv.box 0 _ rfl
      have vx1 := Uv.box 1 _ rfl
      have vx2 := Uv.box 2 _ rfl
      have vx3 := Uv.box 3 _ rfl
      have vx4 := Uv.box 4 _ rfl
      have vx5 := Uv.box 5 _ rfl
      have vx6 := Uv.box 6 _ rfl
      have vx7 := Uv.box 7 _ rfl
      rewrite [← HXg.out] at r0 r1 r2 r3 r4 r5 ax0 ax1 ax2 ax3 ax4 ax5 ax6 ax7 ux0 ux1 ux2 ux3 ux4 ux5 ux6 ux7 vx0 vx1 vx2 vx3 vx4 vx5 vx6 vx7
      go_wp2_with omega
      rewrite [HXg.out, HBv.out]
      refine con.mono ?_
      rintro e Xh ⟨rfl, hb⟩
      clear con HXg HBv r0 r1 r2 r3 r4 r5 ax0 ax1 ax2 ax3 ax4 ax5 ax6 ax7 ux0 ux1 ux2 ux3 ux4 ux5 ux6 ux7 vx0 vx1 vx2 vx3 vx4 vx5 vx6 vx7
      replace A := A.trans (hb.mono A.size)
      replace K := K.on hb
      replace Ua := Ua.on hb
      replace Ia := Ia.on hb
      replace Uu := Uu.on hb
      replace Iu := Iu.on hb
      replace Uv := Uv.on hb
      replace Iv := Iv.on hb
      clear hb
      have con := HMv.out _ _ _ _ K.2 Ia Iv (HG.out.on A)
      rw [Bool.false_and] at con
      have r0 := K.1.box 0 _ rfl
      have r1 := K.1.box 1 _ rfl
      have r2 := K.1.box 2 _ rfl
      have r3 := K.1.box 3 _ rfl
      have r4 := K.1.box 4 _ rfl
      have r5 := K.1.box 5 _ rfl
      have ax0 := Ua.box 0 _ rfl
      have ax1 := Ua.box 1 _ rfl
      have ax2 := Ua.box 2 _ rfl
      have ax3 := Ua.box 3 _ rfl
      have ax4 := Ua.box 4 _ rfl
      have ax5 := Ua.box 5 _ rfl
      have ax6 := Ua.box 6 _ rfl
      have ax7 := Ua.box 7 _ rfl
      have ux0 := Uu.box 0 _ rfl
      have ux1 := Uu.box 1 _ rfl
      have ux2 := Uu.box 2 _ rfl
      have ux3 := Uu.box 3 _ rfl
      have ux4 := Uu.box 4 _ rfl
      have ux5 := Uu.box 5 _ rfl
      have ux6 := Uu.box 6 _ rfl
      have ux7 := Uu.box 7 _ rfl
      have vx0 := Uv.box 0 _ rfl
      have vx1 := Uv.box 1 _ rfl
      have vx2 := Uv.box 2 _ rfl
      have vx3 := Uv.box 3 _ rfl
      have vx4 := Uv.box 4 _ rfl
      have vx5 := Uv.box 5 _ rfl
      have vx6 := Uv.box 6 _ rfl
      have vx7 := Uv.box 7 _ rfl
      go_wp2_with omega
      refine con.mono ?_
      rintro e Xi ⟨rfl, hb⟩
      clear con r0 r1 r2 r3 r4 r5 ax0 ax1 ax2 ax3 ax4 ax5 ax6 ax7 ux0 ux1 ux2 ux3 ux4 ux5 ux6 ux7 vx0 vx1 vx2 vx3 vx4 vx5 vx6 vx7
      replace A := A.trans (hb.mono A.size)
      replace K := K.on hb
      replace Ua := Ua.on hb
      replace Ia := Ia.on hb
      replace Uu := Uu.on hb
      replace Iu := Iu.on hb
      replace Uv := Uv.on hb
      replace Iv := Iv.on hb
      clear hb
      go_wp2
      go_ret
      exact ⟨rfl, A⟩

theorem proved : Rows.CookiePathsCardSaid := card walk
end Go.Proofs.YtdbpbfbjebjbeaaDoor.cookiePaths
