/- ArenaPlays: one act, on both arenas. Conditions: none. -/
import Derived.Test.YtkpcakmkmkidpaaArpM
namespace Go.Proofs.Ytkpcakmkmkidpaa.arenaPlays
open Go.RowKit Arn Go.Shelf
set_option linter.unusedVariables false
attribute [local go_sem] Oper.semAt_some wide_fn

set_option maxHeartbeats 8000000 in
set_option maxRecDepth 1000000 in
theorem switch_ok (w W4 : World) (b1 b2 size k bx : Nat) (q : Option Addr) (m c : Nat) (sl : List (Sl Int)) (L : List (Th Int)) (v vR : Value) (gs : List Int) (kind xv h f : Int) (xh old : Int) (K : Act → World → Prop) (Q : Exit → Act → World → Prop) (u0 u1 u2 u3 u4 u6 u7 u8 u9 u10 u11 u12 u15 u19 u20 u21 u22 u23 u24 u25 u26 u27 u28 u29 u30 u31 u32 u33 u34 u35 u36 u37 u38 u39 u40 u41 u42 u43 u44 u45 u46 u47 u48 u49 u50 u51 u52 u53 u54 u55 u56 u57 u58 u59 u60 u61 u62 u63 u64 u65 u66 u67 u68 u69 u70 u71 u72 u73 u74 u75 u76 u77 u78 u79 u80 u81 u82 u83 u84 u85 u86 u87 u88 u89 u90 u91 u92 u93 u94 u95 u96 u97 u98 u99 u100 u101 u102 u103 u104 u105 u106 u107 u108 u109 u110 u111 u112 u113 u114 u115 u116 u117 u118 u119 u120 u121 u122 u123 u124 u125 u127 u128 u129 u130 u131 u132 u133 u134 u135 u136 u137 u138 u139 u140 u141 u142 u143 u144 u145 u146 u147 u148 u149 u150 u151 u152 u153 u154 u155 u156 u157 u158 u159 u160 u161 u162 u163 u164 u165 u166 u167 u168 u169 u170 u171 u172 u173 u174 u175 u176 u177 u178 u179 u180 u181 u182 u183 u184 u185 u186 u187 u188 u189 u190 u191 u192 u193 u194 u195 u196 u197 u198 u199 u200 u201 u202 u203 u204 u205 u206 u207 u208 u209 u210 u211 u212 u213 u214 u215 u216 u217 u218 u219 u220 u221 u222 u223 u224 u225 u226 u227 u228 u229 u230 u231 u232 u233 u234 u235 u236 u237 u238 u239 u240 u241 u242 u243 u244 u245 u246 u247 u248 u249 u250 u251 u252 u253 u254 u255 u256 u257 u258 u259 u260 u261 u262 u263 u264 u265 u266 : Value)
    (HST4 : Hid (St w b1 b2 size k (.slice q m c) sl L v vR gs W4)) (HM : Hid (gs.length = m)) (hmk : m ≤ k) (hk60 : k ≤ 60) (hz2 : size ≤ 1024) (hhb : i64B h)
    (HBX4 : Hid (BL 47 bx #[.int .i64 kind, .int .i64 xv, .int .i64 xh, .int .i64 old] W4))
    (HF : Hid ((f = -1 ∧ findS sl h = none ∧ getX sl h = none) ∨ ∃ (a i : Nat) (t : Th Int) (s : Sl Int), f = a ∧ findS sl h = some i ∧ L[a]? = some t ∧ t.slot = i ∧ sl[i]? = some s ∧ s.x = some t.x ∧ t.n = s.n ∧ t.gone = false ∧ getX sl h = some t.x))
    (hK : ∀ (n14 n19 n20 n21 n22 n23 n24 n127 n128 n129 n130 n131 n132 n133 n134 n135 n136 n137 n138 n139 n140 n141 n142 n143 n144 n145 n146 n147 n148 n149 n150 n151 n152 n153 n154 n155 n156 n157 n158 n159 n160 n161 n162 n163 n164 n165 n166 n167 n168 n169 n170 n171 n172 n173 n174 n175 n176 n177 n178 n179 n180 n181 n182 n183 n184 n185 n186 n187 n188 n189 n190 n191 n192 n193 n194 n195 n196 n197 n198 n199 n200 n201 n202 n203 n204 n205 n206 n207 n208 n209 n210 n211 n212 n213 n214 n215 n216 n217 n218 n219 n220 n221 n222 n223 n224 n225 n226 n227 n228 n229 n230 n231 n232 n233 n234 n235 n236 n237 : Value) (X : World), StX w b1 b2 size (k + 1) n14 X → K ⟨#[u0, u1, u2, u3, u4, .pointer (some ⟨b1, 0, none⟩), u6, u7, u8, u9, u10, u11, u12, .pointer (some ⟨b2, 0, none⟩), n14, u15, .pointer (some ⟨bx, 0, none⟩), .int .i64 h, .int .i64 f, n19, n20, n21, n22, n23, n24, u25, u26, u27, u28, u29, u30, u31, u32, u33, u34, u35, u36, u37, u38, u39, u40, u41, u42, u43, u44, u45, u46, u47, u48, u49, u50, u51, u52, u53, u54, u55, u56, u57, u58, u59, u60, u61, u62, u63, u64, u65, u66, u67, u68, u69, u70, u71, u72, u73, u74, u75, u76, u77, u78, u79, u80, u81, u82, u83, u84, u85, u86, u87, u88, u89, u90, u91, u92, u93, u94, u95, u96, u97, u98, u99, u100, u101, u102, u103, u104, u105, u106, u107, u108, u109, u110, u111, u112, u113, u114, u115, u116, u117, u118, u119, u120, u121, u122, u123, u124, u125, .int .i64 kind, n127, n128, n129, n130, n131, n132, n133, n134, n135, n136, n137, n138, n139, n140, n141, n142, n143, n144, n145, n146, n147, n148, n149, n150, n151, n152, n153, n154, n155, n156, n157, n158, n159, n160, n161, n162, n163, n164, n165, n166, n167, n168, n169, n170, n171, n172, n173, n174, n175, n176, n177, n178, n179, n180, n181, n182, n183, n184, n185, n186, n187, n188, n189, n190, n191, n192, n193, n194, n195, n196, n197, n198, n199, n200, n201, n202, n203, n204, n205, n206, n207, n208, n209, n210, n211, n212, n213, n214, n215, n216, n217, n218, n219, n220, n221, n222, n223, n224, n225, n226, n227, n228, n229, n230, n231, n232, n233, n234, n235, n236, n237, u238, u239, u240, u241, u242, u243, u244, u245, u246, u247, u248, u249, u250, u251, u252, u253, u254, u255, u256, u257, u258, u259, u260, u261, u262, u263, u264, u265, u266], []⟩ X) :
    Code.wp Try.prog switchC (Exit.then K Q) ⟨#[u0, u1, u2, u3, u4, .pointer (some ⟨b1, 0, none⟩), u6, u7, u8, u9, u10, u11, u12, .pointer (some ⟨b2, 0, none⟩), .slice q m c, u15, .pointer (some ⟨bx, 0, none⟩), .int .i64 h, .int .i64 f, u19, u20, u21, u22, u23, u24, u25, u26, u27, u28, u29, u30, u31, u32, u33, u34, u35, u36, u37, u38, u39, u40, u41, u42, u43, u44, u45, u46, u47, u48, u49, u50, u51, u52, u53, u54, u55, u56, u57, u58, u59, u60, u61, u62, u63, u64, u65, u66, u67, u68, u69, u70, u71, u72, u73, u74, u75, u76, u77, u78, u79, u80, u81, u82, u83, u84, u85, u86, u87, u88, u89, u90, u91, u92, u93, u94, u95, u96, u97, u98, u99, u100, u101, u102, u103, u104, u105, u106, u107, u108, u109, u110, u111, u112, u113, u114, u115, u116, u117, u118, u119, u120, u121, u122, u123, u124, u125, .int .i64 kind, u127, u128, u129, u130, u131, u132, u133, u134, u135, u136, u137, u138, u139, u140, u141, u142, u143, u144, u145, u146, u147, u148, u149, u150, u151, u152, u153, u154, u155, u156, u157, u158, u159, u160, u161, u162, u163, u164, u165, u166, u167, u168, u169, u170, u171, u172, u173, u174, u175, u176, u177, u178, u179, u180, u181, u182, u183, u184, u185, u186, u187, u188, u189, u190, u191, u192, u193, u194, u195, u196, u197, u198, u199, u200, u201, u202, u203, u204, u205, u206, u207, u208, u209, u210, u211, u212, u213, u214, u215, u216, u217, u218, u219, u220, u221, u222, u223, u224, u225, u226, u227, u228, u229, u230, u231, u232, u233, u234, u235, u236, u237, u238, u239, u240, u241, u242, u243, u244, u245, u246, u247, u248, u249, u250, u251, u252, u253, u254, u255, u256, u257, u258, u259, u260, u261, u262, u263, u264, u265, u266], []⟩ W4 := by
  conv => arg 2; whnf
  have hsl60 : sl.length ≤ size := HST4.out.both.len
  have y0 : W4.cell? ⟨bx, 0, none⟩ = some (.int .i64 kind) := HBX4.out.cell 0 _ rfl
  have y1 : W4.cell? ⟨bx, 1, none⟩ = some (.int .i64 xv) := HBX4.out.cell 1 _ rfl
  have hkinds : kind = 0 ∨ kind = 1 ∨ kind = 2 ∨ kind = 3 ∨ ((kind == 0) = false ∧ (kind == 1) = false ∧ (kind == 2) = false ∧ (kind == 3) = false) := by
    by_cases h0 : kind = 0
    · exact .inl h0
    · by_cases h1 : kind = 1
      · exact .inr (.inl h1)
      · by_cases h2 : kind = 2
        · exact .inr (.inr (.inl h2))
        · by_cases h3 : kind = 3
          · exact .inr (.inr (.inr (.inl h3)))
          · exact .inr (.inr (.inr (.inr ⟨by simpa using h0, by simpa using h1, by simpa using h2, by simpa using h3⟩)))
  have hf40 : Few 1099511627776 sl := fun s hs => by have := HST4.out.both.few s hs; omega
  have hf6 : Few 1000000 sl := fun s hs => by have := HST4.out.both.few s hs; omega
  have hsize4 := HST4.out.bel.size
  rcases hkinds with rfl | rfl | rfl | rfl | ⟨k0, k1, k2, k3⟩
  · have con := Put_any _ _ _ _ _ xv W4 HST4.out.a hf6 hsize4
    obtain ⟨hB', hH, hE⟩ := HST4.out.both.put xv
    obtain ⟨H, hHd⟩ : ∃ H, putHd size sl = H := ⟨_, rfl⟩
    obtain ⟨E, hEd⟩ : ∃ E, putE size sl = E := ⟨_, rfl⟩
    obtain ⟨B, hBd⟩ : ∃ B, (freeR size L).isSome = B := ⟨_, rfl⟩
    unfold PutOut at con
    rw [hHd, hEd] at con
    rw [hEd, hBd] at hE
    rw [hHd] at hH
    have HBB := Lib.hid (And.intro hB' (And.intro hH hE))
    have HBd := Lib.hid hBd
    clear hB' hH hE hHd hEd hBd hf40 hf6 HF
    go_wp2_with fail
    refine con.mono ?_
    rintro e W5 ⟨rfl, v', hA5, hw5⟩
    have HM5 := Lib.hid (HST4.out.toMem.arena hA5 hw5)
    have bx5 := HBX4.out.keep hw5.1 ⟨BL.ne HBX4.out HST4.out.a.bl (by decide), HBX4.out.ne_row (by decide) HST4.out.a.row⟩
    have y15 : W5.cell? ⟨bx, 1, none⟩ = some (.int .i64 xv) := bx5.cell 1 _ rfl
    have con2 := PutR_any _ _ _ _ _ xv W5 HM5.out.r (HST4.out.both.small (by omega)) hz2 HM5.out.bel.size
    unfold PutROut at con2
    rw [← HBB.out.2.1, HBd.out] at con2
    have hs5 := HM5.out.bel.size
    clear con hA5 hw5 bx5 y0 y1
    go_wp2_with fail
    refine con2.mono ?_
    rintro e W6 ⟨rfl, vR', hR6, hw6⟩
    have HM6 := Lib.hid (HM5.out.list hR6 hw6)
    clear con2 hR6 hw6
    have f0 : (H != H) = false := by simp
    rcases HBB.out.2.2 with ⟨rfl, rfl⟩ | ⟨rfl, rfl⟩
    · have hrow := HM6.out.row.alloc (.cells #[.int .i64 H] 3)
      rw [HM.out] at hrow
      have hm2 : (m + 1) * 8 ≤ 140737488355328 := by omega
      have hm3 : m + 1 ≤ maxLen := by unfold maxLen; omega
      have hs6 := HM6.out.bel.size
      obtain ⟨i0, hi0, hz0, hzz1, hzz2⟩ := info_arn info_i64
      go_wp2_with (
        at_builtin
        go_must (refine wpList_append_own_at _ rfl _ _ 32 rfl w.heap.size 3 i0 (.int .i64 0) 1 8 Try.underlying32 hi0 hz0 hzz1 hzz2 rfl (by decide) (.slice q m c) m _ rfl hrow ⟨W6.heap.size, 0, none⟩ 1 1 [.int .i64 H] rfl rfl (blk_cells _ _ _) (by simp [Value.oneCell']) hm3 hm2 (by simp; omega) ?_)
        intro g7 W7 o7 g7g _ at7
        have HM7 := Lib.hid (HM6.out.given (blk_alloc _) g7g (by rw [HM.out]; exact o7))
        obtain ⟨q7, c7, rfl⟩ := row_slice o7
        clear o7 g7g at7 hrow)
      have hHb : i64B H := by
        rw [HBB.out.2.1]
        unfold putRH
        cases hfr : freeR size L with
        | none => exact (show i64B 0 from ⟨by decide, by decide⟩)
        | some j =>
          have hj := (freeR_some size L j hfr).1
          have hl := of_len L j
          have hm := HST4.out.both.many
          unfold i64B hOf
          simp only
          omega
      refine ⟨q7, m + 1, c7, _, _, _, _, gs ++ [H], rfl, by rw [List.length_append, HM.out]; rfl, ⟨HM7.out, HBB.out.1, fun x hx => ?_, ?_⟩⟩
      · rcases List.mem_append.1 hx with h' | h'
        · exact HST4.out.hs x h'
        · obtain rfl := List.mem_singleton.1 h'
          exact hHb
      · rw [List.length_append, HM.out]; simp; exact hmk
    · go_wp2_with fail
      exact ⟨q, m, c, _, _, _, _, gs, rfl, HM.out, ⟨HM6.out, HBB.out.1, HST4.out.hs, Nat.le_succ_of_le HST4.out.few⟩⟩
  · have con := Get_any _ _ _ _ _ h W4 HST4.out.a hf40 hhb
    clear hf40 hf6
    rcases HF.out with ⟨rfl, -, hgx⟩ | ⟨a, i, t, s, rfl, hfs, hLa, hsi, hsl, hsx, hn, hg, hgx⟩
    · rw [hgx] at con
      clear hgx HF
      go_wp2_with fail
      refine con.mono ?_
      rintro e W5 ⟨rfl, hb5⟩
      have HM5 := Lib.hid (HST4.out.toMem.on hb5)
      clear con hb5
      go_wp2_with fail
      exact ⟨q, m, c, sl, L, v, vR, gs, rfl, HM.out, ⟨HM5.out, HST4.out.both.mono (by omega), HST4.out.hs, Nat.le_succ_of_le HST4.out.few⟩⟩
    · rw [hgx] at con
      clear hgx HF hfs hsi hsl hsx hn hg
      go_wp2_with fail
      refine con.mono ?_
      rintro e W5 ⟨rfl, hb5⟩
      have HM5 := Lib.hid (HST4.out.toMem.on hb5)
      obtain ⟨qr, cr, rfl, hcr⟩ := HM5.out.r.sl
      obtain ⟨gr, rfl, hgr, -, -, cx, -⟩ := hcr a t hLa
      have z1 : W5.cell? ⟨b2, 1, none⟩ = some (.slice (some ⟨gr, 0, none⟩) L.length cr) := HM5.out.r.bl.cell 1 _ rfl
      have hal := (List.getElem?_eq_some_iff.1 hLa).1
      obtain ⟨n, hnn⟩ : ∃ n, L.length = n := ⟨_, rfl⟩
      rw [hnn] at z1 hal
      have f0 : ((some t.x).getD 0 != t.x) = false := by simp
      have f1 : (t.x != t.x) = false := by simp
      clear con hb5 hcr hLa hnn
      go_wp2_with fail
      exact ⟨q, m, c, sl, L, v, _, gs, rfl, HM.out, ⟨HM5.out, HST4.out.both.mono (by omega), HST4.out.hs, Nat.le_succ_of_le HST4.out.few⟩⟩
  · have con := Set_any _ _ _ _ _ h xv W4 HST4.out.a hf40 hhb
    clear hf40 hf6
    rcases HF.out with ⟨rfl, hfs, -⟩ | ⟨a, i, t, s, rfl, hfs, hLa, hsi, hsl, hsx, hn, hg, -⟩
    · rw [hfs, show setS sl h xv = sl by unfold setS; rw [hfs]] at con
      clear hfs HF
      go_wp2_with fail
      refine con.mono ?_
      rintro e W5 ⟨rfl, v', hA5, hw5⟩
      have HM5 := Lib.hid (HST4.out.toMem.arena hA5 hw5)
      clear con hA5 hw5
      go_wp2_with fail
      exact ⟨q, m, c, sl, L, v', vR, gs, rfl, HM.out, ⟨HM5.out, HST4.out.both.mono (by omega), HST4.out.hs, Nat.le_succ_of_le HST4.out.few⟩⟩
    · rw [hfs, show setS sl h xv = sl.set i ⟨s.n, some xv⟩ by unfold setS; simp only [hfs, hsl]] at con
      have HCHG := Lib.hid (HST4.out.both.chg hLa hsi hsl hg (some xv) ⟨t.slot, t.n, xv, t.gone⟩ ⟨rfl, rfl⟩ hg (fun y hy => by cases hy; rfl))
      clear hfs HF hsi hsl hsx hn hg
      go_wp2_with fail
      refine con.mono ?_
      rintro e W5 ⟨rfl, v', hA5, hw5⟩
      have HM5 := Lib.hid (HST4.out.toMem.arena hA5 hw5)
      have bx5 := HBX4.out.keep hw5.1 ⟨BL.ne HBX4.out HST4.out.a.bl (by decide), HBX4.out.ne_row (by decide) HST4.out.a.row⟩
      obtain ⟨D5, hD5⟩ : ∃ D5, W5.drew = D5 := ⟨_, rfl⟩
      have hd5 : Below W5.heap.size W5 D5 := by rw [← hD5]; exact (Below.refl _ _).drew
      have HMD := Lib.hid (HM5.out.on hd5)
      have bxD := bx5.on hd5
      have HD5 := Lib.hid hD5
      obtain ⟨gr, cr, rfl, fz, hset, hwset⟩ := rat_set HMD.out.r hLa (t' := ⟨t.slot, t.n, xv, t.gone⟩) 2 (.int .i64 xv) rfl (by decide)
      have z1 : D5.cell? ⟨b2, 1, none⟩ = some (.slice (some ⟨gr, 0, none⟩) L.length cr) := HMD.out.r.bl.cell 1 _ rfl
      have z2 : D5.cell? ⟨bx, 1, none⟩ = some (.int .i64 xv) := bxD.cell 1 _ rfl
      have bxE := bxD.keep hwset.1 ⟨BL.ne bxD HMD.out.r.bl (by decide), bxD.ne_row (by decide) HMD.out.r.row⟩
      have w2 : (D5.setCell ⟨gr, a * 4 + 2, none⟩ (.int .i64 xv)).cell? ⟨bx, 1, none⟩ = some (.int .i64 xv) := bxE.cell 1 _ rfl
      have w1 : (D5.setCell ⟨gr, a * 4 + 2, none⟩ (.int .i64 xv)).cell? ⟨b2, 1, none⟩ = some (.slice (some ⟨gr, 0, none⟩) L.length cr) := by
        have := hset.bl.cell 1 _ rfl
        exact this
      obtain ⟨qr, cr', hqe, hcr⟩ := HMD.out.r.sl
      cases hqe
      obtain ⟨gr', hge, -, -, -, cx, -⟩ := hcr a t hLa
      cases hge
      have hal := (List.getElem?_eq_some_iff.1 hLa).1
      have HM6 := Lib.hid (HMD.out.list hset hwset)
      obtain ⟨n, hnn⟩ : ∃ n, L.length = n := ⟨_, rfl⟩
      rw [hnn] at z1 w1 hal
      clear con hA5 hw5 bx5 hD5 hd5 bxD bxE hset hwset hcr hLa hnn y0 y1
      go_upto_region 37 with fail
      refine pregion_any (fun X => X.cell? ⟨b2, 1, none⟩ = some (.slice (some ⟨gr, 0, none⟩) n cr) ∧ X.cell? ⟨bx, 1, none⟩ = some (.int .i64 xv)) (by kernel_rfl) ?_
      rw [HD5.out]
      refine wpAnyH_take (i := 0) (v := (.pointer (some ⟨b2, 0, none⟩))) rfl (by kernel_rfl) (by kernel_rfl) (by kernel_rfl) (fun _ _ _ h => h) (.inl ⟨by kernel_rfl, ?_⟩) ⟨z1, z2⟩ ?_
      · rintro w ⟨h1, h2⟩; go_simp
      refine plist #[true, false, false, false, false, false, false, false, false, false] (by kernel_rfl) ?_
      refine wpAnyH_take (i := 1) (v := (.pointer (some ⟨b2, 0, none⟩))) rfl (by kernel_rfl) (by kernel_rfl) (by kernel_rfl) (fun _ _ _ h => h) (.inl ⟨by kernel_rfl, ?_⟩) ⟨z1, z2⟩ ?_
      · rintro w ⟨h1, h2⟩; go_simp
      refine plist #[true, true, false, false, false, false, false, false, false, false] (by kernel_rfl) ?_
      refine wpAnyH_take (i := 2) (v := (.pointer (some ⟨b2, 1, none⟩))) rfl (by kernel_rfl) (by kernel_rfl) (by kernel_rfl) (fun _ _ _ h => h) (.inl ⟨by kernel_rfl, ?_⟩) ⟨z1, z2⟩ ?_
      · rintro w ⟨h1, h2⟩; go_simp
      refine plist #[true, true, true, false, false, false, false, false, false, false] (by kernel_rfl) ?_
      refine wpAnyH_take (i := 3) (v := (.slice (some ⟨gr, 0, none⟩) n cr)) rfl (by kernel_rfl) (by kernel_rfl) (by kernel_rfl) (fun _ _ _ h => h) (.inl ⟨by kernel_rfl, ?_⟩) ⟨z1, z2⟩ ?_
      · rintro w ⟨h1, h2⟩; go_simp
      refine plist #[true, true, true, true, false, false, false, false, false, false] (by kernel_rfl) ?_
      refine wpAnyH_take (i := 4) (v := (.int .i64 a)) rfl (by kernel_rfl) (by kernel_rfl) (by kernel_rfl) (fun _ _ _ h => h) (.inl ⟨by kernel_rfl, ?_⟩) ⟨z1, z2⟩ ?_
      · rintro w ⟨h1, h2⟩; go_simp
      refine plist #[true, true, true, true, true, false, false, false, false, false] (by kernel_rfl) ?_
      refine wpAnyH_take (i := 5) (v := (.pointer (some ⟨bx, 1, none⟩))) rfl (by kernel_rfl) (by kernel_rfl) (by kernel_rfl) (fun _ _ _ h => h) (.inl ⟨by kernel_rfl, ?_⟩) ⟨z1, z2⟩ ?_
      · rintro w ⟨h1, h2⟩; go_simp
      refine plist #[true, true, true, true, true, true, false, false, false, false] (by kernel_rfl) ?_
      refine wpAnyH_take (i := 6) (v := (.int .i64 xv)) rfl (by kernel_rfl) (by kernel_rfl) (by kernel_rfl) (fun _ _ _ h => h) (.inl ⟨by kernel_rfl, ?_⟩) ⟨z1, z2⟩ ?_
      · rintro w ⟨h1, h2⟩; go_simp
      refine plist #[true, true, true, true, true, true, true, false, false, false] (by kernel_rfl) ?_
      refine wpAnyH_take (i := 7) (v := (.pointer (some ⟨gr, a * 4, none⟩))) rfl (by kernel_rfl) (by kernel_rfl) (by kernel_rfl) (fun _ _ _ h => h) (.inl ⟨by kernel_rfl, ?_⟩) ⟨z1, z2⟩ ?_
      · rintro w ⟨h1, h2⟩; go_simp
      refine plist #[true, true, true, true, true, true, true, true, false, false] (by kernel_rfl) ?_
      refine wpAnyH_take (i := 8) (v := (.pointer (some ⟨gr, a * 4 + 2, none⟩))) rfl (by kernel_rfl) (by kernel_rfl) (by kernel_rfl) (fun _ _ _ h => h) (.inl ⟨by kernel_rfl, ?_⟩) ⟨z1, z2⟩ ?_
      · rintro w ⟨h1, h2⟩; go_simp
      refine plist #[true, true, true, true, true, true, true, true, true, false] (by kernel_rfl) ?_
      refine pone 9 (by kernel_rfl) rfl fun K hK => ?_
      go_simp
      refine hK _ _ ⟨w1, w2⟩ ?_
      clear hK K
      refine pdone (by kernel_rfl) ?_ _
      clear z1 z2 w1 w2 cx fz
      go_wp2_with fail
      exact ⟨q, m, c, _, _, v', _, gs, rfl, HM.out, ⟨HM6.out, HCHG.out.mono (by omega), HST4.out.hs, Nat.le_succ_of_le HST4.out.few⟩⟩
  · have con := Drop_any _ _ _ _ _ h W4 HST4.out.a hf40 hhb
    clear hf40 hf6
    rcases HF.out with ⟨rfl, hfs, -⟩ | ⟨a, i, t, s, rfl, hfs, hLa, hsi, hsl, hsx, hn, hg, -⟩
    · rw [hfs, show dropS sl h = sl by unfold dropS; rw [hfs]] at con
      clear hfs HF
      go_wp2_with fail
      refine con.mono ?_
      rintro e W5 ⟨rfl, v', hA5, hw5⟩
      have HM5 := Lib.hid (HST4.out.toMem.arena hA5 hw5)
      clear con hA5 hw5
      go_wp2_with fail
      exact ⟨q, m, c, sl, L, v', vR, gs, rfl, HM.out, ⟨HM5.out, HST4.out.both.mono (by omega), HST4.out.hs, Nat.le_succ_of_le HST4.out.few⟩⟩
    · rw [hfs, show dropS sl h = sl.set i ⟨s.n, none⟩ by unfold dropS; simp only [hfs, hsl]] at con
      have HCHG := Lib.hid (HST4.out.both.chg hLa hsi hsl hg none ⟨t.slot, t.n, t.x, true⟩ ⟨rfl, rfl⟩ rfl (fun y hy => by cases hy))
      clear hfs HF hsi hsl hsx hn hg
      go_wp2_with fail
      refine con.mono ?_
      rintro e W5 ⟨rfl, v', hA5, hw5⟩
      have HM5 := Lib.hid (HST4.out.toMem.arena hA5 hw5)
      obtain ⟨gr, cr, rfl, fz, hset, hwset⟩ := rat_set HM5.out.r hLa (t' := ⟨t.slot, t.n, t.x, true⟩) 3 (.bool true) rfl (by decide)
      have z1 : W5.cell? ⟨b2, 1, none⟩ = some (.slice (some ⟨gr, 0, none⟩) L.length cr) := HM5.out.r.bl.cell 1 _ rfl
      obtain ⟨qr, cr', hqe, hcr⟩ := HM5.out.r.sl
      cases hqe
      obtain ⟨gr', hge, -, -, -, -, cx⟩ := hcr a t hLa
      cases hge
      have hal := (List.getElem?_eq_some_iff.1 hLa).1
      have HM6 := Lib.hid (HM5.out.list hset hwset)
      obtain ⟨n, hnn⟩ : ∃ n, L.length = n := ⟨_, rfl⟩
      rw [hnn] at z1 hal
      clear con hA5 hw5 hset hwset hcr hLa hnn y0 y1
      go_wp2_with fail
      exact ⟨q, m, c, _, _, v', _, gs, rfl, HM.out, ⟨HM6.out, HCHG.out.mono (by omega), HST4.out.hs, Nat.le_succ_of_le HST4.out.few⟩⟩
  · clear hf40 hf6 HF
    go_wp2_with fail
    exact ⟨q, m, c, sl, L, v, vR, gs, rfl, HM.out, ⟨HST4.out.toMem, HST4.out.both.mono (by omega), HST4.out.hs, Nat.le_succ_of_le HST4.out.few⟩⟩
end Go.Proofs.Ytkpcakmkmkidpaa.arenaPlays
