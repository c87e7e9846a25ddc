/- ArenaPlays: what both arenas tell behind an act. Conditions: none. -/
import Derived.Test.YtkpcakmkmkidpaaArpM
namespace Go.Proofs.Ytkpcakmkmkidpaa.arenaPlays
open Go.RowKit Arn Go.Shelf
set_option linter.unusedVariables false
attribute [local go_sem] Oper.semAt_some wide_fn

set_option maxHeartbeats 8000000 in
set_option maxRecDepth 1000000 in
theorem tail_ok (w X5 : World) (b1 b2 size k : Nat) (q5 : Option Addr) (m5 c5 : Nat) (sl5 : List (Sl Int)) (L5 : List (Th Int)) (v5 vR5 : Value) (gs5 : List Int) (K : Act → World → Prop) (Q : Exit → Act → World → Prop) (u0 u1 u2 u3 u4 u6 u7 u8 u9 u10 u11 u12 u14 u15 u16 u17 u18 u19 u20 u21 u22 u23 u24 u25 u26 u27 u28 u29 u30 u31 u32 u33 u34 u35 u36 u37 u38 u39 u40 u41 u42 u43 u44 u45 u46 u47 u48 u49 u50 u51 u52 u53 u54 u55 u56 u57 u58 u59 u60 u61 u62 u63 u64 u65 u66 u67 u68 u69 u70 u71 u72 u73 u74 u75 u76 u77 u78 u79 u80 u81 u82 u83 u84 u85 u86 u87 u88 u89 u90 u91 u92 u93 u94 u95 u96 u97 u98 u99 u100 u101 u102 u103 u104 u105 u106 u107 u108 u109 u110 u111 u112 u113 u114 u115 u116 u117 u118 u119 u120 u121 u122 u123 u124 u125 u126 u127 u128 u129 u130 u131 u132 u133 u134 u135 u136 u137 u138 u139 u140 u141 u142 u143 u144 u145 u146 u147 u148 u149 u150 u151 u152 u153 u154 u155 u156 u157 u158 u159 u160 u161 u162 u163 u164 u165 u166 u167 u168 u169 u170 u171 u172 u173 u174 u175 u176 u177 u178 u179 u180 u181 u182 u183 u184 u185 u186 u187 u188 u189 u190 u191 u192 u193 u194 u195 u196 u197 u198 u199 u200 u201 u202 u203 u204 u205 u206 u207 u208 u209 u210 u211 u212 u213 u214 u215 u216 u217 u218 u219 u220 u221 u222 u223 u224 u225 u226 u227 u228 u229 u230 u231 u232 u233 u234 u235 u236 u237 u238 u239 u240 u241 u242 u243 u244 u245 u246 u247 u248 u249 u250 u251 u252 u253 u254 u255 u256 u257 u258 u259 u260 u261 u262 u263 u264 u265 u266 : Value)
    (HST5 : Hid (St w b1 b2 size (k + 1) (.slice q5 m5 c5) sl5 L5 v5 vR5 gs5 X5)) (hk60 : k ≤ 60) (hz2 : size ≤ 1024)
    (hK : ∀ (n25 n26 n27 n28 n238 n239 n240 n241 n242 n243 n244 n245 n246 n247 n248 n249 n250 n251 n252 n253 n254 n255 n256 n257 n258 n259 n260 n261 n262 n263 n264 n265 : Value) (X : World), Hid (St w b1 b2 size (k + 1) (.slice q5 m5 c5) sl5 L5 v5 vR5 gs5 X) → K ⟨#[u0, u1, u2, u3, u4, .pointer (some ⟨b1, 0, none⟩), u6, u7, u8, u9, u10, u11, u12, .pointer (some ⟨b2, 0, none⟩), u14, u15, u16, u17, u18, u19, u20, u21, u22, u23, u24, n25, n26, n27, n28, u29, u30, u31, u32, u33, u34, u35, u36, u37, u38, u39, u40, u41, u42, u43, u44, u45, u46, u47, u48, u49, u50, u51, u52, u53, u54, u55, u56, u57, u58, u59, u60, u61, u62, u63, u64, u65, u66, u67, u68, u69, u70, u71, u72, u73, u74, u75, u76, u77, u78, u79, u80, u81, u82, u83, u84, u85, u86, u87, u88, u89, u90, u91, u92, u93, u94, u95, u96, u97, u98, u99, u100, u101, u102, u103, u104, u105, u106, u107, u108, u109, u110, u111, u112, u113, u114, u115, u116, u117, u118, u119, u120, u121, u122, u123, u124, u125, u126, u127, u128, u129, u130, u131, u132, u133, u134, u135, u136, u137, u138, u139, u140, u141, u142, u143, u144, u145, u146, u147, u148, u149, u150, u151, u152, u153, u154, u155, u156, u157, u158, u159, u160, u161, u162, u163, u164, u165, u166, u167, u168, u169, u170, u171, u172, u173, u174, u175, u176, u177, u178, u179, u180, u181, u182, u183, u184, u185, u186, u187, u188, u189, u190, u191, u192, u193, u194, u195, u196, u197, u198, u199, u200, u201, u202, u203, u204, u205, u206, u207, u208, u209, u210, u211, u212, u213, u214, u215, u216, u217, u218, u219, u220, u221, u222, u223, u224, u225, u226, u227, u228, u229, u230, u231, u232, u233, u234, u235, u236, u237, n238, n239, n240, n241, n242, n243, n244, n245, n246, n247, n248, n249, n250, n251, n252, n253, n254, n255, n256, n257, n258, n259, n260, n261, n262, n263, n264, n265, u266], []⟩ X) :
    Code.wp Try.prog tailC (Exit.inBlock 1 (Exit.then K Q)) ⟨#[u0, u1, u2, u3, u4, .pointer (some ⟨b1, 0, none⟩), u6, u7, u8, u9, u10, u11, u12, .pointer (some ⟨b2, 0, none⟩), u14, u15, u16, u17, u18, u19, u20, u21, u22, u23, u24, u25, u26, u27, u28, u29, u30, u31, u32, u33, u34, u35, u36, u37, u38, u39, u40, u41, u42, u43, u44, u45, u46, u47, u48, u49, u50, u51, u52, u53, u54, u55, u56, u57, u58, u59, u60, u61, u62, u63, u64, u65, u66, u67, u68, u69, u70, u71, u72, u73, u74, u75, u76, u77, u78, u79, u80, u81, u82, u83, u84, u85, u86, u87, u88, u89, u90, u91, u92, u93, u94, u95, u96, u97, u98, u99, u100, u101, u102, u103, u104, u105, u106, u107, u108, u109, u110, u111, u112, u113, u114, u115, u116, u117, u118, u119, u120, u121, u122, u123, u124, u125, u126, u127, u128, u129, u130, u131, u132, u133, u134, u135, u136, u137, u138, u139, u140, u141, u142, u143, u144, u145, u146, u147, u148, u149, u150, u151, u152, u153, u154, u155, u156, u157, u158, u159, u160, u161, u162, u163, u164, u165, u166, u167, u168, u169, u170, u171, u172, u173, u174, u175, u176, u177, u178, u179, u180, u181, u182, u183, u184, u185, u186, u187, u188, u189, u190, u191, u192, u193, u194, u195, u196, u197, u198, u199, u200, u201, u202, u203, u204, u205, u206, u207, u208, u209, u210, u211, u212, u213, u214, u215, u216, u217, u218, u219, u220, u221, u222, u223, u224, u225, u226, u227, u228, u229, u230, u231, u232, u233, u234, u235, u236, u237, u238, u239, u240, u241, u242, u243, u244, u245, u246, u247, u248, u249, u250, u251, u252, u253, u254, u255, u256, u257, u258, u259, u260, u261, u262, u263, u264, u265, u266], []⟩ X5 := by
  conv => arg 2; whnf
  have hf40 : Few 1099511627776 sl5 := fun s hs => by have := HST5.out.both.few s hs; omega
  have hall := HST5.out.both.all
  obtain ⟨l, hl⟩ : ∃ l, allS 0 sl5 = l := ⟨_, rfl⟩
  have hll : l.length ≤ 1024 := by rw [← hl]; have h1 := allS_le sl5 0; have h2 := HST5.out.both.len; omega
  have HLies := Lib.hid (lies_of HST5.out.a hf40)
  have hlt5 := HST5.out.a.bl.lt
  have conA := All_any (some ⟨b1, 0, none⟩) X5 b1 rfl
  have conB := all_arena _ _ _ _ _ _ HLies.out (by simp; omega)
  unfold AllOut at conB
  rw [hl] at conB
  rw [hl] at hall
  have HALL := Lib.hid hall
  have HL := Lib.hid hl
  have HF40 := Lib.hid hf40
  clear hall hl hf40
  go_wp2_with fail
  refine conA.mono ?_
  rintro e W6 ⟨rfl, rfl⟩
  go_wp2_with fail
  refine conB.mono ?_
  rintro e W7 ⟨q1, d1, q2, d2, rfl, r1, r2, hb7⟩
  clear conA conB
  have hbx : Below X5.heap.size X5 W7 := (blk_alloc (.cells #[.pointer (some ⟨b1, 0, none⟩)] 24)).trans (hb7.mono (by simp))
  have HST7 := Lib.hid (HST5.out.on hbx)
  have N1 := Lib.hid (NumsIn.of r1)
  have N2 := Lib.hid (NumsIn.of r2)
  have conR := AllR_any _ _ _ _ _ W7 HST7.out.r (HST7.out.both.small (by omega)) hz2
  unfold AllROut at conR
  rw [HALL.out] at conR
  clear r1 r2 hb7 hbx hlt5
  go_wp2_with fail
  refine conR.mono ?_
  rintro e W8 ⟨q3, d3, q4, d4, rfl, r3, r4, hb8⟩
  have M1 := Lib.hid (N1.out.on hb8)
  have M2 := Lib.hid (N2.out.on hb8)
  have N3 := Lib.hid (NumsIn.of r3)
  have N4 := Lib.hid (NumsIn.of r4)
  have HST8 := Lib.hid (HST7.out.on hb8)
  clear conR r3 r4 hb8 N1 N2 HST7
  go_wp2_with fail
  refine (same_yes _ _ _ _ _ _ _ W8 M1.out N3.out (by omega) (by omega)).mono ?_
  rintro e W9 ⟨rfl, hb9⟩
  have M2' := Lib.hid (M2.out.on hb9)
  have N4' := Lib.hid (N4.out.on hb9)
  have HST9 := Lib.hid (HST8.out.on hb9)
  clear hb9 M1 M2 N3 N4 HST8
  go_wp2_with fail
  refine (same_yes _ _ _ _ _ _ _ W9 M2'.out N4'.out (by omega) (by omega)).mono ?_
  rintro e W10 ⟨rfl, hb10⟩
  have HST10 := Lib.hid (HST9.out.on hb10)
  have conL := Len_any _ _ _ _ _ W10 HST10.out.a HF40.out
  rw [HL.out] at conL
  clear hb10 M2' N4' HST9
  have f0 : ((l.length : Int) != (l.length : Int)) = false := by simp
  go_wp2_with fail
  refine conL.mono ?_
  rintro e W11 ⟨rfl, hb11⟩
  have HST11 := Lib.hid (HST10.out.on hb11)
  clear hb11 conL HST10
  go_wp2
  exact HST11
end Go.Proofs.Ytkpcakmkmkidpaa.arenaPlays
