/- ArenaPlays: the law returns true at whatever input, and writes nothing that was there. Conditions: none. -/
import Derived.Test.YtkpcakmkmkidpaaRows
import Derived.Test.YtkpcakmkmkidpaaArnG
import Derived.Test.YtkpcakmkmkidpaaArnJ
import Derived.Test.YtkpcakmkmkidpaaArnK
import Derived.Test.YtkpcakmkmkidpaaArnL
import Derived.Test.YtkpcakmkmkidpaaArnN
import Derived.Test.YtkpcakmkmkidpaaOrdP
import Derived.Test.YtkpcakmkmkidpaaArpS
import Derived.Test.YtkpcakmkmkidpaaArpT
import Derived.WalkKit
import Derived.ProofKit
import Derived.OpenShut
import Derived.ShutString
import Derived.ChangeOld
import Derived.Below
import Derived.IntWalk
import Derived.Deep.Cut
import Derived.Deep.CutRange
import Derived.Deep.CutBlock
namespace Go.Proofs.Ytkpcakmkmkidpaa.arenaPlays
open Go.ChangeShapes Go.WideShapes Go.ChangeAt Go.RowKit Arn
set_option linter.unusedVariables false

theorem own : ownKnob Try.prog.godebug = none := by kernel_rfl
theorem laidOut : laidOutB Try.prog = true := by kernel_rfl

open Go.Shelf
attribute [local go_sem] Oper.semAt_some wide_fn

set_option maxHeartbeats 8000000 in
set_option maxRecDepth 1000000 in
theorem walk (a0 : Int) (a1 : Option Addr) (len1 cap1 : Nat) (z1 : List Ax) (w : World) (w0 : i64B a0) (w1 : ActsIn w a1 len1 z1) :
    Calls Try.prog 3 #[.int .i64 a0, .slice a1 len1 cap1] w fun e w' => e = .returned (.bool true) ∧ Below w.heap.size w w' := by
  by_cases hbig0 : 60 < len1
  · have e0 : decide ((60 : Int) < (len1 : Int)) = true := by simp; omega
    clear w1 w0
    go_enter Try.func3, Try.ntmps3
    go_wp2_with fail
    refine (lives_any _).mono ?_
    rintro e w2 ⟨rfl, hb2⟩
    go_wp2_with fail
    refine (lives_any _).mono ?_
    rintro e w3 ⟨rfl, hb3⟩
    go_wp2
    go_ret
    exact ⟨rfl, hb2.trans (hb3.mono hb2.size)⟩
  have e0 : decide ((60 : Int) < (len1 : Int)) = false := by simp; omega
  have hs0 : len1 ≤ 60 := by omega
  clear hbig0
  by_cases hbad : a0 < 1 ∨ 1024 < a0
  · have HBAD := Lib.hid hbad
    have BAD : ∀ K : Prop, (decide (a0 < 1) = true → K) → (decide (a0 < 1) = false → decide (1024 < a0) = true → K) → K := fun K h1 h2 => by
      by_cases h : a0 < 1
      · exact h1 (decide_eq_true h)
      · exact h2 (decide_eq_false h) (decide_eq_true (by omega))
    clear hbad w0 w1
    refine BAD _ (fun d1 => ?_) (fun d1 d2 => ?_)
    all_goals
      clear BAD
      go_enter Try.func3, Try.ntmps3
      go_wp2_with fail
      refine (lives_any _).mono ?_
      rintro e W1 ⟨rfl, hb1⟩
      go_wp2_with fail
      refine (New_bad a0 W1 HBAD.out).mono ?_
      rintro e w' ⟨rfl, rfl⟩
      go_wp2_with fail
      refine (Put_nil 1 W1).mono ?_
      rintro e w' ⟨rfl, rfl⟩
      go_wp2_with fail
      refine (Get_nil 1024 W1).mono ?_
      rintro e W2 ⟨rfl, hb2⟩
      replace hb2 := hb1.trans (hb2.mono hb1.size)
      clear hb1
      go_wp2_with fail
      refine (All_nil W2).mono ?_
      rintro e W3 ⟨rfl, rfl⟩
      have hb3 := hb2.trans ((blk_alloc (w := W2) (.cells #[.pointer none] 24)).mono hb2.size)
      go_wp2_with fail
      refine (all_nil _).mono ?_
      rintro e W4 ⟨q1, c1, q2, c2, rfl, -, -, hb4⟩
      replace hb4 := hb3.trans (hb4.mono hb3.size)
      rw [show (allS 0 ([] : List (Sl Int))).length = 0 from rfl]
      clear hb3 hb2
      go_wp2_with fail
      refine (Set_nil 1024 1 W4).mono ?_
      rintro e w' ⟨rfl, rfl⟩
      go_wp2_with fail
      refine (Drop_nil 1024 W4).mono ?_
      rintro e w' ⟨rfl, rfl⟩
      go_wp2_with fail
      refine (Len_nil W4).mono ?_
      rintro e W5 ⟨rfl, hb5⟩
      replace hb5 := hb4.trans (hb5.mono hb4.size)
      go_wp2_with fail
      refine (Copy_nil W5).mono ?_
      rintro e W6 ⟨rfl, hb6⟩
      replace hb6 := hb5.trans (hb6.mono hb5.size)
      clear hb4 hb5
      go_wp2
      go_ret
      exact ⟨rfl, hb6⟩
  obtain ⟨size, rfl⟩ : ∃ size : Nat, a0 = (size : Int) := ⟨a0.toNat, by omega⟩
  have hz1 : 1 ≤ size := by omega
  have hz2 : size ≤ 1024 := by omega
  have d1 : decide ((size : Int) < 1) = false := decide_eq_false (by omega)
  have d2 : decide ((1024 : Int) < (size : Int)) = false := decide_eq_false (by omega)
  clear hbad w0
  have HZ1 := Lib.hid w1.1
  go_enter Try.func3, Try.ntmps3
  go_wp2_with fail
  refine (lives_any _).mono ?_
  rintro e W1 ⟨rfl, hb1⟩
  go_wp2_with fail
  refine (New_good size W1 (by omega)).mono ?_
  rintro e w' ⟨rfl, rfl⟩
  have A0 := At.new w.heap.size size W1 hb1.size hz1 hz2
  have hb2 := hb1.trans ((blk_alloc (w := W1) (.cells #[.int .i64 size, .slice none 0 0] 64)).mono hb1.size)
  obtain ⟨W2, hW2⟩ : ∃ W2, W1.alloc (.cells #[.int .i64 size, .slice none 0 0] 64) = W2 := ⟨_, rfl⟩
  obtain ⟨b1, hb1e⟩ : ∃ b1, W1.heap.size = b1 := ⟨_, rfl⟩
  rw [hW2] at A0 hb2 ⊢
  rw [hb1e] at A0 ⊢
  have A1 := A0.on (blk_alloc (.cells #[.int .i64 size, .slice none 0 0] 45))
  have R1 : RAt w.heap.size W2.heap.size size (.slice none 0 0) [] (W2.alloc (.cells #[.int .i64 size, .slice none 0 0] 45)) := ⟨BL.new _ W2 _, hb2.size, World.ownsRow_nil _ _ _ _⟩
  have hb3 := hb2.trans ((blk_alloc (w := W2) (.cells #[.int .i64 size, .slice none 0 0] 45)).mono hb2.size)
  obtain ⟨W3, hW3⟩ : ∃ W3, W2.alloc (.cells #[.int .i64 size, .slice none 0 0] 45) = W3 := ⟨_, rfl⟩
  obtain ⟨b2, hb2e⟩ : ∃ b2, W2.heap.size = b2 := ⟨_, rfl⟩
  rw [hW3] at A1 R1 hb3
  rw [hb2e] at R1
  have HS0 := Lib.hid (show St w b1 b2 size 0 (.slice none 0 0) [] [] (.slice none 0 0) (.slice none 0 0) [] W3 from ⟨⟨A1, R1, World.ownsRow_nil _ _ _ _, hb3⟩, Both.nil hz2, (fun x hx => by cases hx), Nat.zero_le _⟩)
  have HW3 := Lib.hid hW3
  have HB2 := Lib.hid hb2e
  have HACT := Lib.hid w1
  clear A0 A1 R1 hb1 hb2 hb3 hW2 hW3 hb1e hb2e w1
  go_upto_region 13 with fail
  rw [HW3.out, HB2.out]
  go_wp2
  go_loopw [14, 100] (fun g i wr => ∃ (k : Nat) (q : Option Addr) (m c : Nat) (sl : List (Sl Int)) (L : List (Th Int)) (v vR : Value) (gs : List Int), k ≤ len1 ∧ i = .int .i64 k ∧ g = .slice q m c ∧ Hid (gs.length = m) ∧ Hid (St w b1 b2 size k (.slice q m c) sl L v vR gs wr)) (fun _ i _ => len1 - (intOf i).toNat)
  case atStart => exact ⟨0, none, 0, 0, [], [], .slice none 0 0, .slice none 0 0, [], by omega, rfl, rfl, Lib.hid rfl, HS0⟩
  case round =>
    obtain ⟨k, q, m, c, sl, L, v, vR, gs, hk, rfl, rfl, HM, HST⟩ := hrel
    clear HS0
    have hB := HST.out.bel
    by_cases hlt : k < len1
    · obtain ⟨x, hxk⟩ : ∃ x, z1[k]? = some x := ⟨_, List.getElem?_eq_getElem (by have := HZ1.out; omega)⟩
      obtain ⟨ga, oa, hae, hga, x0, x1, x2, x3, hbx⟩ := HACT.out.2 k x hxk
      subst hae
      have hc : ∀ o, wr.cell? ⟨ga, o, none⟩ = w.cell? ⟨ga, o, none⟩ := fun o => World.cell?_of_block (a := ⟨ga, o, none⟩) (hB.block ga hga)
      rw [← hc] at x0 x1 x2 x3
      obtain ⟨⟨kind, xv, xh, old⟩, rfl⟩ : ∃ x', x' = x := ⟨x, rfl⟩
      simp only at x0 x1 x2 x3 hbx
      obtain ⟨⟨hb0a, hb0b⟩, ⟨hb1a, hb1b⟩, ⟨hb2a, hb2b⟩, hb3a, hb3b⟩ := hbx
      have hmk : m ≤ k := by have := HST.out.few; have := HM.out; omega
      have HST2 := Lib.hid (HST.out.on (blk_alloc (.cells #[.int .i64 kind, .int .i64 xv, .int .i64 xh, .int .i64 old] 47)))
      have bx := BL.new 47 wr #[.int .i64 kind, .int .i64 xv, .int .i64 xh, .int .i64 old]
      obtain ⟨Wx, hWx⟩ : ∃ Wx, wr.alloc (.cells #[.int .i64 kind, .int .i64 xv, .int .i64 xh, .int .i64 old] 47) = Wx := ⟨_, rfl⟩
      rw [hWx] at HST2 bx
      have HWX := Lib.hid hWx
      clear hxk hc hB hWx HST
      go_upto_region 17 with fail
      rw [HWX.out]
      clear x0 x1 x2 x3
      have y0 : Wx.cell? ⟨wr.heap.size, 0, none⟩ = some (.int .i64 kind) := bx.cell 0 _ rfl
      have y1 : Wx.cell? ⟨wr.heap.size, 1, none⟩ = some (.int .i64 xv) := bx.cell 1 _ rfl
      have y2 : Wx.cell? ⟨wr.heap.size, 2, none⟩ = some (.int .i64 xh) := bx.cell 2 _ rfl
      have y3 : Wx.cell? ⟨wr.heap.size, 3, none⟩ = some (.int .i64 old) := bx.cell 3 _ rfl
      have HBX := Lib.hid bx
      clear bx
      go_upto_region 18 with fail
      obtain ⟨pb, hpb⟩ : ∃ pb, (decide (0 < old) && decide (0 < m)) = pb := ⟨_, rfl⟩
      have HPB := Lib.hid hpb
      clear hpb
      go_cut [113, 100] from 101 to 266 (fun s113 s100 X => s113 = .bool pb ∧ s100 = .int .i64 k ∧ Wx = X)
      case first =>
        by_cases ho : 0 < old
        · have f1 : decide (0 < old) = true := decide_eq_true ho
          rcases Nat.eq_zero_or_pos m with h0 | h0
          · subst h0
            have hz : pb = false := by rw [← HPB.out]; simp
            subst hz
            clear ho
            go_wp2_with fail
            go_meet
            exact ⟨rfl, rfl, rfl⟩
          · have f2 : decide (0 < m) = true := decide_eq_true h0
            have f2i : decide ((0 : Int) < (m : Int)) = true := decide_eq_true (by omega)
            have f2' : ¬ m = 0 := by omega
            have hz : pb = true := by rw [← HPB.out, f1, f2]; rfl
            subst hz
            clear ho
            go_wp2_with fail
            go_meet
            exact ⟨rfl, rfl, rfl⟩
        · have f1 : decide (0 < old) = false := decide_eq_false ho
          have hz : pb = false := by rw [← HPB.out, f1]; rfl
          subst hz
          clear ho
          go_wp2_with fail
          go_meet
          exact ⟨rfl, rfl, rfl⟩
      case rest =>
      obtain ⟨rfl, rfl, rfl⟩ := hcut
      go_upto_if 113 with fail
      go_cut [17, 100] from 101 to 266 (fun s17 s100 X => (∃ h : Int, s17 = .int .i64 h ∧ i64B h) ∧ s100 = .int .i64 k ∧ Wx = X)
      case first =>
        cases pb with
        | false =>
          go_wp2_with fail
          go_meet
          exact ⟨⟨xh, rfl, hb2a, hb2b⟩, rfl, rfl⟩
        | true =>
          have hpb := HPB.out
          simp only [Bool.and_eq_true, decide_eq_true_eq] at hpb
          obtain ⟨ho, h0⟩ := hpb
          obtain ⟨j, hj⟩ : ∃ j : Nat, old % (m : Int) = (j : Int) := ⟨(old % (m : Int)).toNat, by rw [Int.toNat_of_nonneg (Int.emod_nonneg _ (by omega))]⟩
          have hjm : j < m := by
            have := Int.emod_lt_of_pos old (show (0 : Int) < (m : Int) by omega)
            omega
          obtain ⟨y, hy⟩ : ∃ y, gs[j]? = some y := ⟨_, List.getElem?_eq_getElem (by have := HM.out; omega)⟩
          obtain ⟨ig, io, hqe, hc⟩ := (NumsIn.of (c := c) (q := q) (n := m) (xs := gs) (by have := HST2.out.row; rwa [HM.out] at this)).2 j y hy
          subst hqe
          have hby := HST2.out.hs y (List.mem_of_getElem? hy)
          have ho0 : 0 ≤ old := by omega
          have f3 : old.tmod (m : Int) = (j : Int) := by rw [Int.tmod_eq_emod_of_nonneg ho0]; exact hj
          clear ho hy
          go_wp2_with fail
          go_meet
          exact ⟨⟨y, rfl, hby⟩, rfl, rfl⟩
      case rest =>
      obtain ⟨⟨h, rfl, hhb⟩, rfl, rfl⟩ := hcut
      clear HPB
      have con := Find_any w.heap.size b2 size vR L h Wx HST2.out.r (HST2.out.both.small (by omega))
      have hfind := HST2.out.both.find h
      obtain ⟨f, hf⟩ : ∃ f, findK L h = f := ⟨_, rfl⟩
      rw [hf] at con hfind
      have HF := Lib.hid hfind
      clear hf hfind
      go_wp2_with fail
      refine con.mono ?_
      rintro e W4 ⟨rfl, hb4⟩
      have HST4 := Lib.hid (HST2.out.on hb4)
      have bx4 := HBX.out.on hb4
      have y0 : W4.cell? ⟨wr.heap.size, 0, none⟩ = some (.int .i64 kind) := bx4.cell 0 _ rfl
      have y1 : W4.cell? ⟨wr.heap.size, 1, none⟩ = some (.int .i64 xv) := bx4.cell 1 _ rfl
      have HBX4 := Lib.hid bx4
      have hs4 := hb4.size
      clear con hb4 bx4 HST2 HBX y2 y3
      go_upto_block 2 with fail
      trace_state
      go_cut [14, 19, 20, 21, 22, 23, 24, 100] from 101 to 266 (fun s14 s19 s20 s21 s22 s23 s24 s100 X => s100 = .int .i64 k ∧ StX w b1 b2 size (k + 1) s14 X)
      case first =>
        refine switch_ok w W4 b1 b2 size k wr.heap.size q m c sl L v vR gs kind xv h f xh old _ _ _ _ _ _ _ _ _ _ _ _ _ _ _ _ _ _ _ _ _ _ _ _ _ _ _ _ _ _ _ _ _ _ _ _ _ _ _ _ _ _ _ _ _ _ _ _ _ _ _ _ _ _ _ _ _ _ _ _ _ _ _ _ _ _ _ _ _ _ _ _ _ _ _ _ _ _ _ _ _ _ _ _ _ _ _ _ _ _ _ _ _ _ _ _ _ _ _ _ _ _ _ _ _ _ _ _ _ _ _ _ _ _ _ _ _ _ _ _ _ _ _ _ _ _ _ _ _ _ _ _ _ _ _ _ _ _ _ _ _ _ _ _ _ _ _ _ _ _ _ _ _ _ _ _ _ _ _ _ _ _ _ _ _ _ _ _ _ _ _ _ _ _ _ _ _ _ _ _ _ _ _ _ _ _ _ _ _ _ _ _ _ _ _ _ _ _ _ _ _ _ _ _ _ _ _ _ _ _ _ _ _ _ _ _ _ _ _ _ _ _ _ _ _ _ _ _ _ _ _ _ _ _ _ _ _ _ _ _ _ _ _ _ _ _ _ _ _ _ _ _ _ _ _ _ _ _ _ _ _ _ HST4 HM hmk (by omega) hz2 hhb HBX4 HF ?_
        intro n14 n19 n20 n21 n22 n23 n24 n127 n128 n129 n130 n131 n132 n133 n134 n135 n136 n137 n138 n139 n140 n141 n142 n143 n144 n145 n146 n147 n148 n149 n150 n151 n152 n153 n154 n155 n156 n157 n158 n159 n160 n161 n162 n163 n164 n165 n166 n167 n168 n169 n170 n171 n172 n173 n174 n175 n176 n177 n178 n179 n180 n181 n182 n183 n184 n185 n186 n187 n188 n189 n190 n191 n192 n193 n194 n195 n196 n197 n198 n199 n200 n201 n202 n203 n204 n205 n206 n207 n208 n209 n210 n211 n212 n213 n214 n215 n216 n217 n218 n219 n220 n221 n222 n223 n224 n225 n226 n227 n228 n229 n230 n231 n232 n233 n234 n235 n236 n237 X hX
        apply_assumption
        go_meet
        exact ⟨rfl, hX⟩
      case rest =>
      obtain ⟨rfl, q5, m5, c5, sl5, L5, v5, vR5, gs5, rfl, hm5, hst5⟩ := hcut
      have HST5 := Lib.hid hst5
      have HM5 := Lib.hid hm5
      clear hst5 hm5 HST4 HBX4 HF y0 y1 hs4 HM
      obtain ⟨X5, hX5⟩ : ∃ X5, wc = X5 := ⟨_, rfl⟩
      rw [hX5] at HST5 ⊢
      clear hX5
      apply_assumption
      refine tail_ok w X5 b1 b2 size k q5 m5 c5 sl5 L5 v5 vR5 gs5 _ _ _ _ _ _ _ _ _ _ _ _ _ _ _ _ _ _ _ _ _ _ _ _ _ _ _ _ _ _ _ _ _ _ _ _ _ _ _ _ _ _ _ _ _ _ _ _ _ _ _ _ _ _ _ _ _ _ _ _ _ _ _ _ _ _ _ _ _ _ _ _ _ _ _ _ _ _ _ _ _ _ _ _ _ _ _ _ _ _ _ _ _ _ _ _ _ _ _ _ _ _ _ _ _ _ _ _ _ _ _ _ _ _ _ _ _ _ _ _ _ _ _ _ _ _ _ _ _ _ _ _ _ _ _ _ _ _ _ _ _ _ _ _ _ _ _ _ _ _ _ _ _ _ _ _ _ _ _ _ _ _ _ _ _ _ _ _ _ _ _ _ _ _ _ _ _ _ _ _ _ _ _ _ _ _ _ _ _ _ _ _ _ _ _ _ _ _ _ _ _ _ _ _ _ _ _ _ _ _ _ _ _ _ _ _ _ _ _ _ _ _ _ _ _ _ _ _ _ _ _ _ _ _ _ _ _ _ _ _ _ _ _ _ _ _ _ _ _ _ _ _ _ _ _ _ _ _ _ _ _ _ _ _ _ _ _ HST5 (by omega) hz2 ?_
      intro n25 n26 n27 n28 n238 n239 n240 n241 n242 n243 n244 n245 n246 n247 n248 n249 n250 n251 n252 n253 n254 n255 n256 n257 n258 n259 n260 n261 n262 n263 n264 n265 X HST11
      go_wp2
      go_roundw
      case rel => exact ⟨k + 1, q5, m5, c5, sl5, L5, v5, vR5, gs5, by omega, by go_num, rfl, HM5, HST11⟩
      case measure => simp [intOf]; omega
    · clear HACT
      go_wp2
      go_ret
      exact ⟨rfl, hB⟩

set_option maxRecDepth 100000 in
theorem lifted (os : Os) (started : os.Started) (H : Type) (enc : TypeId × Value → H) :
    ReturnsInHanded {} Try.checked os 3 .any (Rows.arenaPlaysSpec.pre6 enc Try.prog Try.f3 Rows.arenaPlaysRow.domain false) (Rows.arenaPlaysSpec.post enc Try.prog Try.f3 false true false false) := by
  refine returnsInHanded_of_change (C := Try.checked) own started (by kernel_rfl) Try.func3
    (ChangeSpec.witness6 (enc := enc) (C := Try.checked) false ⟨#[], #[.int .i64 0, .slice none 0 0], []⟩ 8 (by kernel_rfl) (by kernel_rfl) (by kernel_rfl) (by kernel_rfl)) ?_
  intro W base args ds gs before hval0 hW hcnd _
  have hval : ∀ (j : Nat) t v, Try.f3.params[j]? = some t → args[j]? = some v → Value.okWide Try.prog W .any base t v := hval0
  have hW' := hW
  obtain ⟨p, q, hA0, hV, rfl, hfz, hnd⟩ := hW
  have hA : DataW.TrodAll enc Try.prog W 0 (fun _ => true) true Try.f3.params.toList args.toList ds p := hA0
  rw [Try.params3] at hA hval
  obtain ⟨v0, vs0, d0, ds0, p0, q0, hargs, rfl, rfl, h0, r0⟩ := trodAll_cons hA
  obtain ⟨v1, vs1, d1, ds1, p1, q1, rfl, rfl, rfl, h1, r1⟩ := trodAll_cons r0
  obtain ⟨rfl, rfl, rfl⟩ := trodAll_nil r1
  obtain rfl : args = #[v0, v1] := by cases args; simp_all
  obtain ⟨rfl, rfl⟩ := trodVars_none hV
  obtain ⟨a0, rfl, rfl, rfl, w0⟩ := open_int Try.underlying3 (hval 0 3 v0 rfl rfl) h0
  obtain ⟨a1, len1, cap1, rfl⟩ := okWide_slice Try.underlying22 (hval 1 22 v1 rfl rfl)
  have k1 := h1
  have lt1 : ∀ x ∈ p1, x.block < W.heap.size := by obtain ⟨m, hm⟩ := k1; exact DataW.trod_lt m _ _ _ hm
  obtain ⟨z1, w1⟩ : ∃ z, ActsIn W a1 len1 z := by
    obtain ⟨fuel, hf⟩ := h1
    exact open_acts hf
  clear hA0 hval0
  refine (walk a0 a1 len1 cap1 z1 W (bounds_i64 w0) w1).mono fun e W' ⟨he, bel⟩ => ?_
  subst he
  exact ⟨_, rfl, _, _, _, [], _, [], hW', trodAll_mk1 (shut_bool Try.underlying4 _), (trodAll_cons_mk (shut_int Try.underlying3 w0) (trodAll_cons_mk (Below.trod laidOut (by kernel_rfl) (of_decide_eq_true (by kernel_rfl)) k1 bel lt1) trodAll_mk0)), rfl, bel.frame _, fun h => by cases h⟩

theorem over : Rows.arenaPlaysRow.holds Try.pinned (OpenSpec.ofChange Rows.arenaPlaysSpec) :=
  OpenClaim.holds_of_wide 3 Try.f3 rfl rfl rfl rfl rfl rfl rfl ⟨rfl, rfl, rfl, rfl, rfl⟩ rfl rfl rfl rfl rfl (by kernel_rfl) Try.func3 (by kernel_rfl)
    (of_decide_eq_true (by kernel_rfl)) (by unfold Func.isWrapper; first | (rw [if_pos (by decide +kernel)]; kernel_rfl) | (rw [if_neg (by decide +kernel)]; exact ⟨rfl, rfl⟩))
    (fun os started H enc _ => lifted os started H enc)

theorem proved : Rows.ArenaPlaysSaid := over
end Go.Proofs.Ytkpcakmkmkidpaa.arenaPlays
