/- HostBack: the law returns true at whatever input, and writes nothing that was there. Conditions: none. -/
import Derived.Test.YtcahakelihigdaaRows
import Derived.Test.YtcahakelihigdaaHostJ
import Derived.WalkKit
import Derived.ProofKit
import Derived.OpenShut
import Derived.ShutString
import Derived.ChangeOld
import Derived.Below
namespace Go.Proofs.Ytcahakelihigdaa.hostBack
open Go.ChangeShapes Go.WideShapes Go.ChangeAt Go.RowKit
open Go.ChangeMaps (open_string shut_string)
set_option linter.unusedVariables false

theorem own : ownKnob Try.prog.godebug = none := by kernel_rfl
theorem laidOut : laidOutB Try.prog = true := by kernel_rfl

def IsRow (k : IntKind) (w : World) (a : Option Addr) (len cap : Nat) (zs : List Int) : Prop :=
  (a = none ∧ len = 0 ∧ cap = 0 ∧ zs = []) ∨
  ∃ x, a = some x ∧ len ≤ cap ∧ cap ≤ maxLen ∧ zs.length = cap ∧ (∀ i, i < zs.length → w.cell? (x.add i) = some (.int k (zs.getD i 0))) ∧ ∀ n ∈ zs, (Lit.int k n).wf = true

open Host
open Go.Shelf
theorem row_bytes {w : World} {a : Option Addr} {len cap : Nat} {zs : List Int} (h : IsRow .u8 w a len cap zs) : ∃ bs : List UInt8, bs.length = len ∧ len ≤ cap ∧ Lib.BytesIn w a len (Lib.numsL bs) ∧ len ≤ 9223372036854775807 := by
  rcases h with ⟨rfl, rfl, rfl, rfl⟩ | ⟨x, rfl, h1, h2, h3, h4, h5⟩
  · exact ⟨[], rfl, Nat.le_refl _, Lib.BytesIn.nil _ _ _, by omega⟩
  · have hz : ∀ i, i < len → (Lib.numsL (Lib.bytesOf (zs.take len))).getD i 0 = zs.getD i 0 := fun i hi => by
      have hi' : i < zs.length := by omega
      have hw := bounds_u8 (h5 _ (List.getElem_mem hi'))
      have : (Lib.bytesOf (zs.take len)).getD i 0 = UInt8.ofNat (zs[i]).toNat := by
        simp [Lib.bytesOf, List.getD, hi, List.getElem?_eq_getElem hi']
      rw [numsL_getD _ _ (by simp [Lib.bytesOf]; omega), this, List.getD, List.getElem?_eq_getElem hi']
      simp only [Option.getD_some, UInt8.toNat_ofNat']
      omega
    refine ⟨Lib.bytesOf (zs.take len), by simp [Lib.bytesOf]; omega, h1, Lib.BytesIn.of_cells fun i hi => ?_, by unfold maxLen at h2; omega⟩
    rw [hz i hi]
    exact h4 i (by omega)
set_option maxHeartbeats 8000000 in
set_option maxRecDepth 100000 in
theorem walk (a0 : Option Addr) (len0 cap0 : Nat) (z0 : List Int) (w : World) (w0 : IsRow .u8 w a0 len0 cap0 z0) :
    Calls Try.prog 5 #[.slice a0 len0 cap0] w fun e w' => e = .returned (.bool true) ∧ Below w.heap.size w w' := by
  obtain ⟨bs, hl0, hlc0, hb0, hmax0⟩ := row_bytes w0
  have hnil0 : a0 = none → len0 = 0 ∧ cap0 = 0 := by rcases w0 with ⟨_, h1, h2, _⟩ | ⟨x, h, _⟩; exact fun _ => ⟨h1, h2⟩; (intro h'; rw [h] at h'; cases h')
  clear w0
  clear hnil0
  by_cases hbig : 300 < len0
  · have d1 : decide ((300 : Int) < (len0 : Int)) = true := by simp; omega
    go_enter Try.func5, Try.ntmps5
    go_wp2_with fail
    refine (lives_any _).mono ?_
    rintro e w2 ⟨rfl, hb2⟩
    go_wp2_with fail
    refine (lives_any _).mono ?_
    rintro e w3 ⟨rfl, hb3⟩
    go_wp2
    go_ret
    exact ⟨rfl, hb2.trans (hb3.mono hb2.size)⟩
  have d1 : decide ((300 : Int) < (len0 : Int)) = false := by simp; omega
  have HL := Lib.hid hl0
  rcases parse_cases bs with hp | hp | ⟨hp, hpl⟩
  · have HP := Lib.hid hp
    obtain ⟨ls, hls⟩ : ∃ ls, lowL bs = ls := ⟨_, rfl⟩
    have HP2 := Lib.hid (show parseE ls = 0 by rw [← hls]; exact (parse_low bs).trans hp)
    have HLL := Lib.hid (show lowL ls = ls by rw [← hls]; exact lowL_lowL bs)
    have HLE := Lib.hid (show ls.length = len0 by rw [← hls, lowL_length, hl0])
    have HLS := Lib.hid hls
    have hws := within_self ls HP2.out HLL.out
    have HWU := Lib.hid (within_up ls)
    have hul : (upL ls).length ≤ 301 := by have h1 := up_len ls; have h2 := HLE.out; omega
    have hus : ∀ x ∈ upL ls, x.length ≤ 300 := fun x hx => by have h1 := up_small ls x hx; have h2 := HLE.out; omega
    clear hl0 hp hls
    go_enter Try.func5, Try.ntmps5
    go_wp2_with fail
    refine (lives_any _).mono ?_
    rintro e w2 ⟨rfl, hw2⟩
    have hb2 := bytes_on hb0 hw2
    have con3 := Parse_any a0 len0 cap0 bs w2 HL.out (by omega) hb2
    clear hb0 hmax0 hb2
    go_wp2_with fail
    refine con3.mono ?_
    intro e w3 ho3
    obtain ⟨q3, c3, rfl, _, hc3, hrow3, hbel3⟩ := can_at0 ho3 HP.out HL.out
    rw [HLS.out] at hrow3
    obtain ⟨_, _, hcl, _, _, _, hb3, _⟩ := row_open hrow3
    cases hcl
    have hw3 := hw2.trans (hbel3.mono hw2.size)
    have con4 := Parse_any q3 len0 c3 ls w3 HLE.out (by omega) hb3
    clear con3 ho3 hrow3 hbel3 hw2
    go_wp2_with fail
    refine con4.mono ?_
    intro e w4 ho4
    obtain ⟨q4, c4, rfl, _, hc4, hrow4, hbel4⟩ := can_at0 ho4 HP2.out HLE.out
    rw [HLL.out] at hrow4
    obtain ⟨_, _, hcl, _, _, _, hb4, _⟩ := row_open hrow4
    cases hcl
    have hw4 := hw3.trans (hbel4.mono hw3.size)
    have hb34 := bytes_on hb3 hbel4
    have hcv4 := conv_bytes (c := c4) hb4 HLE.out
    have hcv3 := conv_bytes (c := c3) hb34 HLE.out
    have e1 := strs_eq ls ls
    rw [decide_eq_true rfl] at e1
    have e2 : ((⟨ls.toArray⟩ : ByteArray).toList != (⟨ls.toArray⟩ : ByteArray).toList) = false := by unfold bne; rw [e1]; rfl
    have con5 := Within_any q3 q3 len0 c3 len0 c3 ls ls w4 HLE.out HLE.out (by omega) hb34 hb34
    rw [hws] at con5
    have conU := fun W h => Up_any q3 len0 c3 ls W HLE.out (by omega) h
    have conW := fun (qd : Option Addr) (m cd : Nat) (d : List UInt8) W hd h h' => Within_any q3 qd len0 c3 m cd ls d W HLE.out hd (by omega) h h'
    have e3 : ((len0 : Int) != (len0 : Int)) = false := by simp
    clear con4 ho4 hrow4 hbel4 hw3 hb3 hb4 hws
    go_wp2_with fail
    refine con5.mono ?_
    rintro e w5 ⟨rfl, hbel5⟩
    have hw5 := hw4.trans (hbel5.mono hw4.size)
    have hb5 := bytes_on hb34 hbel5
    clear con5 hbel5 hb34 hcv4 hcv3 hw4 e1 e2
    go_wp2_with fail
    refine (conU w5 hb5).mono ?_
    intro e w6 ho6
    obtain ⟨gf, lb, rfl, hbel6, conA⟩ := all_up ho6 (by omega) (fun x hx => by have := hus x hx; omega)
    have hw6 := hw5.trans (hbel6.mono hw5.size)
    have hb6 := bytes_on hb5 hbel6
    clear conU ho6 hbel6 hb5 hw5
    go_wp2_with fail
    refine (conA w6 (Below.refl _ _)).mono ?_
    rintro e w7 ⟨q7, c7, rfl, hst7, hbel7⟩
    have hw7 := hw6.trans (hbel7.mono hw6.size)
    have hb7 := bytes_on hb6 hbel7
    clear conA hbel7 hb6 hw6
    generalize upL ls = xs at *
    obtain ⟨m, hm⟩ : ∃ m, xs.length = m := ⟨_, rfl⟩
    have HM := Lib.hid hm
    rw [hm] at hst7 hul ⊢
    clear hm
    go_wp2
    go_loopw [71] (fun i wr => ∃ k : Nat, k ≤ m ∧ i = .int .i64 k ∧ Below w.heap.size w wr ∧ Ref.StIn wr q7 m xs ∧ Lib.BytesIn wr q3 len0 (Lib.numsL ls)) (fun i _ => m - (intOf i).toNat)
    case atStart => exact ⟨0, Nat.zero_le _, rfl, hw7, hst7, hb7⟩
    case round =>
      obtain ⟨k, hk, rfl, hwr, hstr, hbr⟩ := hrel
      clear hst7 hb7 hw7
      by_cases hlt : k < m
      · obtain ⟨b, o, rfl, _, hc⟩ := id hstr (by omega)
        have ck := hc k hlt
        have hxm : xs.getD k [] ∈ xs := by
          rw [List.getD, List.getElem?_eq_getElem (by rw [HM.out]; exact hlt)]; exact List.getElem_mem _
        have hwu := HWU.out _ hxm
        have hsk := hus _ hxm
        generalize xs.getD k [] = x at *
        obtain ⟨p, hpp, hpv⟩ := Ref.str_of x
        rw [hpv] at ck
        subst hpp
        have hcb := fun W => conv_back W p
        have hbw := bytesWorld_below wr p
        have con8 := conW (some ⟨wr.heap.size, 0, none⟩) p.size (grownCap wr p.size 0 5) p.data.toList _ rfl (bytes_on hbr hbw) (bytesWorld_in wr p)
        rw [hwu] at con8
        clear hc hxm hwu hpv
        go_wp2_with fail
        refine con8.mono ?_
        rintro e w9 ⟨rfl, hbel9⟩
        have hb9 := hbw.trans (hbel9.mono hbw.size)
        have hst9 := hstr.on hb9
        have hbr9 := bytes_on hbr hb9
        have hw9 := hwr.trans (hb9.mono hwr.size)
        clear con8 hbel9 hb9 hbw hcb ck
        go_wp2
        go_roundw
        case rel => exact ⟨k + 1, by omega, by go_num, hw9, hst9, hbr9⟩
        case measure => simp [intOf]; omega
      · go_wp2
        go_ret
        exact ⟨rfl, hwr⟩
  · have HP := Lib.hid hp
    clear hl0 hp
    go_enter Try.func5, Try.ntmps5
    go_wp2_with fail
    refine (lives_any _).mono ?_
    rintro e w2 ⟨rfl, hw2⟩
    have hb2 := bytes_on hb0 hw2
    have con3 := Parse_any a0 len0 cap0 bs w2 HL.out (by omega) hb2
    clear hb0 hmax0 hb2
    go_wp2_with fail
    refine con3.mono ?_
    intro e w3 ho3
    obtain ⟨q3, c3, rfl, _, hbel3⟩ := can_at ho3 HP.out (by decide)
    have hw3 := hw2.trans (hbel3.mono hw2.size)
    clear con3 ho3 hbel3 hw2
    go_wp2
    go_ret
    exact ⟨rfl, hw3⟩
  · have HP := Lib.hid hp
    have d2 : decide ((253 : Int) < (len0 : Int)) = true := by simp; omega
    clear hl0 hp hpl
    go_enter Try.func5, Try.ntmps5
    go_wp2_with fail
    refine (lives_any _).mono ?_
    rintro e w2 ⟨rfl, hw2⟩
    have hb2 := bytes_on hb0 hw2
    have con3 := Parse_any a0 len0 cap0 bs w2 HL.out (by omega) hb2
    clear hb0 hmax0 hb2
    go_wp2_with fail
    refine con3.mono ?_
    intro e w3 ho3
    obtain ⟨q3, c3, rfl, _, hbel3⟩ := can_at ho3 HP.out (by decide)
    have hw3 := hw2.trans (hbel3.mono hw2.size)
    clear con3 ho3 hbel3 hw2
    go_wp2
    go_ret
    exact ⟨rfl, hw3⟩

set_option maxRecDepth 100000 in
theorem lifted (os : Os) (started : os.Started) (H : Type) (enc : TypeId × Value → H) :
    ReturnsInHanded {} Try.checked os 5 .any (Rows.hostBackSpec.pre6 enc Try.prog Try.f5 Rows.hostBackRow.domain false) (Rows.hostBackSpec.post enc Try.prog Try.f5 false true false false) := by
  refine returnsInHanded_of_change (C := Try.checked) own started (by kernel_rfl) Try.func5
    (ChangeSpec.witness6 (enc := enc) (C := Try.checked) false ⟨#[], #[.slice none 0 0], []⟩ 8 (by kernel_rfl) (by kernel_rfl) (by kernel_rfl) (by kernel_rfl)) ?_
  intro W base args ds gs before hval0 hW hcnd _
  have hval : ∀ (j : Nat) t v, Try.f5.params[j]? = some t → args[j]? = some v → Value.okWide Try.prog W .any base t v := hval0
  have hW' := hW
  obtain ⟨p, q, hA0, hV, rfl, hfz, hnd⟩ := hW
  have hA : DataW.TrodAll enc Try.prog W 0 (fun _ => true) true Try.f5.params.toList args.toList ds p := hA0
  rw [Try.params5] at hA hval
  obtain ⟨v0, vs0, d0, ds0, p0, q0, hargs, rfl, rfl, h0, r0⟩ := trodAll_cons hA
  obtain ⟨rfl, rfl, rfl⟩ := trodAll_nil r0
  obtain rfl : args = #[v0] := by cases args; simp_all
  obtain ⟨rfl, rfl⟩ := trodVars_none hV
  obtain ⟨a0, len0, cap0, rfl⟩ := okWide_slice Try.underlying22 (hval 0 22 v0 rfl rfl)
  have k0 := h0
  have lt0 : ∀ x ∈ p0, x.block < W.heap.size := by obtain ⟨m, hm⟩ := k0; exact DataW.trod_lt m _ _ _ hm
  obtain ⟨z0, w0⟩ : ∃ zs, IsRow .u8 W a0 len0 cap0 zs := by
    obtain ⟨fuel, hf⟩ := h0
    rcases open_ints Try.underlying22 Try.underlying5 (by kernel_rfl) hf with ⟨hcs, _⟩ | ⟨x, l, c, zs, hcs, _, hl, hm, hz, _, hcell, hwz⟩
    · simp [Value.cells] at hcs
      obtain ⟨rfl, rfl, rfl⟩ := hcs
      exact ⟨[], .inl ⟨rfl, rfl, rfl, rfl⟩⟩
    · simp [Value.cells] at hcs
      obtain ⟨rfl, rfl, rfl⟩ := hcs
      exact ⟨zs, .inr ⟨_, rfl, hl, hm, by simpa using hz, hcell, hwz⟩⟩
  clear hA0 hval0
  refine (walk a0 len0 cap0 z0 W w0).mono fun e W' ⟨he, bel⟩ => ?_
  subst he
  exact ⟨_, rfl, _, _, _, [], _, [], hW', trodAll_mk1 (shut_bool Try.underlying4 _), (trodAll_cons_mk (Below.trod laidOut (by kernel_rfl) (of_decide_eq_true (by kernel_rfl)) k0 bel lt0) trodAll_mk0), rfl, bel.frame _, fun h => by cases h⟩

theorem over : Rows.hostBackRow.holds Try.pinned (OpenSpec.ofChange Rows.hostBackSpec) :=
  OpenClaim.holds_of_wide 5 Try.f5 rfl rfl rfl rfl rfl rfl rfl ⟨rfl, rfl, rfl, rfl, rfl⟩ rfl rfl rfl rfl rfl (by kernel_rfl) Try.func5 (by kernel_rfl)
    (of_decide_eq_true (by kernel_rfl)) (by unfold Func.isWrapper; first | (rw [if_pos (by decide +kernel)]; kernel_rfl) | (rw [if_neg (by decide +kernel)]; exact ⟨rfl, rfl⟩))
    (fun os started H enc _ => lifted os started H enc)

theorem proved : Rows.HostBackSaid := over
end Go.Proofs.Ytcahakelihigdaa.hostBack
