/- CutSplits: the law returns true at whatever input, and writes nothing that was there. Conditions: none. -/
import Derived.Test.YtefgccdpgfdelaaRows
import Derived.Test.YtefgccdpgfdelaaLawE
import Derived.WalkKit
import Derived.ProofKit
import Derived.OpenShut
import Derived.ShutString
import Derived.ChangeOld
import Derived.Below
namespace Go.Proofs.Ytefgccdpgfdelaa.cutSplits
open Go.ChangeShapes Go.WideShapes Go.ChangeAt Go.RowKit
open Go.ChangeMaps (open_string shut_string)
set_option linter.unusedVariables false

theorem own : ownKnob Try.prog.godebug = none := by kernel_rfl
theorem laidOut : laidOutB Try.prog = true := by kernel_rfl

def IsRow (k : IntKind) (w : World) (a : Option Addr) (len cap : Nat) (zs : List Int) : Prop :=
  (a = none ∧ len = 0 ∧ cap = 0 ∧ zs = []) ∨
  ∃ x, a = some x ∧ len ≤ cap ∧ cap ≤ maxLen ∧ zs.length = cap ∧ (∀ i, i < zs.length → w.cell? (x.add i) = some (.int k (zs.getD i 0))) ∧ ∀ n ∈ zs, (Lit.int k n).wf = true

theorem row_bytes {w : World} {a : Option Addr} {len cap : Nat} {zs : List Int} (h : IsRow .u8 w a len cap zs) : ∃ bs : List UInt8, bs.length = len ∧ len ≤ cap ∧ Lib.BytesIn w a len (Lib.numsL bs) ∧ len ≤ 9223372036854775807 := by
  rcases h with ⟨rfl, rfl, rfl, rfl⟩ | ⟨x, rfl, h1, h2, h3, h4, h5⟩
  · exact ⟨[], rfl, Nat.le_refl _, Lib.BytesIn.nil _ _ _, by omega⟩
  · have hz : ∀ i, i < len → (Lib.numsL (Lib.bytesOf (zs.take len))).getD i 0 = zs.getD i 0 := fun i hi => by
      have hi' : i < zs.length := by omega
      have hw := bounds_u8 (h5 _ (List.getElem_mem hi'))
      have : (Lib.bytesOf (zs.take len)).getD i 0 = UInt8.ofNat (zs[i]).toNat := by
        simp [Lib.bytesOf, List.getD, List.getElem?_take, hi, List.getElem?_eq_getElem hi']
      rw [numsL_getD _ _ (by simp [Lib.bytesOf]; omega), this, List.getD, List.getElem?_eq_getElem hi']
      simp only [Option.getD_some, UInt8.toNat_ofNat']
      omega
    refine ⟨Lib.bytesOf (zs.take len), by simp [Lib.bytesOf]; omega, h1, Lib.BytesIn.of_cells fun i hi => ?_, by unfold maxLen at h2; omega⟩
    rw [hz i hi]
    exact h4 i (by omega)
theorem walk (a0 : Option Addr) (len0 cap0 : Nat) (z0 : List Int) (a1 : Int) (w : World) (w0 : IsRow .u8 w a0 len0 cap0 z0) (w1 : (Lit.int .u8 a1).wf = true) :
    Calls Try.prog 3 #[.slice a0 len0 cap0, .int .u8 a1] w fun e w' => e = .returned (.bool true) ∧ Below w.heap.size w w' := by
  obtain ⟨bs, hl, hlc, hb, hmax⟩ := row_bytes w0
  have hnil : a0 = none → len0 = 0 ∧ cap0 = 0 := by rcases w0 with ⟨_, h1, h2, _⟩ | ⟨x, h, _⟩; exact fun _ => ⟨h1, h2⟩; (intro h'; rw [h] at h'; cases h')
  obtain ⟨c, hc⟩ : ∃ c : UInt8, a1 = (c.toNat : Int) := by
    have h := bounds_u8 w1
    exact ⟨UInt8.ofNat a1.toNat, by simp only [UInt8.toNat_ofNat']; omega⟩
  subst hc
  clear w0
  by_cases hbig : 2000 < len0
  · have d1 : decide ((2000 : Int) < (len0 : Int)) = true := by simp; omega
    go_enter Try.func3, Try.ntmps3
    go_wp2_with fail
    refine (lives_any _).mono ?_
    rintro e w2 ⟨rfl, hb2⟩
    go_wp2_with fail
    refine (lives_any _).mono ?_
    rintro e w3 ⟨rfl, hb3⟩
    go_wp2
    go_ret
    exact ⟨rfl, hb2.trans (hb3.mono hb2.size)⟩
  · have d1 : decide ((2000 : Int) < (len0 : Int)) = false := by simp; omega
    have hsm : len0 ≤ 2000 := by omega
    go_enter Try.func3, Try.ntmps3
    go_wp2_with fail
    refine (lives_any _).mono ?_
    rintro e w2 ⟨rfl, hb2⟩
    have hbs2 := bytes_keep hb (Keep.of_below hb2) (fun a h1 h2 => bytes_lt hb a h1 h2)
    have hbs3 := bytes_keep hbs2 (Keep.alloc (fun _ => True) w2 (.cells #[] 5)) (fun _ _ _ => trivial)
    have HL := Lib.hid hl
    clear hbig hmax w1 hl
    go_wp2_with (at_builtin; refine wpList_append_bytes rfl _ _ rfl w2.heap.size _ 0 [] rfl (World.ownsRow_made w2 #[] 0 (Nat.le_refl _) (Nat.zero_le _) rfl) a0 len0 cap0 bs rfl hnil HL.out hbs3 (by omega) (by simp) ?_; intro v' w3 hown' hgrow)
    simp only [Nat.zero_add, List.nil_append] at hown'
    obtain ⟨q3, c3, rfl, _, hc3, _, hbo3, hblk3⟩ := row_open hown'
    have hb3 : Below w2.heap.size w2 w3 := ((Below.refl _ w2).alloc (Nat.le_refl _) _).grown hgrow (by simp) (fun b hg => by cases hg; exact Nat.le_refl _)
    have hbs4 := bytes_keep hbs2 (Keep.of_below hb3) (fun a h1 h2 => bytes_lt hbs2 a h1 h2)
    have hw3 : Below w.heap.size w w3 := hb2.trans (hb3.mono hb2.size)
    clear hgrow hown' hbs2 hbs3 hb3
    refine (Split_any q3 len0 c3 c bs w3 HL.out (by omega) hbo3).mono ?_
    rintro e w4 ⟨B, vk, rfl, hB4, hBc4, hrow4, hBw4, hbel4⟩
    have con5 := counted_split (by omega) HL.out hB4 hBc4 hrow4
    have hbs5 := bytes_keep hbs4 (Keep.of_below hbel4) (fun a h1 h2 => bytes_lt hbs4 a h1 h2)
    have hbo5 := bytes_keep hbo3 (Keep.of_below hbel4) (fun a h1 h2 => bytes_lt hbo3 a h1 h2)
    have hw4 : Below w.heap.size w w4 := hw3.trans (hbel4.mono hw3.size)
    clear hbs4 hbo3 hB4 hBc4 hrow4 hbel4 hblk3 hBw4
    go_wp2_with fail
    refine con5.mono ?_
    rintro e w5 ⟨q5, c5, rfl, hst5, hq5, hbel5⟩
    have hbs6 := bytes_keep hbs5 (Keep.of_below hbel5) (fun a h1 h2 => bytes_lt hbs5 a h1 h2)
    have hbo6 := bytes_keep hbo5 (Keep.of_below hbel5) (fun a h1 h2 => bytes_lt hbo5 a h1 h2)
    have hw5 : Below w.heap.size w w5 := hw4.trans (hbel5.mono hw4.size)
    have hcv := hbs6.convert (P := Try.prog) (by rw [Lib.numsL_length, HL.out]) cap0 22 5 9 Try.underlying22 Try.underlying5 Try.underlying9
    rw [strOfNums_numsL] at hcv
    have con6 := refSplit_any c ⟨bs.toArray⟩ w5 (by show bs.toArray.size ≤ _; simp; have := HL.out; omega)
    rw [show (⟨bs.toArray⟩ : ByteArray).data.toList = bs from by simp] at con6
    have hpl : (piecesOf bs (spansL (isB c) bs)).length ≤ 2001 := by have h1 := spansGo_len (isB c) bs 0 0; have := HL.out; unfold piecesOf spansL; rw [List.length_map]; omega
    generalize piecesOf bs (spansL (isB c) bs) = ps at *
    clear hbs5 hbo5 con5 hbel5
    go_wp2_with fail
    refine con6.mono ?_
    rintro e w6 ⟨v6, rfl, hrow6, hbel6⟩
    obtain ⟨q6, c6, rfl, _, _, _, hst6, _⟩ := strs_row hrow6
    have hst56 := strs_keep hst5 (Keep.of_below hbel6) (fun a h1 _ => hq5 a h1)
    have hbs7 := bytes_keep hbs6 (Keep.of_below hbel6) (fun a h1 h2 => bytes_lt hbs6 a h1 h2)
    have hbo7 := bytes_keep hbo6 (Keep.of_below hbel6) (fun a h1 h2 => bytes_lt hbo6 a h1 h2)
    have hw6 : Below w.heap.size w w6 := hw5.trans (hbel6.mono hw5.size)
    have con7 := Same_any q5 q6 ps.length c5 ps.length c6 ps ps w6 rfl rfl (by omega) (by omega) hst56 hst6
    rw [sameL_self] at con7
    clear hcv hbs6 hbo6 hst5 hst56 hst6 hrow6 hbel6 con6
    go_wp2_with fail
    refine con7.mono ?_
    rintro e w7 ⟨rfl, hq7⟩
    obtain ⟨hw7, hbs8, hbo8⟩ : Below w.heap.size w w7 ∧ Lib.BytesIn w7 a0 len0 (Lib.numsL bs) ∧ Lib.BytesIn w7 q3 len0 (Lib.numsL bs) := by
      obtain ⟨qd, rfl⟩ := hq7
      exact ⟨hw6.trans ⟨rfl, rfl, rfl, Nat.le_refl _, fun _ _ => rfl⟩, hbs7, hbo7⟩
    have hcv1 := hbs8.convert (P := Try.prog) (by rw [Lib.numsL_length, HL.out]) cap0 22 5 9 Try.underlying22 Try.underlying5 Try.underlying9
    have hcv2 := hbo8.convert (P := Try.prog) (by rw [Lib.numsL_length, HL.out]) c3 22 5 9 Try.underlying22 Try.underlying5 Try.underlying9
    clear hq7 hbs7 hbo7 hbs8 hbo8 con7
    go_wp2
    go_ret
    exact ⟨by simp, hw7⟩

set_option maxRecDepth 100000 in
theorem lifted (os : Os) (started : os.Started) (H : Type) (enc : TypeId × Value → H) :
    ReturnsInHanded {} Try.checked os 3 .any (Rows.cutSplitsSpec.pre6 enc Try.prog Try.f3 Rows.cutSplitsRow.domain false) (Rows.cutSplitsSpec.post enc Try.prog Try.f3 false true false false) := by
  refine returnsInHanded_of_change (C := Try.checked) own started (by kernel_rfl) Try.func3
    (ChangeSpec.witness6 (enc := enc) (C := Try.checked) false ⟨#[], #[.slice none 0 0, .int .u8 0], []⟩ 8 (by kernel_rfl) (by kernel_rfl) (by kernel_rfl) (by kernel_rfl)) ?_
  intro W base args ds gs before hval0 hW hcnd _
  have hval : ∀ (j : Nat) t v, Try.f3.params[j]? = some t → args[j]? = some v → Value.okWide Try.prog W .any base t v := hval0
  have hW' := hW
  obtain ⟨p, q, hA0, hV, rfl, hfz, hnd⟩ := hW
  have hA : DataW.TrodAll enc Try.prog W 0 (fun _ => true) true Try.f3.params.toList args.toList ds p := hA0
  rw [Try.params3] at hA hval
  obtain ⟨v0, vs0, d0, ds0, p0, q0, hargs, rfl, rfl, h0, r0⟩ := trodAll_cons hA
  obtain ⟨v1, vs1, d1, ds1, p1, q1, rfl, rfl, rfl, h1, r1⟩ := trodAll_cons r0
  obtain ⟨rfl, rfl, rfl⟩ := trodAll_nil r1
  obtain rfl : args = #[v0, v1] := by cases args; simp_all
  obtain ⟨rfl, rfl⟩ := trodVars_none hV
  obtain ⟨a0, len0, cap0, rfl⟩ := okWide_slice Try.underlying22 (hval 0 22 v0 rfl rfl)
  have k0 := h0
  have lt0 : ∀ x ∈ p0, x.block < W.heap.size := by obtain ⟨m, hm⟩ := k0; exact DataW.trod_lt m _ _ _ hm
  obtain ⟨z0, w0⟩ : ∃ zs, IsRow .u8 W a0 len0 cap0 zs := by
    obtain ⟨fuel, hf⟩ := h0
    rcases open_ints Try.underlying22 Try.underlying5 (by kernel_rfl) hf with ⟨hcs, _⟩ | ⟨x, l, c, zs, hcs, _, hl, hm, hz, _, hcell, hwz⟩
    · simp [Value.cells] at hcs
      obtain ⟨rfl, rfl, rfl⟩ := hcs
      exact ⟨[], .inl ⟨rfl, rfl, rfl, rfl⟩⟩
    · simp [Value.cells] at hcs
      obtain ⟨rfl, rfl, rfl⟩ := hcs
      exact ⟨zs, .inr ⟨_, rfl, hl, hm, by simpa using hz, hcell, hwz⟩⟩
  obtain ⟨a1, rfl, rfl, rfl, w1⟩ := open_int Try.underlying5 (hval 1 5 v1 rfl rfl) h1
  clear hA0 hval0
  refine (walk a0 len0 cap0 z0 a1 W w0 w1).mono fun e W' ⟨he, bel⟩ => ?_
  subst he
  exact ⟨_, rfl, _, _, _, [], _, [], hW', trodAll_mk1 (shut_bool Try.underlying4 _), (trodAll_cons_mk (Below.trod laidOut (by kernel_rfl) (of_decide_eq_true (by kernel_rfl)) k0 bel lt0) (trodAll_cons_mk (shut_int Try.underlying5 w1) trodAll_mk0)), rfl, bel.frame _, fun h => by cases h⟩

theorem over : Rows.cutSplitsRow.holds Try.pinned (OpenSpec.ofChange Rows.cutSplitsSpec) :=
  OpenClaim.holds_of_wide 3 Try.f3 rfl rfl rfl rfl rfl rfl rfl ⟨rfl, rfl, rfl, rfl, rfl⟩ rfl rfl rfl rfl rfl (by kernel_rfl) Try.func3 (by kernel_rfl)
    (of_decide_eq_true (by kernel_rfl)) (by unfold Func.isWrapper; first | (rw [if_pos (by decide +kernel)]; kernel_rfl) | (rw [if_neg (by decide +kernel)]; exact ⟨rfl, rfl⟩))
    (fun os started H enc _ => lifted os started H enc)

theorem proved : Rows.CutSplitsSaid := over
end Go.Proofs.Ytefgccdpgfdelaa.cutSplits
