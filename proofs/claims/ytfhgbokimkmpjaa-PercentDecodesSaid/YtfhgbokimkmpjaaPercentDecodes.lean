/- PercentDecodes: the law returns true at whatever input, and writes nothing that was there. Conditions: none. -/
import Derived.Test.YtfhgbokimkmpjaaRows
import Derived.Test.YtfhgbokimkmpjaaPctL
import Derived.WalkKit
import Derived.ProofKit
import Derived.OpenShut
import Derived.ShutString
import Derived.ChangeOld
import Derived.Below
namespace Go.Proofs.Ytfhgbokimkmpjaa.percentDecodes
open Go.ChangeShapes Go.WideShapes Go.ChangeAt Go.RowKit
open Go.ChangeMaps (open_string shut_string)
set_option linter.unusedVariables false

theorem own : ownKnob Try.prog.godebug = none := by kernel_rfl
theorem laidOut : laidOutB Try.prog = true := by kernel_rfl

def IsRow (k : IntKind) (w : World) (a : Option Addr) (len cap : Nat) (zs : List Int) : Prop :=
  (a = none ∧ len = 0 ∧ cap = 0 ∧ zs = []) ∨
  ∃ x, a = some x ∧ len ≤ cap ∧ cap ≤ maxLen ∧ zs.length = cap ∧ (∀ i, i < zs.length → w.cell? (x.add i) = some (.int k (zs.getD i 0))) ∧ ∀ n ∈ zs, (Lit.int k n).wf = true

open Pct
open Go.Shelf
theorem row_bytes {w : World} {a : Option Addr} {len cap : Nat} {zs : List Int} (h : IsRow .u8 w a len cap zs) : ∃ bs : List UInt8, bs.length = len ∧ len ≤ cap ∧ Lib.BytesIn w a len (Lib.numsL bs) ∧ len ≤ 9223372036854775807 := by
  rcases h with ⟨rfl, rfl, rfl, rfl⟩ | ⟨x, rfl, h1, h2, h3, h4, h5⟩
  · exact ⟨[], rfl, Nat.le_refl _, Lib.BytesIn.nil _ _ _, by omega⟩
  · have hz : ∀ i, i < len → (Lib.numsL (Lib.bytesOf (zs.take len))).getD i 0 = zs.getD i 0 := fun i hi => by
      have hi' : i < zs.length := by omega
      have hw := bounds_u8 (h5 _ (List.getElem_mem hi'))
      have : (Lib.bytesOf (zs.take len)).getD i 0 = UInt8.ofNat (zs[i]).toNat := by
        simp [Lib.bytesOf, List.getD, hi, List.getElem?_eq_getElem hi']
      rw [numsL_getD _ _ (by simp [Lib.bytesOf]; omega), this, List.getD, List.getElem?_eq_getElem hi']
      simp only [Option.getD_some, UInt8.toNat_ofNat']
      omega
    refine ⟨Lib.bytesOf (zs.take len), by simp [Lib.bytesOf]; omega, h1, Lib.BytesIn.of_cells fun i hi => ?_, by unfold maxLen at h2; omega⟩
    rw [hz i hi]
    exact h4 i (by omega)
set_option maxHeartbeats 8000000 in
set_option maxRecDepth 100000 in
theorem walk (a0 : Option Addr) (len0 cap0 : Nat) (z0 : List Int) (w : World) (w0 : IsRow .u8 w a0 len0 cap0 z0) :
    Calls Try.prog 4 #[.slice a0 len0 cap0] w fun e w' => e = .returned (.bool true) ∧ Below w.heap.size w w' := by
  obtain ⟨bs, hl, hlc, hb, hmax⟩ := row_bytes w0
  have hnil : a0 = none → len0 = 0 ∧ cap0 = 0 := by rcases w0 with ⟨_, h1, h2, _⟩ | ⟨x, h, _⟩; exact fun _ => ⟨h1, h2⟩; (intro h'; rw [h] at h'; cases h')
  clear w0
  by_cases hbig : 300 < len0
  · have d1 : decide ((300 : Int) < (len0 : Int)) = true := by simp; omega
    clear hnil
    go_enter Try.func4, Try.ntmps4
    go_wp2_with fail
    refine (lives_any _).mono ?_
    rintro e w2 ⟨rfl, hb2⟩
    go_wp2_with fail
    refine (lives_any _).mono ?_
    rintro e w3 ⟨rfl, hb3⟩
    go_wp2
    go_ret
    exact ⟨rfl, hb2.trans (hb3.mono hb2.size)⟩
  · have d1 : decide ((300 : Int) < (len0 : Int)) = false := by simp; omega
    have HL := Lib.hid hl
    clear hl
    go_enter Try.func4, Try.ntmps4
    go_wp2_with fail
    refine (lives_any _).mono ?_
    rintro e w2 ⟨rfl, hw2⟩
    have hb2 := bytes_on hb hw2
    clear hb hmax
    have hmade : (w2.alloc (.cells #[] 5)).ownsRow w2.heap.size 5 1 (.slice (some ⟨w2.heap.size, 0, none⟩) 0 0) 0 [] := World.ownsRow_made w2 #[] 0 (Nat.le_refl _) (Nat.zero_le _) rfl
    have hB0 := below_alloc (w := w2) (.cells #[] 5)
    have hb3 := bytes_on hb2 hB0
    have h64 : len0 ≤ 1000 := by omega
    go_wp2_with (at_builtin; refine wpList_append_bytes rfl _ _ rfl w2.heap.size (.slice (some ⟨w2.heap.size, 0, none⟩) 0 0) 0 [] rfl hmade a0 len0 cap0 bs rfl hnil HL.out hb3 (by omega) (by simp) ?_; intro v4 w4 hown hgrow)
    have hw4' : Below w2.heap.size w2 w4 := hB0.trans ((Below.refl _ _).grown hgrow (by simp) (fun b h => by cases h; exact Nat.le_refl _))
    simp only [Nat.zero_add, List.nil_append] at hown
    have hw4 := hw2.trans (hw4'.mono hw2.size)
    have hb4 := bytes_on hb2 hw4'
    have hown' : w4.ownsRow w2.heap.size 5 1 v4 len0 (byV bs) := hown
    obtain ⟨q4, c4, rfl, _, hc4, _, ho4, _⟩ := row_open hown'
    clear hmade hB0 hb3 hb2 hown hown' hgrow hw4' hw2 hnil
    have con5 := Decode_any q4 len0 c4 bs w4 HL.out (by omega) ho4
    cases hi : itemsL bs with
    | none =>
      rw [hi, Option.map_none] at con5
      go_wp2_with fail
      refine con5.mono ?_
      intro e w5 hp5
      obtain ⟨q5, c5, rfl, hbel5⟩ := text_none hp5
      have hw5 := hw4.trans (hbel5.mono hw4.size)
      have hb5 := bytes_on hb4 hbel5
      have ho5 := bytes_on ho4 hbel5
      have hcv := conv_bytes (c := cap0) hb5 HL.out
      have con6 := refDecode_any ⟨bs.toArray⟩ w5 (by show bs.toArray.size ≤ _; simp; have := HL.out; omega)
      rw [show (⟨bs.toArray⟩ : ByteArray).data.toList = bs from by simp, hi] at con6
      have HI := Lib.hid hi
      clear con5 hp5 hbel5 hb4 ho4 hi
      go_wp2_with fail
      refine con6.mono ?_
      rintro e w6 ⟨x, rfl, hx, hbel6⟩
      have hw6 := hw5.trans (hbel6.mono hw5.size)
      have hcv1 := conv_bytes (c := cap0) (bytes_on hb5 hbel6) HL.out
      have hcv2 := conv_bytes (c := c4) (bytes_on ho5 hbel6) HL.out
      have e1 := str_eq bs bs
      rw [decide_eq_true rfl] at e1
      clear con6 hbel6 hb5 ho5 hcv
      go_wp2
      go_ret
      exact ⟨rfl, hw6⟩
    | some m =>
      have hml : m.length ≤ 300 := by have h1 := items_len bs m hi; have h2 := HL.out; omega
      obtain ⟨k5, hk5⟩ : ∃ k, (decL m).length = k := ⟨_, rfl⟩
      have HK5 := Lib.hid hk5
      rw [hi, Option.map_some] at con5
      clear hk5
      go_wp2_with fail
      refine con5.mono ?_
      intro e w5 hp5
      obtain ⟨q5, c5, rfl, hc5, hby5, hbel5⟩ := text_some HK5.out hp5
      have hw5 := hw4.trans (hbel5.mono hw4.size)
      have hb5 := bytes_on hb4 hbel5
      have ho5 := bytes_on ho4 hbel5
      have hcv := conv_bytes (c := cap0) hb5 HL.out
      have con6 := refDecode_any ⟨bs.toArray⟩ w5 (by show bs.toArray.size ≤ _; simp; have := HL.out; omega)
      rw [show (⟨bs.toArray⟩ : ByteArray).data.toList = bs from by simp, hi] at con6
      have HI := Lib.hid hi
      clear con5 hp5 hbel5 hb4 ho4 hi
      go_wp2_with fail
      refine con6.mono ?_
      rintro e w6 ⟨x, rfl, hx, hbel6⟩
      obtain rfl : x = ⟨(decL m).toArray⟩ := ba_ext _ _ (by rw [hx.out]; rfl)
      have hw6 := hw5.trans (hbel6.mono hw5.size)
      have hcv1 := conv_bytes (c := cap0) (bytes_on hb5 hbel6) HL.out
      have hcv2 := conv_bytes (c := c4) (bytes_on ho5 hbel6) HL.out
      have hcv3 := conv_bytes (c := c5) (bytes_on hby5 hbel6) HK5.out
      have e1 := str_eq bs bs
      rw [decide_eq_true rfl] at e1
      have e2 := str_eq (decL m) (decL m)
      rw [decide_eq_true rfl] at e2
      clear con6 hbel6 hb5 ho5 hcv hby5 hx
      generalize decL m = dm at *
      go_wp2
      go_ret
      exact ⟨rfl, hw6⟩

set_option maxRecDepth 100000 in
theorem lifted (os : Os) (started : os.Started) (H : Type) (enc : TypeId × Value → H) :
    ReturnsInHanded {} Try.checked os 4 .any (Rows.percentDecodesSpec.pre6 enc Try.prog Try.f4 Rows.percentDecodesRow.domain false) (Rows.percentDecodesSpec.post enc Try.prog Try.f4 false true false false) := by
  refine returnsInHanded_of_change (C := Try.checked) own started (by kernel_rfl) Try.func4
    (ChangeSpec.witness6 (enc := enc) (C := Try.checked) false ⟨#[], #[.slice none 0 0], []⟩ 8 (by kernel_rfl) (by kernel_rfl) (by kernel_rfl) (by kernel_rfl)) ?_
  intro W base args ds gs before hval0 hW hcnd _
  have hval : ∀ (j : Nat) t v, Try.f4.params[j]? = some t → args[j]? = some v → Value.okWide Try.prog W .any base t v := hval0
  have hW' := hW
  obtain ⟨p, q, hA0, hV, rfl, hfz, hnd⟩ := hW
  have hA : DataW.TrodAll enc Try.prog W 0 (fun _ => true) true Try.f4.params.toList args.toList ds p := hA0
  rw [Try.params4] at hA hval
  obtain ⟨v0, vs0, d0, ds0, p0, q0, hargs, rfl, rfl, h0, r0⟩ := trodAll_cons hA
  obtain ⟨rfl, rfl, rfl⟩ := trodAll_nil r0
  obtain rfl : args = #[v0] := by cases args; simp_all
  obtain ⟨rfl, rfl⟩ := trodVars_none hV
  obtain ⟨a0, len0, cap0, rfl⟩ := okWide_slice Try.underlying22 (hval 0 22 v0 rfl rfl)
  have k0 := h0
  have lt0 : ∀ x ∈ p0, x.block < W.heap.size := by obtain ⟨m, hm⟩ := k0; exact DataW.trod_lt m _ _ _ hm
  obtain ⟨z0, w0⟩ : ∃ zs, IsRow .u8 W a0 len0 cap0 zs := by
    obtain ⟨fuel, hf⟩ := h0
    rcases open_ints Try.underlying22 Try.underlying5 (by kernel_rfl) hf with ⟨hcs, _⟩ | ⟨x, l, c, zs, hcs, _, hl, hm, hz, _, hcell, hwz⟩
    · simp [Value.cells] at hcs
      obtain ⟨rfl, rfl, rfl⟩ := hcs
      exact ⟨[], .inl ⟨rfl, rfl, rfl, rfl⟩⟩
    · simp [Value.cells] at hcs
      obtain ⟨rfl, rfl, rfl⟩ := hcs
      exact ⟨zs, .inr ⟨_, rfl, hl, hm, by simpa using hz, hcell, hwz⟩⟩
  clear hA0 hval0
  refine (walk a0 len0 cap0 z0 W w0).mono fun e W' ⟨he, bel⟩ => ?_
  subst he
  exact ⟨_, rfl, _, _, _, [], _, [], hW', trodAll_mk1 (shut_bool Try.underlying4 _), (trodAll_cons_mk (Below.trod laidOut (by kernel_rfl) (of_decide_eq_true (by kernel_rfl)) k0 bel lt0) trodAll_mk0), rfl, bel.frame _, fun h => by cases h⟩

theorem over : Rows.percentDecodesRow.holds Try.pinned (OpenSpec.ofChange Rows.percentDecodesSpec) :=
  OpenClaim.holds_of_wide 4 Try.f4 rfl rfl rfl rfl rfl rfl rfl ⟨rfl, rfl, rfl, rfl, rfl⟩ rfl rfl rfl rfl rfl (by kernel_rfl) Try.func4 (by kernel_rfl)
    (of_decide_eq_true (by kernel_rfl)) (by unfold Func.isWrapper; first | (rw [if_pos (by decide +kernel)]; kernel_rfl) | (rw [if_neg (by decide +kernel)]; exact ⟨rfl, rfl⟩))
    (fun os started H enc _ => lifted os started H enc)

theorem proved : Rows.PercentDecodesSaid := over
end Go.Proofs.Ytfhgbokimkmpjaa.percentDecodes
