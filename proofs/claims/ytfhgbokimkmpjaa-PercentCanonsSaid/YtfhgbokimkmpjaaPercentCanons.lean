/- PercentCanons: the law returns true at whatever input, and writes nothing that was there. Conditions: none. -/
import Derived.Test.YtfhgbokimkmpjaaRows
import Derived.Test.YtfhgbokimkmpjaaPctL
import Derived.WalkKit
import Derived.ProofKit
import Derived.OpenShut
import Derived.ShutString
import Derived.ChangeOld
import Derived.Below
namespace Go.Proofs.Ytfhgbokimkmpjaa.percentCanons
open Go.ChangeShapes Go.WideShapes Go.ChangeAt Go.RowKit
open Go.ChangeMaps (open_string shut_string)
set_option linter.unusedVariables false

theorem own : ownKnob Try.prog.godebug = none := by kernel_rfl
theorem laidOut : laidOutB Try.prog = true := by kernel_rfl

def IsRow (k : IntKind) (w : World) (a : Option Addr) (len cap : Nat) (zs : List Int) : Prop :=
  (a = none ∧ len = 0 ∧ cap = 0 ∧ zs = []) ∨
  ∃ x, a = some x ∧ len ≤ cap ∧ cap ≤ maxLen ∧ zs.length = cap ∧ (∀ i, i < zs.length → w.cell? (x.add i) = some (.int k (zs.getD i 0))) ∧ ∀ n ∈ zs, (Lit.int k n).wf = true

open Pct
open Go.Shelf
theorem row_bytes {w : World} {a : Option Addr} {len cap : Nat} {zs : List Int} (h : IsRow .u8 w a len cap zs) : ∃ bs : List UInt8, bs.length = len ∧ len ≤ cap ∧ Lib.BytesIn w a len (Lib.numsL bs) ∧ len ≤ 9223372036854775807 := by
  rcases h with ⟨rfl, rfl, rfl, rfl⟩ | ⟨x, rfl, h1, h2, h3, h4, h5⟩
  · exact ⟨[], rfl, Nat.le_refl _, Lib.BytesIn.nil _ _ _, by omega⟩
  · have hz : ∀ i, i < len → (Lib.numsL (Lib.bytesOf (zs.take len))).getD i 0 = zs.getD i 0 := fun i hi => by
      have hi' : i < zs.length := by omega
      have hw := bounds_u8 (h5 _ (List.getElem_mem hi'))
      have : (Lib.bytesOf (zs.take len)).getD i 0 = UInt8.ofNat (zs[i]).toNat := by
        simp [Lib.bytesOf, List.getD, hi, List.getElem?_eq_getElem hi']
      rw [numsL_getD _ _ (by simp [Lib.bytesOf]; omega), this, List.getD, List.getElem?_eq_getElem hi']
      simp only [Option.getD_some, UInt8.toNat_ofNat']
      omega
    refine ⟨Lib.bytesOf (zs.take len), by simp [Lib.bytesOf]; omega, h1, Lib.BytesIn.of_cells fun i hi => ?_, by unfold maxLen at h2; omega⟩
    rw [hz i hi]
    exact h4 i (by omega)
set_option maxHeartbeats 8000000 in
set_option maxRecDepth 100000 in
theorem walk (a0 : Option Addr) (len0 cap0 : Nat) (z0 : List Int) (a1 : Int) (w : World) (w0 : IsRow .u8 w a0 len0 cap0 z0) (w1 : (Lit.int .i64 a1).wf = true) :
    Calls Try.prog 5 #[.slice a0 len0 cap0, .int .i64 a1] w fun e w' => e = .returned (.bool true) ∧ Below w.heap.size w w' := by
  obtain ⟨bs, hl, hlc, hb, hmax⟩ := row_bytes w0
  have hnil : a0 = none → len0 = 0 ∧ cap0 = 0 := by rcases w0 with ⟨_, h1, h2, _⟩ | ⟨x, h, _⟩; exact fun _ => ⟨h1, h2⟩; (intro h'; rw [h] at h'; cases h')
  clear w0 w1
  by_cases hbig : 300 < len0
  · have d1 : decide ((300 : Int) < (len0 : Int)) = true := by simp; omega
    clear hnil
    go_enter Try.func5, Try.ntmps5
    go_wp2_with fail
    refine (lives_any _).mono ?_
    rintro e w2 ⟨rfl, hb2⟩
    go_wp2_with fail
    refine (lives_any _).mono ?_
    rintro e w3 ⟨rfl, hb3⟩
    go_wp2
    go_ret
    exact ⟨rfl, hb2.trans (hb3.mono hb2.size)⟩
  · have d1 : decide ((300 : Int) < (len0 : Int)) = false := by simp; omega
    have HL := Lib.hid hl
    clear hl
    go_enter Try.func5, Try.ntmps5
    go_wp2_with fail
    refine (lives_any _).mono ?_
    rintro e w2 ⟨rfl, hw2⟩
    have hb2 := bytes_on hb hw2
    clear hb hmax
    have hw4 := hw2
    have hb4 := hb2
    have con5 := Canon_any a0 len0 cap0 bs a1 w2 HL.out (by omega) hb2
    clear hw2 hb2 hnil
    cases hi : itemsL bs with
    | none =>
      rw [hi, Option.map_none] at con5
      go_wp2_with fail
      refine con5.mono ?_
      intro e w5 hp5
      obtain ⟨q5, c5, rfl, hbel5⟩ := text_none hp5
      have hw5 := hw4.trans (hbel5.mono hw4.size)
      have hb5 := bytes_on hb4 hbel5
      have hcv := conv_bytes (c := cap0) hb5 HL.out
      have con6 := refCanon_any ⟨bs.toArray⟩ a1 w5 (by show bs.toArray.size ≤ _; simp; have := HL.out; omega)
      rw [show (⟨bs.toArray⟩ : ByteArray).data.toList = bs from by simp, hi] at con6
      clear con5 hp5 hbel5 hb4 hi
      go_wp2_with fail
      refine con6.mono ?_
      rintro e w6 ⟨x, rfl, hx, hbel6⟩
      have hw6 := hw5.trans (hbel6.mono hw5.size)
      clear con6 hbel6 hb5 hcv
      go_wp2
      go_ret
      exact ⟨rfl, hw6⟩
    | some m =>
      have hml : m.length ≤ 300 := by have h1 := items_len bs m hi; have h2 := HL.out; omega
      have hcl : (canL a1 m).length ≤ 900 := by have := can_len a1 m; omega
      obtain ⟨k5, hk5⟩ : ∃ k, (canL a1 m).length = k := ⟨_, rfl⟩
      rw [hk5] at hcl
      have HK5 := Lib.hid hk5
      rw [hi, Option.map_some] at con5
      clear hk5
      go_wp2_with fail
      refine con5.mono ?_
      intro e w5 hp5
      obtain ⟨q5, c5, rfl, hc5, hby5, hbel5⟩ := text_some HK5.out hp5
      have hw5 := hw4.trans (hbel5.mono hw4.size)
      have hb5 := bytes_on hb4 hbel5
      have hcv := conv_bytes (c := cap0) hb5 HL.out
      have con6 := refCanon_any ⟨bs.toArray⟩ a1 w5 (by show bs.toArray.size ≤ _; simp; have := HL.out; omega)
      rw [show (⟨bs.toArray⟩ : ByteArray).data.toList = bs from by simp, hi] at con6
      clear con5 hp5 hbel5 hb4 hi
      go_wp2_with fail
      refine con6.mono ?_
      rintro e w6 ⟨x, rfl, hx, hbel6⟩
      obtain rfl : x = ⟨(canL a1 m).toArray⟩ := ba_ext _ _ (by rw [hx.out]; rfl)
      have hw6 := hw5.trans (hbel6.mono hw5.size)
      have hcv3 := conv_bytes (c := c5) (bytes_on hby5 hbel6) HK5.out
      have e2 := str_eq (canL a1 m) (canL a1 m)
      rw [decide_eq_true rfl] at e2
      clear con6 hbel6 hb5 hcv hby5 hx
      generalize canL a1 m = dm at *
      go_wp2
      go_ret
      exact ⟨rfl, hw6⟩

set_option maxRecDepth 100000 in
theorem lifted (os : Os) (started : os.Started) (H : Type) (enc : TypeId × Value → H) :
    ReturnsInHanded {} Try.checked os 5 .any (Rows.percentCanonsSpec.pre6 enc Try.prog Try.f5 Rows.percentCanonsRow.domain false) (Rows.percentCanonsSpec.post enc Try.prog Try.f5 false true false false) := by
  refine returnsInHanded_of_change (C := Try.checked) own started (by kernel_rfl) Try.func5
    (ChangeSpec.witness6 (enc := enc) (C := Try.checked) false ⟨#[], #[.slice none 0 0, .int .i64 0], []⟩ 8 (by kernel_rfl) (by kernel_rfl) (by kernel_rfl) (by kernel_rfl)) ?_
  intro W base args ds gs before hval0 hW hcnd _
  have hval : ∀ (j : Nat) t v, Try.f5.params[j]? = some t → args[j]? = some v → Value.okWide Try.prog W .any base t v := hval0
  have hW' := hW
  obtain ⟨p, q, hA0, hV, rfl, hfz, hnd⟩ := hW
  have hA : DataW.TrodAll enc Try.prog W 0 (fun _ => true) true Try.f5.params.toList args.toList ds p := hA0
  rw [Try.params5] at hA hval
  obtain ⟨v0, vs0, d0, ds0, p0, q0, hargs, rfl, rfl, h0, r0⟩ := trodAll_cons hA
  obtain ⟨v1, vs1, d1, ds1, p1, q1, rfl, rfl, rfl, h1, r1⟩ := trodAll_cons r0
  obtain ⟨rfl, rfl, rfl⟩ := trodAll_nil r1
  obtain rfl : args = #[v0, v1] := by cases args; simp_all
  obtain ⟨rfl, rfl⟩ := trodVars_none hV
  obtain ⟨a0, len0, cap0, rfl⟩ := okWide_slice Try.underlying22 (hval 0 22 v0 rfl rfl)
  have k0 := h0
  have lt0 : ∀ x ∈ p0, x.block < W.heap.size := by obtain ⟨m, hm⟩ := k0; exact DataW.trod_lt m _ _ _ hm
  obtain ⟨z0, w0⟩ : ∃ zs, IsRow .u8 W a0 len0 cap0 zs := by
    obtain ⟨fuel, hf⟩ := h0
    rcases open_ints Try.underlying22 Try.underlying5 (by kernel_rfl) hf with ⟨hcs, _⟩ | ⟨x, l, c, zs, hcs, _, hl, hm, hz, _, hcell, hwz⟩
    · simp [Value.cells] at hcs
      obtain ⟨rfl, rfl, rfl⟩ := hcs
      exact ⟨[], .inl ⟨rfl, rfl, rfl, rfl⟩⟩
    · simp [Value.cells] at hcs
      obtain ⟨rfl, rfl, rfl⟩ := hcs
      exact ⟨zs, .inr ⟨_, rfl, hl, hm, by simpa using hz, hcell, hwz⟩⟩
  obtain ⟨a1, rfl, rfl, rfl, w1⟩ := open_int Try.underlying3 (hval 1 3 v1 rfl rfl) h1
  clear hA0 hval0
  refine (walk a0 len0 cap0 z0 a1 W w0 w1).mono fun e W' ⟨he, bel⟩ => ?_
  subst he
  exact ⟨_, rfl, _, _, _, [], _, [], hW', trodAll_mk1 (shut_bool Try.underlying4 _), (trodAll_cons_mk (Below.trod laidOut (by kernel_rfl) (of_decide_eq_true (by kernel_rfl)) k0 bel lt0) (trodAll_cons_mk (shut_int Try.underlying3 w1) trodAll_mk0)), rfl, bel.frame _, fun h => by cases h⟩

theorem over : Rows.percentCanonsRow.holds Try.pinned (OpenSpec.ofChange Rows.percentCanonsSpec) :=
  OpenClaim.holds_of_wide 5 Try.f5 rfl rfl rfl rfl rfl rfl rfl ⟨rfl, rfl, rfl, rfl, rfl⟩ rfl rfl rfl rfl rfl (by kernel_rfl) Try.func5 (by kernel_rfl)
    (of_decide_eq_true (by kernel_rfl)) (by unfold Func.isWrapper; first | (rw [if_pos (by decide +kernel)]; kernel_rfl) | (rw [if_neg (by decide +kernel)]; exact ⟨rfl, rfl⟩))
    (fun os started H enc _ => lifted os started H enc)

theorem proved : Rows.PercentCanonsSaid := over
end Go.Proofs.Ytfhgbokimkmpjaa.percentCanons
