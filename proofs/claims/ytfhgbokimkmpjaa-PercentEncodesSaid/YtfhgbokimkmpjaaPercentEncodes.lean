/- PercentEncodes: the law returns true at whatever input, and writes nothing that was there. Conditions: none. -/
import Derived.Test.YtfhgbokimkmpjaaRows
import Derived.Test.YtfhgbokimkmpjaaPctL
import Derived.WalkKit
import Derived.ProofKit
import Derived.OpenShut
import Derived.ShutString
import Derived.ChangeOld
import Derived.Below
namespace Go.Proofs.Ytfhgbokimkmpjaa.percentEncodes
open Go.ChangeShapes Go.WideShapes Go.ChangeAt Go.RowKit
open Go.ChangeMaps (open_string shut_string)
set_option linter.unusedVariables false

theorem own : ownKnob Try.prog.godebug = none := by kernel_rfl
theorem laidOut : laidOutB Try.prog = true := by kernel_rfl

def IsRow (k : IntKind) (w : World) (a : Option Addr) (len cap : Nat) (zs : List Int) : Prop :=
  (a = none ∧ len = 0 ∧ cap = 0 ∧ zs = []) ∨
  ∃ x, a = some x ∧ len ≤ cap ∧ cap ≤ maxLen ∧ zs.length = cap ∧ (∀ i, i < zs.length → w.cell? (x.add i) = some (.int k (zs.getD i 0))) ∧ ∀ n ∈ zs, (Lit.int k n).wf = true

open Pct
open Go.Shelf
theorem row_bytes {w : World} {a : Option Addr} {len cap : Nat} {zs : List Int} (h : IsRow .u8 w a len cap zs) : ∃ bs : List UInt8, bs.length = len ∧ len ≤ cap ∧ Lib.BytesIn w a len (Lib.numsL bs) ∧ len ≤ 9223372036854775807 := by
  rcases h with ⟨rfl, rfl, rfl, rfl⟩ | ⟨x, rfl, h1, h2, h3, h4, h5⟩
  · exact ⟨[], rfl, Nat.le_refl _, Lib.BytesIn.nil _ _ _, by omega⟩
  · have hz : ∀ i, i < len → (Lib.numsL (Lib.bytesOf (zs.take len))).getD i 0 = zs.getD i 0 := fun i hi => by
      have hi' : i < zs.length := by omega
      have hw := bounds_u8 (h5 _ (List.getElem_mem hi'))
      have : (Lib.bytesOf (zs.take len)).getD i 0 = UInt8.ofNat (zs[i]).toNat := by
        simp [Lib.bytesOf, List.getD, hi, List.getElem?_eq_getElem hi']
      rw [numsL_getD _ _ (by simp [Lib.bytesOf]; omega), this, List.getD, List.getElem?_eq_getElem hi']
      simp only [Option.getD_some, UInt8.toNat_ofNat']
      omega
    refine ⟨Lib.bytesOf (zs.take len), by simp [Lib.bytesOf]; omega, h1, Lib.BytesIn.of_cells fun i hi => ?_, by unfold maxLen at h2; omega⟩
    rw [hz i hi]
    exact h4 i (by omega)
set_option maxHeartbeats 8000000 in
set_option maxRecDepth 100000 in
theorem walk (a0 : Option Addr) (len0 cap0 : Nat) (z0 : List Int) (a1 : Int) (w : World) (w0 : IsRow .u8 w a0 len0 cap0 z0) (w1 : (Lit.int .i64 a1).wf = true) :
    Calls Try.prog 3 #[.slice a0 len0 cap0, .int .i64 a1] w fun e w' => e = .returned (.bool true) ∧ Below w.heap.size w w' := by
  obtain ⟨bs, hl, hlc, hb, hmax⟩ := row_bytes w0
  have hnil : a0 = none → len0 = 0 ∧ cap0 = 0 := by rcases w0 with ⟨_, h1, h2, _⟩ | ⟨x, h, _⟩; exact fun _ => ⟨h1, h2⟩; (intro h'; rw [h] at h'; cases h')
  clear w0 w1
  by_cases hbig : 500 < len0
  · have d1 : decide ((500 : Int) < (len0 : Int)) = true := by simp; omega
    clear hnil
    go_enter Try.func3, Try.ntmps3
    go_wp2_with fail
    refine (lives_any _).mono ?_
    rintro e w2 ⟨rfl, hb2⟩
    go_wp2_with fail
    refine (lives_any _).mono ?_
    rintro e w3 ⟨rfl, hb3⟩
    go_wp2
    go_ret
    exact ⟨rfl, hb2.trans (hb3.mono hb2.size)⟩
  · have d1 : decide ((500 : Int) < (len0 : Int)) = false := by simp; omega
    have HL := Lib.hid hl
    clear hl
    go_enter Try.func3, Try.ntmps3
    go_wp2_with fail
    refine (lives_any _).mono ?_
    rintro e w2 ⟨rfl, hw2⟩
    have hb2 := bytes_on hb hw2
    clear hb hmax
    have hmade : (w2.alloc (.cells #[] 5)).ownsRow w2.heap.size 5 1 (.slice (some ⟨w2.heap.size, 0, none⟩) 0 0) 0 [] := World.ownsRow_made w2 #[] 0 (Nat.le_refl _) (Nat.zero_le _) rfl
    have hB0 := below_alloc (w := w2) (.cells #[] 5)
    have hb3 := bytes_on hb2 hB0
    have h64 : len0 ≤ 1000 := by omega
    go_wp2_with (at_builtin; refine wpList_append_bytes rfl _ _ rfl w2.heap.size (.slice (some ⟨w2.heap.size, 0, none⟩) 0 0) 0 [] rfl hmade a0 len0 cap0 bs rfl hnil HL.out hb3 (by omega) (by simp) ?_; intro v4 w4 hown hgrow)
    have hw4' : Below w2.heap.size w2 w4 := hB0.trans ((Below.refl _ _).grown hgrow (by simp) (fun b h => by cases h; exact Nat.le_refl _))
    simp only [Nat.zero_add, List.nil_append] at hown
    have hw4 := hw2.trans (hw4'.mono hw2.size)
    have hb4 := bytes_on hb2 hw4'
    have hown' : w4.ownsRow w2.heap.size 5 1 v4 len0 (byV bs) := hown
    obtain ⟨q4, c4, rfl, _, hc4, _, ho4, _⟩ := row_open hown'
    clear hmade hB0 hb3 hb2 hown hown' hgrow hw4' hw2 hnil
    obtain ⟨w5, hw5e⟩ : ∃ w5, w4.drew = w5 := ⟨_, rfl⟩
    have hd5 : ∀ S, Keep S w4 w5 := fun S => by rw [← hw5e]; exact Keep.drew S w4
    have hb5 := bytes_keep hb4 (hd5 (fun _ => True)) (fun _ _ _ => trivial)
    have ho5 := bytes_keep ho4 (hd5 (fun _ => True)) (fun _ _ _ => trivial)
    have hw5 : Below w.heap.size w w5 := by rw [← hw5e]; exact hw4.trans ⟨rfl, rfl, rfl, Nat.le_refl _, fun _ _ => rfl⟩
    have HW5 := Lib.hid hw5e
    have hcva : ∀ W : World, Lib.BytesIn W a0 len0 (Lib.numsL bs) → (convert 22 9 (.slice a0 len0 cap0)).run Try.prog W = .ok (.string ⟨bs.toArray⟩) W := fun W h => conv_bytes h HL.out
    have hcvo : ∀ W : World, Lib.BytesIn W q4 len0 (Lib.numsL bs) → (convert 22 9 (.slice q4 len0 c4)).run Try.prog W = .ok (.string ⟨bs.toArray⟩) W := fun W h => conv_bytes h HL.out
    have con6 := Encode_any q4 len0 c4 bs a1 w5 HL.out (by omega) ho5
    obtain ⟨k1, hk1⟩ : ∃ k, (encL a1 bs).length = k := ⟨_, rfl⟩
    have hel : k1 ≤ 1500 := by have h1 := enc_len a1 bs; have h2 := HL.out; omega
    have HK1 := Lib.hid hk1
    have hS : Lib.BytesIn w5 a0 len0 (Lib.numsL bs) ∧ Lib.BytesIn w5 q4 len0 (Lib.numsL bs) := ⟨hb5, ho5⟩
    clear hw5e hd5 hb4 ho4 hb5 ho5 hw4 hk1
    go_wp2_with fail
    refine pregion_any (fun W => Lib.BytesIn W a0 len0 (Lib.numsL bs) ∧ Lib.BytesIn W q4 len0 (Lib.numsL bs)) (by kernel_rfl) ?_
    rw [HW5.out]
    refine wpAnyH_take (i := 0) (v := (.slice q4 len0 c4)) rfl (by kernel_rfl) (by kernel_rfl) (by kernel_rfl) (fun _ _ _ h => h) (.inl ⟨by kernel_rfl, ?_⟩) hS ?_
    · rintro W ⟨h1, h2⟩; go_simp
    simp only [Act.put, List.getElem_toArray, List.getElem_cons_zero, List.setIfInBounds_toArray, List.set_cons_zero, List.set_cons_succ]
    refine plist #[true, false, false, false, false, false, false, false, false, false, false, false, false, false, false, false, false] (by kernel_rfl) ?_
    refine wpAnyH_take (i := 1) (v := (.int .i64 a1)) rfl (by kernel_rfl) (by kernel_rfl) (by kernel_rfl) (fun _ _ _ h => h) (.inl ⟨by kernel_rfl, ?_⟩) hS ?_
    · rintro W ⟨h1, h2⟩; go_simp
    simp only [Act.put, List.getElem_toArray, List.getElem_cons_zero, List.getElem_cons_succ, List.setIfInBounds_toArray, List.set_cons_zero, List.set_cons_succ]
    refine plist #[true, true, false, false, false, false, false, false, false, false, false, false, false, false, false, false, false] (by kernel_rfl) ?_
    refine wpAnyH_take (i := 4) (v := (.slice a0 len0 cap0)) rfl (by kernel_rfl) (by kernel_rfl) (by kernel_rfl) (fun _ _ _ h => h) (.inl ⟨by kernel_rfl, ?_⟩) hS ?_
    · rintro W ⟨h1, h2⟩; go_simp
    simp only [Act.put, List.getElem_toArray, List.getElem_cons_zero, List.getElem_cons_succ, List.setIfInBounds_toArray, List.set_cons_zero, List.set_cons_succ]
    refine plist #[true, true, false, false, true, false, false, false, false, false, false, false, false, false, false, false, false] (by kernel_rfl) ?_
    refine wpAnyH_take (i := 5) (v := (.string ⟨bs.toArray⟩)) rfl (by kernel_rfl) (by kernel_rfl) (by kernel_rfl) (fun _ _ _ h => h) (.inl ⟨by kernel_rfl, ?_⟩) hS ?_
    · rintro W ⟨h1, h2⟩; go_simp
    simp only [Act.put, List.getElem_toArray, List.getElem_cons_zero, List.getElem_cons_succ, List.setIfInBounds_toArray, List.set_cons_zero, List.set_cons_succ]
    refine plist #[true, true, false, false, true, true, false, false, false, false, false, false, false, false, false, false, false] (by kernel_rfl) ?_
    refine wpAnyH_take (i := 6) (v := (.int .i64 a1)) rfl (by kernel_rfl) (by kernel_rfl) (by kernel_rfl) (fun _ _ _ h => h) (.inl ⟨by kernel_rfl, ?_⟩) hS ?_
    · rintro W ⟨h1, h2⟩; go_simp
    simp only [Act.put, List.getElem_toArray, List.getElem_cons_zero, List.getElem_cons_succ, List.setIfInBounds_toArray, List.set_cons_zero, List.set_cons_succ]
    refine plist #[true, true, false, false, true, true, true, false, false, false, false, false, false, false, false, false, false] (by kernel_rfl) ?_
    refine pone 2 (by kernel_rfl) rfl fun K hK => ?_
    go_simp
    refine con6.mono ?_
    rintro e w6 ⟨v6, rfl, hr6, hbel6⟩
    obtain ⟨q6, c6, rfl, _, hc6, _, he6, _⟩ := row_open hr6
    have hk1 := HK1.out
    rw [hk1] at he6
    rw [hk1]
    clear hk1 hr6 con6
    have hw6 := hw5.trans (hbel6.mono hw5.size)
    have hS6 : Lib.BytesIn w6 a0 len0 (Lib.numsL bs) ∧ Lib.BytesIn w6 q4 len0 (Lib.numsL bs) := ⟨bytes_on hS.1 hbel6, bytes_on hS.2 hbel6⟩
    have hT6 : (Lib.BytesIn w6 a0 len0 (Lib.numsL bs) ∧ Lib.BytesIn w6 q4 len0 (Lib.numsL bs)) ∧ Lib.BytesIn w6 q6 k1 (Lib.numsL (encL a1 bs)) := ⟨hS6, he6⟩
    have hcve : ∀ W : World, Lib.BytesIn W q6 k1 (Lib.numsL (encL a1 bs)) → (convert 22 9 (.slice q6 k1 c6)).run Try.prog W = .ok (.string ⟨(encL a1 bs).toArray⟩) W := fun W h => conv_bytes h HK1.out
    refine hK _ _ hS6 ?_
    clear hK K hS hbel6 hS6 he6 hw5
    refine pmore (S' := fun W => (Lib.BytesIn W a0 len0 (Lib.numsL bs) ∧ Lib.BytesIn W q4 len0 (Lib.numsL bs)) ∧ Lib.BytesIn W q6 k1 (Lib.numsL (encL a1 bs))) (fun _ h => h.1) ?_
    refine plist #[true, true, true, false, true, true, true, false, false, false, false, false, false, false, false, false, false] (by kernel_rfl) ?_
    refine wpAnyH_take (i := 3) (v := (.string ⟨(encL a1 bs).toArray⟩)) rfl (by kernel_rfl) (by kernel_rfl) (by kernel_rfl) (fun _ _ _ h => h) (.inl ⟨by kernel_rfl, ?_⟩) hT6 ?_
    · rintro W ⟨⟨h1, h2⟩, h3⟩; go_simp
    simp only [Act.put, List.getElem_toArray, List.getElem_cons_zero, List.getElem_cons_succ, List.setIfInBounds_toArray, List.set_cons_zero, List.set_cons_succ]
    refine plist #[true, true, true, true, true, true, true, false, false, false, false, false, false, false, false, false, false] (by kernel_rfl) ?_
    refine pone 7 (by kernel_rfl) rfl fun K hK => ?_
    go_simp
    have con7 := refEncode_any ⟨bs.toArray⟩ a1 w6 (by show bs.toArray.size ≤ _; simp; have := HL.out; omega)
    rw [show (⟨bs.toArray⟩ : ByteArray).data.toList = bs from by simp] at con7
    refine con7.mono ?_
    rintro e w7 ⟨x7, rfl, hx, q7, rfl⟩
    obtain rfl : x7 = ⟨(encL a1 bs).toArray⟩ := ba_ext _ _ (by rw [hx.out])
    have hT7 : (Lib.BytesIn (w6.drewN q7) a0 len0 (Lib.numsL bs) ∧ Lib.BytesIn (w6.drewN q7) q4 len0 (Lib.numsL bs)) ∧ Lib.BytesIn (w6.drewN q7) q6 k1 (Lib.numsL (encL a1 bs)) := hT6
    have hw7 : Below w.heap.size w (w6.drewN q7) := hw6.trans ⟨rfl, rfl, rfl, Nat.le_refl _, fun _ _ => rfl⟩
    refine hK _ _ hT7 ?_
    clear hK K con7 hx hT6 hw6
    have e1 := str_eq bs bs
    rw [decide_eq_true rfl] at e1
    have e2 := str_eq (encL a1 bs) (encL a1 bs)
    rw [decide_eq_true rfl] at e2
    refine plist #[true, true, true, true, true, true, true, true, false, false, false, false, false, false, false, false, false] (by kernel_rfl) ?_
    refine wpAnyH_take (i := 8) (v := (.bool true)) rfl (by kernel_rfl) (by kernel_rfl) (by kernel_rfl) (fun _ _ _ h => h) (.inl ⟨by kernel_rfl, ?_⟩) hT7 ?_
    · rintro W ⟨⟨h1, h2⟩, h3⟩; go_simp
    simp only [Act.put, List.getElem_toArray, List.getElem_cons_zero, List.getElem_cons_succ, List.setIfInBounds_toArray, List.set_cons_zero, List.set_cons_succ]
    refine plist #[true, true, true, true, true, true, true, true, true, false, false, false, false, false, false, false, false] (by kernel_rfl) ?_
    refine wpAnyH_take (i := 9) (v := (.bool true)) rfl (by kernel_rfl) (by kernel_rfl) (by kernel_rfl) (fun _ _ _ h => h) (.inl ⟨by kernel_rfl, ?_⟩) hT7 ?_
    · rintro W ⟨⟨h1, h2⟩, h3⟩; go_simp
    simp only [Act.put, List.getElem_toArray, List.getElem_cons_zero, List.getElem_cons_succ, List.setIfInBounds_toArray, List.set_cons_zero, List.set_cons_succ]
    refine plist #[true, true, true, true, true, true, true, true, true, true, false, false, false, false, false, false, false] (by kernel_rfl) ?_
    refine wpAnyH_take (i := 10) (v := (.slice q4 len0 c4)) rfl (by kernel_rfl) (by kernel_rfl) (by kernel_rfl) (fun _ _ _ h => h) (.inl ⟨by kernel_rfl, ?_⟩) hT7 ?_
    · rintro W ⟨⟨h1, h2⟩, h3⟩; go_simp
    simp only [Act.put, List.getElem_toArray, List.getElem_cons_zero, List.getElem_cons_succ, List.setIfInBounds_toArray, List.set_cons_zero, List.set_cons_succ]
    refine plist #[true, true, true, true, true, true, true, true, true, true, true, false, false, false, false, false, false] (by kernel_rfl) ?_
    refine wpAnyH_take (i := 11) (v := (.string ⟨bs.toArray⟩)) rfl (by kernel_rfl) (by kernel_rfl) (by kernel_rfl) (fun _ _ _ h => h) (.inl ⟨by kernel_rfl, ?_⟩) hT7 ?_
    · rintro W ⟨⟨h1, h2⟩, h3⟩; go_simp
    simp only [Act.put, List.getElem_toArray, List.getElem_cons_zero, List.getElem_cons_succ, List.setIfInBounds_toArray, List.set_cons_zero, List.set_cons_succ]
    refine plist #[true, true, true, true, true, true, true, true, true, true, true, true, false, false, false, false, false] (by kernel_rfl) ?_
    refine wpAnyH_take (i := 12) (v := (.slice a0 len0 cap0)) rfl (by kernel_rfl) (by kernel_rfl) (by kernel_rfl) (fun _ _ _ h => h) (.inl ⟨by kernel_rfl, ?_⟩) hT7 ?_
    · rintro W ⟨⟨h1, h2⟩, h3⟩; go_simp
    simp only [Act.put, List.getElem_toArray, List.getElem_cons_zero, List.getElem_cons_succ, List.setIfInBounds_toArray, List.set_cons_zero, List.set_cons_succ]
    refine plist #[true, true, true, true, true, true, true, true, true, true, true, true, true, false, false, false, false] (by kernel_rfl) ?_
    refine wpAnyH_take (i := 13) (v := (.string ⟨bs.toArray⟩)) rfl (by kernel_rfl) (by kernel_rfl) (by kernel_rfl) (fun _ _ _ h => h) (.inl ⟨by kernel_rfl, ?_⟩) hT7 ?_
    · rintro W ⟨⟨h1, h2⟩, h3⟩; go_simp
    simp only [Act.put, List.getElem_toArray, List.getElem_cons_zero, List.getElem_cons_succ, List.setIfInBounds_toArray, List.set_cons_zero, List.set_cons_succ]
    refine plist #[true, true, true, true, true, true, true, true, true, true, true, true, true, true, false, false, false] (by kernel_rfl) ?_
    refine wpAnyH_take (i := 14) (v := (.bool true)) rfl (by kernel_rfl) (by kernel_rfl) (by kernel_rfl) (fun _ _ _ h => h) (.inl ⟨by kernel_rfl, ?_⟩) hT7 ?_
    · rintro W ⟨⟨h1, h2⟩, h3⟩; go_simp
    simp only [Act.put, List.getElem_toArray, List.getElem_cons_zero, List.getElem_cons_succ, List.setIfInBounds_toArray, List.set_cons_zero, List.set_cons_succ]
    refine plist #[true, true, true, true, true, true, true, true, true, true, true, true, true, true, true, false, false] (by kernel_rfl) ?_
    refine wpAnyH_take (i := 15) (v := (.bool true)) rfl (by kernel_rfl) (by kernel_rfl) (by kernel_rfl) (fun _ _ _ h => h) (.inl ⟨by kernel_rfl, ?_⟩) hT7 ?_
    · rintro W ⟨⟨h1, h2⟩, h3⟩; go_simp
    simp only [Act.put, List.getElem_toArray, List.getElem_cons_zero, List.getElem_cons_succ, List.setIfInBounds_toArray, List.set_cons_zero, List.set_cons_succ]
    refine plist #[true, true, true, true, true, true, true, true, true, true, true, true, true, true, true, true, false] (by kernel_rfl) ?_
    refine wpAnyH_take (i := 16) (v := (.bool true)) rfl (by kernel_rfl) (by kernel_rfl) (by kernel_rfl) (fun _ _ _ h => h) (.inl ⟨by kernel_rfl, ?_⟩) hT7 ?_
    · rintro W ⟨⟨h1, h2⟩, h3⟩; go_simp
    simp only [Act.put, List.getElem_toArray, List.getElem_cons_zero, List.getElem_cons_succ, List.setIfInBounds_toArray, List.set_cons_zero, List.set_cons_succ]
    refine pdone (by kernel_rfl) ?_ _
    clear hT7 hcva hcvo hcve
    go_wp2
    go_ret
    exact ⟨rfl, hw7⟩

set_option maxRecDepth 100000 in
theorem lifted (os : Os) (started : os.Started) (H : Type) (enc : TypeId × Value → H) :
    ReturnsInHanded {} Try.checked os 3 .any (Rows.percentEncodesSpec.pre6 enc Try.prog Try.f3 Rows.percentEncodesRow.domain false) (Rows.percentEncodesSpec.post enc Try.prog Try.f3 false true false false) := by
  refine returnsInHanded_of_change (C := Try.checked) own started (by kernel_rfl) Try.func3
    (ChangeSpec.witness6 (enc := enc) (C := Try.checked) false ⟨#[], #[.slice none 0 0, .int .i64 0], []⟩ 8 (by kernel_rfl) (by kernel_rfl) (by kernel_rfl) (by kernel_rfl)) ?_
  intro W base args ds gs before hval0 hW hcnd _
  have hval : ∀ (j : Nat) t v, Try.f3.params[j]? = some t → args[j]? = some v → Value.okWide Try.prog W .any base t v := hval0
  have hW' := hW
  obtain ⟨p, q, hA0, hV, rfl, hfz, hnd⟩ := hW
  have hA : DataW.TrodAll enc Try.prog W 0 (fun _ => true) true Try.f3.params.toList args.toList ds p := hA0
  rw [Try.params3] at hA hval
  obtain ⟨v0, vs0, d0, ds0, p0, q0, hargs, rfl, rfl, h0, r0⟩ := trodAll_cons hA
  obtain ⟨v1, vs1, d1, ds1, p1, q1, rfl, rfl, rfl, h1, r1⟩ := trodAll_cons r0
  obtain ⟨rfl, rfl, rfl⟩ := trodAll_nil r1
  obtain rfl : args = #[v0, v1] := by cases args; simp_all
  obtain ⟨rfl, rfl⟩ := trodVars_none hV
  obtain ⟨a0, len0, cap0, rfl⟩ := okWide_slice Try.underlying22 (hval 0 22 v0 rfl rfl)
  have k0 := h0
  have lt0 : ∀ x ∈ p0, x.block < W.heap.size := by obtain ⟨m, hm⟩ := k0; exact DataW.trod_lt m _ _ _ hm
  obtain ⟨z0, w0⟩ : ∃ zs, IsRow .u8 W a0 len0 cap0 zs := by
    obtain ⟨fuel, hf⟩ := h0
    rcases open_ints Try.underlying22 Try.underlying5 (by kernel_rfl) hf with ⟨hcs, _⟩ | ⟨x, l, c, zs, hcs, _, hl, hm, hz, _, hcell, hwz⟩
    · simp [Value.cells] at hcs
      obtain ⟨rfl, rfl, rfl⟩ := hcs
      exact ⟨[], .inl ⟨rfl, rfl, rfl, rfl⟩⟩
    · simp [Value.cells] at hcs
      obtain ⟨rfl, rfl, rfl⟩ := hcs
      exact ⟨zs, .inr ⟨_, rfl, hl, hm, by simpa using hz, hcell, hwz⟩⟩
  obtain ⟨a1, rfl, rfl, rfl, w1⟩ := open_int Try.underlying3 (hval 1 3 v1 rfl rfl) h1
  clear hA0 hval0
  refine (walk a0 len0 cap0 z0 a1 W w0 w1).mono fun e W' ⟨he, bel⟩ => ?_
  subst he
  exact ⟨_, rfl, _, _, _, [], _, [], hW', trodAll_mk1 (shut_bool Try.underlying4 _), (trodAll_cons_mk (Below.trod laidOut (by kernel_rfl) (of_decide_eq_true (by kernel_rfl)) k0 bel lt0) (trodAll_cons_mk (shut_int Try.underlying3 w1) trodAll_mk0)), rfl, bel.frame _, fun h => by cases h⟩

theorem over : Rows.percentEncodesRow.holds Try.pinned (OpenSpec.ofChange Rows.percentEncodesSpec) :=
  OpenClaim.holds_of_wide 3 Try.f3 rfl rfl rfl rfl rfl rfl rfl ⟨rfl, rfl, rfl, rfl, rfl⟩ rfl rfl rfl rfl rfl (by kernel_rfl) Try.func3 (by kernel_rfl)
    (of_decide_eq_true (by kernel_rfl)) (by unfold Func.isWrapper; first | (rw [if_pos (by decide +kernel)]; kernel_rfl) | (rw [if_neg (by decide +kernel)]; exact ⟨rfl, rfl⟩))
    (fun os started H enc _ => lifted os started H enc)

theorem proved : Rows.PercentEncodesSaid := over
end Go.Proofs.Ytfhgbokimkmpjaa.percentEncodes
