/- CutFields: the law returns true at whatever input, and writes nothing that was there. Conditions: none. -/
import Derived.Test.YtefgccdpgfdelaaRows
import Derived.Test.YtefgccdpgfdelaaLawF
import Derived.Test.YtefgccdpgfdelaaFieldE
import Derived.WalkKit
import Derived.ProofKit
import Derived.OpenShut
import Derived.ShutString
import Derived.ChangeOld
import Derived.Below
namespace Go.Proofs.Ytefgccdpgfdelaa.cutFields
open Go.ChangeShapes Go.WideShapes Go.ChangeAt Go.RowKit
open Go.ChangeMaps (open_string shut_string)
set_option linter.unusedVariables false

theorem own : ownKnob Try.prog.godebug = none := by kernel_rfl
theorem laidOut : laidOutB Try.prog = true := by kernel_rfl

def IsRow (k : IntKind) (w : World) (a : Option Addr) (len cap : Nat) (zs : List Int) : Prop :=
  (a = none ∧ len = 0 ∧ cap = 0 ∧ zs = []) ∨
  ∃ x, a = some x ∧ len ≤ cap ∧ cap ≤ maxLen ∧ zs.length = cap ∧ (∀ i, i < zs.length → w.cell? (x.add i) = some (.int k (zs.getD i 0))) ∧ ∀ n ∈ zs, (Lit.int k n).wf = true

theorem row_bytes {w : World} {a : Option Addr} {len cap : Nat} {zs : List Int} (h : IsRow .u8 w a len cap zs) : ∃ bs : List UInt8, bs.length = len ∧ len ≤ cap ∧ Lib.BytesIn w a len (Lib.numsL bs) ∧ len ≤ 9223372036854775807 := by
  rcases h with ⟨rfl, rfl, rfl, rfl⟩ | ⟨x, rfl, h1, h2, h3, h4, h5⟩
  · exact ⟨[], rfl, Nat.le_refl _, Lib.BytesIn.nil _ _ _, by omega⟩
  · have hz : ∀ i, i < len → (Lib.numsL (Lib.bytesOf (zs.take len))).getD i 0 = zs.getD i 0 := fun i hi => by
      have hi' : i < zs.length := by omega
      have hw := bounds_u8 (h5 _ (List.getElem_mem hi'))
      have : (Lib.bytesOf (zs.take len)).getD i 0 = UInt8.ofNat (zs[i]).toNat := by
        simp [Lib.bytesOf, List.getD, List.getElem?_take, hi, List.getElem?_eq_getElem hi']
      rw [numsL_getD _ _ (by simp [Lib.bytesOf]; omega), this, List.getD, List.getElem?_eq_getElem hi']
      simp only [Option.getD_some, UInt8.toNat_ofNat']
      omega
    refine ⟨Lib.bytesOf (zs.take len), by simp [Lib.bytesOf]; omega, h1, Lib.BytesIn.of_cells fun i hi => ?_, by unfold maxLen at h2; omega⟩
    rw [hz i hi]
    exact h4 i (by omega)
set_option maxHeartbeats 8000000 in
set_option maxRecDepth 100000 in
theorem walk (a0 : Option Addr) (len0 cap0 : Nat) (z0 : List Int) (w : World) (w0 : IsRow .u8 w a0 len0 cap0 z0) :
    Calls Try.prog 4 #[.slice a0 len0 cap0] w fun e w' => e = .returned (.bool true) ∧ Below w.heap.size w w' := by
  obtain ⟨bs, hl, hlc, hb, hmax⟩ := row_bytes w0
  have hnil : a0 = none → len0 = 0 ∧ cap0 = 0 := by rcases w0 with ⟨_, h1, h2, _⟩ | ⟨x, h, _⟩; exact fun _ => ⟨h1, h2⟩; (intro h'; rw [h] at h'; cases h')
  clear w0
  by_cases hbig : 2000 < len0
  · have d1 : decide ((2000 : Int) < (len0 : Int)) = true := by simp; omega
    go_enter Try.func4, Try.ntmps4
    go_wp2_with fail
    refine (lives_any _).mono ?_
    rintro e w2 ⟨rfl, hb2⟩
    go_wp2_with fail
    refine (lives_any _).mono ?_
    rintro e w3 ⟨rfl, hb3⟩
    go_wp2
    go_ret
    exact ⟨rfl, hb2.trans (hb3.mono hb2.size)⟩
  · have d1 : decide ((2000 : Int) < (len0 : Int)) = false := by simp; omega
    have hsm : len0 ≤ 2000 := by omega
    go_enter Try.func4, Try.ntmps4
    go_wp2_with fail
    refine (lives_any _).mono ?_
    rintro e w2 ⟨rfl, hb2⟩
    have hbs2 := bytes_keep hb (Keep.of_below hb2) (fun a h1 h2 => bytes_lt hb a h1 h2)
    have hbs3 := bytes_keep hbs2 (Keep.alloc (fun _ => True) w2 (.cells #[] 5)) (fun _ _ _ => trivial)
    have HL := Lib.hid hl
    clear hbig hmax hl
    go_wp2_with (at_builtin; refine wpList_append_bytes rfl _ _ rfl w2.heap.size _ 0 [] rfl (World.ownsRow_made w2 #[] 0 (Nat.le_refl _) (Nat.zero_le _) rfl) a0 len0 cap0 bs rfl hnil HL.out hbs3 (by omega) (by simp) ?_; intro v' w3 hown' hgrow)
    simp only [Nat.zero_add, List.nil_append] at hown'
    obtain ⟨q3, c3, rfl, _, hc3, _, hbo3, hblk3⟩ := row_open hown'
    have hb3 : Below w2.heap.size w2 w3 := ((Below.refl _ w2).alloc (Nat.le_refl _) _).grown hgrow (by simp) (fun b hg => by cases hg; exact Nat.le_refl _)
    have hbs4 := bytes_keep hbs2 (Keep.of_below hb3) (fun a h1 h2 => bytes_lt hbs2 a h1 h2)
    have hw3 : Below w.heap.size w w3 := hb2.trans (hb3.mono hb2.size)
    clear hgrow hown' hbs2 hbs3 hb3
    have hcva : ∀ W : World, Lib.BytesIn W a0 len0 (Lib.numsL bs) → (convert 22 9 (.slice a0 len0 cap0)).run Try.prog W = .ok (.string ⟨bs.toArray⟩) W := fun W h => by
      have h := h.convert (P := Try.prog) (by rw [Lib.numsL_length, HL.out]) cap0 22 5 9 Try.underlying22 Try.underlying5 Try.underlying9
      rwa [strOfNums_numsL] at h
    have hcvo : ∀ W : World, Lib.BytesIn W q3 len0 (Lib.numsL bs) → (convert 22 9 (.slice q3 len0 c3)).run Try.prog W = .ok (.string ⟨bs.toArray⟩) W := fun W h => by
      have h := h.convert (P := Try.prog) (by rw [Lib.numsL_length, HL.out]) c3 22 5 9 Try.underlying22 Try.underlying5 Try.underlying9
      rwa [strOfNums_numsL] at h
    obtain ⟨tf, te, htr⟩ := trims bs
    have hcvt : ∀ (W : World) q c', Lib.BytesIn W q (sub bs tf te).length (Lib.numsL (sub bs tf te)) → (convert 22 9 (.slice q (sub bs tf te).length c')).run Try.prog W = .ok (.string ⟨(sub bs tf te).toArray⟩) W := fun W q c' h => by
      have h := h.convert (P := Try.prog) (by rw [Lib.numsL_length]) c' 22 5 9 Try.underlying22 Try.underlying5 Try.underlying9
      rwa [strOfNums_numsL] at h
    have hdat : (⟨bs.toArray⟩ : ByteArray).data.toList = bs := by simp
    have hbsz : (⟨bs.toArray⟩ : ByteArray).size ≤ 1099511627775 := by show bs.toArray.size ≤ _; simp; have := HL.out; omega
    have conF := fun W => refFields_any ⟨bs.toArray⟩ W hbsz
    have conT := fun W => refTrim_any ⟨bs.toArray⟩ tf te W hbsz (by rw [hdat]; exact htr)
    rw [hdat] at conF conT
    have HD := Lib.hid hdat
    have hfl : (fieldsL bs).length ≤ 2001 := by have h1 := fields_len bs; have h2 := spansGo_len blankB bs 0 0; have := HL.out; unfold spansL at h1; omega
    have hfm : ∀ x ∈ fieldsL bs, x.length ≤ 140737488355328 := fun x hx => by have := fields_mem bs x hx; have := HL.out; omega
    clear hdat hbsz
    go_wp2_with fail
    refine pregion_any (fun W => Lib.BytesIn W q3 len0 (Lib.numsL bs) ∧ Lib.BytesIn W a0 len0 (Lib.numsL bs)) (by kernel_rfl) ?_
    have hS0 : Lib.BytesIn w3.drew q3 len0 (Lib.numsL bs) ∧ Lib.BytesIn w3.drew a0 len0 (Lib.numsL bs) := ⟨bytes_keep hbo3 (Keep.drew (fun _ => True) _) (fun _ _ _ => trivial), bytes_keep hbs4 (Keep.drew (fun _ => True) _) (fun _ _ _ => trivial)⟩
    have hw3d : Below w.heap.size w w3.drew := hw3.drew
    generalize w3.drew = wd at *
    refine wpAnyH_take (i := 0) (v := (.slice q3 len0 c3)) rfl (by kernel_rfl) (by kernel_rfl) (by kernel_rfl) (fun _ _ _ h => h) (.inl ⟨by kernel_rfl, ?_⟩) hS0 ?_
    · rintro w ⟨h1, h2⟩; go_simp
    refine plist #[true, false, false, false, false, false, false, false, false, false, false, false, false, false, false, false, false, false, false, false, false, false, false, false] (by kernel_rfl) ?_
    refine wpAnyH_take (i := 3) (v := (.slice a0 len0 cap0)) rfl (by kernel_rfl) (by kernel_rfl) (by kernel_rfl) (fun _ _ _ h => h) (.inl ⟨by kernel_rfl, ?_⟩) hS0 ?_
    · rintro w ⟨h1, h2⟩; go_simp
    refine plist #[true, false, false, true, false, false, false, false, false, false, false, false, false, false, false, false, false, false, false, false, false, false, false, false] (by kernel_rfl) ?_
    refine wpAnyH_take (i := 4) (v := (.string ⟨bs.toArray⟩)) rfl (by kernel_rfl) (by kernel_rfl) (by kernel_rfl) (fun _ _ _ h => h) (.inl ⟨by kernel_rfl, ?_⟩) hS0 ?_
    · rintro w ⟨h1, h2⟩; go_simp
    refine plist #[true, false, false, true, true, false, false, false, false, false, false, false, false, false, false, false, false, false, false, false, false, false, false, false] (by kernel_rfl) ?_
    refine pone 1 (by kernel_rfl) rfl fun K hK => ?_
    go_simp
    refine (Fields_any q3 len0 c3 bs wd HL.out (by omega) hS0.1).mono ?_
    rintro e w4 ⟨B, v4, rfl, hB, hrow, hBw, hbel4⟩
    have hit := Fields_iter (by omega) HL.out hB hrow
    have con5 := all_any _ _ _ _ w4 (enters_of Try.func32 (by kernel_rfl) rfl) hit (fun b hb => by
      rcases hb with rfl | hb
      · exact hB.lt
      · exact (hrow.lt b hb).2) (by omega) hfm
    have hS1 := And.intro (bytes_keep hS0.1 (Keep.of_below hbel4) (fun a h1 h2 => bytes_lt hS0.1 a h1 h2)) (bytes_keep hS0.2 (Keep.of_below hbel4) (fun a h1 h2 => bytes_lt hS0.2 a h1 h2))
    have hw4 : Below w.heap.size w w4 := hw3d.trans (hbel4.mono hw3d.size)
    refine hK _ _ hS1 ?_
    clear hK K hit hB hrow hBw hbel4 hS0 hw3d hfm
    refine plist #[true, true, false, true, true, false, false, false, false, false, false, false, false, false, false, false, false, false, false, false, false, false, false, false] (by kernel_rfl) ?_
    refine pone 2 (by kernel_rfl) rfl fun K hK => ?_
    go_simp
    refine con5.mono ?_
    rintro e w5 ⟨v5, rfl, hrow5, hbel5⟩
    obtain ⟨q5, c5, rfl, _, _, _, hst5, hblk5⟩ := strs_row hrow5
    have hS2 := And.intro (bytes_keep hS1.1 (Keep.of_below hbel5) (fun a h1 h2 => bytes_lt hS1.1 a h1 h2)) (bytes_keep hS1.2 (Keep.of_below hbel5) (fun a h1 h2 => bytes_lt hS1.2 a h1 h2))
    have hw5 : Below w.heap.size w w5 := hw4.trans (hbel5.mono hw4.size)
    refine hK _ _ hS2 ?_
    clear hK K con5 hbel5 hS1 hw4
    refine plist #[true, true, true, true, true, false, false, false, false, false, false, false, false, false, false, false, false, false, false, false, false, false, false, false] (by kernel_rfl) ?_
    refine pone 5 (by kernel_rfl) rfl fun K hK => ?_
    go_simp
    refine (conF w5).mono ?_
    rintro e w6 ⟨v6, rfl, hrow6, hbel6⟩
    obtain ⟨q6, c6, rfl, _, _, _, hst6, _⟩ := strs_row hrow6
    have hst56 := strs_keep hst5 (Keep.of_below hbel6) (fun a h1 _ => (hrow5.lt a.block (by rw [h1]; rfl)).2)
    have hS3 := And.intro (bytes_keep hS2.1 (Keep.of_below hbel6) (fun a h1 h2 => bytes_lt hS2.1 a h1 h2)) (bytes_keep hS2.2 (Keep.of_below hbel6) (fun a h1 h2 => bytes_lt hS2.2 a h1 h2))
    have hw6 : Below w.heap.size w w6 := hw5.trans (hbel6.mono hw5.size)
    refine hK _ _ hS3 ?_
    clear hK K conF hbel6 hS2 hw5 hrow5 hrow6 hst5
    have con7 := Same_any q5 q6 (fieldsL bs).length c5 (fieldsL bs).length c6 (fieldsL bs) (fieldsL bs) w6 rfl rfl (by omega) (by omega) hst56 hst6
    rw [sameL_self] at con7
    refine plist #[true, true, true, true, true, true, false, false, false, false, false, false, false, false, false, false, false, false, false, false, false, false, false, false] (by kernel_rfl) ?_
    refine pone 6 (by kernel_rfl) rfl fun K hK => ?_
    go_simp
    refine con7.mono ?_
    rintro e w7 ⟨rfl, hq7⟩
    obtain ⟨hw7, hS4⟩ : Below w.heap.size w w7 ∧ (Lib.BytesIn w7 q3 len0 (Lib.numsL bs) ∧ Lib.BytesIn w7 a0 len0 (Lib.numsL bs)) := by
      obtain ⟨qd, rfl⟩ := hq7
      exact ⟨hw6.trans ⟨rfl, rfl, rfl, Nat.le_refl _, fun _ _ => rfl⟩, hS3⟩
    refine hK _ _ hS4 ?_
    clear hK K con7 hq7 hst56 hst6 hS3 hw6
    refine plist #[true, true, true, true, true, true, true, false, false, false, false, false, false, false, false, false, false, false, false, false, false, false, false, false] (by kernel_rfl) ?_
    refine wpAnyH_take (i := 7) (v := (.bool true)) rfl (by kernel_rfl) (by kernel_rfl) (by kernel_rfl) (fun _ _ _ h => h) (.inl ⟨by kernel_rfl, ?_⟩) hS4 ?_
    · rintro w ⟨h1, h2⟩; go_simp
    refine plist #[true, true, true, true, true, true, true, true, false, false, false, false, false, false, false, false, false, false, false, false, false, false, false, false] (by kernel_rfl) ?_
    refine wpAnyH_take (i := 8) (v := (.slice q3 len0 c3)) rfl (by kernel_rfl) (by kernel_rfl) (by kernel_rfl) (fun _ _ _ h => h) (.inl ⟨by kernel_rfl, ?_⟩) hS4 ?_
    · rintro w ⟨h1, h2⟩; go_simp
    refine plist #[true, true, true, true, true, true, true, true, true, false, false, false, false, false, false, false, false, false, false, false, false, false, false, false] (by kernel_rfl) ?_
    refine wpAnyH_take (i := 11) (v := (.slice a0 len0 cap0)) rfl (by kernel_rfl) (by kernel_rfl) (by kernel_rfl) (fun _ _ _ h => h) (.inl ⟨by kernel_rfl, ?_⟩) hS4 ?_
    · rintro w ⟨h1, h2⟩; go_simp
    refine plist #[true, true, true, true, true, true, true, true, true, false, false, true, false, false, false, false, false, false, false, false, false, false, false, false] (by kernel_rfl) ?_
    refine wpAnyH_take (i := 12) (v := (.string ⟨bs.toArray⟩)) rfl (by kernel_rfl) (by kernel_rfl) (by kernel_rfl) (fun _ _ _ h => h) (.inl ⟨by kernel_rfl, ?_⟩) hS4 ?_
    · rintro w ⟨h1, h2⟩; go_simp
    refine plist #[true, true, true, true, true, true, true, true, true, false, false, true, true, false, false, false, false, false, false, false, false, false, false, false] (by kernel_rfl) ?_
    refine pone 9 (by kernel_rfl) rfl fun K hK => ?_
    go_simp
    refine (cutTrim_any q3 len0 c3 tf te bs w7 HL.out (by omega) hc3 hS4.1 htr).mono ?_
    rintro e w8 ⟨v8, rfl, hrow8, hbel8⟩
    obtain ⟨q8, c8, rfl, _, _, _, hbt8, _⟩ := row_open hrow8
    have hS5 := And.intro (bytes_keep hS4.1 (Keep.of_below hbel8) (fun a h1 h2 => bytes_lt hS4.1 a h1 h2)) (bytes_keep hS4.2 (Keep.of_below hbel8) (fun a h1 h2 => bytes_lt hS4.2 a h1 h2))
    have hw8 : Below w.heap.size w w8 := hw7.trans (hbel8.mono hw7.size)
    refine hK _ _ hS5 ?_
    clear hK K hrow8 hbel8 hS4 hw7
    have hS6 := And.intro hS5 hbt8
    refine pmore (S' := fun W => (Lib.BytesIn W q3 len0 (Lib.numsL bs) ∧ Lib.BytesIn W a0 len0 (Lib.numsL bs)) ∧ Lib.BytesIn W q8 (sub bs tf te).length (Lib.numsL (sub bs tf te))) (fun _ h => h.1) ?_
    refine plist #[true, true, true, true, true, true, true, true, true, true, false, true, true, false, false, false, false, false, false, false, false, false, false, false] (by kernel_rfl) ?_
    refine wpAnyH_take (i := 10) (v := (.string ⟨(sub bs tf te).toArray⟩)) rfl (by kernel_rfl) (by kernel_rfl) (by kernel_rfl) (fun _ _ _ h => h) (.inl ⟨by kernel_rfl, ?_⟩) hS6 ?_
    · rintro w ⟨⟨h1, h2⟩, h3⟩; go_simp
    refine plist #[true, true, true, true, true, true, true, true, true, true, true, true, true, false, false, false, false, false, false, false, false, false, false, false] (by kernel_rfl) ?_
    refine pone 13 (by kernel_rfl) rfl fun K hK => ?_
    go_simp
    refine (conT w8).mono ?_
    rintro e w9 ⟨x9, rfl, HX9, rfl⟩
    obtain rfl : x9 = ⟨(sub bs tf te).toArray⟩ := by apply ByteArray.ext; apply Array.ext'; rw [HX9.out]
    refine hK _ _ hS6 ?_
    clear hK K conT HX9
    refine plist #[true, true, true, true, true, true, true, true, true, true, true, true, true, true, false, false, false, false, false, false, false, false, false, false] (by kernel_rfl) ?_
    refine wpAnyH_take (i := 14) (v := (.bool true)) rfl (by kernel_rfl) (by kernel_rfl) (by kernel_rfl) (fun _ _ _ h => h) (.inl ⟨by kernel_rfl, ?_⟩) hS6 ?_
    · rintro w ⟨⟨h1, h2⟩, h3⟩; go_simp
    refine plist #[true, true, true, true, true, true, true, true, true, true, true, true, true, true, true, false, false, false, false, false, false, false, false, false] (by kernel_rfl) ?_
    refine wpAnyH_take (i := 15) (v := (.bool true)) rfl (by kernel_rfl) (by kernel_rfl) (by kernel_rfl) (fun _ _ _ h => h) (.inl ⟨by kernel_rfl, ?_⟩) hS6 ?_
    · rintro w ⟨⟨h1, h2⟩, h3⟩; go_simp
    refine plist #[true, true, true, true, true, true, true, true, true, true, true, true, true, true, true, true, false, false, false, false, false, false, false, false] (by kernel_rfl) ?_
    refine wpAnyH_take (i := 16) (v := (.bool true)) rfl (by kernel_rfl) (by kernel_rfl) (by kernel_rfl) (fun _ _ _ h => h) (.inl ⟨by kernel_rfl, ?_⟩) hS6 ?_
    · rintro w ⟨⟨h1, h2⟩, h3⟩; go_simp
    refine plist #[true, true, true, true, true, true, true, true, true, true, true, true, true, true, true, true, true, false, false, false, false, false, false, false] (by kernel_rfl) ?_
    refine wpAnyH_take (i := 17) (v := (.slice q3 len0 c3)) rfl (by kernel_rfl) (by kernel_rfl) (by kernel_rfl) (fun _ _ _ h => h) (.inl ⟨by kernel_rfl, ?_⟩) hS6 ?_
    · rintro w ⟨⟨h1, h2⟩, h3⟩; go_simp
    refine plist #[true, true, true, true, true, true, true, true, true, true, true, true, true, true, true, true, true, true, false, false, false, false, false, false] (by kernel_rfl) ?_
    refine wpAnyH_take (i := 18) (v := (.string ⟨bs.toArray⟩)) rfl (by kernel_rfl) (by kernel_rfl) (by kernel_rfl) (fun _ _ _ h => h) (.inl ⟨by kernel_rfl, ?_⟩) hS6 ?_
    · rintro w ⟨⟨h1, h2⟩, h3⟩; go_simp
    refine plist #[true, true, true, true, true, true, true, true, true, true, true, true, true, true, true, true, true, true, true, false, false, false, false, false] (by kernel_rfl) ?_
    refine wpAnyH_take (i := 19) (v := (.slice a0 len0 cap0)) rfl (by kernel_rfl) (by kernel_rfl) (by kernel_rfl) (fun _ _ _ h => h) (.inl ⟨by kernel_rfl, ?_⟩) hS6 ?_
    · rintro w ⟨⟨h1, h2⟩, h3⟩; go_simp
    refine plist #[true, true, true, true, true, true, true, true, true, true, true, true, true, true, true, true, true, true, true, true, false, false, false, false] (by kernel_rfl) ?_
    refine wpAnyH_take (i := 20) (v := (.string ⟨bs.toArray⟩)) rfl (by kernel_rfl) (by kernel_rfl) (by kernel_rfl) (fun _ _ _ h => h) (.inl ⟨by kernel_rfl, ?_⟩) hS6 ?_
    · rintro w ⟨⟨h1, h2⟩, h3⟩; go_simp
    refine plist #[true, true, true, true, true, true, true, true, true, true, true, true, true, true, true, true, true, true, true, true, true, false, false, false] (by kernel_rfl) ?_
    refine pone 21 (by kernel_rfl) rfl fun K hK => ?_
    go_simp
    refine hK _ _ hS6 ?_
    clear hK K
    refine plist #[true, true, true, true, true, true, true, true, true, true, true, true, true, true, true, true, true, true, true, true, true, true, false, false] (by kernel_rfl) ?_
    refine pone 22 (by kernel_rfl) rfl fun K hK => ?_
    go_simp
    refine hK _ _ hS6 ?_
    clear hK K
    refine plist #[true, true, true, true, true, true, true, true, true, true, true, true, true, true, true, true, true, true, true, true, true, true, true, false] (by kernel_rfl) ?_
    refine pone 23 (by kernel_rfl) rfl fun K hK => ?_
    go_simp
    refine hK _ _ hS6 ?_
    clear hK K
    refine pdone (by kernel_rfl) ?_ _
    go_wp2
    go_ret
    exact ⟨rfl, hw8⟩

set_option maxRecDepth 100000 in
theorem lifted (os : Os) (started : os.Started) (H : Type) (enc : TypeId × Value → H) :
    ReturnsInHanded {} Try.checked os 4 .any (Rows.cutFieldsSpec.pre6 enc Try.prog Try.f4 Rows.cutFieldsRow.domain false) (Rows.cutFieldsSpec.post enc Try.prog Try.f4 false true false false) := by
  refine returnsInHanded_of_change (C := Try.checked) own started (by kernel_rfl) Try.func4
    (ChangeSpec.witness6 (enc := enc) (C := Try.checked) false ⟨#[], #[.slice none 0 0], []⟩ 8 (by kernel_rfl) (by kernel_rfl) (by kernel_rfl) (by kernel_rfl)) ?_
  intro W base args ds gs before hval0 hW hcnd _
  have hval : ∀ (j : Nat) t v, Try.f4.params[j]? = some t → args[j]? = some v → Value.okWide Try.prog W .any base t v := hval0
  have hW' := hW
  obtain ⟨p, q, hA0, hV, rfl, hfz, hnd⟩ := hW
  have hA : DataW.TrodAll enc Try.prog W 0 (fun _ => true) true Try.f4.params.toList args.toList ds p := hA0
  rw [Try.params4] at hA hval
  obtain ⟨v0, vs0, d0, ds0, p0, q0, hargs, rfl, rfl, h0, r0⟩ := trodAll_cons hA
  obtain ⟨rfl, rfl, rfl⟩ := trodAll_nil r0
  obtain rfl : args = #[v0] := by cases args; simp_all
  obtain ⟨rfl, rfl⟩ := trodVars_none hV
  obtain ⟨a0, len0, cap0, rfl⟩ := okWide_slice Try.underlying22 (hval 0 22 v0 rfl rfl)
  have k0 := h0
  have lt0 : ∀ x ∈ p0, x.block < W.heap.size := by obtain ⟨m, hm⟩ := k0; exact DataW.trod_lt m _ _ _ hm
  obtain ⟨z0, w0⟩ : ∃ zs, IsRow .u8 W a0 len0 cap0 zs := by
    obtain ⟨fuel, hf⟩ := h0
    rcases open_ints Try.underlying22 Try.underlying5 (by kernel_rfl) hf with ⟨hcs, _⟩ | ⟨x, l, c, zs, hcs, _, hl, hm, hz, _, hcell, hwz⟩
    · simp [Value.cells] at hcs
      obtain ⟨rfl, rfl, rfl⟩ := hcs
      exact ⟨[], .inl ⟨rfl, rfl, rfl, rfl⟩⟩
    · simp [Value.cells] at hcs
      obtain ⟨rfl, rfl, rfl⟩ := hcs
      exact ⟨zs, .inr ⟨_, rfl, hl, hm, by simpa using hz, hcell, hwz⟩⟩
  clear hA0 hval0
  refine (walk a0 len0 cap0 z0 W w0).mono fun e W' ⟨he, bel⟩ => ?_
  subst he
  exact ⟨_, rfl, _, _, _, [], _, [], hW', trodAll_mk1 (shut_bool Try.underlying4 _), (trodAll_cons_mk (Below.trod laidOut (by kernel_rfl) (of_decide_eq_true (by kernel_rfl)) k0 bel lt0) trodAll_mk0), rfl, bel.frame _, fun h => by cases h⟩

theorem over : Rows.cutFieldsRow.holds Try.pinned (OpenSpec.ofChange Rows.cutFieldsSpec) :=
  OpenClaim.holds_of_wide 4 Try.f4 rfl rfl rfl rfl rfl rfl rfl ⟨rfl, rfl, rfl, rfl, rfl⟩ rfl rfl rfl rfl rfl (by kernel_rfl) Try.func4 (by kernel_rfl)
    (of_decide_eq_true (by kernel_rfl)) (by unfold Func.isWrapper; first | (rw [if_pos (by decide +kernel)]; kernel_rfl) | (rw [if_neg (by decide +kernel)]; exact ⟨rfl, rfl⟩))
    (fun os started H enc _ => lifted os started H enc)

theorem proved : Rows.CutFieldsSaid := over
end Go.Proofs.Ytefgccdpgfdelaa.cutFields
