/- HostUps: the law returns true at whatever input, and writes nothing that was there. Conditions: none. -/
import Derived.Test.YtcahakelihigdaaRows
import Derived.Test.YtcahakelihigdaaHostJ
import Derived.WalkKit
import Derived.ProofKit
import Derived.OpenShut
import Derived.ShutString
import Derived.ChangeOld
import Derived.Below
namespace Go.Proofs.Ytcahakelihigdaa.hostUps
open Go.ChangeShapes Go.WideShapes Go.ChangeAt Go.RowKit
open Go.ChangeMaps (open_string shut_string)
set_option linter.unusedVariables false

theorem own : ownKnob Try.prog.godebug = none := by kernel_rfl
theorem laidOut : laidOutB Try.prog = true := by kernel_rfl

def IsRow (k : IntKind) (w : World) (a : Option Addr) (len cap : Nat) (zs : List Int) : Prop :=
  (a = none ∧ len = 0 ∧ cap = 0 ∧ zs = []) ∨
  ∃ x, a = some x ∧ len ≤ cap ∧ cap ≤ maxLen ∧ zs.length = cap ∧ (∀ i, i < zs.length → w.cell? (x.add i) = some (.int k (zs.getD i 0))) ∧ ∀ n ∈ zs, (Lit.int k n).wf = true

open Host
open Go.Shelf
theorem row_bytes {w : World} {a : Option Addr} {len cap : Nat} {zs : List Int} (h : IsRow .u8 w a len cap zs) : ∃ bs : List UInt8, bs.length = len ∧ len ≤ cap ∧ Lib.BytesIn w a len (Lib.numsL bs) ∧ len ≤ 9223372036854775807 := by
  rcases h with ⟨rfl, rfl, rfl, rfl⟩ | ⟨x, rfl, h1, h2, h3, h4, h5⟩
  · exact ⟨[], rfl, Nat.le_refl _, Lib.BytesIn.nil _ _ _, by omega⟩
  · have hz : ∀ i, i < len → (Lib.numsL (Lib.bytesOf (zs.take len))).getD i 0 = zs.getD i 0 := fun i hi => by
      have hi' : i < zs.length := by omega
      have hw := bounds_u8 (h5 _ (List.getElem_mem hi'))
      have : (Lib.bytesOf (zs.take len)).getD i 0 = UInt8.ofNat (zs[i]).toNat := by
        simp [Lib.bytesOf, List.getD, hi, List.getElem?_eq_getElem hi']
      rw [numsL_getD _ _ (by simp [Lib.bytesOf]; omega), this, List.getD, List.getElem?_eq_getElem hi']
      simp only [Option.getD_some, UInt8.toNat_ofNat']
      omega
    refine ⟨Lib.bytesOf (zs.take len), by simp [Lib.bytesOf]; omega, h1, Lib.BytesIn.of_cells fun i hi => ?_, by unfold maxLen at h2; omega⟩
    rw [hz i hi]
    exact h4 i (by omega)
set_option maxHeartbeats 8000000 in
set_option maxRecDepth 100000 in
theorem walk (a0 : Option Addr) (len0 cap0 : Nat) (z0 : List Int) (a1 : Option Addr) (len1 cap1 : Nat) (z1 : List Int) (w : World) (w0 : IsRow .u8 w a0 len0 cap0 z0) (w1 : IsRow .u8 w a1 len1 cap1 z1) :
    Calls Try.prog 4 #[.slice a0 len0 cap0, .slice a1 len1 cap1] w fun e w' => e = .returned (.bool true) ∧ Below w.heap.size w w' := by
  obtain ⟨bs, hl0, hlc0, hb0, hmax0⟩ := row_bytes w0
  have hnil0 : a0 = none → len0 = 0 ∧ cap0 = 0 := by rcases w0 with ⟨_, h1, h2, _⟩ | ⟨x, h, _⟩; exact fun _ => ⟨h1, h2⟩; (intro h'; rw [h] at h'; cases h')
  clear w0
  obtain ⟨ds, hl1, hlc1, hb1, hmax1⟩ := row_bytes w1
  have hnil1 : a1 = none → len1 = 0 ∧ cap1 = 0 := by rcases w1 with ⟨_, h1, h2, _⟩ | ⟨x, h, _⟩; exact fun _ => ⟨h1, h2⟩; (intro h'; rw [h] at h'; cases h')
  clear w1
  clear hnil0 hnil1
  by_cases hbig : 300 < len0
  · have d1 : decide ((300 : Int) < (len0 : Int)) = true := by simp; omega
    go_enter Try.func4, Try.ntmps4
    go_wp2_with fail
    refine (lives_any _).mono ?_
    rintro e w2 ⟨rfl, hb2⟩
    go_wp2_with fail
    refine (lives_any _).mono ?_
    rintro e w3 ⟨rfl, hb3⟩
    go_wp2
    go_ret
    exact ⟨rfl, hb2.trans (hb3.mono hb2.size)⟩
  have d1 : decide ((300 : Int) < (len0 : Int)) = false := by simp; omega
  by_cases hbig1 : 300 < len1
  · have d2 : decide ((300 : Int) < (len1 : Int)) = true := by simp; omega
    go_enter Try.func4, Try.ntmps4
    go_wp2_with fail
    refine (lives_any _).mono ?_
    rintro e w2 ⟨rfl, hb2⟩
    go_wp2_with fail
    refine (lives_any _).mono ?_
    rintro e w3 ⟨rfl, hb3⟩
    go_wp2
    go_ret
    exact ⟨rfl, hb2.trans (hb3.mono hb2.size)⟩
  · have d2 : decide ((300 : Int) < (len1 : Int)) = false := by simp; omega
    have HL := Lib.hid hl0
    have HM := Lib.hid hl1
    clear hl0 hl1
    go_enter Try.func4, Try.ntmps4
    go_wp2_with fail
    refine (lives_any _).mono ?_
    rintro e w2 ⟨rfl, hw2⟩
    have hb2 := bytes_on hb0 hw2
    have hd2 := bytes_on hb1 hw2
    clear hb0 hb1 hmax0 hmax1
    have con5 := Up_any a0 len0 cap0 bs w2 HL.out (by omega) hb2
    have hdat : (⟨bs.toArray⟩ : ByteArray).data.toList = bs := by simp
    have hddt : (⟨ds.toArray⟩ : ByteArray).data.toList = ds := by simp
    have hbsz : (⟨bs.toArray⟩ : ByteArray).size ≤ 1099511627775 := by show bs.toArray.size ≤ _; simp; have := HL.out; omega
    have con6 := fun W => Ref.Up_any ⟨bs.toArray⟩ W hbsz
    have con9 := fun W => Ref.Within_any ⟨bs.toArray⟩ ⟨ds.toArray⟩ W hbsz
    rw [hdat] at con6 con9
    rw [hddt] at con9
    have con8 := fun W h h' => Within_any a0 a1 len0 cap0 len1 cap1 bs ds W HL.out HM.out (by omega) h h'
    have hul : (upL bs).length ≤ 301 := by have h1 := up_len bs; have h2 := HL.out; omega
    have hus : ∀ x ∈ upL bs, x.length ≤ 140737488355328 := fun x hx => by have h1 := up_small bs x hx; have h2 := HL.out; omega
    have hcva : ∀ W : World, Lib.BytesIn W a0 len0 (Lib.numsL bs) → (convert 22 9 (.slice a0 len0 cap0)).run Try.prog W = .ok (.string ⟨bs.toArray⟩) W := fun W h => conv_bytes h HL.out
    have hcvd : ∀ W : World, Lib.BytesIn W a1 len1 (Lib.numsL ds) → (convert 22 9 (.slice a1 len1 cap1)).run Try.prog W = .ok (.string ⟨ds.toArray⟩) W := fun W h => conv_bytes h HM.out
    clear hdat hddt hbsz
    generalize upL bs = xs at *
    generalize withinB bs ds = wb at *
    go_wp2_with fail
    refine con5.mono ?_
    intro e w5 ho5
    obtain ⟨gf, lb, rfl, hbel5, conA⟩ := all_up ho5 (by omega) hus
    have hw5 := hw2.trans (hbel5.mono hw2.size)
    have hb5 := bytes_on hb2 hbel5
    have hd5 := bytes_on hd2 hbel5
    have hcv5 := hcva w5 hb5
    clear con5 ho5 hb2 hd2 hus hw2
    go_wp2_with fail
    refine (con6 w5).mono ?_
    rintro e w6 ⟨v6, rfl, hrow6, hbel6⟩
    obtain ⟨q6, c6, rfl, _, _, _, hst6, _⟩ := Ref.strs_row hrow6
    have hw6 := hw5.trans (hbel6.mono hw5.size)
    have hb6 := bytes_on hb5 hbel6
    have hd6 := bytes_on hd5 hbel6
    clear con6 hrow6 hb5 hd5 hcv5 hw5
    go_wp2_with fail
    refine pregion_any (fun W => Lib.BytesIn W a0 len0 (Lib.numsL bs) ∧ Lib.BytesIn W a1 len1 (Lib.numsL ds)) (by kernel_rfl) ?_
    have hS0 : Lib.BytesIn w6.drew a0 len0 (Lib.numsL bs) ∧ Lib.BytesIn w6.drew a1 len1 (Lib.numsL ds) := ⟨hb6, hd6⟩
    have hw6d : Below w.heap.size w w6.drew := hw6.drew
    have hB0 : Below w5.heap.size w5 w6.drew := hbel6.drew
    have hT0 : Ref.StIn w6.drew q6 xs.length xs := hst6
    clear hb6 hd6 hw6 hst6 hbel6
    generalize w6.drew = wd at *
    refine wpAnyH_take (i := 0) (v := (.func (.func gf) #[] lb)) rfl (by kernel_rfl) (by kernel_rfl) (by kernel_rfl) (fun _ _ _ h => h) (.inl ⟨by kernel_rfl, ?_⟩) hS0 ?_
    · rintro w ⟨h1, h2⟩; go_simp
    refine plist #[true, false, false, false, false, false, false, false, false, false, false, false, false, false, false, false, false, false, false, false, false, false] (by kernel_rfl) ?_
    refine wpAnyH_take (i := 2) (v := (.slice q6 xs.length c6)) rfl (by kernel_rfl) (by kernel_rfl) (by kernel_rfl) (fun _ _ _ h => h) (.inl ⟨by kernel_rfl, ?_⟩) hS0 ?_
    · rintro w ⟨h1, h2⟩; go_simp
    refine plist #[true, false, true, false, false, false, false, false, false, false, false, false, false, false, false, false, false, false, false, false, false, false] (by kernel_rfl) ?_
    refine pone 1 (by kernel_rfl) rfl fun K hK => ?_
    go_simp
    refine (conA _ hB0).mono ?_
    rintro e wa ⟨qa, ca, rfl, hsta, hba⟩
    have hS1 := And.intro (bytes_on hS0.1 hba) (bytes_on hS0.2 hba)
    have hx1 := hw6d.trans (hba.mono hw6d.size)
    have hB1 := hB0.trans (hba.mono hB0.size)
    have hT1 := hT0.on hba
    refine hK _ _ hS1 ?_
    clear hK K
    have conS := Ref.Same_any qa q6 xs.length ca xs.length c6 xs xs wa rfl rfl (by omega) (by omega) hsta hT1
    rw [same_self] at conS
    clear hsta hba hS0 hB0 hT0 hw6d
    refine plist #[true, true, true, false, false, false, false, false, false, false, false, false, false, false, false, false, false, false, false, false, false, false] (by kernel_rfl) ?_
    refine pone 3 (by kernel_rfl) rfl fun K hK => ?_
    go_simp
    refine conS.mono ?_
    rintro e wb2 ⟨rfl, qd, rfl⟩
    have hbd := Ref.below_drewN wa qd
    have hS2 := And.intro (bytes_on hS1.1 hbd) (bytes_on hS1.2 hbd)
    have hx2 := hx1.trans (hbd.mono hx1.size)
    have hB2 := hB1.trans (hbd.mono hB1.size)
    have hT2 := hT1.on hbd
    refine hK _ _ hS2 ?_
    clear hK K
    clear conS hbd hS1 hB1 hT1 hx1
    generalize wa.drewN qd = wx2 at *
    refine plist #[true, true, true, true, false, false, false, false, false, false, false, false, false, false, false, false, false, false, false, false, false, false] (by kernel_rfl) ?_
    refine wpAnyH_take (i := 4) (v := (.bool true)) rfl (by kernel_rfl) (by kernel_rfl) (by kernel_rfl) (fun _ _ _ h => h) (.inl ⟨by kernel_rfl, ?_⟩) hS2 ?_
    · rintro w ⟨h1, h2⟩; go_simp
    refine plist #[true, true, true, true, true, false, false, false, false, false, false, false, false, false, false, false, false, false, false, false, false, false] (by kernel_rfl) ?_
    refine wpAnyH_take (i := 5) (v := (.func (.func gf) #[] lb)) rfl (by kernel_rfl) (by kernel_rfl) (by kernel_rfl) (fun _ _ _ h => h) (.inl ⟨by kernel_rfl, ?_⟩) hS2 ?_
    · rintro w ⟨h1, h2⟩; go_simp
    refine plist #[true, true, true, true, true, true, false, false, false, false, false, false, false, false, false, false, false, false, false, false, false, false] (by kernel_rfl) ?_
    refine wpAnyH_take (i := 7) (v := (.slice q6 xs.length c6)) rfl (by kernel_rfl) (by kernel_rfl) (by kernel_rfl) (fun _ _ _ h => h) (.inl ⟨by kernel_rfl, ?_⟩) hS2 ?_
    · rintro w ⟨h1, h2⟩; go_simp
    refine plist #[true, true, true, true, true, true, false, true, false, false, false, false, false, false, false, false, false, false, false, false, false, false] (by kernel_rfl) ?_
    refine pone 6 (by kernel_rfl) rfl fun K hK => ?_
    go_simp
    refine (conA _ hB2).mono ?_
    rintro e wa ⟨qa, ca, rfl, hsta, hba⟩
    have hS3 := And.intro (bytes_on hS2.1 hba) (bytes_on hS2.2 hba)
    have hx3 := hx2.trans (hba.mono hx2.size)
    have hB3 := hB2.trans (hba.mono hB2.size)
    have hT3 := hT2.on hba
    refine hK _ _ hS3 ?_
    clear hK K
    have conS := Ref.Same_any qa q6 xs.length ca xs.length c6 xs xs wa rfl rfl (by omega) (by omega) hsta hT3
    rw [same_self] at conS
    clear hsta hba hS2 hB2 hT2 hx2
    refine plist #[true, true, true, true, true, true, true, true, false, false, false, false, false, false, false, false, false, false, false, false, false, false] (by kernel_rfl) ?_
    refine pone 8 (by kernel_rfl) rfl fun K hK => ?_
    go_simp
    refine conS.mono ?_
    rintro e wb2 ⟨rfl, qd, rfl⟩
    have hbd := Ref.below_drewN wa qd
    have hS4 := And.intro (bytes_on hS3.1 hbd) (bytes_on hS3.2 hbd)
    have hx4 := hx3.trans (hbd.mono hx3.size)
    have hB4 := hB3.trans (hbd.mono hB3.size)
    have hT4 := hT3.on hbd
    refine hK _ _ hS4 ?_
    clear hK K
    clear conS hbd hS3 hB3 hT3 hx3
    generalize wa.drewN qd = wx4 at *
    refine plist #[true, true, true, true, true, true, true, true, true, false, false, false, false, false, false, false, false, false, false, false, false, false] (by kernel_rfl) ?_
    refine wpAnyH_take (i := 9) (v := (.bool true)) rfl (by kernel_rfl) (by kernel_rfl) (by kernel_rfl) (fun _ _ _ h => h) (.inl ⟨by kernel_rfl, ?_⟩) hS4 ?_
    · rintro w ⟨h1, h2⟩; go_simp
    refine plist #[true, true, true, true, true, true, true, true, true, true, false, false, false, false, false, false, false, false, false, false, false, false] (by kernel_rfl) ?_
    refine wpAnyH_take (i := 10) (v := (.bool true)) rfl (by kernel_rfl) (by kernel_rfl) (by kernel_rfl) (fun _ _ _ h => h) (.inl ⟨by kernel_rfl, ?_⟩) hS4 ?_
    · rintro w ⟨h1, h2⟩; go_simp
    refine plist #[true, true, true, true, true, true, true, true, true, true, true, false, false, false, false, false, false, false, false, false, false, false] (by kernel_rfl) ?_
    refine wpAnyH_take (i := 11) (v := (.slice a0 len0 cap0)) rfl (by kernel_rfl) (by kernel_rfl) (by kernel_rfl) (fun _ _ _ h => h) (.inl ⟨by kernel_rfl, ?_⟩) hS4 ?_
    · rintro w ⟨h1, h2⟩; go_simp
    refine plist #[true, true, true, true, true, true, true, true, true, true, true, true, false, false, false, false, false, false, false, false, false, false] (by kernel_rfl) ?_
    refine wpAnyH_take (i := 12) (v := (.slice a1 len1 cap1)) rfl (by kernel_rfl) (by kernel_rfl) (by kernel_rfl) (fun _ _ _ h => h) (.inl ⟨by kernel_rfl, ?_⟩) hS4 ?_
    · rintro w ⟨h1, h2⟩; go_simp
    refine plist #[true, true, true, true, true, true, true, true, true, true, true, true, true, false, false, false, false, false, false, false, false, false] (by kernel_rfl) ?_
    refine wpAnyH_take (i := 14) (v := (.slice a0 len0 cap0)) rfl (by kernel_rfl) (by kernel_rfl) (by kernel_rfl) (fun _ _ _ h => h) (.inl ⟨by kernel_rfl, ?_⟩) hS4 ?_
    · rintro w ⟨h1, h2⟩; go_simp
    refine plist #[true, true, true, true, true, true, true, true, true, true, true, true, true, false, true, false, false, false, false, false, false, false] (by kernel_rfl) ?_
    refine wpAnyH_take (i := 15) (v := (.string ⟨bs.toArray⟩)) rfl (by kernel_rfl) (by kernel_rfl) (by kernel_rfl) (fun _ _ _ h => h) (.inl ⟨by kernel_rfl, ?_⟩) hS4 ?_
    · rintro w ⟨h1, h2⟩; go_simp
    refine plist #[true, true, true, true, true, true, true, true, true, true, true, true, true, false, true, true, false, false, false, false, false, false] (by kernel_rfl) ?_
    refine wpAnyH_take (i := 16) (v := (.slice a1 len1 cap1)) rfl (by kernel_rfl) (by kernel_rfl) (by kernel_rfl) (fun _ _ _ h => h) (.inl ⟨by kernel_rfl, ?_⟩) hS4 ?_
    · rintro w ⟨h1, h2⟩; go_simp
    refine plist #[true, true, true, true, true, true, true, true, true, true, true, true, true, false, true, true, true, false, false, false, false, false] (by kernel_rfl) ?_
    refine wpAnyH_take (i := 17) (v := (.string ⟨ds.toArray⟩)) rfl (by kernel_rfl) (by kernel_rfl) (by kernel_rfl) (fun _ _ _ h => h) (.inl ⟨by kernel_rfl, ?_⟩) hS4 ?_
    · rintro w ⟨h1, h2⟩; go_simp
    refine plist #[true, true, true, true, true, true, true, true, true, true, true, true, true, false, true, true, true, true, false, false, false, false] (by kernel_rfl) ?_
    refine pone 13 (by kernel_rfl) rfl fun K hK => ?_
    go_simp
    refine (con8 _ hS4.1 hS4.2).mono ?_
    rintro e wa ⟨rfl, hba⟩
    have hS5 := And.intro (bytes_on hS4.1 hba) (bytes_on hS4.2 hba)
    have hx5 := hx4.trans (hba.mono hx4.size)
    refine hK _ _ hS5 ?_
    clear hK K
    clear hba con8 hS4 hx4
    refine plist #[true, true, true, true, true, true, true, true, true, true, true, true, true, true, true, true, true, true, false, false, false, false] (by kernel_rfl) ?_
    refine pone 18 (by kernel_rfl) rfl fun K hK => ?_
    go_simp
    refine (con9 _).mono ?_
    rintro e wc ⟨rfl, hbc⟩
    have hS6 := And.intro (bytes_on hS5.1 hbc) (bytes_on hS5.2 hbc)
    have hx6 := hx5.trans (hbc.mono hx5.size)
    refine hK _ _ hS6 ?_
    clear hK K
    clear hbc con9 hS5 hx5
    refine plist #[true, true, true, true, true, true, true, true, true, true, true, true, true, true, true, true, true, true, true, false, false, false] (by kernel_rfl) ?_
    refine pone 19 (by kernel_rfl) rfl fun K hK => ?_
    go_simp
    refine hK _ _ hS6 ?_
    clear hK K
    refine plist #[true, true, true, true, true, true, true, true, true, true, true, true, true, true, true, true, true, true, true, true, false, false] (by kernel_rfl) ?_
    refine pone 20 (by kernel_rfl) rfl fun K hK => ?_
    go_simp
    refine hK _ _ hS6 ?_
    clear hK K
    refine plist #[true, true, true, true, true, true, true, true, true, true, true, true, true, true, true, true, true, true, true, true, true, false] (by kernel_rfl) ?_
    refine pone 21 (by kernel_rfl) rfl fun K hK => ?_
    go_simp
    refine hK _ _ hS6 ?_
    clear hK K
    refine pdone (by kernel_rfl) ?_ _
    go_wp2
    go_ret
    exact ⟨rfl, hx6⟩

set_option maxRecDepth 100000 in
theorem lifted (os : Os) (started : os.Started) (H : Type) (enc : TypeId × Value → H) :
    ReturnsInHanded {} Try.checked os 4 .any (Rows.hostUpsSpec.pre6 enc Try.prog Try.f4 Rows.hostUpsRow.domain false) (Rows.hostUpsSpec.post enc Try.prog Try.f4 false true false false) := by
  refine returnsInHanded_of_change (C := Try.checked) own started (by kernel_rfl) Try.func4
    (ChangeSpec.witness6 (enc := enc) (C := Try.checked) false ⟨#[], #[.slice none 0 0, .slice none 0 0], []⟩ 8 (by kernel_rfl) (by kernel_rfl) (by kernel_rfl) (by kernel_rfl)) ?_
  intro W base args ds gs before hval0 hW hcnd _
  have hval : ∀ (j : Nat) t v, Try.f4.params[j]? = some t → args[j]? = some v → Value.okWide Try.prog W .any base t v := hval0
  have hW' := hW
  obtain ⟨p, q, hA0, hV, rfl, hfz, hnd⟩ := hW
  have hA : DataW.TrodAll enc Try.prog W 0 (fun _ => true) true Try.f4.params.toList args.toList ds p := hA0
  rw [Try.params4] at hA hval
  obtain ⟨v0, vs0, d0, ds0, p0, q0, hargs, rfl, rfl, h0, r0⟩ := trodAll_cons hA
  obtain ⟨v1, vs1, d1, ds1, p1, q1, rfl, rfl, rfl, h1, r1⟩ := trodAll_cons r0
  obtain ⟨rfl, rfl, rfl⟩ := trodAll_nil r1
  obtain rfl : args = #[v0, v1] := by cases args; simp_all
  obtain ⟨rfl, rfl⟩ := trodVars_none hV
  obtain ⟨a0, len0, cap0, rfl⟩ := okWide_slice Try.underlying22 (hval 0 22 v0 rfl rfl)
  have k0 := h0
  have lt0 : ∀ x ∈ p0, x.block < W.heap.size := by obtain ⟨m, hm⟩ := k0; exact DataW.trod_lt m _ _ _ hm
  obtain ⟨z0, w0⟩ : ∃ zs, IsRow .u8 W a0 len0 cap0 zs := by
    obtain ⟨fuel, hf⟩ := h0
    rcases open_ints Try.underlying22 Try.underlying5 (by kernel_rfl) hf with ⟨hcs, _⟩ | ⟨x, l, c, zs, hcs, _, hl, hm, hz, _, hcell, hwz⟩
    · simp [Value.cells] at hcs
      obtain ⟨rfl, rfl, rfl⟩ := hcs
      exact ⟨[], .inl ⟨rfl, rfl, rfl, rfl⟩⟩
    · simp [Value.cells] at hcs
      obtain ⟨rfl, rfl, rfl⟩ := hcs
      exact ⟨zs, .inr ⟨_, rfl, hl, hm, by simpa using hz, hcell, hwz⟩⟩
  obtain ⟨a1, len1, cap1, rfl⟩ := okWide_slice Try.underlying22 (hval 1 22 v1 rfl rfl)
  have k1 := h1
  have lt1 : ∀ x ∈ p1, x.block < W.heap.size := by obtain ⟨m, hm⟩ := k1; exact DataW.trod_lt m _ _ _ hm
  obtain ⟨z1, w1⟩ : ∃ zs, IsRow .u8 W a1 len1 cap1 zs := by
    obtain ⟨fuel, hf⟩ := h1
    rcases open_ints Try.underlying22 Try.underlying5 (by kernel_rfl) hf with ⟨hcs, _⟩ | ⟨x, l, c, zs, hcs, _, hl, hm, hz, _, hcell, hwz⟩
    · simp [Value.cells] at hcs
      obtain ⟨rfl, rfl, rfl⟩ := hcs
      exact ⟨[], .inl ⟨rfl, rfl, rfl, rfl⟩⟩
    · simp [Value.cells] at hcs
      obtain ⟨rfl, rfl, rfl⟩ := hcs
      exact ⟨zs, .inr ⟨_, rfl, hl, hm, by simpa using hz, hcell, hwz⟩⟩
  clear hA0 hval0
  refine (walk a0 len0 cap0 z0 a1 len1 cap1 z1 W w0 w1).mono fun e W' ⟨he, bel⟩ => ?_
  subst he
  exact ⟨_, rfl, _, _, _, [], _, [], hW', trodAll_mk1 (shut_bool Try.underlying4 _), (trodAll_cons_mk (Below.trod laidOut (by kernel_rfl) (of_decide_eq_true (by kernel_rfl)) k0 bel lt0) (trodAll_cons_mk (Below.trod laidOut (by kernel_rfl) (of_decide_eq_true (by kernel_rfl)) k1 bel lt1) trodAll_mk0)), rfl, bel.frame _, fun h => by cases h⟩

theorem over : Rows.hostUpsRow.holds Try.pinned (OpenSpec.ofChange Rows.hostUpsSpec) :=
  OpenClaim.holds_of_wide 4 Try.f4 rfl rfl rfl rfl rfl rfl rfl ⟨rfl, rfl, rfl, rfl, rfl⟩ rfl rfl rfl rfl rfl (by kernel_rfl) Try.func4 (by kernel_rfl)
    (of_decide_eq_true (by kernel_rfl)) (by unfold Func.isWrapper; first | (rw [if_pos (by decide +kernel)]; kernel_rfl) | (rw [if_neg (by decide +kernel)]; exact ⟨rfl, rfl⟩))
    (fun os started H enc _ => lifted os started H enc)

theorem proved : Rows.HostUpsSaid := over
end Go.Proofs.Ytcahakelihigdaa.hostUps
