/- HostParses: the law returns true at whatever input, and writes nothing that was there. Conditions: none. -/
import Derived.Test.YtcahakelihigdaaRows
import Derived.Test.YtcahakelihigdaaHostI
import Derived.WalkKit
import Derived.ProofKit
import Derived.OpenShut
import Derived.ShutString
import Derived.ChangeOld
import Derived.Below
namespace Go.Proofs.Ytcahakelihigdaa.hostParses
open Go.ChangeShapes Go.WideShapes Go.ChangeAt Go.RowKit
open Go.ChangeMaps (open_string shut_string)
set_option linter.unusedVariables false

theorem own : ownKnob Try.prog.godebug = none := by kernel_rfl
theorem laidOut : laidOutB Try.prog = true := by kernel_rfl

def IsRow (k : IntKind) (w : World) (a : Option Addr) (len cap : Nat) (zs : List Int) : Prop :=
  (a = none ∧ len = 0 ∧ cap = 0 ∧ zs = []) ∨
  ∃ x, a = some x ∧ len ≤ cap ∧ cap ≤ maxLen ∧ zs.length = cap ∧ (∀ i, i < zs.length → w.cell? (x.add i) = some (.int k (zs.getD i 0))) ∧ ∀ n ∈ zs, (Lit.int k n).wf = true

open Host
open Go.Shelf
theorem row_bytes {w : World} {a : Option Addr} {len cap : Nat} {zs : List Int} (h : IsRow .u8 w a len cap zs) : ∃ bs : List UInt8, bs.length = len ∧ len ≤ cap ∧ Lib.BytesIn w a len (Lib.numsL bs) ∧ len ≤ 9223372036854775807 := by
  rcases h with ⟨rfl, rfl, rfl, rfl⟩ | ⟨x, rfl, h1, h2, h3, h4, h5⟩
  · exact ⟨[], rfl, Nat.le_refl _, Lib.BytesIn.nil _ _ _, by omega⟩
  · have hz : ∀ i, i < len → (Lib.numsL (Lib.bytesOf (zs.take len))).getD i 0 = zs.getD i 0 := fun i hi => by
      have hi' : i < zs.length := by omega
      have hw := bounds_u8 (h5 _ (List.getElem_mem hi'))
      have : (Lib.bytesOf (zs.take len)).getD i 0 = UInt8.ofNat (zs[i]).toNat := by
        simp [Lib.bytesOf, List.getD, hi, List.getElem?_eq_getElem hi']
      rw [numsL_getD _ _ (by simp [Lib.bytesOf]; omega), this, List.getD, List.getElem?_eq_getElem hi']
      simp only [Option.getD_some, UInt8.toNat_ofNat']
      omega
    refine ⟨Lib.bytesOf (zs.take len), by simp [Lib.bytesOf]; omega, h1, Lib.BytesIn.of_cells fun i hi => ?_, by unfold maxLen at h2; omega⟩
    rw [hz i hi]
    exact h4 i (by omega)
set_option maxHeartbeats 8000000 in
set_option maxRecDepth 100000 in
theorem walk (a0 : Option Addr) (len0 cap0 : Nat) (z0 : List Int) (w : World) (w0 : IsRow .u8 w a0 len0 cap0 z0) :
    Calls Try.prog 3 #[.slice a0 len0 cap0] w fun e w' => e = .returned (.bool true) ∧ Below w.heap.size w w' := by
  obtain ⟨bs, hl0, hlc0, hb0, hmax0⟩ := row_bytes w0
  have hnil0 : a0 = none → len0 = 0 ∧ cap0 = 0 := by rcases w0 with ⟨_, h1, h2, _⟩ | ⟨x, h, _⟩; exact fun _ => ⟨h1, h2⟩; (intro h'; rw [h] at h'; cases h')
  clear w0
  by_cases hbig : 300 < len0
  · have d1 : decide ((300 : Int) < (len0 : Int)) = true := by simp; omega
    clear hnil0
    go_enter Try.func3, Try.ntmps3
    go_wp2_with fail
    refine (lives_any _).mono ?_
    rintro e w2 ⟨rfl, hb2⟩
    go_wp2_with fail
    refine (lives_any _).mono ?_
    rintro e w3 ⟨rfl, hb3⟩
    go_wp2
    go_ret
    exact ⟨rfl, hb2.trans (hb3.mono hb2.size)⟩
  · have d1 : decide ((300 : Int) < (len0 : Int)) = false := by simp; omega
    have HL := Lib.hid hl0
    clear hl0
    go_enter Try.func3, Try.ntmps3
    go_wp2_with fail
    refine (lives_any _).mono ?_
    rintro e w2 ⟨rfl, hw2⟩
    have hb2 := bytes_on hb0 hw2
    clear hb0 hmax0
    have hmade : (w2.alloc (.cells #[] 5)).ownsRow w2.heap.size 5 1 (.slice (some ⟨w2.heap.size, 0, none⟩) 0 0) 0 [] := World.ownsRow_made w2 #[] 0 (Nat.le_refl _) (Nat.zero_le _) rfl
    have hB0 := (Below.refl _ w2).alloc (Nat.le_refl _) (.cells #[] 5)
    have hb3 := bytes_on hb2 hB0
    have h64 : len0 ≤ 1000 := by omega
    go_wp2_with (at_builtin; refine wpList_append_bytes rfl _ _ rfl w2.heap.size (.slice (some ⟨w2.heap.size, 0, none⟩) 0 0) 0 [] rfl hmade a0 len0 cap0 bs rfl hnil0 HL.out hb3 (by omega) (by simp) ?_; intro v4 w4 hown hgrow)
    have hw4' : Below w2.heap.size w2 w4 := hB0.trans ((Below.refl _ _).grown hgrow (by simp) (fun b h => by cases h; exact Nat.le_refl _))
    simp only [Nat.zero_add, List.nil_append] at hown
    have hw4 := hw2.trans (hw4'.mono hw2.size)
    have hb4 := bytes_on hb2 hw4'
    obtain ⟨q4, c4, rfl, _, hc4, _, ho4, _⟩ := row_open hown
    clear hmade hB0 hb3 hb2 hown hgrow hw4' hw2 hnil0
    have con5 := Parse_any q4 len0 c4 bs w4 HL.out (by omega) ho4
    obtain ⟨k5, hk5⟩ : ∃ k, (canL bs).length = k := ⟨_, rfl⟩
    have HK5 := Lib.hid hk5
    have hdat : (⟨bs.toArray⟩ : ByteArray).data.toList = bs := by simp
    have hbsz : (⟨bs.toArray⟩ : ByteArray).size ≤ 1099511627775 := by show bs.toArray.size ≤ _; simp; have := HL.out; omega
    have con6 := fun W => Ref.Parse_any ⟨bs.toArray⟩ W hbsz
    have con8 := fun W => Ref.Address_any ⟨bs.toArray⟩ W hbsz
    have HCL := Lib.hid (show canL bs = if parseE bs = 0 then Ref.lowL bs else [] from rfl)
    rw [hdat] at con6 con8
    have con7 := fun W h => Address_any q4 len0 c4 bs W HL.out (by omega) h
    obtain ⟨pe, hpe⟩ : ∃ pe, parseE bs = pe := ⟨_, rfl⟩
    have HPE := Lib.hid hpe
    have hcva : ∀ W : World, Lib.BytesIn W a0 len0 (Lib.numsL bs) → (convert 22 9 (.slice a0 len0 cap0)).run Try.prog W = .ok (.string ⟨bs.toArray⟩) W := fun W h => conv_bytes h HL.out
    have hcvo : ∀ W : World, Lib.BytesIn W q4 len0 (Lib.numsL bs) → (convert 22 9 (.slice q4 len0 c4)).run Try.prog W = .ok (.string ⟨bs.toArray⟩) W := fun W h => conv_bytes h HL.out
    have e2 := strs_eq bs bs
    rw [decide_eq_true rfl] at e2
    clear hk5 hdat hbsz hpe
    go_wp2_with fail
    refine con5.mono ?_
    rintro e w5 ⟨v5, rfl, hrow5, hbel5⟩
    rw [HK5.out] at hrow5
    rw [HPE.out]
    obtain ⟨q5, c5, rfl, _, hc5, _, hc5b, _⟩ := row_open hrow5
    have hw5 := hw4.trans (hbel5.mono hw4.size)
    have hb5 := bytes_on hb4 hbel5
    have ho5 := bytes_on ho4 hbel5
    have hcv5 := hcva w5 hb5
    clear con5 hrow5 hbel5 hb4 ho4
    go_wp2_with fail
    refine (con6 w5).mono ?_
    rintro e w6 ⟨x, rfl, hx, hbel6⟩
    rw [HPE.out]
    obtain rfl : x = ⟨(canL bs).toArray⟩ := Ref.ba_ext _ _ (by rw [hx.out, HCL.out])
    have hw6 := hw5.trans (hbel6.mono hw5.size)
    have hb6 := bytes_on hb5 hbel6
    have ho6 := bytes_on ho5 hbel6
    have hh6 := bytes_on hc5b hbel6
    have e1 := strs_eq (canL bs) (canL bs)
    rw [decide_eq_true rfl] at e1
    clear con6 hbel6 hb5 ho5 hc5b hx HCL hcv5
    have hcvh : ∀ W : World, Lib.BytesIn W q5 k5 (Lib.numsL (canL bs)) → (convert 22 9 (.slice q5 k5 c5)).run Try.prog W = .ok (.string ⟨(canL bs).toArray⟩) W := fun W h => conv_bytes h HK5.out
    clear HK5 HPE
    generalize canL bs = cn at *
    generalize addressB bs = ad at *
    go_wp2_with fail
    refine pregion_any (fun W => Lib.BytesIn W q4 len0 (Lib.numsL bs) ∧ Lib.BytesIn W a0 len0 (Lib.numsL bs) ∧ Lib.BytesIn W q5 k5 (Lib.numsL cn)) (by kernel_rfl) ?_
    have hS0 : Lib.BytesIn w6.drew q4 len0 (Lib.numsL bs) ∧ Lib.BytesIn w6.drew a0 len0 (Lib.numsL bs) ∧ Lib.BytesIn w6.drew q5 k5 (Lib.numsL cn) := ⟨ho6, hb6, hh6⟩
    have hw6d : Below w.heap.size w w6.drew := hw6.drew
    clear ho6 hb6 hh6 hw6
    generalize w6.drew = wd at *
    refine wpAnyH_take (i := 0) (v := (.int .i64 pe)) rfl (by kernel_rfl) (by kernel_rfl) (by kernel_rfl) (fun _ _ _ h => h) (.inl ⟨by kernel_rfl, ?_⟩) hS0 ?_
    · rintro w ⟨h1, h2, h3⟩; go_simp
    refine plist #[true, false, false, false, false, false, false, false, false, false, false, false, false, false, false, false, false, false, false, false, false, false, false, false, false] (by kernel_rfl) ?_
    refine wpAnyH_take (i := 1) (v := (.int .i64 pe)) rfl (by kernel_rfl) (by kernel_rfl) (by kernel_rfl) (fun _ _ _ h => h) (.inl ⟨by kernel_rfl, ?_⟩) hS0 ?_
    · rintro w ⟨h1, h2, h3⟩; go_simp
    refine plist #[true, true, false, false, false, false, false, false, false, false, false, false, false, false, false, false, false, false, false, false, false, false, false, false, false] (by kernel_rfl) ?_
    refine wpAnyH_take (i := 2) (v := (.bool true)) rfl (by kernel_rfl) (by kernel_rfl) (by kernel_rfl) (fun _ _ _ h => h) (.inl ⟨by kernel_rfl, ?_⟩) hS0 ?_
    · rintro w ⟨h1, h2, h3⟩; go_simp
    refine plist #[true, true, true, false, false, false, false, false, false, false, false, false, false, false, false, false, false, false, false, false, false, false, false, false, false] (by kernel_rfl) ?_
    refine wpAnyH_take (i := 3) (v := (.bool true)) rfl (by kernel_rfl) (by kernel_rfl) (by kernel_rfl) (fun _ _ _ h => h) (.inl ⟨by kernel_rfl, ?_⟩) hS0 ?_
    · rintro w ⟨h1, h2, h3⟩; go_simp
    refine plist #[true, true, true, true, false, false, false, false, false, false, false, false, false, false, false, false, false, false, false, false, false, false, false, false, false] (by kernel_rfl) ?_
    refine wpAnyH_take (i := 4) (v := (.slice q5 k5 c5)) rfl (by kernel_rfl) (by kernel_rfl) (by kernel_rfl) (fun _ _ _ h => h) (.inl ⟨by kernel_rfl, ?_⟩) hS0 ?_
    · rintro w ⟨h1, h2, h3⟩; go_simp
    refine plist #[true, true, true, true, true, false, false, false, false, false, false, false, false, false, false, false, false, false, false, false, false, false, false, false, false] (by kernel_rfl) ?_
    refine wpAnyH_take (i := 5) (v := (.string ⟨cn.toArray⟩)) rfl (by kernel_rfl) (by kernel_rfl) (by kernel_rfl) (fun _ _ _ h => h) (.inl ⟨by kernel_rfl, ?_⟩) hS0 ?_
    · rintro w ⟨h1, h2, h3⟩; go_simp
    refine plist #[true, true, true, true, true, true, false, false, false, false, false, false, false, false, false, false, false, false, false, false, false, false, false, false, false] (by kernel_rfl) ?_
    refine wpAnyH_take (i := 6) (v := (.string ⟨cn.toArray⟩)) rfl (by kernel_rfl) (by kernel_rfl) (by kernel_rfl) (fun _ _ _ h => h) (.inl ⟨by kernel_rfl, ?_⟩) hS0 ?_
    · rintro w ⟨h1, h2, h3⟩; go_simp
    refine plist #[true, true, true, true, true, true, true, false, false, false, false, false, false, false, false, false, false, false, false, false, false, false, false, false, false] (by kernel_rfl) ?_
    refine wpAnyH_take (i := 7) (v := (.bool true)) rfl (by kernel_rfl) (by kernel_rfl) (by kernel_rfl) (fun _ _ _ h => h) (.inl ⟨by kernel_rfl, ?_⟩) hS0 ?_
    · rintro w ⟨h1, h2, h3⟩; go_simp
    refine plist #[true, true, true, true, true, true, true, true, false, false, false, false, false, false, false, false, false, false, false, false, false, false, false, false, false] (by kernel_rfl) ?_
    refine wpAnyH_take (i := 8) (v := (.bool true)) rfl (by kernel_rfl) (by kernel_rfl) (by kernel_rfl) (fun _ _ _ h => h) (.inl ⟨by kernel_rfl, ?_⟩) hS0 ?_
    · rintro w ⟨h1, h2, h3⟩; go_simp
    refine plist #[true, true, true, true, true, true, true, true, true, false, false, false, false, false, false, false, false, false, false, false, false, false, false, false, false] (by kernel_rfl) ?_
    refine wpAnyH_take (i := 9) (v := (.bool true)) rfl (by kernel_rfl) (by kernel_rfl) (by kernel_rfl) (fun _ _ _ h => h) (.inl ⟨by kernel_rfl, ?_⟩) hS0 ?_
    · rintro w ⟨h1, h2, h3⟩; go_simp
    refine plist #[true, true, true, true, true, true, true, true, true, true, false, false, false, false, false, false, false, false, false, false, false, false, false, false, false] (by kernel_rfl) ?_
    refine wpAnyH_take (i := 10) (v := (.slice q4 len0 c4)) rfl (by kernel_rfl) (by kernel_rfl) (by kernel_rfl) (fun _ _ _ h => h) (.inl ⟨by kernel_rfl, ?_⟩) hS0 ?_
    · rintro w ⟨h1, h2, h3⟩; go_simp
    refine plist #[true, true, true, true, true, true, true, true, true, true, true, false, false, false, false, false, false, false, false, false, false, false, false, false, false] (by kernel_rfl) ?_
    refine wpAnyH_take (i := 12) (v := (.slice a0 len0 cap0)) rfl (by kernel_rfl) (by kernel_rfl) (by kernel_rfl) (fun _ _ _ h => h) (.inl ⟨by kernel_rfl, ?_⟩) hS0 ?_
    · rintro w ⟨h1, h2, h3⟩; go_simp
    refine plist #[true, true, true, true, true, true, true, true, true, true, true, false, true, false, false, false, false, false, false, false, false, false, false, false, false] (by kernel_rfl) ?_
    refine wpAnyH_take (i := 13) (v := (.string ⟨bs.toArray⟩)) rfl (by kernel_rfl) (by kernel_rfl) (by kernel_rfl) (fun _ _ _ h => h) (.inl ⟨by kernel_rfl, ?_⟩) hS0 ?_
    · rintro w ⟨h1, h2, h3⟩; go_simp
    refine plist #[true, true, true, true, true, true, true, true, true, true, true, false, true, true, false, false, false, false, false, false, false, false, false, false, false] (by kernel_rfl) ?_
    refine pone 11 (by kernel_rfl) rfl fun K hK => ?_
    go_simp
    refine (con7 wd hS0.1).mono ?_
    rintro e w7 ⟨rfl, hbel7⟩
    have hS1 := And.intro (bytes_on hS0.1 hbel7) (And.intro (bytes_on hS0.2.1 hbel7) (bytes_on hS0.2.2 hbel7))
    have hw7 := hw6d.trans (hbel7.mono hw6d.size)
    refine hK _ _ hS1 ?_
    clear hK K con7 hbel7 hS0 hw6d
    refine plist #[true, true, true, true, true, true, true, true, true, true, true, true, true, true, false, false, false, false, false, false, false, false, false, false, false] (by kernel_rfl) ?_
    refine pone 14 (by kernel_rfl) rfl fun K hK => ?_
    go_simp
    refine (con8 w7).mono ?_
    rintro e w8 ⟨rfl, hbel8⟩
    have hS2 := And.intro (bytes_on hS1.1 hbel8) (And.intro (bytes_on hS1.2.1 hbel8) (bytes_on hS1.2.2 hbel8))
    have hw8 := hw7.trans (hbel8.mono hw7.size)
    refine hK _ _ hS2 ?_
    clear hK K con8 hbel8 hS1 hw7
    refine plist #[true, true, true, true, true, true, true, true, true, true, true, true, true, true, true, false, false, false, false, false, false, false, false, false, false] (by kernel_rfl) ?_
    refine wpAnyH_take (i := 15) (v := (.bool true)) rfl (by kernel_rfl) (by kernel_rfl) (by kernel_rfl) (fun _ _ _ h => h) (.inl ⟨by kernel_rfl, ?_⟩) hS2 ?_
    · rintro w ⟨h1, h2, h3⟩; go_simp
    refine plist #[true, true, true, true, true, true, true, true, true, true, true, true, true, true, true, true, false, false, false, false, false, false, false, false, false] (by kernel_rfl) ?_
    refine wpAnyH_take (i := 16) (v := (.bool true)) rfl (by kernel_rfl) (by kernel_rfl) (by kernel_rfl) (fun _ _ _ h => h) (.inl ⟨by kernel_rfl, ?_⟩) hS2 ?_
    · rintro w ⟨h1, h2, h3⟩; go_simp
    refine plist #[true, true, true, true, true, true, true, true, true, true, true, true, true, true, true, true, true, false, false, false, false, false, false, false, false] (by kernel_rfl) ?_
    refine wpAnyH_take (i := 17) (v := (.bool true)) rfl (by kernel_rfl) (by kernel_rfl) (by kernel_rfl) (fun _ _ _ h => h) (.inl ⟨by kernel_rfl, ?_⟩) hS2 ?_
    · rintro w ⟨h1, h2, h3⟩; go_simp
    refine plist #[true, true, true, true, true, true, true, true, true, true, true, true, true, true, true, true, true, true, false, false, false, false, false, false, false] (by kernel_rfl) ?_
    refine wpAnyH_take (i := 18) (v := (.slice q4 len0 c4)) rfl (by kernel_rfl) (by kernel_rfl) (by kernel_rfl) (fun _ _ _ h => h) (.inl ⟨by kernel_rfl, ?_⟩) hS2 ?_
    · rintro w ⟨h1, h2, h3⟩; go_simp
    refine plist #[true, true, true, true, true, true, true, true, true, true, true, true, true, true, true, true, true, true, true, false, false, false, false, false, false] (by kernel_rfl) ?_
    refine wpAnyH_take (i := 19) (v := (.string ⟨bs.toArray⟩)) rfl (by kernel_rfl) (by kernel_rfl) (by kernel_rfl) (fun _ _ _ h => h) (.inl ⟨by kernel_rfl, ?_⟩) hS2 ?_
    · rintro w ⟨h1, h2, h3⟩; go_simp
    refine plist #[true, true, true, true, true, true, true, true, true, true, true, true, true, true, true, true, true, true, true, true, false, false, false, false, false] (by kernel_rfl) ?_
    refine wpAnyH_take (i := 20) (v := (.slice a0 len0 cap0)) rfl (by kernel_rfl) (by kernel_rfl) (by kernel_rfl) (fun _ _ _ h => h) (.inl ⟨by kernel_rfl, ?_⟩) hS2 ?_
    · rintro w ⟨h1, h2, h3⟩; go_simp
    refine plist #[true, true, true, true, true, true, true, true, true, true, true, true, true, true, true, true, true, true, true, true, true, false, false, false, false] (by kernel_rfl) ?_
    refine wpAnyH_take (i := 21) (v := (.string ⟨bs.toArray⟩)) rfl (by kernel_rfl) (by kernel_rfl) (by kernel_rfl) (fun _ _ _ h => h) (.inl ⟨by kernel_rfl, ?_⟩) hS2 ?_
    · rintro w ⟨h1, h2, h3⟩; go_simp
    refine plist #[true, true, true, true, true, true, true, true, true, true, true, true, true, true, true, true, true, true, true, true, true, true, false, false, false] (by kernel_rfl) ?_
    refine pone 22 (by kernel_rfl) rfl fun K hK => ?_
    go_simp
    refine hK _ _ hS2 ?_
    clear hK K
    refine plist #[true, true, true, true, true, true, true, true, true, true, true, true, true, true, true, true, true, true, true, true, true, true, true, false, false] (by kernel_rfl) ?_
    refine pone 23 (by kernel_rfl) rfl fun K hK => ?_
    go_simp
    refine hK _ _ hS2 ?_
    clear hK K
    refine plist #[true, true, true, true, true, true, true, true, true, true, true, true, true, true, true, true, true, true, true, true, true, true, true, true, false] (by kernel_rfl) ?_
    refine pone 24 (by kernel_rfl) rfl fun K hK => ?_
    go_simp
    refine hK _ _ hS2 ?_
    clear hK K
    refine pdone (by kernel_rfl) ?_ _
    go_wp2
    go_ret
    exact ⟨rfl, hw8⟩

set_option maxRecDepth 100000 in
theorem lifted (os : Os) (started : os.Started) (H : Type) (enc : TypeId × Value → H) :
    ReturnsInHanded {} Try.checked os 3 .any (Rows.hostParsesSpec.pre6 enc Try.prog Try.f3 Rows.hostParsesRow.domain false) (Rows.hostParsesSpec.post enc Try.prog Try.f3 false true false false) := by
  refine returnsInHanded_of_change (C := Try.checked) own started (by kernel_rfl) Try.func3
    (ChangeSpec.witness6 (enc := enc) (C := Try.checked) false ⟨#[], #[.slice none 0 0], []⟩ 8 (by kernel_rfl) (by kernel_rfl) (by kernel_rfl) (by kernel_rfl)) ?_
  intro W base args ds gs before hval0 hW hcnd _
  have hval : ∀ (j : Nat) t v, Try.f3.params[j]? = some t → args[j]? = some v → Value.okWide Try.prog W .any base t v := hval0
  have hW' := hW
  obtain ⟨p, q, hA0, hV, rfl, hfz, hnd⟩ := hW
  have hA : DataW.TrodAll enc Try.prog W 0 (fun _ => true) true Try.f3.params.toList args.toList ds p := hA0
  rw [Try.params3] at hA hval
  obtain ⟨v0, vs0, d0, ds0, p0, q0, hargs, rfl, rfl, h0, r0⟩ := trodAll_cons hA
  obtain ⟨rfl, rfl, rfl⟩ := trodAll_nil r0
  obtain rfl : args = #[v0] := by cases args; simp_all
  obtain ⟨rfl, rfl⟩ := trodVars_none hV
  obtain ⟨a0, len0, cap0, rfl⟩ := okWide_slice Try.underlying22 (hval 0 22 v0 rfl rfl)
  have k0 := h0
  have lt0 : ∀ x ∈ p0, x.block < W.heap.size := by obtain ⟨m, hm⟩ := k0; exact DataW.trod_lt m _ _ _ hm
  obtain ⟨z0, w0⟩ : ∃ zs, IsRow .u8 W a0 len0 cap0 zs := by
    obtain ⟨fuel, hf⟩ := h0
    rcases open_ints Try.underlying22 Try.underlying5 (by kernel_rfl) hf with ⟨hcs, _⟩ | ⟨x, l, c, zs, hcs, _, hl, hm, hz, _, hcell, hwz⟩
    · simp [Value.cells] at hcs
      obtain ⟨rfl, rfl, rfl⟩ := hcs
      exact ⟨[], .inl ⟨rfl, rfl, rfl, rfl⟩⟩
    · simp [Value.cells] at hcs
      obtain ⟨rfl, rfl, rfl⟩ := hcs
      exact ⟨zs, .inr ⟨_, rfl, hl, hm, by simpa using hz, hcell, hwz⟩⟩
  clear hA0 hval0
  refine (walk a0 len0 cap0 z0 W w0).mono fun e W' ⟨he, bel⟩ => ?_
  subst he
  exact ⟨_, rfl, _, _, _, [], _, [], hW', trodAll_mk1 (shut_bool Try.underlying4 _), (trodAll_cons_mk (Below.trod laidOut (by kernel_rfl) (of_decide_eq_true (by kernel_rfl)) k0 bel lt0) trodAll_mk0), rfl, bel.frame _, fun h => by cases h⟩

theorem over : Rows.hostParsesRow.holds Try.pinned (OpenSpec.ofChange Rows.hostParsesSpec) :=
  OpenClaim.holds_of_wide 3 Try.f3 rfl rfl rfl rfl rfl rfl rfl ⟨rfl, rfl, rfl, rfl, rfl⟩ rfl rfl rfl rfl rfl (by kernel_rfl) Try.func3 (by kernel_rfl)
    (of_decide_eq_true (by kernel_rfl)) (by unfold Func.isWrapper; first | (rw [if_pos (by decide +kernel)]; kernel_rfl) | (rw [if_neg (by decide +kernel)]; exact ⟨rfl, rfl⟩))
    (fun os started H enc _ => lifted os started H enc)

theorem proved : Rows.HostParsesSaid := over
end Go.Proofs.Ytcahakelihigdaa.hostParses
