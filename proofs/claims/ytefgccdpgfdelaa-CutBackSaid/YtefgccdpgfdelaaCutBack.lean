/- CutBack: the law returns true at whatever input, and writes nothing that was there. Conditions: none. -/
import Derived.Test.YtefgccdpgfdelaaRows
import Derived.Test.YtefgccdpgfdelaaLawF
import Derived.Test.YtefgccdpgfdelaaOrdP
import Derived.Test.YtefgccdpgfdelaaOrd
import Derived.WalkKit
import Derived.ProofKit
import Derived.OpenShut
import Derived.ShutString
import Derived.ChangeOld
import Derived.Below
namespace Go.Proofs.Ytefgccdpgfdelaa.cutBack
open Go.ChangeShapes Go.WideShapes Go.ChangeAt Go.RowKit
open Go.ChangeMaps (open_string shut_string)
set_option linter.unusedVariables false

theorem own : ownKnob Try.prog.godebug = none := by kernel_rfl
theorem laidOut : laidOutB Try.prog = true := by kernel_rfl

def IsRow (k : IntKind) (w : World) (a : Option Addr) (len cap : Nat) (zs : List Int) : Prop :=
  (a = none ∧ len = 0 ∧ cap = 0 ∧ zs = []) ∨
  ∃ x, a = some x ∧ len ≤ cap ∧ cap ≤ maxLen ∧ zs.length = cap ∧ (∀ i, i < zs.length → w.cell? (x.add i) = some (.int k (zs.getD i 0))) ∧ ∀ n ∈ zs, (Lit.int k n).wf = true

theorem row_bytes {w : World} {a : Option Addr} {len cap : Nat} {zs : List Int} (h : IsRow .u8 w a len cap zs) : ∃ bs : List UInt8, bs.length = len ∧ len ≤ cap ∧ Lib.BytesIn w a len (Lib.numsL bs) ∧ len ≤ 9223372036854775807 := by
  rcases h with ⟨rfl, rfl, rfl, rfl⟩ | ⟨x, rfl, h1, h2, h3, h4, h5⟩
  · exact ⟨[], rfl, Nat.le_refl _, Lib.BytesIn.nil _ _ _, by omega⟩
  · have hz : ∀ i, i < len → (Lib.numsL (Lib.bytesOf (zs.take len))).getD i 0 = zs.getD i 0 := fun i hi => by
      have hi' : i < zs.length := by omega
      have hw := bounds_u8 (h5 _ (List.getElem_mem hi'))
      have : (Lib.bytesOf (zs.take len)).getD i 0 = UInt8.ofNat (zs[i]).toNat := by
        simp [Lib.bytesOf, List.getD, List.getElem?_take, hi, List.getElem?_eq_getElem hi']
      rw [numsL_getD _ _ (by simp [Lib.bytesOf]; omega), this, List.getD, List.getElem?_eq_getElem hi']
      simp only [Option.getD_some, UInt8.toNat_ofNat']
      omega
    refine ⟨Lib.bytesOf (zs.take len), by simp [Lib.bytesOf]; omega, h1, Lib.BytesIn.of_cells fun i hi => ?_, by unfold maxLen at h2; omega⟩
    rw [hz i hi]
    exact h4 i (by omega)
set_option maxHeartbeats 8000000 in
set_option maxRecDepth 100000 in
theorem walk (a0 : Option Addr) (len0 cap0 : Nat) (z0 : List Int) (a1 : Int) (w : World) (w0 : IsRow .u8 w a0 len0 cap0 z0) (w1 : (Lit.int .u8 a1).wf = true) :
    Calls Try.prog 7 #[.slice a0 len0 cap0, .int .u8 a1] w fun e w' => e = .returned (.bool true) ∧ Below w.heap.size w w' := by
  obtain ⟨bs, hl, hlc, hb, hmax⟩ := row_bytes w0
  obtain ⟨c, hc⟩ : ∃ c : UInt8, a1 = (c.toNat : Int) := by
    have h := bounds_u8 w1
    exact ⟨UInt8.ofNat a1.toNat, by simp only [UInt8.toNat_ofNat']; omega⟩
  subst hc
  clear w0
  by_cases hbig : 2000 < len0
  · have d1 : decide ((2000 : Int) < (len0 : Int)) = true := by simp; omega
    go_enter Try.func7, Try.ntmps7
    go_wp2_with fail
    refine (lives_any _).mono ?_
    rintro e w2 ⟨rfl, hb2⟩
    go_wp2_with fail
    refine (lives_any _).mono ?_
    rintro e w3 ⟨rfl, hb3⟩
    go_wp2
    go_ret
    exact ⟨rfl, hb2.trans (hb3.mono hb2.size)⟩
  · have d1 : decide ((2000 : Int) < (len0 : Int)) = false := by simp; omega
    have hsm : len0 ≤ 2000 := by omega
    go_enter Try.func7, Try.ntmps7
    go_wp2_with fail
    refine (lives_any _).mono ?_
    rintro e w3 ⟨rfl, hw3⟩
    have hbs4 := bytes_keep hb (Keep.of_below hw3) (fun a h1 h2 => bytes_lt hb a h1 h2)
    have HL := Lib.hid hl
    clear hbig hmax w1 hl
    go_wp2_with fail
    refine (Split_any a0 len0 cap0 c bs w3 HL.out (by omega) hbs4).mono ?_
    rintro e w4 ⟨B, vk, rfl, hB4, hBc4, hrow4, hBw4, hbel4⟩
    have con5 := counted_split (by omega) HL.out hB4 hBc4 hrow4
    have hbs5 := bytes_keep hbs4 (Keep.of_below hbel4) (fun a h1 h2 => bytes_lt hbs4 a h1 h2)
    have hw4 : Below w.heap.size w w4 := hw3.trans (hbel4.mono hw3.size)
    clear hbs4 hB4 hBc4 hrow4 hbel4 hBw4
    go_wp2_with fail
    refine con5.mono ?_
    rintro e w5 ⟨q5, c5, rfl, hst5, hq5, hbel5⟩
    have hbs6 := bytes_keep hbs5 (Keep.of_below hbel5) (fun a h1 h2 => bytes_lt hbs5 a h1 h2)
    have hw5 : Below w.heap.size w w5 := hw4.trans (hbel5.mono hw4.size)
    have hpl : (piecesOf bs (spansL (isB c) bs)).length ≤ 2001 := by have h1 := spansGo_len (isB c) bs 0 0; have := HL.out; unfold piecesOf spansL; rw [List.length_map]; omega
    have HJ := Lib.hid (joinB_pieces c bs)
    generalize piecesOf bs (spansL (isB c) bs) = ps at *
    have htl : ∀ k, k ≤ ps.length → (joinB c (ps.take k)).length ≤ len0 := fun k hk => by
      have h1 := joinB_take_le c ps k hk
      rw [HJ.out] at h1
      have := HL.out
      omega
    have HT := Lib.hid htl
    clear hbs5 con5 hbel5 htl
    have hcvc : ∀ W : World, (convert 22 9 (.slice (some ⟨W.heap.size, 0, none⟩) 1 1)).run Try.prog (W.alloc (.cells #[.int .u8 (c.toNat : Int)] 5)) = .ok (.string ⟨#[c]⟩) (W.alloc (.cells #[.int .u8 (c.toNat : Int)] 5)) := fun W => by
      have h := (bytes_lit (w := W) #[.int .u8 (c.toNat : Int)] [c] (0, 0) rfl).convert (P := Try.prog) rfl 1 22 5 9 Try.underlying22 Try.underlying5 Try.underlying9
      rwa [strOfNums_numsL] at h
    go_wp2
    go_loopw [7, 28] (fun o i wr => ∃ k : Nat, ∃ x : ByteArray, k ≤ ps.length ∧ i = .int .i64 k ∧ o = .string x ∧ Hid (x.data.toList = joinB c (ps.take k)) ∧ Below w5.heap.size w5 wr) (fun _ i _ => ps.length - (intOf i).toNat)
    case atStart => exact ⟨0, ⟨#[]⟩, Nat.zero_le _, rfl, rfl, rfl, Below.refl _ _⟩
    case round =>
      obtain ⟨k, x, hk, rfl, rfl, HX, hbr⟩ := hrel
      by_cases hlt : k < ps.length
      · obtain ⟨b, o, rfl, hcs⟩ := hst5 (by omega)
        have hck : wr.cell? ⟨b, o + k, none⟩ = some (strV (ps.getD k [])) := (hbr.cell (World.block_lt_of_cell? w5 _ (hcs k hlt))).trans (hcs k hlt)
        have ht1 := HT.out (k + 1) (by omega)
        have htk : ps.take (k + 1) = ps.take k ++ [ps.getD k []] := by
          rw [List.take_succ_eq_append_getElem hlt]; simp [List.getD, List.getElem?_eq_getElem hlt]
        rw [htk] at ht1
        unfold strV at hck
        clear hcs hst5 hb hbs6
        generalize ps.getD k [] = p at *
        have hxl := HX.out
        by_cases h0 : k = 0
        · subst h0
          have hx0 : x = ⟨#[]⟩ := by
            apply ByteArray.ext; apply Array.ext'; rw [hxl]; rfl
          have d2 : decide ((0 : Int) < ((0 : Nat) : Int)) = false := by simp
          have hsz1 : p.length ≤ 2000 := by
            simp [joinB] at ht1; omega
          have HTK := Lib.hid htk
          subst hx0
          clear hxl htk ht1 HX
          rw [Nat.add_zero] at hck
          have hbw := hbr.size
          go_wp2
          go_roundw
          case rel => exact ⟨1, _, by omega, by go_num, rfl, Lib.hid (by rw [HTK.out]; simp [joinB]), hbr⟩
          case measure => simp [intOf]; omega
        · have hne : ps.take k ≠ [] := by intro h; have := congrArg List.length h; rw [List.length_take, List.length_nil] at this; omega
          have HN := Lib.hid (joinB_snoc c p (ps.take k) hne)
          have d2 : decide ((0 : Int) < (k : Int)) = true := by simp; omega
          rw [HN.out] at ht1
          have hsz1 : x.size + 1 + p.length ≤ 2000 := by
            have h1 : x.size = (joinB c (ps.take k)).length := by rw [← ba_len, HX.out]
            simp at ht1; omega
          have HTK := Lib.hid htk
          clear hxl htk hne ht1
          have hbw := hbr.size
          go_wp2
          go_roundw
          case rel => exact ⟨k + 1, _, by omega, by go_num, rfl, Lib.hid (by rw [HTK.out, HN.out, ← HX.out]; simp [ByteArray.data_append]), hbr.alloc hbw _⟩
          case measure => simp [intOf]; omega
      · have hke : k = ps.length := by omega
        subst hke
        have hx0 : x = ⟨bs.toArray⟩ := by
          apply ByteArray.ext; apply Array.ext'; rw [HX.out, List.take_length, HJ.out]
        subst hx0
        clear HX hst5 HT HJ hk
        have hbs7 := bytes_keep hbs6 (Keep.of_below hbr) (fun a h1 h2 => bytes_lt hbs6 a h1 h2)
        have hw6 : Below w.heap.size w wr := hw5.trans (hbr.mono hw5.size)
        go_wp2_with fail
        refine (Lower_any a0 len0 cap0 bs wr HL.out (by omega) hbs7).mono ?_
        rintro e w7 ⟨v7, rfl, hrow7, hbel7⟩
        obtain ⟨q7, c7, rfl, _, _, _, hlo7, hblk7⟩ := row_open hrow7
        have hbs8 := bytes_keep hbs7 (Keep.of_below hbel7) (fun a h1 h2 => bytes_lt hbs7 a h1 h2)
        have hw7 : Below w.heap.size w w7 := hw6.trans (hbel7.mono hw6.size)
        clear hbs6 hbs7 hrow7 hbel7 hblk7
        have hcva : ∀ W : World, Lib.BytesIn W a0 len0 (Lib.numsL bs) → (convert 22 9 (.slice a0 len0 cap0)).run Try.prog W = .ok (.string ⟨bs.toArray⟩) W := fun W h => by
          have h := h.convert (P := Try.prog) (by rw [Lib.numsL_length, HL.out]) cap0 22 5 9 Try.underlying22 Try.underlying5 Try.underlying9
          rwa [strOfNums_numsL] at h
        have hcvl : ∀ (W : World) q c', Lib.BytesIn W q len0 (Lib.numsL (lowL bs)) → (convert 22 9 (.slice q len0 c')).run Try.prog W = .ok (.string ⟨(lowL bs).toArray⟩) W := fun W q c' h => by
          have h := h.convert (P := Try.prog) (by rw [Lib.numsL_length, lowL_length, HL.out]) c' 22 5 9 Try.underlying22 Try.underlying5 Try.underlying9
          rwa [strOfNums_numsL] at h
        have HSM := Lib.hid (show sameLow bs (lowL bs) = true by unfold sameLow; rw [lowL_lowL]; simp)
        have hlow := lowL_lowL bs
        have hll := lowL_length bs
        go_wp2_with fail
        refine pregion_any (fun W => Lib.BytesIn W a0 len0 (Lib.numsL bs) ∧ Lib.BytesIn W q7 len0 (Lib.numsL (lowL bs))) (by kernel_rfl) ?_
        have hS : Lib.BytesIn w7.drew a0 len0 (Lib.numsL bs) ∧ Lib.BytesIn w7.drew q7 len0 (Lib.numsL (lowL bs)) := ⟨bytes_keep hbs8 (Keep.drew (fun _ => True) _) (fun _ _ _ => trivial), bytes_keep hlo7 (Keep.drew (fun _ => True) _) (fun _ _ _ => trivial)⟩
        refine wpAnyH_take (i := 0) (v := (.string ⟨bs.toArray⟩)) rfl (by kernel_rfl) (by kernel_rfl) (by kernel_rfl) (fun _ _ _ h => h) (.inl ⟨by kernel_rfl, ?_⟩) hS ?_
        · rintro w ⟨h1, h2⟩; first | (go_simp; done) | (go_simp; rw [hcva w h1]; go_simp; done) | (go_simp; rw [hcvl w _ _ h2]; go_simp)
        refine wpAnyH_take (i := 1) (v := (.slice a0 len0 cap0)) rfl (by kernel_rfl) (by kernel_rfl) (by kernel_rfl) (fun _ _ _ h => h) (.inl ⟨by kernel_rfl, ?_⟩) hS ?_
        · rintro w ⟨h1, h2⟩; first | (go_simp; done) | (go_simp; rw [hcva w h1]; go_simp; done) | (go_simp; rw [hcvl w _ _ h2]; go_simp)
        refine wpAnyH_take (i := 2) (v := (.string ⟨bs.toArray⟩)) rfl (by kernel_rfl) (by kernel_rfl) (by kernel_rfl) (fun _ _ _ h => h) (.inl ⟨by kernel_rfl, ?_⟩) hS ?_
        · rintro w ⟨h1, h2⟩; first | (go_simp; done) | (go_simp; rw [hcva w h1]; go_simp; done) | (go_simp; rw [hcvl w _ _ h2]; go_simp)
        refine wpAnyH_take (i := 3) (v := (.bool true)) rfl (by kernel_rfl) (by kernel_rfl) (by kernel_rfl) (fun _ _ _ h => h) (.inl ⟨by kernel_rfl, ?_⟩) hS ?_
        · rintro w ⟨h1, h2⟩; first | (go_simp; done) | (go_simp; rw [hcva w h1]; go_simp; done) | (go_simp; rw [hcvl w _ _ h2]; go_simp)
        refine wpAnyH_take (i := 4) (v := (.bool true)) rfl (by kernel_rfl) (by kernel_rfl) (by kernel_rfl) (fun _ _ _ h => h) (.inl ⟨by kernel_rfl, ?_⟩) hS ?_
        · rintro w ⟨h1, h2⟩; first | (go_simp; done) | (go_simp; rw [hcva w h1]; go_simp; done) | (go_simp; rw [hcvl w _ _ h2]; go_simp)
        refine wpAnyH_take (i := 5) (v := (.slice q7 len0 c7)) rfl (by kernel_rfl) (by kernel_rfl) (by kernel_rfl) (fun _ _ _ h => h) (.inl ⟨by kernel_rfl, ?_⟩) hS ?_
        · rintro w ⟨h1, h2⟩; first | (go_simp; done) | (go_simp; rw [hcva w h1]; go_simp; done) | (go_simp; rw [hcvl w _ _ h2]; go_simp)
        refine wpAnyH_take (i := 8) (v := (.slice q7 len0 c7)) rfl (by kernel_rfl) (by kernel_rfl) (by kernel_rfl) (fun _ _ _ h => h) (.inl ⟨by kernel_rfl, ?_⟩) hS ?_
        · rintro w ⟨h1, h2⟩; first | (go_simp; done) | (go_simp; rw [hcva w h1]; go_simp; done) | (go_simp; rw [hcvl w _ _ h2]; go_simp)
        refine wpAnyH_take (i := 9) (v := (.string ⟨(lowL bs).toArray⟩)) rfl (by kernel_rfl) (by kernel_rfl) (by kernel_rfl) (fun _ _ _ h => h) (.inl ⟨by kernel_rfl, ?_⟩) hS ?_
        · rintro w ⟨h1, h2⟩; first | (go_simp; done) | (go_simp; rw [hcva w h1]; go_simp; done) | (go_simp; rw [hcvl w _ _ h2]; go_simp)
        refine pone 6 (by kernel_rfl) rfl fun K hK => ?_
        go_simp
        refine (Lower_any q7 len0 c7 (lowL bs) w7.drew (by rw [hll, HL.out]) (by omega) hS.2).mono ?_
        rintro e w8 ⟨v8, rfl, hrow8, hbel8⟩
        rw [hlow] at hrow8
        obtain ⟨q8, c8, rfl, _, _, _, hlo8, _⟩ := row_open hrow8
        have hS8 : Lib.BytesIn w8 a0 len0 (Lib.numsL bs) ∧ Lib.BytesIn w8 q7 len0 (Lib.numsL (lowL bs)) := ⟨bytes_keep hS.1 (Keep.of_below hbel8) (fun a h1 h2 => bytes_lt hS.1 a h1 h2), bytes_keep hS.2 (Keep.of_below hbel8) (fun a h1 h2 => bytes_lt hS.2 a h1 h2)⟩
        have hw8 : Below w.heap.size w w8 := hw7.drew.trans (hbel8.mono (by rw [drew_size]; exact hw7.size))
        refine hK _ _ hS8 ?_
        clear hK K hS hrow8 hbel8 hbs8 hlo7
        refine plist #[true, true, true, true, true, true, true, false, true, true, false, false, false, false, false, false, false, false, false, false, false, false, false, false, false] (by kernel_rfl) ?_
        refine pone 7 (by kernel_rfl) rfl fun K hK => ?_
        go_simp
        refine hK _ _ hS8 ?_
        clear hK K
        refine plist #[true, true, true, true, true, true, true, true, true, true, false, false, false, false, false, false, false, false, false, false, false, false, false, false, false] (by kernel_rfl) ?_
        refine wpAnyH_take (i := 10) (v := (.bool true)) rfl (by kernel_rfl) (by kernel_rfl) (by kernel_rfl) (fun _ _ _ h => h) (.inl ⟨by kernel_rfl, ?_⟩) hS8 ?_
        · rintro w ⟨h1, h2⟩; first | (go_simp; done) | (go_simp; rw [hcva w h1]; go_simp; done) | (go_simp; rw [hcvl w _ _ h2]; go_simp)
        refine plist #[true, true, true, true, true, true, true, true, true, true, true, false, false, false, false, false, false, false, false, false, false, false, false, false, false] (by kernel_rfl) ?_
        refine wpAnyH_take (i := 11) (v := (.bool true)) rfl (by kernel_rfl) (by kernel_rfl) (by kernel_rfl) (fun _ _ _ h => h) (.inl ⟨by kernel_rfl, ?_⟩) hS8 ?_
        · rintro w ⟨h1, h2⟩; first | (go_simp; done) | (go_simp; rw [hcva w h1]; go_simp; done) | (go_simp; rw [hcvl w _ _ h2]; go_simp)
        refine plist #[true, true, true, true, true, true, true, true, true, true, true, true, false, false, false, false, false, false, false, false, false, false, false, false, false] (by kernel_rfl) ?_
        refine wpAnyH_take (i := 12) (v := (.bool true)) rfl (by kernel_rfl) (by kernel_rfl) (by kernel_rfl) (fun _ _ _ h => h) (.inl ⟨by kernel_rfl, ?_⟩) hS8 ?_
        · rintro w ⟨h1, h2⟩; first | (go_simp; done) | (go_simp; rw [hcva w h1]; go_simp; done) | (go_simp; rw [hcvl w _ _ h2]; go_simp)
        refine plist #[true, true, true, true, true, true, true, true, true, true, true, true, true, false, false, false, false, false, false, false, false, false, false, false, false] (by kernel_rfl) ?_
        refine wpAnyH_take (i := 13) (v := (.slice a0 len0 cap0)) rfl (by kernel_rfl) (by kernel_rfl) (by kernel_rfl) (fun _ _ _ h => h) (.inl ⟨by kernel_rfl, ?_⟩) hS8 ?_
        · rintro w ⟨h1, h2⟩; first | (go_simp; done) | (go_simp; rw [hcva w h1]; go_simp; done) | (go_simp; rw [hcvl w _ _ h2]; go_simp)
        refine plist #[true, true, true, true, true, true, true, true, true, true, true, true, true, true, false, false, false, false, false, false, false, false, false, false, false] (by kernel_rfl) ?_
        refine wpAnyH_take (i := 14) (v := (.slice q7 len0 c7)) rfl (by kernel_rfl) (by kernel_rfl) (by kernel_rfl) (fun _ _ _ h => h) (.inl ⟨by kernel_rfl, ?_⟩) hS8 ?_
        · rintro w ⟨h1, h2⟩; first | (go_simp; done) | (go_simp; rw [hcva w h1]; go_simp; done) | (go_simp; rw [hcvl w _ _ h2]; go_simp)
        refine plist #[true, true, true, true, true, true, true, true, true, true, true, true, true, true, true, false, false, false, false, false, false, false, false, false, false] (by kernel_rfl) ?_
        refine pone 15 (by kernel_rfl) rfl fun K hK => ?_
        go_simp
        refine (cutSame_any a0 q7 len0 cap0 len0 c7 bs (lowL bs) w8 HL.out (by rw [hll, HL.out]) (by omega) (by omega) hS8.1 hS8.2).mono ?_
        rintro e w9 ⟨rfl, rfl⟩
        rw [HSM.out]
        refine hK _ _ hS8 ?_
        clear hK K
        refine plist #[true, true, true, true, true, true, true, true, true, true, true, true, true, true, true, true, false, false, false, false, false, false, false, false, false] (by kernel_rfl) ?_
        refine pone 16 (by kernel_rfl) rfl fun K hK => ?_
        go_simp
        refine hK _ _ hS8 ?_
        clear hK K
        refine plist #[true, true, true, true, true, true, true, true, true, true, true, true, true, true, true, true, true, false, false, false, false, false, false, false, false] (by kernel_rfl) ?_
        refine pone 17 (by kernel_rfl) rfl fun K hK => ?_
        go_simp
        refine hK _ _ hS8 ?_
        clear hK K
        refine plist #[true, true, true, true, true, true, true, true, true, true, true, true, true, true, true, true, true, true, false, false, false, false, false, false, false] (by kernel_rfl) ?_
        refine wpAnyH_take (i := 18) (v := (.slice q7 len0 c7)) rfl (by kernel_rfl) (by kernel_rfl) (by kernel_rfl) (fun _ _ _ h => h) (.inl ⟨by kernel_rfl, ?_⟩) hS8 ?_
        · rintro w ⟨h1, h2⟩; first | (go_simp; done) | (go_simp; rw [hcva w h1]; go_simp; done) | (go_simp; rw [hcvl w _ _ h2]; go_simp)
        refine plist #[true, true, true, true, true, true, true, true, true, true, true, true, true, true, true, true, true, true, true, false, false, false, false, false, false] (by kernel_rfl) ?_
        refine wpAnyH_take (i := 19) (v := (.int .i64 (len0 : Int))) rfl (by kernel_rfl) (by kernel_rfl) (by kernel_rfl) (fun _ _ _ h => h) (.inl ⟨by kernel_rfl, ?_⟩) hS8 ?_
        · rintro w ⟨h1, h2⟩; first | (go_simp; done) | (go_simp; rw [hcva w h1]; go_simp; done) | (go_simp; rw [hcvl w _ _ h2]; go_simp)
        refine plist #[true, true, true, true, true, true, true, true, true, true, true, true, true, true, true, true, true, true, true, true, false, false, false, false, false] (by kernel_rfl) ?_
        refine wpAnyH_take (i := 20) (v := (.slice a0 len0 cap0)) rfl (by kernel_rfl) (by kernel_rfl) (by kernel_rfl) (fun _ _ _ h => h) (.inl ⟨by kernel_rfl, ?_⟩) hS8 ?_
        · rintro w ⟨h1, h2⟩; first | (go_simp; done) | (go_simp; rw [hcva w h1]; go_simp; done) | (go_simp; rw [hcvl w _ _ h2]; go_simp)
        refine plist #[true, true, true, true, true, true, true, true, true, true, true, true, true, true, true, true, true, true, true, true, true, false, false, false, false] (by kernel_rfl) ?_
        refine wpAnyH_take (i := 21) (v := (.int .i64 (len0 : Int))) rfl (by kernel_rfl) (by kernel_rfl) (by kernel_rfl) (fun _ _ _ h => h) (.inl ⟨by kernel_rfl, ?_⟩) hS8 ?_
        · rintro w ⟨h1, h2⟩; first | (go_simp; done) | (go_simp; rw [hcva w h1]; go_simp; done) | (go_simp; rw [hcvl w _ _ h2]; go_simp)
        refine plist #[true, true, true, true, true, true, true, true, true, true, true, true, true, true, true, true, true, true, true, true, true, true, false, false, false] (by kernel_rfl) ?_
        refine pone 22 (by kernel_rfl) rfl fun K hK => ?_
        go_simp
        refine hK _ _ hS8 ?_
        clear hK K
        refine plist #[true, true, true, true, true, true, true, true, true, true, true, true, true, true, true, true, true, true, true, true, true, true, true, false, false] (by kernel_rfl) ?_
        refine pone 23 (by kernel_rfl) rfl fun K hK => ?_
        go_simp
        refine hK _ _ hS8 ?_
        clear hK K
        refine plist #[true, true, true, true, true, true, true, true, true, true, true, true, true, true, true, true, true, true, true, true, true, true, true, true, false] (by kernel_rfl) ?_
        refine pone 24 (by kernel_rfl) rfl fun K hK => ?_
        go_simp
        refine hK _ _ hS8 ?_
        clear hK K
        refine pdone (by kernel_rfl) ?_ _
        go_wp2
        go_ret
        exact ⟨rfl, hw8⟩

set_option maxRecDepth 100000 in
theorem lifted (os : Os) (started : os.Started) (H : Type) (enc : TypeId × Value → H) :
    ReturnsInHanded {} Try.checked os 7 .any (Rows.cutBackSpec.pre6 enc Try.prog Try.f7 Rows.cutBackRow.domain false) (Rows.cutBackSpec.post enc Try.prog Try.f7 false true false false) := by
  refine returnsInHanded_of_change (C := Try.checked) own started (by kernel_rfl) Try.func7
    (ChangeSpec.witness6 (enc := enc) (C := Try.checked) false ⟨#[], #[.slice none 0 0, .int .u8 0], []⟩ 8 (by kernel_rfl) (by kernel_rfl) (by kernel_rfl) (by kernel_rfl)) ?_
  intro W base args ds gs before hval0 hW hcnd _
  have hval : ∀ (j : Nat) t v, Try.f7.params[j]? = some t → args[j]? = some v → Value.okWide Try.prog W .any base t v := hval0
  have hW' := hW
  obtain ⟨p, q, hA0, hV, rfl, hfz, hnd⟩ := hW
  have hA : DataW.TrodAll enc Try.prog W 0 (fun _ => true) true Try.f7.params.toList args.toList ds p := hA0
  rw [Try.params7] at hA hval
  obtain ⟨v0, vs0, d0, ds0, p0, q0, hargs, rfl, rfl, h0, r0⟩ := trodAll_cons hA
  obtain ⟨v1, vs1, d1, ds1, p1, q1, rfl, rfl, rfl, h1, r1⟩ := trodAll_cons r0
  obtain ⟨rfl, rfl, rfl⟩ := trodAll_nil r1
  obtain rfl : args = #[v0, v1] := by cases args; simp_all
  obtain ⟨rfl, rfl⟩ := trodVars_none hV
  obtain ⟨a0, len0, cap0, rfl⟩ := okWide_slice Try.underlying22 (hval 0 22 v0 rfl rfl)
  have k0 := h0
  have lt0 : ∀ x ∈ p0, x.block < W.heap.size := by obtain ⟨m, hm⟩ := k0; exact DataW.trod_lt m _ _ _ hm
  obtain ⟨z0, w0⟩ : ∃ zs, IsRow .u8 W a0 len0 cap0 zs := by
    obtain ⟨fuel, hf⟩ := h0
    rcases open_ints Try.underlying22 Try.underlying5 (by kernel_rfl) hf with ⟨hcs, _⟩ | ⟨x, l, c, zs, hcs, _, hl, hm, hz, _, hcell, hwz⟩
    · simp [Value.cells] at hcs
      obtain ⟨rfl, rfl, rfl⟩ := hcs
      exact ⟨[], .inl ⟨rfl, rfl, rfl, rfl⟩⟩
    · simp [Value.cells] at hcs
      obtain ⟨rfl, rfl, rfl⟩ := hcs
      exact ⟨zs, .inr ⟨_, rfl, hl, hm, by simpa using hz, hcell, hwz⟩⟩
  obtain ⟨a1, rfl, rfl, rfl, w1⟩ := open_int Try.underlying5 (hval 1 5 v1 rfl rfl) h1
  clear hA0 hval0
  refine (walk a0 len0 cap0 z0 a1 W w0 w1).mono fun e W' ⟨he, bel⟩ => ?_
  subst he
  exact ⟨_, rfl, _, _, _, [], _, [], hW', trodAll_mk1 (shut_bool Try.underlying4 _), (trodAll_cons_mk (Below.trod laidOut (by kernel_rfl) (of_decide_eq_true (by kernel_rfl)) k0 bel lt0) (trodAll_cons_mk (shut_int Try.underlying5 w1) trodAll_mk0)), rfl, bel.frame _, fun h => by cases h⟩

theorem over : Rows.cutBackRow.holds Try.pinned (OpenSpec.ofChange Rows.cutBackSpec) :=
  OpenClaim.holds_of_wide 7 Try.f7 rfl rfl rfl rfl rfl rfl rfl ⟨rfl, rfl, rfl, rfl, rfl⟩ rfl rfl rfl rfl rfl (by kernel_rfl) Try.func7 (by kernel_rfl)
    (of_decide_eq_true (by kernel_rfl)) (by unfold Func.isWrapper; first | (rw [if_pos (by decide +kernel)]; kernel_rfl) | (rw [if_neg (by decide +kernel)]; exact ⟨rfl, rfl⟩))
    (fun os started H enc _ => lifted os started H enc)

theorem proved : Rows.CutBackSaid := over
end Go.Proofs.Ytefgccdpgfdelaa.cutBack
