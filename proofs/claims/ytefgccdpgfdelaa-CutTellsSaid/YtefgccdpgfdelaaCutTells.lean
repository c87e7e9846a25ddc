/- CutTells: the law returns true at whatever input, and writes nothing that was there. Conditions: none. -/
import Derived.Test.YtefgccdpgfdelaaRows
import Derived.Test.YtefgccdpgfdelaaLawF
import Derived.Test.YtefgccdpgfdelaaCutK
import Derived.WalkKit
import Derived.ProofKit
import Derived.OpenShut
import Derived.ShutString
import Derived.ChangeOld
import Derived.Below
namespace Go.Proofs.Ytefgccdpgfdelaa.cutTells
open Go.ChangeShapes Go.WideShapes Go.ChangeAt Go.RowKit
open Go.ChangeMaps (open_string shut_string)
set_option linter.unusedVariables false

theorem own : ownKnob Try.prog.godebug = none := by kernel_rfl
theorem laidOut : laidOutB Try.prog = true := by kernel_rfl

def IsRow (k : IntKind) (w : World) (a : Option Addr) (len cap : Nat) (zs : List Int) : Prop :=
  (a = none ∧ len = 0 ∧ cap = 0 ∧ zs = []) ∨
  ∃ x, a = some x ∧ len ≤ cap ∧ cap ≤ maxLen ∧ zs.length = cap ∧ (∀ i, i < zs.length → w.cell? (x.add i) = some (.int k (zs.getD i 0))) ∧ ∀ n ∈ zs, (Lit.int k n).wf = true

theorem row_bytes {w : World} {a : Option Addr} {len cap : Nat} {zs : List Int} (h : IsRow .u8 w a len cap zs) : ∃ bs : List UInt8, bs.length = len ∧ len ≤ cap ∧ Lib.BytesIn w a len (Lib.numsL bs) ∧ len ≤ 9223372036854775807 := by
  rcases h with ⟨rfl, rfl, rfl, rfl⟩ | ⟨x, rfl, h1, h2, h3, h4, h5⟩
  · exact ⟨[], rfl, Nat.le_refl _, Lib.BytesIn.nil _ _ _, by omega⟩
  · have hz : ∀ i, i < len → (Lib.numsL (Lib.bytesOf (zs.take len))).getD i 0 = zs.getD i 0 := fun i hi => by
      have hi' : i < zs.length := by omega
      have hw := bounds_u8 (h5 _ (List.getElem_mem hi'))
      have : (Lib.bytesOf (zs.take len)).getD i 0 = UInt8.ofNat (zs[i]).toNat := by
        simp [Lib.bytesOf, List.getD, List.getElem?_take, hi, List.getElem?_eq_getElem hi']
      rw [numsL_getD _ _ (by simp [Lib.bytesOf]; omega), this, List.getD, List.getElem?_eq_getElem hi']
      simp only [Option.getD_some, UInt8.toNat_ofNat']
      omega
    refine ⟨Lib.bytesOf (zs.take len), by simp [Lib.bytesOf]; omega, h1, Lib.BytesIn.of_cells fun i hi => ?_, by unfold maxLen at h2; omega⟩
    rw [hz i hi]
    exact h4 i (by omega)
set_option maxHeartbeats 8000000 in
set_option maxRecDepth 100000 in
theorem walk (a0 : Option Addr) (len0 cap0 : Nat) (z0 : List Int) (a1 : Int) (a2 : Option Addr) (len2 cap2 : Nat) (z2 : List Int) (w : World) (w0 : IsRow .u8 w a0 len0 cap0 z0) (w1 : (Lit.int .u8 a1).wf = true) (w2 : IsRow .u8 w a2 len2 cap2 z2) :
    Calls Try.prog 5 #[.slice a0 len0 cap0, .int .u8 a1, .slice a2 len2 cap2] w fun e w' => e = .returned (.bool true) ∧ Below w.heap.size w w' := by
  obtain ⟨bs, hl, hlc, hb, hmax⟩ := row_bytes w0
  obtain ⟨os, hlo, hlco, hbo, hmaxo⟩ := row_bytes w2
  have hnil : a0 = none → len0 = 0 ∧ cap0 = 0 := by rcases w0 with ⟨_, h1, h2, _⟩ | ⟨x, h, _⟩; exact fun _ => ⟨h1, h2⟩; (intro h'; rw [h] at h'; cases h')
  obtain ⟨c, hc⟩ : ∃ c : UInt8, a1 = (c.toNat : Int) := by
    have h := bounds_u8 w1
    exact ⟨UInt8.ofNat a1.toNat, by simp only [UInt8.toNat_ofNat']; omega⟩
  subst hc
  clear w0 w2
  by_cases hbig : 2000 < len0
  · have d1 : decide ((2000 : Int) < (len0 : Int)) = true := by simp; omega
    go_enter Try.func5, Try.ntmps5
    go_wp2_with fail
    refine (lives_any _).mono ?_
    rintro e w2 ⟨rfl, hb2⟩
    go_wp2_with fail
    refine (lives_any _).mono ?_
    rintro e w3 ⟨rfl, hb3⟩
    go_wp2
    go_ret
    exact ⟨rfl, hb2.trans (hb3.mono hb2.size)⟩
  have d1 : decide ((2000 : Int) < (len0 : Int)) = false := by simp; omega
  by_cases hbigo : 2000 < len2
  · have d2 : decide ((2000 : Int) < (len2 : Int)) = true := by simp; omega
    go_enter Try.func5, Try.ntmps5
    go_wp2_with fail
    refine (lives_any _).mono ?_
    rintro e w2 ⟨rfl, hb2⟩
    go_wp2_with fail
    refine (lives_any _).mono ?_
    rintro e w3 ⟨rfl, hb3⟩
    go_wp2
    go_ret
    exact ⟨rfl, hb2.trans (hb3.mono hb2.size)⟩
  · have d2 : decide ((2000 : Int) < (len2 : Int)) = false := by simp; omega
    have hsm : len0 ≤ 2000 := by omega
    have hsmo : len2 ≤ 2000 := by omega
    go_enter Try.func5, Try.ntmps5
    go_wp2_with fail
    refine (lives_any _).mono ?_
    rintro e w3 ⟨rfl, hw3⟩
    have hbs4 := bytes_keep hb (Keep.of_below hw3) (fun a h1 h2 => bytes_lt hb a h1 h2)
    have hbo4 := bytes_keep hbo (Keep.of_below hw3) (fun a h1 h2 => bytes_lt hbo a h1 h2)
    have HL := Lib.hid hl
    have HO := Lib.hid hlo
    clear hbig hbigo hmax hmaxo w1 hl hlo hb hbo
    go_wp2_with fail
    refine (At_any a0 len0 cap0 bs c w3 HL.out (by omega) hlc hnil hbs4).mono ?_
    rintro e w4 ⟨v1, v2, rfl, hrow1, hrow2, hbel4⟩
    obtain ⟨q1, c1, rfl, _, _, _, hbf4, _⟩ := row_open hrow1
    obtain ⟨q2, c2, rfl, _, _, _, hbg4, _⟩ := row_open hrow2
    have hbs5 := bytes_keep hbs4 (Keep.of_below hbel4) (fun a h1 h2 => bytes_lt hbs4 a h1 h2)
    have hbo5 := bytes_keep hbo4 (Keep.of_below hbel4) (fun a h1 h2 => bytes_lt hbo4 a h1 h2)
    have hw4 : Below w.heap.size w w4 := hw3.trans (hbel4.mono hw3.size)
    have con5 := refAt_any c ⟨bs.toArray⟩ w4 (by show bs.toArray.size ≤ _; simp; have := HL.out; omega)
    rw [show (⟨bs.toArray⟩ : ByteArray).data.toList = bs from by simp] at con5
    have HLF := Lib.hid (show (atFst c bs).length = (atFst c bs).length from rfl)
    clear hbs4 hbo4 hrow1 hrow2 hbel4
    generalize atFst c bs = Fl at *
    generalize atSnd c bs = Gl at *
    generalize atOk c bs = kk at *
    have hcva : ∀ W : World, Lib.BytesIn W a0 len0 (Lib.numsL bs) → (convert 22 9 (.slice a0 len0 cap0)).run Try.prog W = .ok (.string ⟨bs.toArray⟩) W := fun W h => by
      have h := h.convert (P := Try.prog) (by rw [Lib.numsL_length, HL.out]) cap0 22 5 9 Try.underlying22 Try.underlying5 Try.underlying9
      rwa [strOfNums_numsL] at h
    have hcvo : ∀ W : World, Lib.BytesIn W a2 len2 (Lib.numsL os) → (convert 22 9 (.slice a2 len2 cap2)).run Try.prog W = .ok (.string ⟨os.toArray⟩) W := fun W h => by
      have h := h.convert (P := Try.prog) (by rw [Lib.numsL_length, HO.out]) cap2 22 5 9 Try.underlying22 Try.underlying5 Try.underlying9
      rwa [strOfNums_numsL] at h
    have hcvf : ∀ W : World, Lib.BytesIn W q1 Fl.length (Lib.numsL Fl) → (convert 22 9 (.slice q1 Fl.length c1)).run Try.prog W = .ok (.string ⟨Fl.toArray⟩) W := fun W h => by
      have h := h.convert (P := Try.prog) (by rw [Lib.numsL_length]) c1 22 5 9 Try.underlying22 Try.underlying5 Try.underlying9
      rwa [strOfNums_numsL] at h
    have hcvg : ∀ W : World, Lib.BytesIn W q2 Gl.length (Lib.numsL Gl) → (convert 22 9 (.slice q2 Gl.length c2)).run Try.prog W = .ok (.string ⟨Gl.toArray⟩) W := fun W h => by
      have h := h.convert (P := Try.prog) (by rw [Lib.numsL_length]) c2 22 5 9 Try.underlying22 Try.underlying5 Try.underlying9
      rwa [strOfNums_numsL] at h
    have hcvl : ∀ (W : World) q c', Lib.BytesIn W q len0 (Lib.numsL (lowL bs)) → (convert 22 9 (.slice q len0 c')).run Try.prog W = .ok (.string ⟨(lowL bs).toArray⟩) W := fun W q c' h => by
      have h := h.convert (P := Try.prog) (by rw [Lib.numsL_length, lowL_length, HL.out]) c' 22 5 9 Try.underlying22 Try.underlying5 Try.underlying9
      rwa [strOfNums_numsL] at h
    generalize Fl.length = n1 at *
    generalize Gl.length = n2 at *
    have hll := lowL_length bs
    go_wp2_with fail
    refine con5.mono ?_
    rintro e w5 ⟨x5, y5, rfl, HX5, HY5, hq5⟩
    obtain rfl : x5 = ⟨Fl.toArray⟩ := by apply ByteArray.ext; apply Array.ext'; rw [HX5.out]
    obtain rfl : y5 = ⟨Gl.toArray⟩ := by apply ByteArray.ext; apply Array.ext'; rw [HY5.out]
    obtain ⟨hw5, hS0, hbo6⟩ : Below w.heap.size w w5 ∧ (Lib.BytesIn w5.drew a0 len0 (Lib.numsL bs) ∧ Lib.BytesIn w5.drew q1 n1 (Lib.numsL Fl) ∧ Lib.BytesIn w5.drew q2 n2 (Lib.numsL Gl)) ∧ Lib.BytesIn w5.drew a2 len2 (Lib.numsL os) := by
      obtain ⟨qd, rfl⟩ := hq5
      exact ⟨hw4.trans ⟨rfl, rfl, rfl, Nat.le_refl _, fun _ _ => rfl⟩, ⟨hbs5, hbf4, hbg4⟩, hbo5⟩
    clear hq5 con5 hbs5 hbo5 hbf4 hbg4 HX5 HY5 HLF hw4
    go_wp2_with fail
    refine pregion_any (fun W => Lib.BytesIn W a0 len0 (Lib.numsL bs) ∧ Lib.BytesIn W q1 n1 (Lib.numsL Fl) ∧ Lib.BytesIn W q2 n2 (Lib.numsL Gl)) (by kernel_rfl) ?_
    refine wpAnyH_take (i := 0) (v := (.slice q1 n1 c1)) rfl (by kernel_rfl) (by kernel_rfl) (by kernel_rfl) (fun _ _ _ h => h) (.inl ⟨by kernel_rfl, ?_⟩) hS0 ?_
    · rintro w ⟨h1, h2, h3⟩; go_simp
    refine plist #[true, false, false, false, false, false, false, false, false, false, false, false, false, false, false, false, false, false, false, false, false, false, false, false] (by kernel_rfl) ?_
    refine wpAnyH_take (i := 1) (v := (.string ⟨Fl.toArray⟩)) rfl (by kernel_rfl) (by kernel_rfl) (by kernel_rfl) (fun _ _ _ h => h) (.inl ⟨by kernel_rfl, ?_⟩) hS0 ?_
    · rintro w ⟨h1, h2, h3⟩; go_simp
    refine plist #[true, true, false, false, false, false, false, false, false, false, false, false, false, false, false, false, false, false, false, false, false, false, false, false] (by kernel_rfl) ?_
    refine wpAnyH_take (i := 2) (v := (.string ⟨Fl.toArray⟩)) rfl (by kernel_rfl) (by kernel_rfl) (by kernel_rfl) (fun _ _ _ h => h) (.inl ⟨by kernel_rfl, ?_⟩) hS0 ?_
    · rintro w ⟨h1, h2, h3⟩; go_simp
    refine plist #[true, true, true, false, false, false, false, false, false, false, false, false, false, false, false, false, false, false, false, false, false, false, false, false] (by kernel_rfl) ?_
    refine wpAnyH_take (i := 3) (v := (.bool false)) rfl (by kernel_rfl) (by kernel_rfl) (by kernel_rfl) (fun _ _ _ h => h) (.inl ⟨by kernel_rfl, ?_⟩) hS0 ?_
    · rintro w ⟨h1, h2, h3⟩; go_simp
    refine plist #[true, true, true, true, false, false, false, false, false, false, false, false, false, false, false, false, false, false, false, false, false, false, false, false] (by kernel_rfl) ?_
    refine wpAnyH_take (i := 4) (v := (.bool false)) rfl (by kernel_rfl) (by kernel_rfl) (by kernel_rfl) (fun _ _ _ h => h) (.inl ⟨by kernel_rfl, ?_⟩) hS0 ?_
    · rintro w ⟨h1, h2, h3⟩; go_simp
    refine plist #[true, true, true, true, true, false, false, false, false, false, false, false, false, false, false, false, false, false, false, false, false, false, false, false] (by kernel_rfl) ?_
    refine wpAnyH_take (i := 5) (v := (.slice q2 n2 c2)) rfl (by kernel_rfl) (by kernel_rfl) (by kernel_rfl) (fun _ _ _ h => h) (.inl ⟨by kernel_rfl, ?_⟩) hS0 ?_
    · rintro w ⟨h1, h2, h3⟩; go_simp
    refine plist #[true, true, true, true, true, true, false, false, false, false, false, false, false, false, false, false, false, false, false, false, false, false, false, false] (by kernel_rfl) ?_
    refine wpAnyH_take (i := 6) (v := (.string ⟨Gl.toArray⟩)) rfl (by kernel_rfl) (by kernel_rfl) (by kernel_rfl) (fun _ _ _ h => h) (.inl ⟨by kernel_rfl, ?_⟩) hS0 ?_
    · rintro w ⟨h1, h2, h3⟩; go_simp
    refine plist #[true, true, true, true, true, true, true, false, false, false, false, false, false, false, false, false, false, false, false, false, false, false, false, false] (by kernel_rfl) ?_
    refine wpAnyH_take (i := 7) (v := (.string ⟨Gl.toArray⟩)) rfl (by kernel_rfl) (by kernel_rfl) (by kernel_rfl) (fun _ _ _ h => h) (.inl ⟨by kernel_rfl, ?_⟩) hS0 ?_
    · rintro w ⟨h1, h2, h3⟩; go_simp
    refine plist #[true, true, true, true, true, true, true, true, false, false, false, false, false, false, false, false, false, false, false, false, false, false, false, false] (by kernel_rfl) ?_
    refine wpAnyH_take (i := 8) (v := (.bool false)) rfl (by kernel_rfl) (by kernel_rfl) (by kernel_rfl) (fun _ _ _ h => h) (.inl ⟨by kernel_rfl, ?_⟩) hS0 ?_
    · rintro w ⟨h1, h2, h3⟩; go_simp
    refine plist #[true, true, true, true, true, true, true, true, true, false, false, false, false, false, false, false, false, false, false, false, false, false, false, false] (by kernel_rfl) ?_
    refine wpAnyH_take (i := 9) (v := (.bool false)) rfl (by kernel_rfl) (by kernel_rfl) (by kernel_rfl) (fun _ _ _ h => h) (.inl ⟨by kernel_rfl, ?_⟩) hS0 ?_
    · rintro w ⟨h1, h2, h3⟩; go_simp
    refine plist #[true, true, true, true, true, true, true, true, true, true, false, false, false, false, false, false, false, false, false, false, false, false, false, false] (by kernel_rfl) ?_
    refine wpAnyH_take (i := 10) (v := (.bool false)) rfl (by kernel_rfl) (by kernel_rfl) (by kernel_rfl) (fun _ _ _ h => h) (.inl ⟨by kernel_rfl, ?_⟩) hS0 ?_
    · rintro w ⟨h1, h2, h3⟩; go_simp
    refine plist #[true, true, true, true, true, true, true, true, true, true, true, false, false, false, false, false, false, false, false, false, false, false, false, false] (by kernel_rfl) ?_
    refine wpAnyH_take (i := 11) (v := (.bool kk)) rfl (by kernel_rfl) (by kernel_rfl) (by kernel_rfl) (fun _ _ _ h => h) (.inl ⟨by kernel_rfl, ?_⟩) hS0 ?_
    · rintro w ⟨h1, h2, h3⟩; go_simp
    refine plist #[true, true, true, true, true, true, true, true, true, true, true, true, false, false, false, false, false, false, false, false, false, false, false, false] (by kernel_rfl) ?_
    refine wpAnyH_take (i := 12) (v := (.bool kk)) rfl (by kernel_rfl) (by kernel_rfl) (by kernel_rfl) (fun _ _ _ h => h) (.inl ⟨by kernel_rfl, ?_⟩) hS0 ?_
    · rintro w ⟨h1, h2, h3⟩; go_simp
    refine plist #[true, true, true, true, true, true, true, true, true, true, true, true, true, false, false, false, false, false, false, false, false, false, false, false] (by kernel_rfl) ?_
    refine wpAnyH_take (i := 13) (v := (.bool false)) rfl (by kernel_rfl) (by kernel_rfl) (by kernel_rfl) (fun _ _ _ h => h) (.inl ⟨by kernel_rfl, ?_⟩) hS0 ?_
    · rintro w ⟨h1, h2, h3⟩; go_simp
    refine plist #[true, true, true, true, true, true, true, true, true, true, true, true, true, true, false, false, false, false, false, false, false, false, false, false] (by kernel_rfl) ?_
    refine wpAnyH_take (i := 14) (v := (.bool false)) rfl (by kernel_rfl) (by kernel_rfl) (by kernel_rfl) (fun _ _ _ h => h) (.inl ⟨by kernel_rfl, ?_⟩) hS0 ?_
    · rintro w ⟨h1, h2, h3⟩; go_simp
    refine plist #[true, true, true, true, true, true, true, true, true, true, true, true, true, true, true, false, false, false, false, false, false, false, false, false] (by kernel_rfl) ?_
    refine wpAnyH_take (i := 15) (v := (.bool false)) rfl (by kernel_rfl) (by kernel_rfl) (by kernel_rfl) (fun _ _ _ h => h) (.inl ⟨by kernel_rfl, ?_⟩) hS0 ?_
    · rintro w ⟨h1, h2, h3⟩; go_simp
    refine plist #[true, true, true, true, true, true, true, true, true, true, true, true, true, true, true, true, false, false, false, false, false, false, false, false] (by kernel_rfl) ?_
    refine wpAnyH_take (i := 16) (v := (.slice a0 len0 cap0)) rfl (by kernel_rfl) (by kernel_rfl) (by kernel_rfl) (fun _ _ _ h => h) (.inl ⟨by kernel_rfl, ?_⟩) hS0 ?_
    · rintro w ⟨h1, h2, h3⟩; go_simp
    refine plist #[true, true, true, true, true, true, true, true, true, true, true, true, true, true, true, true, true, false, false, false, false, false, false, false] (by kernel_rfl) ?_
    refine wpAnyH_take (i := 19) (v := (.slice a0 len0 cap0)) rfl (by kernel_rfl) (by kernel_rfl) (by kernel_rfl) (fun _ _ _ h => h) (.inl ⟨by kernel_rfl, ?_⟩) hS0 ?_
    · rintro w ⟨h1, h2, h3⟩; go_simp
    refine plist #[true, true, true, true, true, true, true, true, true, true, true, true, true, true, true, true, true, false, false, true, false, false, false, false] (by kernel_rfl) ?_
    refine wpAnyH_take (i := 20) (v := (.string ⟨bs.toArray⟩)) rfl (by kernel_rfl) (by kernel_rfl) (by kernel_rfl) (fun _ _ _ h => h) (.inl ⟨by kernel_rfl, ?_⟩) hS0 ?_
    · rintro w ⟨h1, h2, h3⟩; go_simp
    refine plist #[true, true, true, true, true, true, true, true, true, true, true, true, true, true, true, true, true, false, false, true, true, false, false, false] (by kernel_rfl) ?_
    refine pone 17 (by kernel_rfl) rfl fun K hK => ?_
    go_simp
    refine (Lower_any a0 len0 cap0 bs w5.drew HL.out (by omega) hS0.1).mono ?_
    rintro e w6 ⟨v6, rfl, hrow6, hbel6⟩
    obtain ⟨q6, c6, rfl, _, _, _, hbl6, _⟩ := row_open hrow6
    have hS1 := And.intro (bytes_keep hS0.1 (Keep.of_below hbel6) (fun a h1 h2 => bytes_lt hS0.1 a h1 h2)) (And.intro (bytes_keep hS0.2.1 (Keep.of_below hbel6) (fun a h1 h2 => bytes_lt hS0.2.1 a h1 h2)) (bytes_keep hS0.2.2 (Keep.of_below hbel6) (fun a h1 h2 => bytes_lt hS0.2.2 a h1 h2)))
    have hbo7 := bytes_keep hbo6 (Keep.of_below hbel6) (fun a h1 h2 => bytes_lt hbo6 a h1 h2)
    have hw6 : Below w.heap.size w w6 := hw5.drew.trans (hbel6.mono (by rw [drew_size]; exact hw5.size))
    refine hK _ _ hS1 ?_
    clear hK K hS0 hrow6 hbel6 hbo6 hw5
    have hS2 := And.intro hS1 hbl6
    refine pmore (S' := fun W => (Lib.BytesIn W a0 len0 (Lib.numsL bs) ∧ Lib.BytesIn W q1 n1 (Lib.numsL Fl) ∧ Lib.BytesIn W q2 n2 (Lib.numsL Gl)) ∧ Lib.BytesIn W q6 len0 (Lib.numsL (lowL bs))) (fun _ h => h.1) ?_
    refine plist #[true, true, true, true, true, true, true, true, true, true, true, true, true, true, true, true, true, true, false, true, true, false, false, false] (by kernel_rfl) ?_
    refine wpAnyH_take (i := 18) (v := (.string ⟨(lowL bs).toArray⟩)) rfl (by kernel_rfl) (by kernel_rfl) (by kernel_rfl) (fun _ _ _ h => h) (.inl ⟨by kernel_rfl, ?_⟩) hS2 ?_
    · rintro w ⟨⟨h1, h2, h3⟩, h4⟩; go_simp
    refine plist #[true, true, true, true, true, true, true, true, true, true, true, true, true, true, true, true, true, true, true, true, true, false, false, false] (by kernel_rfl) ?_
    refine pone 21 (by kernel_rfl) rfl fun K hK => ?_
    go_simp
    have con7 := refLower_any ⟨bs.toArray⟩ w6 (by show bs.toArray.size ≤ _; simp; have := HL.out; omega)
    rw [show (⟨bs.toArray⟩ : ByteArray).data.toList = bs from by simp] at con7
    refine con7.mono ?_
    rintro e w7 ⟨x7, rfl, HX7, hq7⟩
    obtain rfl : x7 = ⟨(lowL bs).toArray⟩ := by apply ByteArray.ext; apply Array.ext'; rw [HX7.out]
    obtain ⟨hw7, hS3, hT3⟩ : Below w.heap.size w w7 ∧ ((Lib.BytesIn w7 a0 len0 (Lib.numsL bs) ∧ Lib.BytesIn w7 q1 n1 (Lib.numsL Fl) ∧ Lib.BytesIn w7 q2 n2 (Lib.numsL Gl)) ∧ Lib.BytesIn w7 q6 len0 (Lib.numsL (lowL bs))) ∧ (Lib.BytesIn w7.drew a0 len0 (Lib.numsL bs) ∧ Lib.BytesIn w7.drew a2 len2 (Lib.numsL os)) := by
      obtain ⟨qd, rfl⟩ := hq7
      exact ⟨hw6.trans ⟨rfl, rfl, rfl, Nat.le_refl _, fun _ _ => rfl⟩, hS2, hS1.1, hbo7⟩
    refine hK _ _ hS3 ?_
    clear hK K hq7 con7 HX7 hbo7 hS1 hbl6 hw6
    refine plist #[true, true, true, true, true, true, true, true, true, true, true, true, true, true, true, true, true, true, true, true, true, true, false, false] (by kernel_rfl) ?_
    refine wpAnyH_take (i := 22) (v := (.bool false)) rfl (by kernel_rfl) (by kernel_rfl) (by kernel_rfl) (fun _ _ _ h => h) (.inl ⟨by kernel_rfl, ?_⟩) hS3 ?_
    · rintro w ⟨⟨h1, h2, h3⟩, h4⟩; go_simp
    refine plist #[true, true, true, true, true, true, true, true, true, true, true, true, true, true, true, true, true, true, true, true, true, true, true, false] (by kernel_rfl) ?_
    refine wpAnyH_take (i := 23) (v := (.bool false)) rfl (by kernel_rfl) (by kernel_rfl) (by kernel_rfl) (fun _ _ _ h => h) (.inl ⟨by kernel_rfl, ?_⟩) hS3 ?_
    · rintro w ⟨⟨h1, h2, h3⟩, h4⟩; go_simp
    refine pdone (by kernel_rfl) ?_ _
    clear hS3 hS2 hcvf hcvg hcvl
    have HQ : ∃ sb, Hid (sameLow bs os = sb) := ⟨_, rfl⟩
    obtain ⟨sb, HQ⟩ := HQ
    have hq1 : (lowL bs == lowL os) = sb := by rw [← HQ.out]; unfold sameLow; rw [Bool.eq_iff_iff, beq_iff_eq, decide_eq_true_iff]
    go_wp2_with fail
    refine pregion_any (fun W => Lib.BytesIn W a0 len0 (Lib.numsL bs) ∧ Lib.BytesIn W a2 len2 (Lib.numsL os)) (by kernel_rfl) ?_
    obtain ⟨tk, HT⟩ : ∃ tk, Hid (tokL bs = tk) := ⟨_, rfl⟩
    refine wpAnyH_take (i := 0) (v := (.slice a0 len0 cap0)) rfl (by kernel_rfl) (by kernel_rfl) (by kernel_rfl) (fun _ _ _ h => h) (.inl ⟨by kernel_rfl, ?_⟩) hT3 ?_
    · rintro w ⟨h1, h2⟩; go_simp
    refine plist #[true, false, false, false, false, false, false, false, false, false, false, false, false, false, false, false, false, false, false, false] (by kernel_rfl) ?_
    refine wpAnyH_take (i := 2) (v := (.slice a0 len0 cap0)) rfl (by kernel_rfl) (by kernel_rfl) (by kernel_rfl) (fun _ _ _ h => h) (.inl ⟨by kernel_rfl, ?_⟩) hT3 ?_
    · rintro w ⟨h1, h2⟩; go_simp
    refine plist #[true, false, true, false, false, false, false, false, false, false, false, false, false, false, false, false, false, false, false, false] (by kernel_rfl) ?_
    refine wpAnyH_take (i := 3) (v := (.string ⟨bs.toArray⟩)) rfl (by kernel_rfl) (by kernel_rfl) (by kernel_rfl) (fun _ _ _ h => h) (.inl ⟨by kernel_rfl, ?_⟩) hT3 ?_
    · rintro w ⟨h1, h2⟩; go_simp
    refine plist #[true, false, true, true, false, false, false, false, false, false, false, false, false, false, false, false, false, false, false, false] (by kernel_rfl) ?_
    refine pone 1 (by kernel_rfl) rfl fun K hK => ?_
    go_simp
    refine (Token_any a0 len0 cap0 bs w7.drew HL.out (by omega) hT3.1).mono ?_
    rintro e w8 ⟨rfl, rfl⟩
    rw [HT.out]
    refine hK _ _ hT3 ?_
    clear hK K
    refine plist #[true, true, true, true, false, false, false, false, false, false, false, false, false, false, false, false, false, false, false, false] (by kernel_rfl) ?_
    refine pone 4 (by kernel_rfl) rfl fun K hK => ?_
    go_simp
    have con8 := refToken_any ⟨bs.toArray⟩ w7.drew (by show bs.toArray.size ≤ _; simp; have := HL.out; omega)
    rw [show (⟨bs.toArray⟩ : ByteArray).data.toList = bs from by simp, HT.out] at con8
    refine con8.mono ?_
    rintro e w8 ⟨rfl, rfl⟩
    refine hK _ _ hT3 ?_
    clear hK K con8
    refine plist #[true, true, true, true, true, false, false, false, false, false, false, false, false, false, false, false, false, false, false, false] (by kernel_rfl) ?_
    refine wpAnyH_take (i := 5) (v := (.bool true)) rfl (by kernel_rfl) (by kernel_rfl) (by kernel_rfl) (fun _ _ _ h => h) (.inl ⟨by kernel_rfl, ?_⟩) hT3 ?_
    · rintro w ⟨h1, h2⟩; go_simp
    refine plist #[true, true, true, true, true, true, false, false, false, false, false, false, false, false, false, false, false, false, false, false] (by kernel_rfl) ?_
    refine wpAnyH_take (i := 6) (v := (.bool true)) rfl (by kernel_rfl) (by kernel_rfl) (by kernel_rfl) (fun _ _ _ h => h) (.inl ⟨by kernel_rfl, ?_⟩) hT3 ?_
    · rintro w ⟨h1, h2⟩; go_simp
    refine plist #[true, true, true, true, true, true, true, false, false, false, false, false, false, false, false, false, false, false, false, false] (by kernel_rfl) ?_
    refine wpAnyH_take (i := 7) (v := (.slice a0 len0 cap0)) rfl (by kernel_rfl) (by kernel_rfl) (by kernel_rfl) (fun _ _ _ h => h) (.inl ⟨by kernel_rfl, ?_⟩) hT3 ?_
    · rintro w ⟨h1, h2⟩; go_simp
    refine plist #[true, true, true, true, true, true, true, true, false, false, false, false, false, false, false, false, false, false, false, false] (by kernel_rfl) ?_
    refine wpAnyH_take (i := 8) (v := (.slice a2 len2 cap2)) rfl (by kernel_rfl) (by kernel_rfl) (by kernel_rfl) (fun _ _ _ h => h) (.inl ⟨by kernel_rfl, ?_⟩) hT3 ?_
    · rintro w ⟨h1, h2⟩; go_simp
    refine plist #[true, true, true, true, true, true, true, true, true, false, false, false, false, false, false, false, false, false, false, false] (by kernel_rfl) ?_
    refine wpAnyH_take (i := 10) (v := (.slice a0 len0 cap0)) rfl (by kernel_rfl) (by kernel_rfl) (by kernel_rfl) (fun _ _ _ h => h) (.inl ⟨by kernel_rfl, ?_⟩) hT3 ?_
    · rintro w ⟨h1, h2⟩; go_simp
    refine plist #[true, true, true, true, true, true, true, true, true, false, true, false, false, false, false, false, false, false, false, false] (by kernel_rfl) ?_
    refine wpAnyH_take (i := 11) (v := (.string ⟨bs.toArray⟩)) rfl (by kernel_rfl) (by kernel_rfl) (by kernel_rfl) (fun _ _ _ h => h) (.inl ⟨by kernel_rfl, ?_⟩) hT3 ?_
    · rintro w ⟨h1, h2⟩; go_simp
    refine plist #[true, true, true, true, true, true, true, true, true, false, true, true, false, false, false, false, false, false, false, false] (by kernel_rfl) ?_
    refine wpAnyH_take (i := 13) (v := (.slice a2 len2 cap2)) rfl (by kernel_rfl) (by kernel_rfl) (by kernel_rfl) (fun _ _ _ h => h) (.inl ⟨by kernel_rfl, ?_⟩) hT3 ?_
    · rintro w ⟨h1, h2⟩; go_simp
    refine plist #[true, true, true, true, true, true, true, true, true, false, true, true, false, true, false, false, false, false, false, false] (by kernel_rfl) ?_
    refine wpAnyH_take (i := 14) (v := (.string ⟨os.toArray⟩)) rfl (by kernel_rfl) (by kernel_rfl) (by kernel_rfl) (fun _ _ _ h => h) (.inl ⟨by kernel_rfl, ?_⟩) hT3 ?_
    · rintro w ⟨h1, h2⟩; go_simp
    refine plist #[true, true, true, true, true, true, true, true, true, false, true, true, false, true, true, false, false, false, false, false] (by kernel_rfl) ?_
    refine pone 9 (by kernel_rfl) rfl fun K hK => ?_
    go_simp
    refine (cutSame_any a0 a2 len0 cap0 len2 cap2 bs os w7.drew HL.out HO.out (by omega) (by omega) hT3.1 hT3.2).mono ?_
    rintro e w8 ⟨rfl, rfl⟩
    rw [HQ.out]
    refine hK _ _ hT3 ?_
    clear hK K
    refine plist #[true, true, true, true, true, true, true, true, true, true, true, true, false, true, true, false, false, false, false, false] (by kernel_rfl) ?_
    refine pone 12 (by kernel_rfl) rfl fun K hK => ?_
    go_simp
    have con9 := refLower_any ⟨bs.toArray⟩ w7.drew (by show bs.toArray.size ≤ _; simp; have := HL.out; omega)
    rw [show (⟨bs.toArray⟩ : ByteArray).data.toList = bs from by simp] at con9
    refine con9.mono ?_
    rintro e w9 ⟨x9, rfl, HX9, hq9⟩
    obtain rfl : x9 = ⟨(lowL bs).toArray⟩ := by apply ByteArray.ext; apply Array.ext'; rw [HX9.out]
    obtain ⟨hw9, hT9⟩ : Below w.heap.size w w9 ∧ (Lib.BytesIn w9 a0 len0 (Lib.numsL bs) ∧ Lib.BytesIn w9 a2 len2 (Lib.numsL os)) := by
      obtain ⟨qd, rfl⟩ := hq9
      exact ⟨hw7.drew.trans ⟨rfl, rfl, rfl, Nat.le_refl _, fun _ _ => rfl⟩, hT3⟩
    refine hK _ _ hT9 ?_
    clear hK K con9 hq9 HX9
    refine plist #[true, true, true, true, true, true, true, true, true, true, true, true, true, true, true, false, false, false, false, false] (by kernel_rfl) ?_
    refine pone 15 (by kernel_rfl) rfl fun K hK => ?_
    go_simp
    have con10 := refLower_any ⟨os.toArray⟩ w9 (by show os.toArray.size ≤ _; simp; have := HO.out; omega)
    rw [show (⟨os.toArray⟩ : ByteArray).data.toList = os from by simp] at con10
    refine con10.mono ?_
    rintro e w10 ⟨x10, rfl, HX10, hq10⟩
    obtain rfl : x10 = ⟨(lowL os).toArray⟩ := by apply ByteArray.ext; apply Array.ext'; rw [HX10.out]
    obtain ⟨hw10, hT10⟩ : Below w.heap.size w w10 ∧ (Lib.BytesIn w10 a0 len0 (Lib.numsL bs) ∧ Lib.BytesIn w10 a2 len2 (Lib.numsL os)) := by
      obtain ⟨qd, rfl⟩ := hq10
      exact ⟨hw9.trans ⟨rfl, rfl, rfl, Nat.le_refl _, fun _ _ => rfl⟩, hT9⟩
    refine hK _ _ hT10 ?_
    clear hK K con10 hq10 HX10
    refine plist #[true, true, true, true, true, true, true, true, true, true, true, true, true, true, true, true, false, false, false, false] (by kernel_rfl) ?_
    refine wpAnyH_take (i := 16) (v := (.bool sb)) rfl (by kernel_rfl) (by kernel_rfl) (by kernel_rfl) (fun _ _ _ h => h) (.inl ⟨by kernel_rfl, ?_⟩) hT10 ?_
    · rintro w ⟨h1, h2⟩; go_simp
    refine plist #[true, true, true, true, true, true, true, true, true, true, true, true, true, true, true, true, true, false, false, false] (by kernel_rfl) ?_
    refine wpAnyH_take (i := 17) (v := (.bool true)) rfl (by kernel_rfl) (by kernel_rfl) (by kernel_rfl) (fun _ _ _ h => h) (.inl ⟨by kernel_rfl, ?_⟩) hT10 ?_
    · rintro w ⟨h1, h2⟩; go_simp
    refine plist #[true, true, true, true, true, true, true, true, true, true, true, true, true, true, true, true, true, true, false, false] (by kernel_rfl) ?_
    refine wpAnyH_take (i := 18) (v := (.bool true)) rfl (by kernel_rfl) (by kernel_rfl) (by kernel_rfl) (fun _ _ _ h => h) (.inl ⟨by kernel_rfl, ?_⟩) hT10 ?_
    · rintro w ⟨h1, h2⟩; go_simp
    refine plist #[true, true, true, true, true, true, true, true, true, true, true, true, true, true, true, true, true, true, true, false] (by kernel_rfl) ?_
    refine wpAnyH_take (i := 19) (v := (.bool true)) rfl (by kernel_rfl) (by kernel_rfl) (by kernel_rfl) (fun _ _ _ h => h) (.inl ⟨by kernel_rfl, ?_⟩) hT10 ?_
    · rintro w ⟨h1, h2⟩; go_simp
    refine pdone (by kernel_rfl) ?_ _
    go_wp2
    go_ret
    exact ⟨rfl, hw10⟩

set_option maxRecDepth 100000 in
theorem lifted (os : Os) (started : os.Started) (H : Type) (enc : TypeId × Value → H) :
    ReturnsInHanded {} Try.checked os 5 .any (Rows.cutTellsSpec.pre6 enc Try.prog Try.f5 Rows.cutTellsRow.domain false) (Rows.cutTellsSpec.post enc Try.prog Try.f5 false true false false) := by
  refine returnsInHanded_of_change (C := Try.checked) own started (by kernel_rfl) Try.func5
    (ChangeSpec.witness6 (enc := enc) (C := Try.checked) false ⟨#[], #[.slice none 0 0, .int .u8 0, .slice none 0 0], []⟩ 8 (by kernel_rfl) (by kernel_rfl) (by kernel_rfl) (by kernel_rfl)) ?_
  intro W base args ds gs before hval0 hW hcnd _
  have hval : ∀ (j : Nat) t v, Try.f5.params[j]? = some t → args[j]? = some v → Value.okWide Try.prog W .any base t v := hval0
  have hW' := hW
  obtain ⟨p, q, hA0, hV, rfl, hfz, hnd⟩ := hW
  have hA : DataW.TrodAll enc Try.prog W 0 (fun _ => true) true Try.f5.params.toList args.toList ds p := hA0
  rw [Try.params5] at hA hval
  obtain ⟨v0, vs0, d0, ds0, p0, q0, hargs, rfl, rfl, h0, r0⟩ := trodAll_cons hA
  obtain ⟨v1, vs1, d1, ds1, p1, q1, rfl, rfl, rfl, h1, r1⟩ := trodAll_cons r0
  obtain ⟨v2, vs2, d2, ds2, p2, q2, rfl, rfl, rfl, h2, r2⟩ := trodAll_cons r1
  obtain ⟨rfl, rfl, rfl⟩ := trodAll_nil r2
  obtain rfl : args = #[v0, v1, v2] := by cases args; simp_all
  obtain ⟨rfl, rfl⟩ := trodVars_none hV
  obtain ⟨a0, len0, cap0, rfl⟩ := okWide_slice Try.underlying22 (hval 0 22 v0 rfl rfl)
  have k0 := h0
  have lt0 : ∀ x ∈ p0, x.block < W.heap.size := by obtain ⟨m, hm⟩ := k0; exact DataW.trod_lt m _ _ _ hm
  obtain ⟨z0, w0⟩ : ∃ zs, IsRow .u8 W a0 len0 cap0 zs := by
    obtain ⟨fuel, hf⟩ := h0
    rcases open_ints Try.underlying22 Try.underlying5 (by kernel_rfl) hf with ⟨hcs, _⟩ | ⟨x, l, c, zs, hcs, _, hl, hm, hz, _, hcell, hwz⟩
    · simp [Value.cells] at hcs
      obtain ⟨rfl, rfl, rfl⟩ := hcs
      exact ⟨[], .inl ⟨rfl, rfl, rfl, rfl⟩⟩
    · simp [Value.cells] at hcs
      obtain ⟨rfl, rfl, rfl⟩ := hcs
      exact ⟨zs, .inr ⟨_, rfl, hl, hm, by simpa using hz, hcell, hwz⟩⟩
  obtain ⟨a1, rfl, rfl, rfl, w1⟩ := open_int Try.underlying5 (hval 1 5 v1 rfl rfl) h1
  obtain ⟨a2, len2, cap2, rfl⟩ := okWide_slice Try.underlying22 (hval 2 22 v2 rfl rfl)
  have k2 := h2
  have lt2 : ∀ x ∈ p2, x.block < W.heap.size := by obtain ⟨m, hm⟩ := k2; exact DataW.trod_lt m _ _ _ hm
  obtain ⟨z2, w2⟩ : ∃ zs, IsRow .u8 W a2 len2 cap2 zs := by
    obtain ⟨fuel, hf⟩ := h2
    rcases open_ints Try.underlying22 Try.underlying5 (by kernel_rfl) hf with ⟨hcs, _⟩ | ⟨x, l, c, zs, hcs, _, hl, hm, hz, _, hcell, hwz⟩
    · simp [Value.cells] at hcs
      obtain ⟨rfl, rfl, rfl⟩ := hcs
      exact ⟨[], .inl ⟨rfl, rfl, rfl, rfl⟩⟩
    · simp [Value.cells] at hcs
      obtain ⟨rfl, rfl, rfl⟩ := hcs
      exact ⟨zs, .inr ⟨_, rfl, hl, hm, by simpa using hz, hcell, hwz⟩⟩
  clear hA0 hval0
  refine (walk a0 len0 cap0 z0 a1 a2 len2 cap2 z2 W w0 w1 w2).mono fun e W' ⟨he, bel⟩ => ?_
  subst he
  exact ⟨_, rfl, _, _, _, [], _, [], hW', trodAll_mk1 (shut_bool Try.underlying4 _), (trodAll_cons_mk (Below.trod laidOut (by kernel_rfl) (of_decide_eq_true (by kernel_rfl)) k0 bel lt0) (trodAll_cons_mk (shut_int Try.underlying5 w1) (trodAll_cons_mk (Below.trod laidOut (by kernel_rfl) (of_decide_eq_true (by kernel_rfl)) k2 bel lt2) trodAll_mk0))), rfl, bel.frame _, fun h => by cases h⟩

theorem over : Rows.cutTellsRow.holds Try.pinned (OpenSpec.ofChange Rows.cutTellsSpec) :=
  OpenClaim.holds_of_wide 5 Try.f5 rfl rfl rfl rfl rfl rfl rfl ⟨rfl, rfl, rfl, rfl, rfl⟩ rfl rfl rfl rfl rfl (by kernel_rfl) Try.func5 (by kernel_rfl)
    (of_decide_eq_true (by kernel_rfl)) (by unfold Func.isWrapper; first | (rw [if_pos (by decide +kernel)]; kernel_rfl) | (rw [if_neg (by decide +kernel)]; exact ⟨rfl, rfl⟩))
    (fun os started H enc _ => lifted os started H enc)

theorem proved : Rows.CutTellsSaid := over
end Go.Proofs.Ytefgccdpgfdelaa.cutTells
