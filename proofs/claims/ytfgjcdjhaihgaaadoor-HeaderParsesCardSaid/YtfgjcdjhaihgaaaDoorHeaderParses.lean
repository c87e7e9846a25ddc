/- HeaderParses: the law returns true at whatever input, and writes nothing that was there: its tied card. Conditions: none. -/
import Derived.Test.YtfgjcdjhaihgaaaDoorBaseB
import Derived.Lib.AppendStr
import Derived.Deep.DeepCutAuto
namespace Go.Proofs.YtfgjcdjhaihgaaaDoor.headerParses
open Go.RowKit Go.ChangeShapes Go.WideShapes
open Go.Shelf Url Hdr
attribute [local go_sem] Oper.semAt_some
set_option linter.unusedVariables false

theorem row_by {w : World} {a : Option Addr} {len cap : Nat} {zs : List Int} (h : IsRow .u8 w a len cap zs) : ∃ bs : List UInt8, By w (.slice a len cap) bs := by
  rcases h with ⟨rfl, rfl, rfl, rfl⟩ | ⟨x, rfl, h1, h2, h3, h4, h5⟩
  · exact ⟨[], by_nil w⟩
  · have hz : ∀ i, i < len → (Lib.numsL (Lib.bytesOf (zs.take len))).getD i 0 = zs.getD i 0 := fun i hi => by
      have hi' : i < zs.length := by omega
      have hw := bounds_u8 (h5 _ (List.getElem_mem hi'))
      have : (Lib.bytesOf (zs.take len)).getD i 0 = UInt8.ofNat (zs[i]).toNat := by
        simp [Lib.bytesOf, List.getD, hi, List.getElem?_eq_getElem hi']
      rw [numsL_getD _ _ (by simp [Lib.bytesOf]; omega), this, List.getD, List.getElem?_eq_getElem hi']
      simp only [Option.getD_some, UInt8.toNat_ofNat']
      omega
    refine ⟨Lib.bytesOf (zs.take len), By.of (by simp [Lib.bytesOf]; omega) h1 h2 (fun h => by cases h) (Lib.BytesIn.of_cells fun i hi => ?_)⟩
    rw [hz i hi]
    exact h4 i (by omega)

set_option maxHeartbeats 16000000 in
set_option maxRecDepth 100000 in
theorem walk : Walks := by
  intro a0 len0 cap0 z0 w w0 hG
  have HGU := Lib.hid hG
  clear hG
  obtain ⟨bs, hY⟩ := row_by w0
  have hl0 := hY.at.1
  clear w0
  by_cases hbig : 1500 < len0
  · have d1 : decide ((1500 : Int) < (len0 : Int)) = true := by simp; omega
    clear hl0 hY
    go_enter Tryd.func3, Tryd.ntmps3
    go_wp2_with fail
    refine (lives_any _ (HGU.out.on (by first | exact Below.refl _ _ | assumption))).mono ?_
    rintro e w2 ⟨rfl, hb2⟩
    go_wp2_with fail
    refine (lives_any _ (HGU.out.on (by first | exact Below.refl _ _ | assumption))).mono ?_
    rintro e w3 ⟨rfl, hb3⟩
    go_wp2
    go_ret
    exact ⟨rfl, hb2.trans (hb3.mono hb2.size)⟩
  · have d1 : decide ((1500 : Int) < (len0 : Int)) = false := by simp; omega
    have HL0 := Lib.hid (show bs.length ≤ 1500 by omega)
    clear hl0 hbig
    go_enter Tryd.func3, Tryd.ntmps3
    go_wp2_with fail
    refine (lives_any _ (HGU.out.on (by first | exact Below.refl _ _ | assumption))).mono ?_
    rintro e w2 ⟨rfl, B2⟩
    replace hY := hY.on B2
    have hmade : (w2.alloc (.cells #[] 5)).ownsRow w2.heap.size 5 1 (.slice (some ⟨w2.heap.size, 0, none⟩) 0 0) 0 [] := World.ownsRow_made w2 #[] 0 (Nat.le_refl _) (Nat.zero_le _) rfl
    have hBm : Below w2.heap.size w2 (w2.alloc (.cells #[] 5)) := (Below.refl _ w2).alloc (Nat.le_refl _) _
    have hY3 := hY.on hBm
    have hlen : 0 + bs.length ≤ 140737488355328 := by have := HL0.out; omega
    go_wp2_with (at_builtin; go_must (refine wpList_append_by rfl _ _ rfl w2.heap.size _ _ _ rfl hmade _ bs rfl hY3 hlen hBm.size ?_); intro v4 w4 hown hgrow)
    have hB4 := hBm.trans (grown_below hmade hgrow hBm.size)
    simp only [Nat.zero_add, List.nil_append] at hown
    have B4 := B2.trans (hB4.mono B2.size)
    replace hY := hY.on hB4
    have hO := By.row hown
    obtain ⟨q4, c4, rfl, hO'⟩ := hO
    have hO : By w4 (.slice q4 bs.length c4) bs := ⟨q4, c4, rfl, hO'⟩
    have hlt4 := Lib.hid (show ∀ a, q4 = some a → w2.heap.size ≤ a.block ∧ a.block < w4.heap.size from fun a ha => by
      subst ha
      exact hown.lt a.block (by
        rcases hown.2 with ⟨hv, _⟩ | ⟨g, cap, cur, hv, _⟩
        · cases hv
        · cases hv; rfl))
    have hat := row_at hown
    have con := Parse_any _ _ _ _ _ (HGU.out.on B4) hO (by have := HL0.out; omega)
    have HPB := Lib.hid (parse_bounds bs)
    have HAT := Lib.hid hat
    have HB2 := Lib.hid B2.size
    clear hmade hBm hY3 hlen hown hgrow hB4 hO' hat B2
    obtain ⟨n0, hn0⟩ : ∃ n, bs.length = n := ⟨_, rfl⟩
    rw [hn0] at hO con HAT ⊢
    have HN0 := Lib.hid hn0
    clear hn0
    go_wp2_with fail
    refine con.mono ?_
    rintro e w5 ⟨q, n, c, q2, n2, c2, rfl, hH, hB2, hb⟩
    have B5 := B4.trans (hb.mono B4.size)
    have HN := Lib.hid (show (pH (parseH bs)).length = n from hH.len)
    have hsz5 := Lib.hid (show w4.heap.size ≤ w5.heap.size from hb.size)
    have hsz2 := Lib.hid (show w.heap.size ≤ w2.heap.size from HB2.out)
    have hbx : Below w5.heap.size w5 (w5.alloc (.cells #[.slice q n c] 26)) := (Below.refl _ w5).alloc (Nat.le_refl _) _
    have hY6 := (hY.on hb).on hbx
    have hO6 := (hO.on hb).on hbx
    have hat6 := (HAT.out.keep (Keep.of_below hb) (fun a ha => (hlt4.out a ha).2)).keep (Keep.of_below hbx) (fun a ha => Nat.lt_of_lt_of_le (hlt4.out a ha).2 hb.size)
    have H6 := HX.new hH
    have B6 := B5.trans (hbx.mono B5.size)
    have Z6 := hB2.below hbx
    have kc := conv_str hY6
    have con2 := refParse_any ⟨bs.toArray⟩ (w5.alloc (.cells #[.slice q n c] 26)) (by show bs.toArray.size ≤ _; simp; have := HL0.out; omega)
    rw [show (⟨bs.toArray⟩ : ByteArray).data.toList = bs by simp] at con2
    generalize parseH bs = R at *
    have HAT6 := Lib.hid hat6
    have hszx := Lib.hid hbx.size
    clear con hH hB2 hb B4 B5 hY hO HAT hat6 d1 hbx
    go_wp2_with fail
    refine con2.mono ?_
    intro e w7 ho
    have ho := parsed_out ho
    rw [HN.out] at ho
    obtain ⟨q7, c7, rfl, F7, hq7, hb⟩ := ho
    have B7 := B6.trans (hb.mono B6.size)
    have H7 := H6.on hb
    have Z7 := Z6.below hb
    have kc1 := conv_str (hO6.on hb)
    have kc2 := conv_str (hY6.on hb)
    have hat7 := Lib.hid (HAT6.out.keep (Keep.of_below hb) (fun a ha => by have h1 := (hlt4.out a ha).2; have h2 := hsz5.out; have h3 := hszx.out; omega))
    have HQ7 := Lib.hid (show ∀ a, q7 = some a → w4.heap.size ≤ a.block from fun a ha => by have h1 := hq7 a ha; have h2 := hsz5.out; have h3 := hszx.out; omega)
    have hs45 := Lib.hid (show w4.heap.size ≤ w7.heap.size by have h1 := hb.size; have h2 := hsz5.out; have h3 := hszx.out; omega)
    have e1 := strs_eq bs bs
    rw [decide_eq_true rfl] at e1
    have HF7 := Lib.hid F7
    have HZ7 := Lib.hid Z7
    have HH7 := Lib.hid H7
    obtain ⟨en, hen⟩ : ∃ e, pE R = e := ⟨_, rfl⟩
    rw [hen]
    have d3 : (en != en) = false := by simp
    clear con2 B6 H6 Z6 hY6 hO6 hb hq7 kc F7 Z7 H7 HAT6 hen
    go_wp2_with fail
    clear kc1 kc2 e1 d3
    have hn15 : n0 ≤ 1500 := by rw [← HN0.out]; exact HL0.out
    go_loopw [47] (fun i wr => ∃ k : Nat, k ≤ n0 ∧ i = .int .i64 k ∧ Keep (fun b => ∀ a, q4 = some a → b ≠ a.block) w7 wr ∧ Hid (RowAt q4 n0 wr)) (fun i _ => n0 - (intOf i).toNat)
    case atStart => exact ⟨0, Nat.zero_le _, rfl, Keep.refl _ _, hat7⟩
    case round =>
      obtain ⟨k, hk, rfl, hK, HR⟩ := hrel
      by_cases hlt : k < n0
      · obtain ⟨b, y, rfl, h1, h2⟩ := HR.out k hlt
        go_wp2
        go_roundw
        case rel => exact ⟨k + 1, by omega, by go_num, hK.trans (Keep.setCell _ _ _ (fun h => h _ rfl rfl)), HR.out.set rfl⟩
        case measure => simp [intOf]; omega
      · obtain rfl : k = n0 := by omega
        have hKb : Keep (fun b => w4.heap.size ≤ b) w7 wr := hK.mono (fun b _ hb a ha => by have := (hlt4.out a ha).2; omega)
        have H := HH7.out.keep hsz5.out hKb
        have Z := HZ7.out.keep hKb
        have F := HF7.out.keepB HQ7.out hKb
        have hKw : Below w.heap.size w7 wr := ⟨hK.os, hK.tape, hK.output, hK.size, fun i hi => hK.block i (Nat.lt_of_lt_of_le hi B7.size) (fun a ha => by have := (hlt4.out a ha).1; have := hsz2.out; omega)⟩
        have B8 := B7.trans hKw
        clear HH7 HZ7 HF7 hKb hKw hK HR hlt hk HQ7 hs45 hat7 B7 hlt4 hsz2 hsz5
        have HN64 := Lib.hid (show n ≤ 64 from by rw [← HN.out]; exact HPB.out.2.1)
        have HSM := Lib.hid (show ∀ f ∈ pH R, f.1.length ≤ 1500 ∧ f.2.length ≤ 1500 from fun f hf => by obtain ⟨_, h1, h2⟩ := HPB.out.1 f hf; have := HL0.out; omega)
        obtain ⟨l, hl⟩ : ∃ l, pH R = l := ⟨_, rfl⟩
        obtain ⟨bd, hbd⟩ : ∃ l, pB R = l := ⟨_, rfl⟩
        rw [hl] at H F HN HSM
        rw [hbd] at Z
        rw [hbd]
        have HTL := Lib.hid (show (textH l).length ≤ 1048576 from Nat.le_trans (text_le 1500 l HSM.out) (by rw [HN.out]; have := HN64.out; omega))
        have HALL := Lib.hid (fun W hH => All_any w4.heap.size q n c l W hH (by have := HN64.out; omega) (fun f hf => by have := HSM.out f hf; omega))
        have HTELL := Lib.hid (fun gf lb RB (W : World) eg hi hR => allF_any gf lb l RB W eg hi hR (by rw [HN.out]; have := HN64.out; omega) (fun f hf => by have := HSM.out f hf; omega))
        have HLEN := Lib.hid (fun W hH => Len_any w4.heap.size q n c l W hH)
        have HTEXT := Lib.hid (fun W hH => Text_any w4.heap.size q n c l W hH HN64.out (fun f hf => by have := HSM.out f hf; omega))
        have HRTEXT := Lib.hid (fun W hF => refText_any q7 n c7 l W hF (by have := HN64.out; omega) (by have := HTL.out; omega))
        have hcv : ∀ W : World, By W (.slice q2 n2 c2) bd → (convert 22 9 (.slice q2 n2 c2)).run Tryd.prog W = .ok (.string ⟨bd.toArray⟩) W := fun W h => conv_str h
        have e3 := strs_eq bd bd
        rw [decide_eq_true rfl] at e3
        have e4 := strs_eq (textH l) (textH l)
        rw [decide_eq_true rfl] at e4
        have d5 : ((n : Int) == (n : Int)) = true := by simp
        obtain ⟨W0, hW0⟩ : ∃ Z, wr.drew = Z := ⟨_, rfl⟩
        have hb : Below wr.heap.size wr W0 := hW0 ▸ ⟨rfl, rfl, rfl, Nat.le_refl _, fun _ _ => rfl⟩
        have A := B8.trans (hb.mono B8.size)
        replace H := H.on hb
        replace Z := Z.below hb
        replace F := F.below hb
        have x0 := H.c0
        have HW0 := Lib.hid hW0
        clear hW0 hb B8 hl hbd hn15 HPB HL0
        go_wp2_with fail
        refine pregion_any (fun X => X.cell? ⟨w5.heap.size, 0, none⟩ = some (.slice q n c) ∧ By X (.slice q2 n2 c2) bd) (by kernel_rfl) ?_
        rw [HW0.out]
        refine wpAnyH_take (i := 0) (v := (.agg #[.slice q n c])) rfl (by kernel_rfl) (by kernel_rfl) (by kernel_rfl) (fun _ _ _ h => h) (.inl ⟨by kernel_rfl, ?_⟩) ⟨x0, Z.1⟩ ?_
        · rintro w ⟨h1, h2⟩; go_simp <;> omega
        refine plist #[true, false, false, false, false, false, false, false, false, false, false, false, false, false, false, false, false, false, false, false, false, false, false, false, false, false, false, false, false, false, false] (by kernel_rfl) ?_
        refine wpAnyH_take (i := 3) (v := (.slice q7 n c7)) rfl (by kernel_rfl) (by kernel_rfl) (by kernel_rfl) (fun _ _ _ h => h) (.inl ⟨by kernel_rfl, ?_⟩) ⟨x0, Z.1⟩ ?_
        · rintro w ⟨h1, h2⟩; go_simp <;> omega
        refine plist #[true, false, false, true, false, false, false, false, false, false, false, false, false, false, false, false, false, false, false, false, false, false, false, false, false, false, false, false, false, false, false] (by kernel_rfl) ?_
        have con := HALL.out _ H.2
        refine pone 1 (by kernel_rfl) rfl fun K hK => ?_
        go_simp
        refine con.mono ?_
        rintro e wa ⟨gf, lb, RB, rfl, eg, hi, hR, hb⟩
        have A2 := A.trans (hb.mono A.size)
        clear A
        have A := A2
        clear A2
        replace H := H.on hb
        replace Z := Z.below hb
        replace F := F.below hb
        replace x0 := H.c0
        clear con hb HALL
        refine hK _ _ ⟨x0, Z.1⟩ ?_
        clear hK K
        refine plist #[true, true, false, true, false, false, false, false, false, false, false, false, false, false, false, false, false, false, false, false, false, false, false, false, false, false, false, false, false, false, false] (by kernel_rfl) ?_
        have con := HTELL.out gf lb RB wa eg hi hR
        refine pone 2 (by kernel_rfl) rfl fun K hK => ?_
        go_simp
        refine con.mono ?_
        rintro e wb ⟨vb, rfl, hrow, hb⟩
        obtain ⟨qb, cb, rfl, _, Fb⟩ := fld_open hrow
        rw [HN.out] at Fb
        rewrite [HN.out]
        have A2 := A.trans (hb.mono A.size)
        clear A
        have A := A2
        clear A2
        replace H := H.on hb
        replace Z := Z.below hb
        replace F := F.below hb
        replace x0 := H.c0
        clear con hb hi eg hR hrow HTELL
        refine hK _ _ ⟨x0, Z.1⟩ ?_
        clear hK K
        refine plist #[true, true, true, true, false, false, false, false, false, false, false, false, false, false, false, false, false, false, false, false, false, false, false, false, false, false, false, false, false, false, false] (by kernel_rfl) ?_
        have con := same_self qb q7 n cb c7 l wb Fb F (by have := HN64.out; omega)
        refine pone 4 (by kernel_rfl) rfl fun K hK => ?_
        go_simp
        refine con.mono ?_
        rintro e wc ⟨rfl, hb⟩
        have A2 := A.trans (hb.mono A.size)
        clear A
        have A := A2
        clear A2
        replace H := H.on hb
        replace Z := Z.below hb
        replace F := F.below hb
        replace x0 := H.c0
        clear con hb Fb
        refine hK _ _ ⟨x0, Z.1⟩ ?_
        clear hK K
        refine plist #[true, true, true, true, true, false, false, false, false, false, false, false, false, false, false, false, false, false, false, false, false, false, false, false, false, false, false, false, false, false, false] (by kernel_rfl) ?_
        refine wpAnyH_take (i := 5) (v := (.bool true)) rfl (by kernel_rfl) (by kernel_rfl) (by kernel_rfl) (fun _ _ _ h => h) (.inl ⟨by kernel_rfl, ?_⟩) ⟨x0, Z.1⟩ ?_
        · rintro w ⟨h1, h2⟩; go_simp <;> omega
        refine plist #[true, true, true, true, true, true, false, false, false, false, false, false, false, false, false, false, false, false, false, false, false, false, false, false, false, false, false, false, false, false, false] (by kernel_rfl) ?_
        refine wpAnyH_take (i := 6) (v := (.slice q2 n2 c2)) rfl (by kernel_rfl) (by kernel_rfl) (by kernel_rfl) (fun _ _ _ h => h) (.inl ⟨by kernel_rfl, ?_⟩) ⟨x0, Z.1⟩ ?_
        · rintro w ⟨h1, h2⟩; go_simp <;> omega
        refine plist #[true, true, true, true, true, true, true, false, false, false, false, false, false, false, false, false, false, false, false, false, false, false, false, false, false, false, false, false, false, false, false] (by kernel_rfl) ?_
        refine wpAnyH_take (i := 7) (v := (.string ⟨bd.toArray⟩)) rfl (by kernel_rfl) (by kernel_rfl) (by kernel_rfl) (fun _ _ _ h => h) (.inl ⟨by kernel_rfl, ?_⟩) ⟨x0, Z.1⟩ ?_
        · rintro w ⟨h1, h2⟩; go_simp <;> omega
        refine plist #[true, true, true, true, true, true, true, true, false, false, false, false, false, false, false, false, false, false, false, false, false, false, false, false, false, false, false, false, false, false, false] (by kernel_rfl) ?_
        refine wpAnyH_take (i := 8) (v := (.string ⟨bd.toArray⟩)) rfl (by kernel_rfl) (by kernel_rfl) (by kernel_rfl) (fun _ _ _ h => h) (.inl ⟨by kernel_rfl, ?_⟩) ⟨x0, Z.1⟩ ?_
        · rintro w ⟨h1, h2⟩; go_simp <;> omega
        refine plist #[true, true, true, true, true, true, true, true, true, false, false, false, false, false, false, false, false, false, false, false, false, false, false, false, false, false, false, false, false, false, false] (by kernel_rfl) ?_
        refine wpAnyH_take (i := 9) (v := (.bool true)) rfl (by kernel_rfl) (by kernel_rfl) (by kernel_rfl) (fun _ _ _ h => h) (.inl ⟨by kernel_rfl, ?_⟩) ⟨x0, Z.1⟩ ?_
        · rintro w ⟨h1, h2⟩; go_simp <;> omega
        refine plist #[true, true, true, true, true, true, true, true, true, true, false, false, false, false, false, false, false, false, false, false, false, false, false, false, false, false, false, false, false, false, false] (by kernel_rfl) ?_
        refine wpAnyH_take (i := 10) (v := (.bool true)) rfl (by kernel_rfl) (by kernel_rfl) (by kernel_rfl) (fun _ _ _ h => h) (.inl ⟨by kernel_rfl, ?_⟩) ⟨x0, Z.1⟩ ?_
        · rintro w ⟨h1, h2⟩; go_simp <;> omega
        refine plist #[true, true, true, true, true, true, true, true, true, true, true, false, false, false, false, false, false, false, false, false, false, false, false, false, false, false, false, false, false, false, false] (by kernel_rfl) ?_
        refine wpAnyH_take (i := 11) (v := (.bool true)) rfl (by kernel_rfl) (by kernel_rfl) (by kernel_rfl) (fun _ _ _ h => h) (.inl ⟨by kernel_rfl, ?_⟩) ⟨x0, Z.1⟩ ?_
        · rintro w ⟨h1, h2⟩; go_simp <;> omega
        refine plist #[true, true, true, true, true, true, true, true, true, true, true, true, false, false, false, false, false, false, false, false, false, false, false, false, false, false, false, false, false, false, false] (by kernel_rfl) ?_
        refine wpAnyH_take (i := 12) (v := (.agg #[.slice q n c])) rfl (by kernel_rfl) (by kernel_rfl) (by kernel_rfl) (fun _ _ _ h => h) (.inl ⟨by kernel_rfl, ?_⟩) ⟨x0, Z.1⟩ ?_
        · rintro w ⟨h1, h2⟩; go_simp <;> omega
        refine plist #[true, true, true, true, true, true, true, true, true, true, true, true, true, false, false, false, false, false, false, false, false, false, false, false, false, false, false, false, false, false, false] (by kernel_rfl) ?_
        refine wpAnyH_take (i := 14) (v := (.slice q7 n c7)) rfl (by kernel_rfl) (by kernel_rfl) (by kernel_rfl) (fun _ _ _ h => h) (.inl ⟨by kernel_rfl, ?_⟩) ⟨x0, Z.1⟩ ?_
        · rintro w ⟨h1, h2⟩; go_simp <;> omega
        refine plist #[true, true, true, true, true, true, true, true, true, true, true, true, true, false, true, false, false, false, false, false, false, false, false, false, false, false, false, false, false, false, false] (by kernel_rfl) ?_
        refine wpAnyH_take (i := 15) (v := (.int .i64 (n : Int))) rfl (by kernel_rfl) (by kernel_rfl) (by kernel_rfl) (fun _ _ _ h => h) (.inl ⟨by kernel_rfl, ?_⟩) ⟨x0, Z.1⟩ ?_
        · rintro w ⟨h1, h2⟩; go_simp <;> omega
        refine plist #[true, true, true, true, true, true, true, true, true, true, true, true, true, false, true, true, false, false, false, false, false, false, false, false, false, false, false, false, false, false, false] (by kernel_rfl) ?_
        have con := HLEN.out _ H.2
        refine pone 13 (by kernel_rfl) rfl fun K hK => ?_
        go_simp
        refine con.mono ?_
        rintro e wd ⟨rfl, hb⟩
        have A2 := A.trans (hb.mono A.size)
        clear A
        have A := A2
        clear A2
        replace H := H.on hb
        replace Z := Z.below hb
        replace F := F.below hb
        replace x0 := H.c0
        clear con hb HLEN
        refine hK _ _ ⟨x0, Z.1⟩ ?_
        clear hK K
        refine plist #[true, true, true, true, true, true, true, true, true, true, true, true, true, true, true, true, false, false, false, false, false, false, false, false, false, false, false, false, false, false, false] (by kernel_rfl) ?_
        refine wpAnyH_take (i := 16) (v := (.bool true)) rfl (by kernel_rfl) (by kernel_rfl) (by kernel_rfl) (fun _ _ _ h => h) (.inl ⟨by kernel_rfl, ?_⟩) ⟨x0, Z.1⟩ ?_
        · rintro w ⟨h1, h2⟩; go_simp <;> omega
        refine plist #[true, true, true, true, true, true, true, true, true, true, true, true, true, true, true, true, true, false, false, false, false, false, false, false, false, false, false, false, false, false, false] (by kernel_rfl) ?_
        refine wpAnyH_take (i := 17) (v := (.bool true)) rfl (by kernel_rfl) (by kernel_rfl) (by kernel_rfl) (fun _ _ _ h => h) (.inl ⟨by kernel_rfl, ?_⟩) ⟨x0, Z.1⟩ ?_
        · rintro w ⟨h1, h2⟩; go_simp <;> omega
        refine plist #[true, true, true, true, true, true, true, true, true, true, true, true, true, true, true, true, true, true, false, false, false, false, false, false, false, false, false, false, false, false, false] (by kernel_rfl) ?_
        refine wpAnyH_take (i := 18) (v := (.bool true)) rfl (by kernel_rfl) (by kernel_rfl) (by kernel_rfl) (fun _ _ _ h => h) (.inl ⟨by kernel_rfl, ?_⟩) ⟨x0, Z.1⟩ ?_
        · rintro w ⟨h1, h2⟩; go_simp <;> omega
        refine plist #[true, true, true, true, true, true, true, true, true, true, true, true, true, true, true, true, true, true, true, false, false, false, false, false, false, false, false, false, false, false, false] (by kernel_rfl) ?_
        refine wpAnyH_take (i := 19) (v := (.int .i64 en)) rfl (by kernel_rfl) (by kernel_rfl) (by kernel_rfl) (fun _ _ _ h => h) (.inl ⟨by kernel_rfl, ?_⟩) ⟨x0, Z.1⟩ ?_
        · rintro w ⟨h1, h2⟩; go_simp <;> omega
        by_cases hen : en = 0
        · subst hen
          have f0 : ((0 : Int) != 0) = false := by decide
          refine plist #[true, true, true, true, true, true, true, true, true, true, true, true, true, true, true, true, true, true, true, true, false, false, false, false, false, false, false, false, false, false, false] (by kernel_rfl) ?_
          refine wpAnyH_take (i := 20) (v := (.bool false)) rfl (by kernel_rfl) (by kernel_rfl) (by kernel_rfl) (fun _ _ _ h => h) (.inl ⟨by kernel_rfl, ?_⟩) ⟨x0, Z.1⟩ ?_
          · rintro w ⟨h1, h2⟩; go_simp <;> omega
          refine plist #[true, true, true, true, true, true, true, true, true, true, true, true, true, true, true, true, true, true, true, true, true, false, false, false, false, false, false, false, false, false, false] (by kernel_rfl) ?_
          refine wpAnyH_take (i := 21) (v := (.bool false)) rfl (by kernel_rfl) (by kernel_rfl) (by kernel_rfl) (fun _ _ _ h => h) (.inl ⟨by kernel_rfl, ?_⟩) ⟨x0, Z.1⟩ ?_
          · rintro w ⟨h1, h2⟩; go_simp <;> omega
          refine plist #[true, true, true, true, true, true, true, true, true, true, true, true, true, true, true, true, true, true, true, true, true, true, false, false, false, false, false, false, false, false, false] (by kernel_rfl) ?_
          refine wpAnyH_take (i := 22) (v := (.agg #[.slice q n c])) rfl (by kernel_rfl) (by kernel_rfl) (by kernel_rfl) (fun _ _ _ h => h) (.inl ⟨by kernel_rfl, ?_⟩) ⟨x0, Z.1⟩ ?_
          · rintro w ⟨h1, h2⟩; go_simp <;> omega
          refine plist #[true, true, true, true, true, true, true, true, true, true, true, true, true, true, true, true, true, true, true, true, true, true, true, false, false, false, false, false, false, false, false] (by kernel_rfl) ?_
          refine wpAnyH_take (i := 25) (v := (.slice q7 n c7)) rfl (by kernel_rfl) (by kernel_rfl) (by kernel_rfl) (fun _ _ _ h => h) (.inl ⟨by kernel_rfl, ?_⟩) ⟨x0, Z.1⟩ ?_
          · rintro w ⟨h1, h2⟩; go_simp <;> omega
          refine plist #[true, true, true, true, true, true, true, true, true, true, true, true, true, true, true, true, true, true, true, true, true, true, true, false, false, true, false, false, false, false, false] (by kernel_rfl) ?_
          have con := HTEXT.out _ H.2
          refine pone 23 (by kernel_rfl) rfl fun K hK => ?_
          go_simp
          refine con.mono ?_
          rintro e we ⟨vt, rfl, hrowt, hb⟩
          obtain ⟨qt, ct, rfl, hTY'⟩ := By.row hrowt
          have TY : By we (.slice qt (textH l).length ct) (textH l) := ⟨qt, ct, rfl, hTY'⟩
          have A2 := A.trans (hb.mono A.size)
          clear A
          have A := A2
          clear A2
          replace H := H.on hb
          replace Z := Z.below hb
          replace F := F.below hb
          replace x0 := H.c0
          clear con hb HTEXT hrowt hTY'
          refine hK _ _ ⟨x0, Z.1⟩ ?_
          clear hK K
          have hct : ∀ W : World, By W (.slice qt (textH l).length ct) (textH l) → (convert 22 9 (.slice qt (textH l).length ct)).run Tryd.prog W = .ok (.string ⟨(textH l).toArray⟩) W := fun W h => conv_str h
          refine pmore (S' := fun X => (X.cell? ⟨w5.heap.size, 0, none⟩ = some (.slice q n c) ∧ By X (.slice q2 n2 c2) bd) ∧ By X (.slice qt (textH l).length ct) (textH l)) (fun _ h => h.1) ?_
          refine plist #[true, true, true, true, true, true, true, true, true, true, true, true, true, true, true, true, true, true, true, true, true, true, true, true, false, true, false, false, false, false, false] (by kernel_rfl) ?_
          refine wpAnyH_take (i := 24) (v := (.string ⟨(textH l).toArray⟩)) rfl (by kernel_rfl) (by kernel_rfl) (by kernel_rfl) (fun _ _ _ h => h) (.inl ⟨by kernel_rfl, ?_⟩) ⟨⟨x0, Z.1⟩, TY⟩ ?_
          · rintro w ⟨⟨h1, h2⟩, h3⟩; go_simp <;> omega
          refine plist #[true, true, true, true, true, true, true, true, true, true, true, true, true, true, true, true, true, true, true, true, true, true, true, true, true, true, false, false, false, false, false] (by kernel_rfl) ?_
          have con := HRTEXT.out _ F
          refine pone 26 (by kernel_rfl) rfl fun K hK => ?_
          go_simp
          refine con.mono ?_
          rintro e wf ⟨rfl, hb⟩
          have A2 := A.trans (hb.mono A.size)
          clear A
          have A := A2
          clear A2
          replace H := H.on hb
          replace Z := Z.below hb
          replace F := F.below hb
          replace x0 := H.c0
          replace TY := TY.on hb
          clear con hb HRTEXT
          refine hK _ _ ⟨⟨x0, Z.1⟩, TY⟩ ?_
          clear hK K
          refine plist #[true, true, true, true, true, true, true, true, true, true, true, true, true, true, true, true, true, true, true, true, true, true, true, true, true, true, true, false, false, false, false] (by kernel_rfl) ?_
          refine wpAnyH_take (i := 27) (v := (.bool true)) rfl (by kernel_rfl) (by kernel_rfl) (by kernel_rfl) (fun _ _ _ h => h) (.inl ⟨by kernel_rfl, ?_⟩) ⟨⟨x0, Z.1⟩, TY⟩ ?_
          · rintro w ⟨⟨h1, h2⟩, h3⟩; go_simp <;> omega
          refine plist #[true, true, true, true, true, true, true, true, true, true, true, true, true, true, true, true, true, true, true, true, true, true, true, true, true, true, true, true, false, false, false] (by kernel_rfl) ?_
          refine wpAnyH_take (i := 28) (v := (.bool true)) rfl (by kernel_rfl) (by kernel_rfl) (by kernel_rfl) (fun _ _ _ h => h) (.inl ⟨by kernel_rfl, ?_⟩) ⟨⟨x0, Z.1⟩, TY⟩ ?_
          · rintro w ⟨⟨h1, h2⟩, h3⟩; go_simp <;> omega
          refine plist #[true, true, true, true, true, true, true, true, true, true, true, true, true, true, true, true, true, true, true, true, true, true, true, true, true, true, true, true, true, false, false] (by kernel_rfl) ?_
          refine wpAnyH_take (i := 29) (v := (.bool true)) rfl (by kernel_rfl) (by kernel_rfl) (by kernel_rfl) (fun _ _ _ h => h) (.inl ⟨by kernel_rfl, ?_⟩) ⟨⟨x0, Z.1⟩, TY⟩ ?_
          · rintro w ⟨⟨h1, h2⟩, h3⟩; go_simp <;> omega
          refine plist #[true, true, true, true, true, true, true, true, true, true, true, true, true, true, true, true, true, true, true, true, true, true, true, true, true, true, true, true, true, true, false] (by kernel_rfl) ?_
          refine pone 30 (by kernel_rfl) rfl fun K hK => ?_
          go_simp
          refine hK _ _ ⟨⟨x0, Z.1⟩, TY⟩ ?_
          clear hK K
          refine pdone (by kernel_rfl) ?_ _
          go_wp2
          go_ret
          exact ⟨rfl, A⟩
        · have f1 : (en != 0) = true := by simpa using hen
          clear hen
          refine plist #[true, true, true, true, true, true, true, true, true, true, true, true, true, true, true, true, true, true, true, true, false, false, false, false, false, false, false, false, false, false, false] (by kernel_rfl) ?_
          refine wpAnyH_take (i := 20) (v := (.bool true)) rfl (by kernel_rfl) (by kernel_rfl) (by kernel_rfl) (fun _ _ _ h => h) (.inl ⟨by kernel_rfl, ?_⟩) ⟨x0, Z.1⟩ ?_
          · rintro w ⟨h1, h2⟩; go_simp <;> omega
          refine plist #[true, true, true, true, true, true, true, true, true, true, true, true, true, true, true, true, true, true, true, true, true, false, false, false, false, false, false, false, false, false, false] (by kernel_rfl) ?_
          refine wpAnyH_take (i := 21) (v := (.bool true)) rfl (by kernel_rfl) (by kernel_rfl) (by kernel_rfl) (fun _ _ _ h => h) (.inl ⟨by kernel_rfl, ?_⟩) ⟨x0, Z.1⟩ ?_
          · rintro w ⟨h1, h2⟩; go_simp <;> omega
          refine plist #[true, true, true, true, true, true, true, true, true, true, true, true, true, true, true, true, true, true, true, true, true, true, false, false, false, false, false, false, false, false, false] (by kernel_rfl) ?_
          refine wpAnyH_take (i := 22) (v := (undef)) rfl (by kernel_rfl) (by kernel_rfl) (by kernel_rfl) (fun _ _ _ h => h) (.inr ⟨by kernel_rfl, rfl⟩) ⟨x0, Z.1⟩ ?_
          refine plist #[true, true, true, true, true, true, true, true, true, true, true, true, true, true, true, true, true, true, true, true, true, true, true, false, false, false, false, false, false, false, false] (by kernel_rfl) ?_
          refine wpAnyH_take (i := 23) (v := (undef)) rfl (by kernel_rfl) (by kernel_rfl) (by kernel_rfl) (fun _ _ _ h => h) (.inr ⟨by kernel_rfl, rfl⟩) ⟨x0, Z.1⟩ ?_
          refine plist #[true, true, true, true, true, true, true, true, true, true, true, true, true, true, true, true, true, true, true, true, true, true, true, true, false, false, false, false, false, false, false] (by kernel_rfl) ?_
          refine wpAnyH_take (i := 24) (v := (undef)) rfl (by kernel_rfl) (by kernel_rfl) (by kernel_rfl) (fun _ _ _ h => h) (.inr ⟨by kernel_rfl, rfl⟩) ⟨x0, Z.1⟩ ?_
          refine plist #[true, true, true, true, true, true, true, true, true, true, true, true, true, true, true, true, true, true, true, true, true, true, true, true, true, false, false, false, false, false, false] (by kernel_rfl) ?_
          refine wpAnyH_take (i := 25) (v := (undef)) rfl (by kernel_rfl) (by kernel_rfl) (by kernel_rfl) (fun _ _ _ h => h) (.inr ⟨by kernel_rfl, rfl⟩) ⟨x0, Z.1⟩ ?_
          refine plist #[true, true, true, true, true, true, true, true, true, true, true, true, true, true, true, true, true, true, true, true, true, true, true, true, true, true, false, false, false, false, false] (by kernel_rfl) ?_
          refine wpAnyH_take (i := 26) (v := (undef)) rfl (by kernel_rfl) (by kernel_rfl) (by kernel_rfl) (fun _ _ _ h => h) (.inr ⟨by kernel_rfl, rfl⟩) ⟨x0, Z.1⟩ ?_
          refine plist #[true, true, true, true, true, true, true, true, true, true, true, true, true, true, true, true, true, true, true, true, true, true, true, true, true, true, true, false, false, false, false] (by kernel_rfl) ?_
          refine wpAnyH_take (i := 27) (v := (undef)) rfl (by kernel_rfl) (by kernel_rfl) (by kernel_rfl) (fun _ _ _ h => h) (.inr ⟨by kernel_rfl, rfl⟩) ⟨x0, Z.1⟩ ?_
          refine plist #[true, true, true, true, true, true, true, true, true, true, true, true, true, true, true, true, true, true, true, true, true, true, true, true, true, true, true, true, false, false, false] (by kernel_rfl) ?_
          refine wpAnyH_take (i := 28) (v := (.bool true)) rfl (by kernel_rfl) (by kernel_rfl) (by kernel_rfl) (fun _ _ _ h => h) (.inl ⟨by kernel_rfl, ?_⟩) ⟨x0, Z.1⟩ ?_
          · rintro w ⟨h1, h2⟩; go_simp <;> omega
          refine plist #[true, true, true, true, true, true, true, true, true, true, true, true, true, true, true, true, true, true, true, true, true, true, true, true, true, true, true, true, true, false, false] (by kernel_rfl) ?_
          refine wpAnyH_take (i := 29) (v := (.bool true)) rfl (by kernel_rfl) (by kernel_rfl) (by kernel_rfl) (fun _ _ _ h => h) (.inl ⟨by kernel_rfl, ?_⟩) ⟨x0, Z.1⟩ ?_
          · rintro w ⟨h1, h2⟩; go_simp <;> omega
          refine plist #[true, true, true, true, true, true, true, true, true, true, true, true, true, true, true, true, true, true, true, true, true, true, true, true, true, true, true, true, true, true, false] (by kernel_rfl) ?_
          refine pone 30 (by kernel_rfl) rfl fun K hK => ?_
          go_simp
          refine hK _ _ ⟨x0, Z.1⟩ ?_
          clear hK K
          refine pdone (by kernel_rfl) ?_ _
          go_wp2
          go_ret
          exact ⟨rfl, A⟩

theorem proved : Rows.HeaderParsesCardSaid := card walk
end Go.Proofs.YtfgjcdjhaihgaaaDoor.headerParses
