/- UrlBack: the law returns true at whatever input, and writes nothing that was there: its tied card. Conditions: none. -/
import Derived.Test.YtdgejnnapfbaeaaDoorBaseC
import Derived.Deep.DeepCutAuto
namespace Go.Proofs.YtdgejnnapfbaeaaDoor.urlBack
open Go.RowKit Go.Shelf Url
attribute [local go_sem] Oper.semAt_some
set_option linter.unusedVariables false

theorem row_by {w : World} {a : Option Addr} {len cap : Nat} {zs : List Int} (h : IsRow .u8 w a len cap zs) : ∃ bs : List UInt8, By w (.slice a len cap) bs := by
  rcases h with ⟨rfl, rfl, rfl, rfl⟩ | ⟨x, rfl, h1, h2, h3, h4, h5⟩
  · exact ⟨[], by_nil w⟩
  · have hz : ∀ i, i < len → (Lib.numsL (Lib.bytesOf (zs.take len))).getD i 0 = zs.getD i 0 := fun i hi => by
      have hi' : i < zs.length := by omega
      have hw := bounds_u8 (h5 _ (List.getElem_mem hi'))
      have : (Lib.bytesOf (zs.take len)).getD i 0 = UInt8.ofNat (zs[i]).toNat := by
        simp [Lib.bytesOf, List.getD, hi, List.getElem?_eq_getElem hi']
      rw [numsL_getD _ _ (by simp [Lib.bytesOf]; omega), this, List.getD, List.getElem?_eq_getElem hi']
      simp only [Option.getD_some, UInt8.toNat_ofNat']
      omega
    refine ⟨Lib.bytesOf (zs.take len), By.of (by simp [Lib.bytesOf]; omega) h1 h2 (fun h => by cases h) (Lib.BytesIn.of_cells fun i hi => ?_)⟩
    rw [hz i hi]
    exact h4 i (by omega)
theorem canon_inl (t : List UInt8) (m : Int) (h : canonU t = .inl m) : m = 2 ∨ m = 15 ∨ m = 3 := by
  unfold canonU at h
  split at h
  · cases h; exact .inr (.inl rfl)
  · split at h
    · unfold restU at h
      simp only at h
      split at h
      · cases h
        unfold Host.parseE
        split
        · exact .inr (.inr rfl)
        · split
          · rename_i hne _ _
            exact absurd (by unfold Host.parseE; rw [if_neg (by assumption), if_pos (by assumption)]) hne
          · exact .inl rfl
      · split at h
        · cases h
        · cases h; exact .inl rfl
    · cases h; exact .inr (.inl rfl)
theorem path_first (u : U) (h : Ok u) : ∃ r, u.path = 47 :: r ∧ True ∧ True := by
  obtain ⟨R, _, hp, _⟩ := h.path
  exact ⟨_, hp, trivial, trivial⟩
/-- Two operations may come up. -/
theorem ptwo {P : Program} {ops : Array Oper} {Q : Exit → Act → World → Prop} {md : Region.Mode} {S : World → Prop} (i j : Nat) {fuel : Nat} {listed : Array Bool} {a : Act} {w : World} {o p : Oper} (hr : Region.ready md ops listed = [i, j]) (ho : ops[i]? = some o) (hp : ops[j]? = some p)
    (h1 : ∀ K : Act → World → Prop, (∀ a' w', S w' → wpAnyH P md ops Q S fuel (listed.setIfInBounds i true) a' w' → K a' w') → if Region.wanted o (yielded ops a.tmps) = true then Oper.wp P o a w K Q else K (a.put o.dst undef) w)
    (h2 : ∀ K : Act → World → Prop, (∀ a' w', S w' → wpAnyH P md ops Q S fuel (listed.setIfInBounds j true) a' w' → K a' w') → if Region.wanted p (yielded ops a.tmps) = true then Oper.wp P p a w K Q else K (a.put p.dst undef) w) :
    wpAnyH P md ops Q S (fuel + 1) listed a w :=
  wpAnyH_all hr (by simp) (AllReadyH.cons ho (fun K hK => h1 K fun a' w' hs ha => hK.out a' w' hs fun _ => ha) (AllReadyH.cons hp (fun K hK => h2 K fun a' w' hs ha => hK.out a' w' hs fun _ => ha) AllReadyH.nil))
/-- A slot holds a pointer to a new box with the URL u. -/
def Held (s : Value) (u : U) (X0 X : World) : Prop := ∃ b q0 n0 c0 q1 n1 c1 q3 n3 c3 q4 n4 c4 q5 n5 c5, s = .pointer (some ⟨b, 0, none⟩) ∧
  UB b #[.slice q0 n0 c0, .slice q1 n1 c1, .int .i64 u.port, .slice q3 n3 c3, .slice q4 n4 c4, .slice q5 n5 c5, .bool u.hq, .bool u.hf] X ∧
  UrlIn X (.agg #[.slice q0 n0 c0, .slice q1 n1 c1, .int .i64 u.port, .slice q3 n3 c3, .slice q4 n4 c4, .slice q5 n5 c5, .bool u.hq, .bool u.hf]) u ∧ Below X0.heap.size X0 X

set_option maxRecDepth 100000 in
set_option maxHeartbeats 16000000 in
theorem walk : Walks := by
  intro a0 len0 cap0 z0 a1 len1 cap1 z1 w w0 w1 hG
  obtain ⟨bs, hb0⟩ := row_by w0
  obtain ⟨ds, hb1⟩ := row_by w1
  clear w0 w1
  by_cases hbig : 500 < len0
  · have d1 : decide ((500 : Int) < (len0 : Int)) = true := by simp; omega
    clear hb0 hb1
    have con := lives_any w hG
    go_enter Tryd.func3, Tryd.ntmps3
    go_wp2_with fail
    refine con.mono ?_
    rintro e w2 ⟨rfl, hb2⟩
    clear con
    have con := lives_any w2 (hG.on hb2)
    go_wp2_with fail
    refine con.mono ?_
    rintro e w3 ⟨rfl, hb3⟩
    go_wp2
    go_ret
    exact ⟨rfl, hb2.trans (hb3.mono hb2.size)⟩
  have d1 : decide ((500 : Int) < (len0 : Int)) = false := by simp; omega
  by_cases hbig1 : 500 < len1
  · have d2 : decide ((500 : Int) < (len1 : Int)) = true := by simp; omega
    clear hb0 hb1
    have con := lives_any w hG
    go_enter Tryd.func3, Tryd.ntmps3
    go_wp2_with fail
    refine con.mono ?_
    rintro e w2 ⟨rfl, hb2⟩
    clear con
    have con := lives_any w2 (hG.on hb2)
    go_wp2_with fail
    refine con.mono ?_
    rintro e w3 ⟨rfl, hb3⟩
    go_wp2
    go_ret
    exact ⟨rfl, hb2.trans (hb3.mono hb2.size)⟩
  · have d2 : decide ((500 : Int) < (len1 : Int)) = false := by simp; omega
    have hl0 := hb0.at.1
    have hl1 := hb1.at.1
    have HG := Lib.hid hG
    have con := lives_any w hG
    go_enter Tryd.func3, Tryd.ntmps3
    go_wp2_with fail
    refine con.mono ?_
    rintro e X1 ⟨rfl, B_1⟩
    clear con
    have T_1 := hb0.on B_1
    have F_1 := hb1.on B_1
    clear hb0 hb1 hG
    have hTx : ∀ u, canonU bs = .inr u → (textU u).length ≤ 4096 ∧ Ok u := fun u hu => by
      have hp : parseU bs = .inr u := by rw [parse_canon bs (by omega)]; exact hu
      exact ⟨by have := text_len bs u hp; omega, parse_ok bs u hp⟩
    have hFx : ∀ u, canonU ds = .inr u → (textU u).length ≤ 4096 ∧ Ok u := fun u hu => by
      have hp : parseU ds = .inr u := by rw [parse_canon ds (by omega)]; exact hu
      exact ⟨by have := text_len ds u hp; omega, parse_ok ds u hp⟩
    have con := Parse_of canonOk a0 len0 cap0 bs X1 T_1 (by omega) (HG.out.on B_1) (fun u hu => (hTx u hu).1)
    have conF := fun X (hF : By X (.slice a1 len1 cap1) ds) (hGX : Gl X) => Parse_of canonOk a1 len1 cap1 ds X hF (by omega) hGX (fun u hu => (hFx u hu).1)
    clear hl0 hl1
    cases hc : canonU bs with
    | inl m =>
      rw [hc] at con
      have hm3 := canon_inl bs m hc
      clear hc hTx hFx conF
      go_wp2_with fail
      refine con.mono ?_
      rintro e X2 ⟨hm, rfl, hb⟩
      have B_2 := B_1.trans (hb.mono B_1.size)
      have B_3 := B_2.alloc B_2.size (.cells #[.slice none 0 0, .slice none 0 0, .int .i64 0, .slice none 0 0, .slice none 0 0, .slice none 0 0, .bool false, .bool false] 25)
      clear con hb B_1 T_1 F_1 hm
      unfold zeroU
      rcases hm3 with rfl | rfl | rfl
      · go_wp2
        go_ret
        exact ⟨rfl, B_3⟩
      · go_wp2
        go_ret
        exact ⟨rfl, B_3⟩
      · go_wp2
        go_ret
        exact ⟨rfl, B_3⟩
    | inr u =>
      rw [hc] at con
      have HOu := Lib.hid (hTx u hc).2
      have HNu := Lib.hid (hTx u hc).1
      have hcu : canonU (textU u) = .inr u := by rw [← parse_canon _ (hTx u hc).1]; exact parse_text u (hTx u hc).2 (hTx u hc).1
      obtain ⟨sk, hsk1, hsk2, hsk3, hsk4⟩ := text_scheme u (hTx u hc).2
      obtain ⟨T, hT⟩ : ∃ T, textU u = T := ⟨_, rfl⟩
      rw [hT] at hsk1 hsk3 hsk4
      have HSK := Lib.hid (And.intro hsk1 (And.intro hsk2 (And.intro hsk3 hsk4)))
      clear hc hTx hsk1 hsk2 hsk3 hsk4
      have HT := Lib.hid hT
      rw [hT] at hcu
      have HCU := Lib.hid hcu
      have HTL := Lib.hid (show T.length ≤ 4096 by rw [← hT]; exact HNu.out)
      clear hcu hT
      go_wp2_with fail
      refine con.mono ?_
      rintro e X2 ⟨v5, rfl, I5_2, hb⟩
      clear con
      have B_2 := B_1.trans (hb.mono B_1.size)
      have T_2 := T_1.on hb
      have F_2 := F_1.on hb
      clear F_1 T_1 B_1 hb
      clear T_2
      obtain ⟨q50, n50, c50, q51, n51, c51, q53, n53, c53, q54, n54, c54, q55, n55, c55, rfl, o50, o51, o53, o54, o55⟩ := id I5_2
      clear o50 o51 o53 o54 o55
      obtain ⟨X3, hX3⟩ : ∃ Z, X2.alloc (.cells #[.slice q50 n50 c50, .slice q51 n51 c51, .int .i64 u.port, .slice q53 n53 c53, .slice q54 n54 c54, .slice q55 n55 c55, .bool u.hq, .bool u.hf] 25) = Z := ⟨_, rfl⟩
      obtain ⟨b5, hb5⟩ : ∃ b, X2.heap.size = b := ⟨_, rfl⟩
      have U5_3 : UB b5 #[.slice q50 n50 c50, .slice q51 n51 c51, .int .i64 u.port, .slice q53 n53 c53, .slice q54 n54 c54, .slice q55 n55 c55, .bool u.hq, .bool u.hf] X3 := by rw [← hX3, ← hb5]; exact UB.new X2 _
      have hb : Below X2.heap.size X2 X3 := by rw [← hX3]; exact (Below.refl _ _).alloc (Nat.le_refl _) _
      have HX3 := Lib.hid hX3
      have HB5 := Lib.hid hb5
      clear hX3 hb5
      have B_3 := B_2.trans (hb.mono B_2.size)
      have F_3 := F_2.on hb
      have I5_3 := I5_2.on hb
      clear I5_2 F_2 B_2 hb
      have con := Text_any u _ X3 I5_3 HOu.out (HG.out.on B_3) (by have := HNu.out; omega)
      rw [HT.out] at con
      go_wp2_with fail
      rw [HB5.out, HX3.out]
      refine con.mono ?_
      rintro e X4 ⟨vt, rfl, hr, hb⟩
      clear con
      obtain ⟨qt, ct, rfl, _, _, _, _, _⟩ := row_open hr
      have P_4 := By.row hr
      clear hr
      have B_4 := B_3.trans (hb.mono B_3.size)
      have F_4 := F_3.on hb
      have I5_4 := I5_3.on hb
      have U5_4 := U5_3.on hb
      clear U5_3 I5_3 F_3 B_3 hb
      have con := Parse_of canonOk qt T.length ct T X4 P_4 HTL.out (HG.out.on B_4) (fun u2 hu => by rw [HCU.out] at hu; cases hu; exact HNu.out)
      rw [HCU.out] at con
      go_wp2_with fail
      refine con.mono ?_
      rintro e X5 ⟨v7, rfl, I7_5, hb⟩
      clear con
      have B_5 := B_4.trans (hb.mono B_4.size)
      have F_5 := F_4.on hb
      have I5_5 := I5_4.on hb
      have U5_5 := U5_4.on hb
      have P_5 := P_4.on hb
      clear P_4 U5_4 I5_4 F_4 B_4 hb
      clear P_5
      obtain ⟨q70, n70, c70, q71, n71, c71, q73, n73, c73, q74, n74, c74, q75, n75, c75, rfl, o70, o71, o73, o74, o75⟩ := id I7_5
      clear o70 o71 o73 o74 o75
      obtain ⟨X6, hX6⟩ : ∃ Z, X5.alloc (.cells #[.slice q70 n70 c70, .slice q71 n71 c71, .int .i64 u.port, .slice q73 n73 c73, .slice q74 n74 c74, .slice q75 n75 c75, .bool u.hq, .bool u.hf] 25) = Z := ⟨_, rfl⟩
      obtain ⟨b7, hb7⟩ : ∃ b, X5.heap.size = b := ⟨_, rfl⟩
      have U7_6 : UB b7 #[.slice q70 n70 c70, .slice q71 n71 c71, .int .i64 u.port, .slice q73 n73 c73, .slice q74 n74 c74, .slice q75 n75 c75, .bool u.hq, .bool u.hf] X6 := by rw [← hX6, ← hb7]; exact UB.new X5 _
      have hb : Below X5.heap.size X5 X6 := by rw [← hX6]; exact (Below.refl _ _).alloc (Nat.le_refl _) _
      have HX6 := Lib.hid hX6
      have HB7 := Lib.hid hb7
      clear hX6 hb7
      have B_6 := B_5.trans (hb.mono B_5.size)
      have F_6 := F_5.on hb
      have I5_6 := I5_5.on hb
      have U5_6 := U5_5.on hb
      have I7_6 := I7_5.on hb
      clear I7_5 U5_5 I5_5 F_5 B_5 hb
      go_wp2_with fail
      refine pregion_any (fun X => Box b7 #[.slice q70 n70 c70, .slice q71 n71 c71, .int .i64 u.port, .slice q73 n73 c73, .slice q74 n74 c74, .slice q75 n75 c75, .bool u.hq, .bool u.hf] X ∧ Box b5 #[.slice q50 n50 c50, .slice q51 n51 c51, .int .i64 u.port, .slice q53 n53 c53, .slice q54 n54 c54, .slice q55 n55 c55, .bool u.hq, .bool u.hf] X) (by kernel_rfl) ?_
      rw [HB7.out, HX6.out]
      have hb : Below X6.heap.size X6 X6.drew := (Below.refl _ _).drew
      obtain ⟨X6d, hXd⟩ : ∃ Z, X6.drew = Z := ⟨_, rfl⟩
      rw [hXd] at hb ⊢
      clear hXd
      have B_6d := B_6.trans (hb.mono B_6.size)
      have F_6d := F_6.on hb
      have I5_6d := I5_6.on hb
      have U5_6d := U5_6.on hb
      have I7_6d := I7_6.on hb
      have U7_6d := U7_6.on hb
      clear U7_6 I7_6 U5_6 I5_6 F_6 B_6 hb
      have hS0 := And.intro U7_6d.box U5_6d.box
      refine wpAnyH_take (i := 0) (v := (.int .i64 0)) rfl (by kernel_rfl) (by kernel_rfl) (by kernel_rfl) (fun _ _ _ h => h) (.inl ⟨by kernel_rfl, ?_⟩) hS0 ?_
      · rintro w ⟨h, k⟩; go_simp
      refine plist #[true, false, false, false, false, false, false, false, false, false, false, false, false, false, false, false, false, false, false, false, false, false, false, false, false] (by kernel_rfl) ?_
      refine wpAnyH_take (i := 1) (v := (.bool false)) rfl (by kernel_rfl) (by kernel_rfl) (by kernel_rfl) (fun _ _ _ h => h) (.inl ⟨by kernel_rfl, ?_⟩) hS0 ?_
      · rintro w ⟨h, k⟩; go_simp
      refine plist #[true, true, false, false, false, false, false, false, false, false, false, false, false, false, false, false, false, false, false, false, false, false, false, false, false] (by kernel_rfl) ?_
      refine wpAnyH_take (i := 2) (v := (.bool false)) rfl (by kernel_rfl) (by kernel_rfl) (by kernel_rfl) (fun _ _ _ h => h) (.inl ⟨by kernel_rfl, ?_⟩) hS0 ?_
      · rintro w ⟨h, k⟩; go_simp
      refine plist #[true, true, true, false, false, false, false, false, false, false, false, false, false, false, false, false, false, false, false, false, false, false, false, false, false] (by kernel_rfl) ?_
      refine wpAnyH_take (i := 3) (v := (.agg #[.slice q70 n70 c70, .slice q71 n71 c71, .int .i64 u.port, .slice q73 n73 c73, .slice q74 n74 c74, .slice q75 n75 c75, .bool u.hq, .bool u.hf])) rfl (by kernel_rfl) (by kernel_rfl) (by kernel_rfl) (fun _ _ _ h => h) (.inl ⟨by kernel_rfl, ?_⟩) hS0 ?_
      · rintro w ⟨h, k⟩; have he0 := h 0 _ rfl; have he1 := h 1 _ rfl; have he2 := h 2 _ rfl; have he3 := h 3 _ rfl; have he4 := h 4 _ rfl; have he5 := h 5 _ rfl; have he6 := h 6 _ rfl; have he7 := h 7 _ rfl; go_simp
      refine plist #[true, true, true, true, false, false, false, false, false, false, false, false, false, false, false, false, false, false, false, false, false, false, false, false, false] (by kernel_rfl) ?_
      refine wpAnyH_take (i := 6) (v := (.agg #[.slice q50 n50 c50, .slice q51 n51 c51, .int .i64 u.port, .slice q53 n53 c53, .slice q54 n54 c54, .slice q55 n55 c55, .bool u.hq, .bool u.hf])) rfl (by kernel_rfl) (by kernel_rfl) (by kernel_rfl) (fun _ _ _ h => h) (.inl ⟨by kernel_rfl, ?_⟩) hS0 ?_
      · rintro w ⟨h, k⟩; have ke0 := k 0 _ rfl; have ke1 := k 1 _ rfl; have ke2 := k 2 _ rfl; have ke3 := k 3 _ rfl; have ke4 := k 4 _ rfl; have ke5 := k 5 _ rfl; have ke6 := k 6 _ rfl; have ke7 := k 7 _ rfl; go_simp
      refine plist #[true, true, true, true, false, false, true, false, false, false, false, false, false, false, false, false, false, false, false, false, false, false, false, false, false] (by kernel_rfl) ?_
      refine pone 4 (by kernel_rfl) rfl fun K hK => ?_
      go_simp
      have con := Text_any u _ X6d I7_6d HOu.out (HG.out.on B_6d) (by have := HNu.out; omega)
      rw [HT.out] at con
      refine con.mono ?_
      rintro e X6a ⟨va, rfl, hr, hb⟩
      clear con
      obtain ⟨qa, ca, rfl, _, _, _, R_6a, _⟩ := row_open hr
      clear hr
      have hS1 := And.intro (hS0.1.on hb) (hS0.2.on hb)
      clear hS0
      have B_6a := B_6d.trans (hb.mono B_6d.size)
      have F_6a := F_6d.on hb
      have I5_6a := I5_6d.on hb
      have U5_6a := U5_6d.on hb
      have I7_6a := I7_6d.on hb
      have U7_6a := U7_6d.on hb
      clear U7_6d I7_6d U5_6d I5_6d F_6d B_6d hb
      refine hK _ _ hS1 ?_
      clear hK K
      have hS2 := And.intro hS1 R_6a
      clear hS1 R_6a
      refine pmore (S' := fun X => (Box b7 #[.slice q70 n70 c70, .slice q71 n71 c71, .int .i64 u.port, .slice q73 n73 c73, .slice q74 n74 c74, .slice q75 n75 c75, .bool u.hq, .bool u.hf] X ∧ Box b5 #[.slice q50 n50 c50, .slice q51 n51 c51, .int .i64 u.port, .slice q53 n53 c53, .slice q54 n54 c54, .slice q55 n55 c55, .bool u.hq, .bool u.hf] X) ∧ Lib.BytesIn X qa T.length (Lib.numsL T)) (fun _ h => h.1) ?_
      refine plist #[true, true, true, true, true, false, true, false, false, false, false, false, false, false, false, false, false, false, false, false, false, false, false, false, false] (by kernel_rfl) ?_
      refine wpAnyH_take (i := 5) (v := (.string ⟨T.toArray⟩)) rfl (by kernel_rfl) (by kernel_rfl) (by kernel_rfl) (fun _ _ _ h => h) (.inl ⟨by kernel_rfl, ?_⟩) hS2 ?_
      · rintro w ⟨⟨h, k⟩, r⟩; have hcv := conv_bytes (c := ca) r rfl; go_simp
      refine plist #[true, true, true, true, true, true, true, false, false, false, false, false, false, false, false, false, false, false, false, false, false, false, false, false, false] (by kernel_rfl) ?_
      refine pone 7 (by kernel_rfl) rfl fun K hK => ?_
      go_simp
      have con := Text_any u _ X6a I5_6a HOu.out (HG.out.on B_6a) (by have := HNu.out; omega)
      rw [HT.out] at con
      refine con.mono ?_
      rintro e X6b ⟨vb, rfl, hr, hb⟩
      clear con
      obtain ⟨qb, cb, rfl, _, _, _, R_6b, _⟩ := row_open hr
      clear hr
      have hS4 := And.intro (And.intro (hS2.1.1.on hb) (hS2.1.2.on hb)) (bytes_on hS2.2 hb)
      clear hS2
      have B_6b := B_6a.trans (hb.mono B_6a.size)
      have F_6b := F_6a.on hb
      have I5_6b := I5_6a.on hb
      have U5_6b := U5_6a.on hb
      have I7_6b := I7_6a.on hb
      have U7_6b := U7_6a.on hb
      clear U7_6a I7_6a U5_6a I5_6a F_6a B_6a hb
      refine hK _ _ hS4 ?_
      clear hK K
      have hS5 := And.intro hS4 R_6b
      clear hS4 R_6b
      refine pmore (S' := fun X => ((Box b7 #[.slice q70 n70 c70, .slice q71 n71 c71, .int .i64 u.port, .slice q73 n73 c73, .slice q74 n74 c74, .slice q75 n75 c75, .bool u.hq, .bool u.hf] X ∧ Box b5 #[.slice q50 n50 c50, .slice q51 n51 c51, .int .i64 u.port, .slice q53 n53 c53, .slice q54 n54 c54, .slice q55 n55 c55, .bool u.hq, .bool u.hf] X) ∧ Lib.BytesIn X qa T.length (Lib.numsL T)) ∧ Lib.BytesIn X qb T.length (Lib.numsL T)) (fun _ h => h.1) ?_
      refine plist #[true, true, true, true, true, true, true, true, false, false, false, false, false, false, false, false, false, false, false, false, false, false, false, false, false] (by kernel_rfl) ?_
      refine wpAnyH_take (i := 8) (v := (.string ⟨T.toArray⟩)) rfl (by kernel_rfl) (by kernel_rfl) (by kernel_rfl) (fun _ _ _ h => h) (.inl ⟨by kernel_rfl, ?_⟩) hS5 ?_
      · rintro w ⟨⟨⟨h, k⟩, r⟩, r2⟩; have hcv := conv_bytes (c := cb) r2 rfl; go_simp
      refine plist #[true, true, true, true, true, true, true, true, true, false, false, false, false, false, false, false, false, false, false, false, false, false, false, false, false] (by kernel_rfl) ?_
      refine pone 9 (by kernel_rfl) rfl fun K hK => ?_
      go_simp
      refine hK _ _ hS5 ?_
      clear hK K
      refine plist #[true, true, true, true, true, true, true, true, true, true, false, false, false, false, false, false, false, false, false, false, false, false, false, false, false] (by kernel_rfl) ?_
      refine pone 10 (by kernel_rfl) rfl fun K hK => ?_
      go_simp
      refine hK _ _ hS5 ?_
      clear hK K
      refine plist #[true, true, true, true, true, true, true, true, true, true, true, false, false, false, false, false, false, false, false, false, false, false, false, false, false] (by kernel_rfl) ?_
      refine pone 11 (by kernel_rfl) rfl fun K hK => ?_
      go_simp
      refine hK _ _ hS5 ?_
      clear hK K
      refine plist #[true, true, true, true, true, true, true, true, true, true, true, true, false, false, false, false, false, false, false, false, false, false, false, false, false] (by kernel_rfl) ?_
      refine wpAnyH_take (i := 12) (v := (.pointer (some ⟨b7, 2, none⟩))) rfl (by kernel_rfl) (by kernel_rfl) (by kernel_rfl) (fun _ _ _ h => h) (.inl ⟨by kernel_rfl, ?_⟩) hS5 ?_
      · rintro w ⟨⟨⟨h, k⟩, r⟩, r2⟩; go_simp
      refine plist #[true, true, true, true, true, true, true, true, true, true, true, true, true, false, false, false, false, false, false, false, false, false, false, false, false] (by kernel_rfl) ?_
      refine wpAnyH_take (i := 13) (v := (.int .i64 u.port)) rfl (by kernel_rfl) (by kernel_rfl) (by kernel_rfl) (fun _ _ _ h => h) (.inl ⟨by kernel_rfl, ?_⟩) hS5 ?_
      · rintro w ⟨⟨⟨h, k⟩, r⟩, r2⟩; have h' := h 2 _ rfl; go_simp
      refine plist #[true, true, true, true, true, true, true, true, true, true, true, true, true, true, false, false, false, false, false, false, false, false, false, false, false] (by kernel_rfl) ?_
      refine wpAnyH_take (i := 14) (v := (.pointer (some ⟨b5, 2, none⟩))) rfl (by kernel_rfl) (by kernel_rfl) (by kernel_rfl) (fun _ _ _ h => h) (.inl ⟨by kernel_rfl, ?_⟩) hS5 ?_
      · rintro w ⟨⟨⟨h, k⟩, r⟩, r2⟩; go_simp
      refine plist #[true, true, true, true, true, true, true, true, true, true, true, true, true, true, true, false, false, false, false, false, false, false, false, false, false] (by kernel_rfl) ?_
      refine wpAnyH_take (i := 15) (v := (.int .i64 u.port)) rfl (by kernel_rfl) (by kernel_rfl) (by kernel_rfl) (fun _ _ _ h => h) (.inl ⟨by kernel_rfl, ?_⟩) hS5 ?_
      · rintro w ⟨⟨⟨h, k⟩, r⟩, r2⟩; have h' := k 2 _ rfl; go_simp
      refine plist #[true, true, true, true, true, true, true, true, true, true, true, true, true, true, true, true, false, false, false, false, false, false, false, false, false] (by kernel_rfl) ?_
      refine pone 16 (by kernel_rfl) rfl fun K hK => ?_
      go_simp
      refine hK _ _ hS5 ?_
      clear hK K
      refine plist #[true, true, true, true, true, true, true, true, true, true, true, true, true, true, true, true, true, false, false, false, false, false, false, false, false] (by kernel_rfl) ?_
      refine pone 17 (by kernel_rfl) rfl fun K hK => ?_
      go_simp
      refine hK _ _ hS5 ?_
      clear hK K
      refine plist #[true, true, true, true, true, true, true, true, true, true, true, true, true, true, true, true, true, true, false, false, false, false, false, false, false] (by kernel_rfl) ?_
      refine pone 18 (by kernel_rfl) rfl fun K hK => ?_
      go_simp
      refine hK _ _ hS5 ?_
      clear hK K
      refine plist #[true, true, true, true, true, true, true, true, true, true, true, true, true, true, true, true, true, true, true, false, false, false, false, false, false] (by kernel_rfl) ?_
      refine wpAnyH_take (i := 19) (v := (.pointer (some ⟨b7, 6, none⟩))) rfl (by kernel_rfl) (by kernel_rfl) (by kernel_rfl) (fun _ _ _ h => h) (.inl ⟨by kernel_rfl, ?_⟩) hS5 ?_
      · rintro w ⟨⟨⟨h, k⟩, r⟩, r2⟩; go_simp
      refine plist #[true, true, true, true, true, true, true, true, true, true, true, true, true, true, true, true, true, true, true, true, false, false, false, false, false] (by kernel_rfl) ?_
      refine wpAnyH_take (i := 20) (v := (.bool u.hq)) rfl (by kernel_rfl) (by kernel_rfl) (by kernel_rfl) (fun _ _ _ h => h) (.inl ⟨by kernel_rfl, ?_⟩) hS5 ?_
      · rintro w ⟨⟨⟨h, k⟩, r⟩, r2⟩; have h' := h 6 _ rfl; go_simp
      refine plist #[true, true, true, true, true, true, true, true, true, true, true, true, true, true, true, true, true, true, true, true, true, false, false, false, false] (by kernel_rfl) ?_
      refine wpAnyH_take (i := 21) (v := (.pointer (some ⟨b5, 6, none⟩))) rfl (by kernel_rfl) (by kernel_rfl) (by kernel_rfl) (fun _ _ _ h => h) (.inl ⟨by kernel_rfl, ?_⟩) hS5 ?_
      · rintro w ⟨⟨⟨h, k⟩, r⟩, r2⟩; go_simp
      refine plist #[true, true, true, true, true, true, true, true, true, true, true, true, true, true, true, true, true, true, true, true, true, true, false, false, false] (by kernel_rfl) ?_
      refine wpAnyH_take (i := 22) (v := (.bool u.hq)) rfl (by kernel_rfl) (by kernel_rfl) (by kernel_rfl) (fun _ _ _ h => h) (.inl ⟨by kernel_rfl, ?_⟩) hS5 ?_
      · rintro w ⟨⟨⟨h, k⟩, r⟩, r2⟩; have h' := k 6 _ rfl; go_simp
      refine plist #[true, true, true, true, true, true, true, true, true, true, true, true, true, true, true, true, true, true, true, true, true, true, true, false, false] (by kernel_rfl) ?_
      refine pone 23 (by kernel_rfl) rfl fun K hK => ?_
      go_simp
      refine hK _ _ hS5 ?_
      clear hK K
      refine plist #[true, true, true, true, true, true, true, true, true, true, true, true, true, true, true, true, true, true, true, true, true, true, true, true, false] (by kernel_rfl) ?_
      refine pone 24 (by kernel_rfl) rfl fun K hK => ?_
      go_simp
      refine hK _ _ hS5 ?_
      clear hK K
      refine pdone (by kernel_rfl) ?_ _
      clear hS5
      clear I7_6b U7_6b
      have con := conF X6b F_6b (HG.out.on B_6b)
      clear conF
      cases hcd : canonU ds with
      | inl m =>
        rw [hcd] at con
        clear hcd hFx
        go_wp2_with fail
        refine con.mono ?_
        rintro e X9 ⟨hm, rfl, hb⟩
        clear con
        have B_9 := B_6b.trans (hb.mono B_6b.size)
        have F_9 := F_6b.on hb
        have I5_9 := I5_6b.on hb
        have U5_9 := U5_6b.on hb
        clear U5_6b I5_6b F_6b B_6b hb
        clear F_9
        unfold zeroU
        have e0 : ((m : Int) == 0) = false := by rw [beq_eq_false_iff_ne]; exact hm
        clear hm
        obtain ⟨XA, hXA⟩ : ∃ Z, X9.alloc (.cells #[.slice none 0 0, .slice none 0 0, .int .i64 0, .slice none 0 0, .slice none 0 0, .slice none 0 0, .bool false, .bool false] 25) = Z := ⟨_, rfl⟩
        have hb : Below X9.heap.size X9 XA := by rw [← hXA]; exact (Below.refl _ _).alloc (Nat.le_refl _) _
        have HXA := Lib.hid hXA
        have ya0 := fun o => cell_on (U5_9.box 0 _ rfl) ((Below.refl X9.heap.size X9).alloc (Nat.le_refl _) o)
        have ya1 := fun o => cell_on (U5_9.box 1 _ rfl) ((Below.refl X9.heap.size X9).alloc (Nat.le_refl _) o)
        have ya2 := fun o => cell_on (U5_9.box 2 _ rfl) ((Below.refl X9.heap.size X9).alloc (Nat.le_refl _) o)
        have ya3 := fun o => cell_on (U5_9.box 3 _ rfl) ((Below.refl X9.heap.size X9).alloc (Nat.le_refl _) o)
        have ya4 := fun o => cell_on (U5_9.box 4 _ rfl) ((Below.refl X9.heap.size X9).alloc (Nat.le_refl _) o)
        have ya5 := fun o => cell_on (U5_9.box 5 _ rfl) ((Below.refl X9.heap.size X9).alloc (Nat.le_refl _) o)
        have ya6 := fun o => cell_on (U5_9.box 6 _ rfl) ((Below.refl X9.heap.size X9).alloc (Nat.le_refl _) o)
        have ya7 := fun o => cell_on (U5_9.box 7 _ rfl) ((Below.refl X9.heap.size X9).alloc (Nat.le_refl _) o)
        clear hXA
        have B_A := B_9.trans (hb.mono B_9.size)
        have I5_A := I5_9.on hb
        have U5_A := U5_9.on hb
        clear U5_9 I5_9 B_9 hb
        have con := Bare_any u _ XA I5_A HOu.out (by have := HNu.out; omega)
        have yc0 := U5_A.box 0 _ rfl
        have yc1 := U5_A.box 1 _ rfl
        have yc2 := U5_A.box 2 _ rfl
        have yc3 := U5_A.box 3 _ rfl
        have yc4 := U5_A.box 4 _ rfl
        have yc5 := U5_A.box 5 _ rfl
        have yc6 := U5_A.box 6 _ rfl
        have yc7 := U5_A.box 7 _ rfl
        go_wp2_with fail
        rw [HXA.out]
        clear ya0 ya1 ya2 ya3 ya4 ya5 ya6 ya7
        refine con.mono ?_
        rintro e XE ⟨vE, rfl, IE_E, hb⟩
        clear con yc0 yc1 yc2 yc3 yc4 yc5 yc6 yc7
        have B_E := B_A.trans (hb.mono B_A.size)
        have I5_E := I5_A.on hb
        have U5_E := U5_A.on hb
        clear U5_A I5_A B_A hb
        obtain ⟨pe0, me0, de0, pe1, me1, de1, pe3, me3, de3, pe4, me4, de4, pe5, me5, de5, rfl, -, -, tE3, -, tE5⟩ := IE_E
        have hE5 := tE5.at.1
        obtain rfl : me5 = 0 := by rw [← hE5]; rfl
        obtain ⟨pl, hpl, hp1, hp2⟩ := path_first u HOu.out
        have hU5 := U5_E.box
        have i53 : By XE (.slice q53 n53 c53) u.path := by
          obtain ⟨_, _, _, _, _, _, _, _, _, _, _, _, _, _, _, he, _, _, hh, _, _⟩ := id I5_E
          simp only [Value.agg.injEq, Array.mk.injEq, List.cons.injEq, Value.slice.injEq] at he
          obtain ⟨_, _, _, ⟨rfl, rfl, rfl⟩, _⟩ := he
          exact hh
        have hu5p := HOu.out.port1
        have hu5q := HOu.out.port2
        have e1 : decide ((1 : Int) ≤ (u.port : Int)) = true := by simp; omega
        have e2 : decide ((u.port : Int) ≤ (65535 : Int)) = true := by simp; omega
        have hbo := fun o => (Below.refl XE.heap.size XE).alloc (Nat.le_refl _) o
        have cvE : ∀ o, (convert 22 9 (.slice pe3 me3 de3)).run Tryd.prog (XE.alloc o) = .ok (.string ⟨u.path.toArray⟩) (XE.alloc o) := fun o => conv_bytes (tE3.on (hbo o)).at.2.2.2.2 (tE3.on (hbo o)).at.1
        have cvU : ∀ o, (convert 22 9 (.slice q53 n53 c53)).run Tryd.prog (XE.alloc o) = .ok (.string ⟨u.path.toArray⟩) (XE.alloc o) := fun o => conv_bytes (i53.on (hbo o)).at.2.2.2.2 (i53.on (hbo o)).at.1
        have hn53 := i53.at.1
        have hpos : 0 < n53 := by rw [← hn53, hpl]; simp
        obtain ⟨pb, po, rfl, hpc⟩ := i53.at.2.2.2.2.at hpos
        have pc0 : ∀ o, (XE.alloc o).cell? ⟨pb, po, none⟩ = some (.int .u8 47) := fun o => cell_on (by have h0 := hpc 0 hpos; rw [numsL_getD _ _ (by omega), hpl] at h0; exact h0) ((Below.refl _ _).alloc (Nat.le_refl _) _)
        have zc3 := fun o => cell_on (hU5 3 _ rfl) ((Below.refl XE.heap.size XE).alloc (Nat.le_refl _) o)
        have zc2 := fun o => cell_on (hU5 2 _ rfl) ((Below.refl XE.heap.size XE).alloc (Nat.le_refl _) o)
        have d53 : decide (0 < n53) = true := by simp; omega
        clear hpc hn53 hbo i53 tE3 tE5 hE5 hU5 hpl hu5p hu5q I5_E U5_E
        go_wp2
        go_ret
        exact ⟨rfl, B_E.alloc B_E.size _⟩
      | inr b =>
        rw [hcd] at con
        have HOb := Lib.hid (hFx b hcd).2
        have HNb := Lib.hid (hFx b hcd).1
        have hOy := bare_ok b (hFx b hcd).2
        have hNy := Nat.le_trans (bare_len b) (hFx b hcd).1
        have hcb : canonU (textU (bareU b)) = .inr (bareU b) := by rw [← parse_canon _ hNy]; exact parse_text _ hOy hNy
        obtain ⟨y, hy⟩ : ∃ y, bareU b = y := ⟨_, rfl⟩
        have HY := Lib.hid hy
        rw [hy] at hOy hNy hcb
        have HOy := Lib.hid hOy
        have HNy := Lib.hid hNy
        obtain ⟨R, hR⟩ : ∃ R, textU y = R := ⟨_, rfl⟩
        have HR := Lib.hid hR
        rw [hR] at hcb hNy
        have HCB := Lib.hid hcb
        have HRL := Lib.hid hNy
        clear hOy hNy hy
        clear hcd hFx hcb hR
        go_wp2_with fail
        refine con.mono ?_
        rintro e X9 ⟨v9, rfl, I9_9, hb⟩
        clear con
        have B_9 := B_6b.trans (hb.mono B_6b.size)
        have F_9 := F_6b.on hb
        have I5_9 := I5_6b.on hb
        have U5_9 := U5_6b.on hb
        clear U5_6b I5_6b F_6b B_6b hb
        clear F_9
        obtain ⟨q90, n90, c90, q91, n91, c91, q93, n93, c93, q94, n94, c94, q95, n95, c95, rfl, o90, o91, o93, o94, o95⟩ := id I9_9
        clear o90 o91 o93 o94 o95
        obtain ⟨XA, hXA⟩ : ∃ Z, X9.alloc (.cells #[.slice q90 n90 c90, .slice q91 n91 c91, .int .i64 b.port, .slice q93 n93 c93, .slice q94 n94 c94, .slice q95 n95 c95, .bool b.hq, .bool b.hf] 25) = Z := ⟨_, rfl⟩
        obtain ⟨b9, hb9⟩ : ∃ b, X9.heap.size = b := ⟨_, rfl⟩
        have U9_A : UB b9 #[.slice q90 n90 c90, .slice q91 n91 c91, .int .i64 b.port, .slice q93 n93 c93, .slice q94 n94 c94, .slice q95 n95 c95, .bool b.hq, .bool b.hf] XA := by rw [← hXA, ← hb9]; exact UB.new X9 _
        have hb : Below X9.heap.size X9 XA := by rw [← hXA]; exact (Below.refl _ _).alloc (Nat.le_refl _) _
        have HXA := Lib.hid hXA
        have HB9 := Lib.hid hb9
        clear hXA hb9
        have B_A := B_9.trans (hb.mono B_9.size)
        have I5_A := I5_9.on hb
        have U5_A := U5_9.on hb
        have I9_A := I9_9.on hb
        clear I9_9 U5_9 I5_9 B_9 hb
        go_upto_region 11 with fail
        rw [HB9.out, HXA.out]
        go_cut [11, 12] from 84 to 90 (fun s11 s12 X => s12 = .int .i64 0 ∧ Held s11 u XA X)
        case first =>
          refine pregion_any (fun X => Box b9 #[.slice q90 n90 c90, .slice q91 n91 c91, .int .i64 b.port, .slice q93 n93 c93, .slice q94 n94 c94, .slice q95 n95 c95, .bool b.hq, .bool b.hf] X ∧ Box b5 #[.slice q50 n50 c50, .slice q51 n51 c51, .int .i64 u.port, .slice q53 n53 c53, .slice q54 n54 c54, .slice q55 n55 c55, .bool u.hq, .bool u.hf] X) (by kernel_rfl) ?_
          have A_A := Below.refl XA.heap.size XA
          have hb : Below XA.heap.size XA XA.drew := (Below.refl _ _).drew
          obtain ⟨XAd, hXd⟩ : ∃ Z, XA.drew = Z := ⟨_, rfl⟩
          rw [hXd] at hb ⊢
          clear hXd
          have B_Ad := B_A.trans (hb.mono B_A.size)
          have I5_Ad := I5_A.on hb
          have U5_Ad := U5_A.on hb
          have I9_Ad := I9_A.on hb
          have U9_Ad := U9_A.on hb
          have A_Ad := A_A.trans (hb.mono A_A.size)
          clear A_A U9_A I9_A U5_A I5_A B_A hb
          have hS0 := And.intro U9_Ad.box U5_Ad.box
          refine wpAnyH_take (i := 0) (v := (.agg #[.slice q90 n90 c90, .slice q91 n91 c91, .int .i64 b.port, .slice q93 n93 c93, .slice q94 n94 c94, .slice q95 n95 c95, .bool b.hq, .bool b.hf])) rfl (by kernel_rfl) (by kernel_rfl) (by kernel_rfl) (fun _ _ _ h => h) (.inl ⟨by kernel_rfl, ?_⟩) hS0 ?_
          · rintro w ⟨h, k⟩; have he0 := h 0 _ rfl; have he1 := h 1 _ rfl; have he2 := h 2 _ rfl; have he3 := h 3 _ rfl; have he4 := h 4 _ rfl; have he5 := h 5 _ rfl; have he6 := h 6 _ rfl; have he7 := h 7 _ rfl; go_simp
          refine plist #[true, false, false, false, false, false, false, false, false, false] (by kernel_rfl) ?_
          refine wpAnyH_take (i := 1) (v := (.agg #[.slice q50 n50 c50, .slice q51 n51 c51, .int .i64 u.port, .slice q53 n53 c53, .slice q54 n54 c54, .slice q55 n55 c55, .bool u.hq, .bool u.hf])) rfl (by kernel_rfl) (by kernel_rfl) (by kernel_rfl) (fun _ _ _ h => h) (.inl ⟨by kernel_rfl, ?_⟩) hS0 ?_
          · rintro w ⟨h, k⟩; have ke0 := k 0 _ rfl; have ke1 := k 1 _ rfl; have ke2 := k 2 _ rfl; have ke3 := k 3 _ rfl; have ke4 := k 4 _ rfl; have ke5 := k 5 _ rfl; have ke6 := k 6 _ rfl; have ke7 := k 7 _ rfl; go_simp
          refine plist #[true, true, false, false, false, false, false, false, false, false] (by kernel_rfl) ?_
          refine ptwo 2 7 (by kernel_rfl) rfl rfl (fun K hK => ?_) (fun K hK => ?_)
          · go_simp
            have con := Text_any u _ XAd I5_Ad HOu.out (HG.out.on B_Ad) (by have := HNu.out; omega)
            rw [HT.out] at con
            refine con.mono ?_
            rintro e XAdt ⟨va, rfl, hr, hb⟩
            clear con
            obtain ⟨qa, ca, rfl, _, _, _, _, _⟩ := row_open hr
            have P_Adt := By.row hr
            clear hr
            have hS0t := And.intro (hS0.1.on hb) (hS0.2.on hb)
            clear hS0
            refine hK _ _ hS0t ?_
            clear hK K
            have B_Adt := B_Ad.trans (hb.mono B_Ad.size)
            have I5_Adt := I5_Ad.on hb
            have U5_Adt := U5_Ad.on hb
            have I9_Adt := I9_Ad.on hb
            have U9_Adt := U9_Ad.on hb
            have A_Adt := A_Ad.trans (hb.mono A_Ad.size)
            clear A_Ad U9_Ad I9_Ad U5_Ad I5_Ad B_Ad hb
            refine plist #[true, true, true, false, false, false, false, false, false, false] (by kernel_rfl) ?_
            refine ptwo 3 7 (by kernel_rfl) rfl rfl (fun K hK => ?_) (fun K hK => ?_)
            · go_simp
              have con := Resolve_of canonOk b u _ qa T.length ca [] T XAdt I9_Adt P_Adt (HG.out.on B_Adt) (by simpa using HTL.out) HCU.out HNu.out (fun W hW => (aheadOf_yes b _ qa T.length ca sk T W (I9_Adt.on hW) (P_Adt.on hW) HTL.out ((HG.out.on B_Adt).on hW) HSK.out.1 HSK.out.2.2.1 HSK.out.2.1 HSK.out.2.2.2).mono fun e w' h => ⟨_, h.1, World.ownsRow_nil _ _ _ _, h.2⟩)
              refine con.mono ?_
              rintro e XAdtr ⟨v11, rfl, I11_Adtr, hb⟩
              clear con
              obtain ⟨qx0, nx0, cx0, qx1, nx1, cx1, qx3, nx3, cx3, qx4, nx4, cx4, qx5, nx5, cx5, rfl, ox0, ox1, ox3, ox4, ox5⟩ := id I11_Adtr
              clear ox0 ox1 ox3 ox4 ox5
              have hS0tr := And.intro (hS0t.1.on hb) (hS0t.2.on hb)
              clear hS0t
              refine hK _ _ hS0tr ?_
              clear hK K
              have B_Adtr := B_Adt.trans (hb.mono B_Adt.size)
              have I5_Adtr := I5_Adt.on hb
              have U5_Adtr := U5_Adt.on hb
              have I9_Adtr := I9_Adt.on hb
              have U9_Adtr := U9_Adt.on hb
              have A_Adtr := A_Adt.trans (hb.mono A_Adt.size)
              have P_Adtr := P_Adt.on hb
              clear P_Adt A_Adt U9_Adt I9_Adt U5_Adt I5_Adt B_Adt hb
              clear P_Adtr
              refine plist #[true, true, true, true, false, false, false, false, false, false] (by kernel_rfl) ?_
              refine wpAnyH_take (i := 4) (v := (.tuple #[.agg #[.slice qx0 nx0 cx0, .slice qx1 nx1 cx1, .int .i64 u.port, .slice qx3 nx3 cx3, .slice qx4 nx4 cx4, .slice qx5 nx5 cx5, .bool u.hq, .bool u.hf], .int .i64 0])) rfl (by kernel_rfl) (by kernel_rfl) (by kernel_rfl) (fun _ _ _ h => h) (.inl ⟨by kernel_rfl, ?_⟩) hS0tr ?_
              · rintro w ⟨h, k⟩; go_simp
              refine plist #[true, true, true, true, true, false, false, false, false, false] (by kernel_rfl) ?_
              refine wpAnyH_take (i := 5) (v := (.agg #[.slice qx0 nx0 cx0, .slice qx1 nx1 cx1, .int .i64 u.port, .slice qx3 nx3 cx3, .slice qx4 nx4 cx4, .slice qx5 nx5 cx5, .bool u.hq, .bool u.hf])) rfl (by kernel_rfl) (by kernel_rfl) (by kernel_rfl) (fun _ _ _ h => h) (.inl ⟨by kernel_rfl, ?_⟩) hS0tr ?_
              · rintro w ⟨h, k⟩; go_simp
              refine plist #[true, true, true, true, true, true, false, false, false, false] (by kernel_rfl) ?_
              refine wpAnyH_take (i := 6) (v := (.int .i64 0)) rfl (by kernel_rfl) (by kernel_rfl) (by kernel_rfl) (fun _ _ _ h => h) (.inl ⟨by kernel_rfl, ?_⟩) hS0tr ?_
              · rintro w ⟨h, k⟩; go_simp
              refine plist #[true, true, true, true, true, true, true, false, false, false] (by kernel_rfl) ?_
              refine pone 7 (by kernel_rfl) rfl fun K hK => ?_
              go_simp
              obtain ⟨XAdtrl, hXl⟩ : ∃ Z, XAdtr.alloc (.cells #[.slice none 0 0, .slice none 0 0, .int .i64 0, .slice none 0 0, .slice none 0 0, .slice none 0 0, .bool false, .bool false] 25) = Z := ⟨_, rfl⟩
              have hb : Below XAdtr.heap.size XAdtr XAdtrl := by rw [← hXl]; exact (Below.refl _ _).alloc (Nat.le_refl _) _
              have U11_Adtrl : UB XAdtr.heap.size zeroU XAdtrl := by rw [← hXl]; exact UB.new XAdtr zeroU
              have hz9 : b9 ≠ XAdtr.heap.size := by have := U9_Adtr.lt; omega
              have hz5 : b5 ≠ XAdtr.heap.size := by have := U5_Adtr.lt; omega
              have hzA : XA.heap.size ≤ XAdtr.heap.size := A_Adtr.size
              rw [hXl]
              have hS0trl := And.intro (hS0tr.1.on hb) (hS0tr.2.on hb)
              clear hS0tr hXl
              refine hK _ _ hS0trl ?_
              clear hK K
              have B_Adtrl := B_Adtr.trans (hb.mono B_Adtr.size)
              have I5_Adtrl := I5_Adtr.on hb
              have U5_Adtrl := U5_Adtr.on hb
              have I9_Adtrl := I9_Adtr.on hb
              have U9_Adtrl := U9_Adtr.on hb
              have A_Adtrl := A_Adtr.trans (hb.mono A_Adtr.size)
              have I11_Adtrl := I11_Adtr.on hb
              clear I11_Adtr A_Adtr U9_Adtr I9_Adtr U5_Adtr I5_Adtr B_Adtr hb
              have zb := U11_Adtrl.box
              have zc0 := zb 0 _ rfl
              have zf0 := U11_Adtrl.frozen 0
              have zc1 := zb 1 _ rfl
              have zf1 := U11_Adtrl.frozen 1
              have zc2 := zb 2 _ rfl
              have zf2 := U11_Adtrl.frozen 2
              have zc3 := zb 3 _ rfl
              have zf3 := U11_Adtrl.frozen 3
              have zc4 := zb 4 _ rfl
              have zf4 := U11_Adtrl.frozen 4
              have zc5 := zb 5 _ rfl
              have zf5 := U11_Adtrl.frozen 5
              have zc6 := zb 6 _ rfl
              have zf6 := U11_Adtrl.frozen 6
              have zc7 := zb 7 _ rfl
              have zf7 := U11_Adtrl.frozen 7
              clear zb
              refine plist #[true, true, true, true, true, true, true, true, false, false] (by kernel_rfl) ?_
              refine pone 8 (by kernel_rfl) rfl fun K hK => ?_
              go_simp
              obtain ⟨Y, hY, hU, hkY, hbY⟩ := UB.put (show UB XAdtr.heap.size #[.slice none 0 0, .slice none 0 0, .int .i64 0, .slice none 0 0, .slice none 0 0, .slice none 0 0, .bool false, .bool false] _ from U11_Adtrl) (.slice qx0 nx0 cx0) (.slice qx1 nx1 cx1) (.int .i64 u.port) (.slice qx3 nx3 cx3) (.slice qx4 nx4 cx4) (.slice qx5 nx5 cx5) (.bool u.hq) (.bool u.hf)
              rw [hY]
              have hSY : Box b9 #[.slice q90 n90 c90, .slice q91 n91 c91, .int .i64 b.port, .slice q93 n93 c93, .slice q94 n94 c94, .slice q95 n95 c95, .bool b.hq, .bool b.hf] Y ∧ Box b5 #[.slice q50 n50 c50, .slice q51 n51 c51, .int .i64 u.port, .slice q53 n53 c53, .slice q54 n54 c54, .slice q55 n55 c55, .bool u.hq, .bool u.hf] Y := And.intro (fun i x hx => (World.cell?_of_block ((hkY (fun c => c ≠ XAdtr.heap.size) (fun h => h rfl)).block _ (World.block_lt_of_cell? _ _ (hS0trl.1 i x hx)) hz9)).trans (hS0trl.1 i x hx)) (fun i x hx => (World.cell?_of_block ((hkY (fun c => c ≠ XAdtr.heap.size) (fun h => h rfl)).block _ (World.block_lt_of_cell? _ _ (hS0trl.2 i x hx)) hz5)).trans (hS0trl.2 i x hx))
              refine hK _ _ hSY ?_
              clear hK K hY zc0 zf0 zc1 zf1 zc2 zf2 zc3 zf3 zc4 zf4 zc5 zf5 zc6 zf6 zc7 zf7
              refine plist #[true, true, true, true, true, true, true, true, true, false] (by kernel_rfl) ?_
              refine pone 9 (by kernel_rfl) rfl fun K hK => ?_
              go_simp
              refine hK _ _ hSY ?_
              clear hK K
              refine pdone (by kernel_rfl) ?_ _
              have hUI : UrlIn Y (.agg #[.slice qx0 nx0 cx0, .slice qx1 nx1 cx1, .int .i64 u.port, .slice qx3 nx3 cx3, .slice qx4 nx4 cx4, .slice qx5 nx5 cx5, .bool u.hq, .bool u.hf]) u := by
                obtain ⟨_, _, _, _, _, _, _, _, _, _, _, _, _, _, _, he, g0, g1, g3, g4, g5⟩ := I11_Adtrl
                exact ⟨_, _, _, _, _, _, _, _, _, _, _, _, _, _, _, he, g0.awayL U11_Adtrl nbzL hkY, g1.awayL U11_Adtrl nbzL hkY, g3.awayL U11_Adtrl nbzL hkY, g4.awayL U11_Adtrl nbzL hkY, g5.awayL U11_Adtrl nbzL hkY⟩
              have hAY := A_Adtrl.trans (hbY _ hzA)
              go_wp2_with fail
              go_meet
              exact ⟨rfl, _, _, _, _, _, _, _, _, _, _, _, _, _, _, _, _, rfl, hU, hUI, hAY⟩
            · go_simp
              obtain ⟨XAdtl, hXl⟩ : ∃ Z, XAdt.alloc (.cells #[.slice none 0 0, .slice none 0 0, .int .i64 0, .slice none 0 0, .slice none 0 0, .slice none 0 0, .bool false, .bool false] 25) = Z := ⟨_, rfl⟩
              have hb : Below XAdt.heap.size XAdt XAdtl := by rw [← hXl]; exact (Below.refl _ _).alloc (Nat.le_refl _) _
              have U11_Adtl : UB XAdt.heap.size zeroU XAdtl := by rw [← hXl]; exact UB.new XAdt zeroU
              have hz9 : b9 ≠ XAdt.heap.size := by have := U9_Adt.lt; omega
              have hz5 : b5 ≠ XAdt.heap.size := by have := U5_Adt.lt; omega
              have hzA : XA.heap.size ≤ XAdt.heap.size := A_Adt.size
              rw [hXl]
              have hS0tl := And.intro (hS0t.1.on hb) (hS0t.2.on hb)
              clear hS0t hXl
              refine hK _ _ hS0tl ?_
              clear hK K
              have B_Adtl := B_Adt.trans (hb.mono B_Adt.size)
              have I5_Adtl := I5_Adt.on hb
              have U5_Adtl := U5_Adt.on hb
              have I9_Adtl := I9_Adt.on hb
              have U9_Adtl := U9_Adt.on hb
              have A_Adtl := A_Adt.trans (hb.mono A_Adt.size)
              have P_Adtl := P_Adt.on hb
              clear P_Adt A_Adt U9_Adt I9_Adt U5_Adt I5_Adt B_Adt hb
              refine plist #[true, true, true, false, false, false, false, true, false, false] (by kernel_rfl) ?_
              refine pone 3 (by kernel_rfl) rfl fun K hK => ?_
              go_simp
              have con := Resolve_of canonOk b u _ qa T.length ca [] T XAdtl I9_Adtl P_Adtl (HG.out.on B_Adtl) (by simpa using HTL.out) HCU.out HNu.out (fun W hW => (aheadOf_yes b _ qa T.length ca sk T W (I9_Adtl.on hW) (P_Adtl.on hW) HTL.out ((HG.out.on B_Adtl).on hW) HSK.out.1 HSK.out.2.2.1 HSK.out.2.1 HSK.out.2.2.2).mono fun e w' h => ⟨_, h.1, World.ownsRow_nil _ _ _ _, h.2⟩)
              refine con.mono ?_
              rintro e XAdtlr ⟨v11, rfl, I11_Adtlr, hb⟩
              clear con
              obtain ⟨qx0, nx0, cx0, qx1, nx1, cx1, qx3, nx3, cx3, qx4, nx4, cx4, qx5, nx5, cx5, rfl, ox0, ox1, ox3, ox4, ox5⟩ := id I11_Adtlr
              clear ox0 ox1 ox3 ox4 ox5
              have hS0tlr := And.intro (hS0tl.1.on hb) (hS0tl.2.on hb)
              clear hS0tl
              refine hK _ _ hS0tlr ?_
              clear hK K
              have B_Adtlr := B_Adtl.trans (hb.mono B_Adtl.size)
              have I5_Adtlr := I5_Adtl.on hb
              have U5_Adtlr := U5_Adtl.on hb
              have I9_Adtlr := I9_Adtl.on hb
              have U9_Adtlr := U9_Adtl.on hb
              have A_Adtlr := A_Adtl.trans (hb.mono A_Adtl.size)
              have P_Adtlr := P_Adtl.on hb
              have U11_Adtlr := U11_Adtl.on hb
              clear U11_Adtl P_Adtl A_Adtl U9_Adtl I9_Adtl U5_Adtl I5_Adtl B_Adtl hb
              clear P_Adtlr
              refine plist #[true, true, true, true, false, false, false, true, false, false] (by kernel_rfl) ?_
              refine wpAnyH_take (i := 4) (v := (.tuple #[.agg #[.slice qx0 nx0 cx0, .slice qx1 nx1 cx1, .int .i64 u.port, .slice qx3 nx3 cx3, .slice qx4 nx4 cx4, .slice qx5 nx5 cx5, .bool u.hq, .bool u.hf], .int .i64 0])) rfl (by kernel_rfl) (by kernel_rfl) (by kernel_rfl) (fun _ _ _ h => h) (.inl ⟨by kernel_rfl, ?_⟩) hS0tlr ?_
              · rintro w ⟨h, k⟩; go_simp
              refine plist #[true, true, true, true, true, false, false, true, false, false] (by kernel_rfl) ?_
              refine wpAnyH_take (i := 5) (v := (.agg #[.slice qx0 nx0 cx0, .slice qx1 nx1 cx1, .int .i64 u.port, .slice qx3 nx3 cx3, .slice qx4 nx4 cx4, .slice qx5 nx5 cx5, .bool u.hq, .bool u.hf])) rfl (by kernel_rfl) (by kernel_rfl) (by kernel_rfl) (fun _ _ _ h => h) (.inl ⟨by kernel_rfl, ?_⟩) hS0tlr ?_
              · rintro w ⟨h, k⟩; go_simp
              refine plist #[true, true, true, true, true, true, false, true, false, false] (by kernel_rfl) ?_
              refine wpAnyH_take (i := 6) (v := (.int .i64 0)) rfl (by kernel_rfl) (by kernel_rfl) (by kernel_rfl) (fun _ _ _ h => h) (.inl ⟨by kernel_rfl, ?_⟩) hS0tlr ?_
              · rintro w ⟨h, k⟩; go_simp
              have zb := U11_Adtlr.box
              have zc0 := zb 0 _ rfl
              have zf0 := U11_Adtlr.frozen 0
              have zc1 := zb 1 _ rfl
              have zf1 := U11_Adtlr.frozen 1
              have zc2 := zb 2 _ rfl
              have zf2 := U11_Adtlr.frozen 2
              have zc3 := zb 3 _ rfl
              have zf3 := U11_Adtlr.frozen 3
              have zc4 := zb 4 _ rfl
              have zf4 := U11_Adtlr.frozen 4
              have zc5 := zb 5 _ rfl
              have zf5 := U11_Adtlr.frozen 5
              have zc6 := zb 6 _ rfl
              have zf6 := U11_Adtlr.frozen 6
              have zc7 := zb 7 _ rfl
              have zf7 := U11_Adtlr.frozen 7
              clear zb
              refine plist #[true, true, true, true, true, true, true, true, false, false] (by kernel_rfl) ?_
              refine pone 8 (by kernel_rfl) rfl fun K hK => ?_
              go_simp
              obtain ⟨Y, hY, hU, hkY, hbY⟩ := UB.put (show UB XAdt.heap.size #[.slice none 0 0, .slice none 0 0, .int .i64 0, .slice none 0 0, .slice none 0 0, .slice none 0 0, .bool false, .bool false] _ from U11_Adtlr) (.slice qx0 nx0 cx0) (.slice qx1 nx1 cx1) (.int .i64 u.port) (.slice qx3 nx3 cx3) (.slice qx4 nx4 cx4) (.slice qx5 nx5 cx5) (.bool u.hq) (.bool u.hf)
              rw [hY]
              have hSY : Box b9 #[.slice q90 n90 c90, .slice q91 n91 c91, .int .i64 b.port, .slice q93 n93 c93, .slice q94 n94 c94, .slice q95 n95 c95, .bool b.hq, .bool b.hf] Y ∧ Box b5 #[.slice q50 n50 c50, .slice q51 n51 c51, .int .i64 u.port, .slice q53 n53 c53, .slice q54 n54 c54, .slice q55 n55 c55, .bool u.hq, .bool u.hf] Y := And.intro (fun i x hx => (World.cell?_of_block ((hkY (fun c => c ≠ XAdt.heap.size) (fun h => h rfl)).block _ (World.block_lt_of_cell? _ _ (hS0tlr.1 i x hx)) hz9)).trans (hS0tlr.1 i x hx)) (fun i x hx => (World.cell?_of_block ((hkY (fun c => c ≠ XAdt.heap.size) (fun h => h rfl)).block _ (World.block_lt_of_cell? _ _ (hS0tlr.2 i x hx)) hz5)).trans (hS0tlr.2 i x hx))
              refine hK _ _ hSY ?_
              clear hK K hY zc0 zf0 zc1 zf1 zc2 zf2 zc3 zf3 zc4 zf4 zc5 zf5 zc6 zf6 zc7 zf7
              refine plist #[true, true, true, true, true, true, true, true, true, false] (by kernel_rfl) ?_
              refine pone 9 (by kernel_rfl) rfl fun K hK => ?_
              go_simp
              refine hK _ _ hSY ?_
              clear hK K
              refine pdone (by kernel_rfl) ?_ _
              have hUI : UrlIn Y (.agg #[.slice qx0 nx0 cx0, .slice qx1 nx1 cx1, .int .i64 u.port, .slice qx3 nx3 cx3, .slice qx4 nx4 cx4, .slice qx5 nx5 cx5, .bool u.hq, .bool u.hf]) u := by
                obtain ⟨_, _, _, _, _, _, _, _, _, _, _, _, _, _, _, he, g0, g1, g3, g4, g5⟩ := I11_Adtlr
                exact ⟨_, _, _, _, _, _, _, _, _, _, _, _, _, _, _, he, g0.awayL U11_Adtlr nbzL hkY, g1.awayL U11_Adtlr nbzL hkY, g3.awayL U11_Adtlr nbzL hkY, g4.awayL U11_Adtlr nbzL hkY, g5.awayL U11_Adtlr nbzL hkY⟩
              have hAY := A_Adtlr.trans (hbY _ hzA)
              go_wp2_with fail
              go_meet
              exact ⟨rfl, _, _, _, _, _, _, _, _, _, _, _, _, _, _, _, _, rfl, hU, hUI, hAY⟩
          · go_simp
            obtain ⟨XAdl, hXl⟩ : ∃ Z, XAd.alloc (.cells #[.slice none 0 0, .slice none 0 0, .int .i64 0, .slice none 0 0, .slice none 0 0, .slice none 0 0, .bool false, .bool false] 25) = Z := ⟨_, rfl⟩
            have hb : Below XAd.heap.size XAd XAdl := by rw [← hXl]; exact (Below.refl _ _).alloc (Nat.le_refl _) _
            have U11_Adl : UB XAd.heap.size zeroU XAdl := by rw [← hXl]; exact UB.new XAd zeroU
            have hz9 : b9 ≠ XAd.heap.size := by have := U9_Ad.lt; omega
            have hz5 : b5 ≠ XAd.heap.size := by have := U5_Ad.lt; omega
            have hzA : XA.heap.size ≤ XAd.heap.size := A_Ad.size
            rw [hXl]
            have hS0l := And.intro (hS0.1.on hb) (hS0.2.on hb)
            clear hS0 hXl
            refine hK _ _ hS0l ?_
            clear hK K
            have B_Adl := B_Ad.trans (hb.mono B_Ad.size)
            have I5_Adl := I5_Ad.on hb
            have U5_Adl := U5_Ad.on hb
            have I9_Adl := I9_Ad.on hb
            have U9_Adl := U9_Ad.on hb
            have A_Adl := A_Ad.trans (hb.mono A_Ad.size)
            clear A_Ad U9_Ad I9_Ad U5_Ad I5_Ad B_Ad hb
            refine plist #[true, true, false, false, false, false, false, true, false, false] (by kernel_rfl) ?_
            refine pone 2 (by kernel_rfl) rfl fun K hK => ?_
            go_simp
            have con := Text_any u _ XAdl I5_Adl HOu.out (HG.out.on B_Adl) (by have := HNu.out; omega)
            rw [HT.out] at con
            refine con.mono ?_
            rintro e XAdlt ⟨va, rfl, hr, hb⟩
            clear con
            obtain ⟨qa, ca, rfl, _, _, _, _, _⟩ := row_open hr
            have P_Adlt := By.row hr
            clear hr
            have hS0lt := And.intro (hS0l.1.on hb) (hS0l.2.on hb)
            clear hS0l
            refine hK _ _ hS0lt ?_
            clear hK K
            have B_Adlt := B_Adl.trans (hb.mono B_Adl.size)
            have I5_Adlt := I5_Adl.on hb
            have U5_Adlt := U5_Adl.on hb
            have I9_Adlt := I9_Adl.on hb
            have U9_Adlt := U9_Adl.on hb
            have A_Adlt := A_Adl.trans (hb.mono A_Adl.size)
            have U11_Adlt := U11_Adl.on hb
            clear U11_Adl A_Adl U9_Adl I9_Adl U5_Adl I5_Adl B_Adl hb
            refine plist #[true, true, true, false, false, false, false, true, false, false] (by kernel_rfl) ?_
            refine pone 3 (by kernel_rfl) rfl fun K hK => ?_
            go_simp
            have con := Resolve_of canonOk b u _ qa T.length ca [] T XAdlt I9_Adlt P_Adlt (HG.out.on B_Adlt) (by simpa using HTL.out) HCU.out HNu.out (fun W hW => (aheadOf_yes b _ qa T.length ca sk T W (I9_Adlt.on hW) (P_Adlt.on hW) HTL.out ((HG.out.on B_Adlt).on hW) HSK.out.1 HSK.out.2.2.1 HSK.out.2.1 HSK.out.2.2.2).mono fun e w' h => ⟨_, h.1, World.ownsRow_nil _ _ _ _, h.2⟩)
            refine con.mono ?_
            rintro e XAdltr ⟨v11, rfl, I11_Adltr, hb⟩
            clear con
            obtain ⟨qx0, nx0, cx0, qx1, nx1, cx1, qx3, nx3, cx3, qx4, nx4, cx4, qx5, nx5, cx5, rfl, ox0, ox1, ox3, ox4, ox5⟩ := id I11_Adltr
            clear ox0 ox1 ox3 ox4 ox5
            have hS0ltr := And.intro (hS0lt.1.on hb) (hS0lt.2.on hb)
            clear hS0lt
            refine hK _ _ hS0ltr ?_
            clear hK K
            have B_Adltr := B_Adlt.trans (hb.mono B_Adlt.size)
            have I5_Adltr := I5_Adlt.on hb
            have U5_Adltr := U5_Adlt.on hb
            have I9_Adltr := I9_Adlt.on hb
            have U9_Adltr := U9_Adlt.on hb
            have A_Adltr := A_Adlt.trans (hb.mono A_Adlt.size)
            have U11_Adltr := U11_Adlt.on hb
            have P_Adltr := P_Adlt.on hb
            clear P_Adlt U11_Adlt A_Adlt U9_Adlt I9_Adlt U5_Adlt I5_Adlt B_Adlt hb
            clear P_Adltr
            refine plist #[true, true, true, true, false, false, false, true, false, false] (by kernel_rfl) ?_
            refine wpAnyH_take (i := 4) (v := (.tuple #[.agg #[.slice qx0 nx0 cx0, .slice qx1 nx1 cx1, .int .i64 u.port, .slice qx3 nx3 cx3, .slice qx4 nx4 cx4, .slice qx5 nx5 cx5, .bool u.hq, .bool u.hf], .int .i64 0])) rfl (by kernel_rfl) (by kernel_rfl) (by kernel_rfl) (fun _ _ _ h => h) (.inl ⟨by kernel_rfl, ?_⟩) hS0ltr ?_
            · rintro w ⟨h, k⟩; go_simp
            refine plist #[true, true, true, true, true, false, false, true, false, false] (by kernel_rfl) ?_
            refine wpAnyH_take (i := 5) (v := (.agg #[.slice qx0 nx0 cx0, .slice qx1 nx1 cx1, .int .i64 u.port, .slice qx3 nx3 cx3, .slice qx4 nx4 cx4, .slice qx5 nx5 cx5, .bool u.hq, .bool u.hf])) rfl (by kernel_rfl) (by kernel_rfl) (by kernel_rfl) (fun _ _ _ h => h) (.inl ⟨by kernel_rfl, ?_⟩) hS0ltr ?_
            · rintro w ⟨h, k⟩; go_simp
            refine plist #[true, true, true, true, true, true, false, true, false, false] (by kernel_rfl) ?_
            refine wpAnyH_take (i := 6) (v := (.int .i64 0)) rfl (by kernel_rfl) (by kernel_rfl) (by kernel_rfl) (fun _ _ _ h => h) (.inl ⟨by kernel_rfl, ?_⟩) hS0ltr ?_
            · rintro w ⟨h, k⟩; go_simp
            have zb := U11_Adltr.box
            have zc0 := zb 0 _ rfl
            have zf0 := U11_Adltr.frozen 0
            have zc1 := zb 1 _ rfl
            have zf1 := U11_Adltr.frozen 1
            have zc2 := zb 2 _ rfl
            have zf2 := U11_Adltr.frozen 2
            have zc3 := zb 3 _ rfl
            have zf3 := U11_Adltr.frozen 3
            have zc4 := zb 4 _ rfl
            have zf4 := U11_Adltr.frozen 4
            have zc5 := zb 5 _ rfl
            have zf5 := U11_Adltr.frozen 5
            have zc6 := zb 6 _ rfl
            have zf6 := U11_Adltr.frozen 6
            have zc7 := zb 7 _ rfl
            have zf7 := U11_Adltr.frozen 7
            clear zb
            refine plist #[true, true, true, true, true, true, true, true, false, false] (by kernel_rfl) ?_
            refine pone 8 (by kernel_rfl) rfl fun K hK => ?_
            go_simp
            obtain ⟨Y, hY, hU, hkY, hbY⟩ := UB.put (show UB XAd.heap.size #[.slice none 0 0, .slice none 0 0, .int .i64 0, .slice none 0 0, .slice none 0 0, .slice none 0 0, .bool false, .bool false] _ from U11_Adltr) (.slice qx0 nx0 cx0) (.slice qx1 nx1 cx1) (.int .i64 u.port) (.slice qx3 nx3 cx3) (.slice qx4 nx4 cx4) (.slice qx5 nx5 cx5) (.bool u.hq) (.bool u.hf)
            rw [hY]
            have hSY : Box b9 #[.slice q90 n90 c90, .slice q91 n91 c91, .int .i64 b.port, .slice q93 n93 c93, .slice q94 n94 c94, .slice q95 n95 c95, .bool b.hq, .bool b.hf] Y ∧ Box b5 #[.slice q50 n50 c50, .slice q51 n51 c51, .int .i64 u.port, .slice q53 n53 c53, .slice q54 n54 c54, .slice q55 n55 c55, .bool u.hq, .bool u.hf] Y := And.intro (fun i x hx => (World.cell?_of_block ((hkY (fun c => c ≠ XAd.heap.size) (fun h => h rfl)).block _ (World.block_lt_of_cell? _ _ (hS0ltr.1 i x hx)) hz9)).trans (hS0ltr.1 i x hx)) (fun i x hx => (World.cell?_of_block ((hkY (fun c => c ≠ XAd.heap.size) (fun h => h rfl)).block _ (World.block_lt_of_cell? _ _ (hS0ltr.2 i x hx)) hz5)).trans (hS0ltr.2 i x hx))
            refine hK _ _ hSY ?_
            clear hK K hY zc0 zf0 zc1 zf1 zc2 zf2 zc3 zf3 zc4 zf4 zc5 zf5 zc6 zf6 zc7 zf7
            refine plist #[true, true, true, true, true, true, true, true, true, false] (by kernel_rfl) ?_
            refine pone 9 (by kernel_rfl) rfl fun K hK => ?_
            go_simp
            refine hK _ _ hSY ?_
            clear hK K
            refine pdone (by kernel_rfl) ?_ _
            have hUI : UrlIn Y (.agg #[.slice qx0 nx0 cx0, .slice qx1 nx1 cx1, .int .i64 u.port, .slice qx3 nx3 cx3, .slice qx4 nx4 cx4, .slice qx5 nx5 cx5, .bool u.hq, .bool u.hf]) u := by
              obtain ⟨_, _, _, _, _, _, _, _, _, _, _, _, _, _, _, he, g0, g1, g3, g4, g5⟩ := I11_Adltr
              exact ⟨_, _, _, _, _, _, _, _, _, _, _, _, _, _, _, he, g0.awayL U11_Adltr nbzL hkY, g1.awayL U11_Adltr nbzL hkY, g3.awayL U11_Adltr nbzL hkY, g4.awayL U11_Adltr nbzL hkY, g5.awayL U11_Adltr nbzL hkY⟩
            have hAY := A_Adltr.trans (hbY _ hzA)
            go_wp2_with fail
            go_meet
            exact ⟨rfl, _, _, _, _, _, _, _, _, _, _, _, _, _, _, _, _, rfl, hU, hUI, hAY⟩
        case rest =>
          obtain ⟨rfl, b11, q110, n110, c110, q111, n111, c111, q113, n113, c113, q114, n114, c114, q115, n115, c115, rfl, U11_C, I11_C, hb⟩ := hcut
          obtain ⟨XC, hXC⟩ : ∃ Z, wc = Z := ⟨_, rfl⟩
          rw [hXC] at U11_C I11_C hb ⊢
          clear hXC
          have B_C := B_A.trans (hb.mono B_A.size)
          have I5_C := I5_A.on hb
          have U5_C := U5_A.on hb
          have I9_C := I9_A.on hb
          have U9_C := U9_A.on hb
          clear U9_A I9_A U5_A I5_A B_A hb
          go_wp2_with fail
          refine pregion_any (fun X => Box b11 #[.slice q110 n110 c110, .slice q111 n111 c111, .int .i64 u.port, .slice q113 n113 c113, .slice q114 n114 c114, .slice q115 n115 c115, .bool u.hq, .bool u.hf] X ∧ Box b5 #[.slice q50 n50 c50, .slice q51 n51 c51, .int .i64 u.port, .slice q53 n53 c53, .slice q54 n54 c54, .slice q55 n55 c55, .bool u.hq, .bool u.hf] X) (by kernel_rfl) ?_
          have hb : Below XC.heap.size XC XC.drew := (Below.refl _ _).drew
          obtain ⟨XCd, hXd⟩ : ∃ Z, XC.drew = Z := ⟨_, rfl⟩
          rw [hXd] at hb ⊢
          clear hXd
          have B_Cd := B_C.trans (hb.mono B_C.size)
          have I5_Cd := I5_C.on hb
          have U5_Cd := U5_C.on hb
          have I9_Cd := I9_C.on hb
          have U9_Cd := U9_C.on hb
          have U11_Cd := U11_C.on hb
          have I11_Cd := I11_C.on hb
          clear I11_C U11_C U9_C I9_C U5_C I5_C B_C hb
          have hS0 := And.intro U11_Cd.box U5_Cd.box
          refine wpAnyH_take (i := 0) (v := (.int .i64 0)) rfl (by kernel_rfl) (by kernel_rfl) (by kernel_rfl) (fun _ _ _ h => h) (.inl ⟨by kernel_rfl, ?_⟩) hS0 ?_
          · rintro w ⟨h, k⟩; go_simp
          refine plist #[true, false, false, false, false, false, false, false, false, false, false] (by kernel_rfl) ?_
          refine wpAnyH_take (i := 1) (v := (.bool false)) rfl (by kernel_rfl) (by kernel_rfl) (by kernel_rfl) (fun _ _ _ h => h) (.inl ⟨by kernel_rfl, ?_⟩) hS0 ?_
          · rintro w ⟨h, k⟩; go_simp
          refine plist #[true, true, false, false, false, false, false, false, false, false, false] (by kernel_rfl) ?_
          refine wpAnyH_take (i := 2) (v := (.bool false)) rfl (by kernel_rfl) (by kernel_rfl) (by kernel_rfl) (fun _ _ _ h => h) (.inl ⟨by kernel_rfl, ?_⟩) hS0 ?_
          · rintro w ⟨h, k⟩; go_simp
          refine plist #[true, true, true, false, false, false, false, false, false, false, false] (by kernel_rfl) ?_
          refine wpAnyH_take (i := 3) (v := (.agg #[.slice q110 n110 c110, .slice q111 n111 c111, .int .i64 u.port, .slice q113 n113 c113, .slice q114 n114 c114, .slice q115 n115 c115, .bool u.hq, .bool u.hf])) rfl (by kernel_rfl) (by kernel_rfl) (by kernel_rfl) (fun _ _ _ h => h) (.inl ⟨by kernel_rfl, ?_⟩) hS0 ?_
          · rintro w ⟨h, k⟩; have he0 := h 0 _ rfl; have he1 := h 1 _ rfl; have he2 := h 2 _ rfl; have he3 := h 3 _ rfl; have he4 := h 4 _ rfl; have he5 := h 5 _ rfl; have he6 := h 6 _ rfl; have he7 := h 7 _ rfl; go_simp
          refine plist #[true, true, true, true, false, false, false, false, false, false, false] (by kernel_rfl) ?_
          refine wpAnyH_take (i := 6) (v := (.agg #[.slice q50 n50 c50, .slice q51 n51 c51, .int .i64 u.port, .slice q53 n53 c53, .slice q54 n54 c54, .slice q55 n55 c55, .bool u.hq, .bool u.hf])) rfl (by kernel_rfl) (by kernel_rfl) (by kernel_rfl) (fun _ _ _ h => h) (.inl ⟨by kernel_rfl, ?_⟩) hS0 ?_
          · rintro w ⟨h, k⟩; have ke0 := k 0 _ rfl; have ke1 := k 1 _ rfl; have ke2 := k 2 _ rfl; have ke3 := k 3 _ rfl; have ke4 := k 4 _ rfl; have ke5 := k 5 _ rfl; have ke6 := k 6 _ rfl; have ke7 := k 7 _ rfl; go_simp
          refine plist #[true, true, true, true, false, false, true, false, false, false, false] (by kernel_rfl) ?_
          refine pone 4 (by kernel_rfl) rfl fun K hK => ?_
          go_simp
          have con := Text_any u _ XCd I11_Cd HOu.out (HG.out.on B_Cd) (by have := HNu.out; omega)
          rw [HT.out] at con
          refine con.mono ?_
          rintro e XCa ⟨va, rfl, hr, hb⟩
          clear con
          obtain ⟨qa, ca, rfl, _, _, _, R_Ca, _⟩ := row_open hr
          clear hr
          have hS1 := And.intro (hS0.1.on hb) (hS0.2.on hb)
          clear hS0
          have B_Ca := B_Cd.trans (hb.mono B_Cd.size)
          have I5_Ca := I5_Cd.on hb
          have U5_Ca := U5_Cd.on hb
          have I9_Ca := I9_Cd.on hb
          have U9_Ca := U9_Cd.on hb
          have U11_Ca := U11_Cd.on hb
          have I11_Ca := I11_Cd.on hb
          clear I11_Cd U11_Cd U9_Cd I9_Cd U5_Cd I5_Cd B_Cd hb
          refine hK _ _ hS1 ?_
          clear hK K
          have hS2 := And.intro hS1 R_Ca
          clear hS1 R_Ca
          refine pmore (S' := fun X => (Box b11 #[.slice q110 n110 c110, .slice q111 n111 c111, .int .i64 u.port, .slice q113 n113 c113, .slice q114 n114 c114, .slice q115 n115 c115, .bool u.hq, .bool u.hf] X ∧ Box b5 #[.slice q50 n50 c50, .slice q51 n51 c51, .int .i64 u.port, .slice q53 n53 c53, .slice q54 n54 c54, .slice q55 n55 c55, .bool u.hq, .bool u.hf] X) ∧ Lib.BytesIn X qa T.length (Lib.numsL T)) (fun _ h => h.1) ?_
          refine plist #[true, true, true, true, true, false, true, false, false, false, false] (by kernel_rfl) ?_
          refine wpAnyH_take (i := 5) (v := (.string ⟨T.toArray⟩)) rfl (by kernel_rfl) (by kernel_rfl) (by kernel_rfl) (fun _ _ _ h => h) (.inl ⟨by kernel_rfl, ?_⟩) hS2 ?_
          · rintro w ⟨⟨h, k⟩, r⟩; have hcv := conv_bytes (c := ca) r rfl; go_simp
          refine plist #[true, true, true, true, true, true, true, false, false, false, false] (by kernel_rfl) ?_
          refine pone 7 (by kernel_rfl) rfl fun K hK => ?_
          go_simp
          have con := Text_any u _ XCa I5_Ca HOu.out (HG.out.on B_Ca) (by have := HNu.out; omega)
          rw [HT.out] at con
          refine con.mono ?_
          rintro e XCb ⟨vb, rfl, hr, hb⟩
          clear con
          obtain ⟨qb, cb, rfl, _, _, _, R_Cb, _⟩ := row_open hr
          clear hr
          have hS4 := And.intro (And.intro (hS2.1.1.on hb) (hS2.1.2.on hb)) (bytes_on hS2.2 hb)
          clear hS2
          have B_Cb := B_Ca.trans (hb.mono B_Ca.size)
          have I5_Cb := I5_Ca.on hb
          have U5_Cb := U5_Ca.on hb
          have I9_Cb := I9_Ca.on hb
          have U9_Cb := U9_Ca.on hb
          have U11_Cb := U11_Ca.on hb
          have I11_Cb := I11_Ca.on hb
          clear I11_Ca U11_Ca U9_Ca I9_Ca U5_Ca I5_Ca B_Ca hb
          refine hK _ _ hS4 ?_
          clear hK K
          have hS5 := And.intro hS4 R_Cb
          clear hS4 R_Cb
          refine pmore (S' := fun X => ((Box b11 #[.slice q110 n110 c110, .slice q111 n111 c111, .int .i64 u.port, .slice q113 n113 c113, .slice q114 n114 c114, .slice q115 n115 c115, .bool u.hq, .bool u.hf] X ∧ Box b5 #[.slice q50 n50 c50, .slice q51 n51 c51, .int .i64 u.port, .slice q53 n53 c53, .slice q54 n54 c54, .slice q55 n55 c55, .bool u.hq, .bool u.hf] X) ∧ Lib.BytesIn X qa T.length (Lib.numsL T)) ∧ Lib.BytesIn X qb T.length (Lib.numsL T)) (fun _ h => h.1) ?_
          refine plist #[true, true, true, true, true, true, true, true, false, false, false] (by kernel_rfl) ?_
          refine wpAnyH_take (i := 8) (v := (.string ⟨T.toArray⟩)) rfl (by kernel_rfl) (by kernel_rfl) (by kernel_rfl) (fun _ _ _ h => h) (.inl ⟨by kernel_rfl, ?_⟩) hS5 ?_
          · rintro w ⟨⟨⟨h, k⟩, r⟩, r2⟩; have hcv := conv_bytes (c := cb) r2 rfl; go_simp
          refine plist #[true, true, true, true, true, true, true, true, true, false, false] (by kernel_rfl) ?_
          refine pone 9 (by kernel_rfl) rfl fun K hK => ?_
          go_simp
          refine hK _ _ hS5 ?_
          clear hK K
          refine plist #[true, true, true, true, true, true, true, true, true, true, false] (by kernel_rfl) ?_
          refine pone 10 (by kernel_rfl) rfl fun K hK => ?_
          go_simp
          refine hK _ _ hS5 ?_
          clear hK K
          refine pdone (by kernel_rfl) ?_ _
          clear hS5
          clear U11_Cb I11_Cb
          have hS9 := U9_Cb.box
          have zc0 := hS9 0 _ rfl
          have zc1 := hS9 1 _ rfl
          have zc2 := hS9 2 _ rfl
          have zc3 := hS9 3 _ rfl
          have zc4 := hS9 4 _ rfl
          have zc5 := hS9 5 _ rfl
          have zc6 := hS9 6 _ rfl
          have zc7 := hS9 7 _ rfl
          clear hS9
          have con := Resolve_of canonOk b y _ none 0 0 R [] XCb I9_Cb (by_nil _) (HG.out.on B_Cb) (by simpa using HRL.out) (by simpa using HCB.out) HNy.out (fun W hW => by
            have h := aheadOf_nil b _ W (I9_Cb.on hW) HOb.out ((HG.out.on B_Cb).on hW) HNb.out
            rw [HY.out, HR.out] at h
            exact h)
          go_wp2_with fail
          refine con.mono ?_
          rintro e XE0 ⟨v13, rfl, I13_E0, hb⟩
          clear con zc0 zc1 zc2 zc3 zc4 zc5 zc6 zc7
          have B_E0 := B_Cb.trans (hb.mono B_Cb.size)
          have I5_E0 := I5_Cb.on hb
          have U5_E0 := U5_Cb.on hb
          have I9_E0 := I9_Cb.on hb
          have U9_E0 := U9_Cb.on hb
          clear U9_Cb I9_Cb U5_Cb I5_Cb B_Cb hb
          obtain ⟨q130, n130, c130, q131, n131, c131, q133, n133, c133, q134, n134, c134, q135, n135, c135, rfl, o130, o131, o133, o134, o135⟩ := id I13_E0
          clear o130 o131 o133 o134 o135
          obtain ⟨XE1, hXE1⟩ : ∃ Z, XE0.alloc (.cells #[.slice q130 n130 c130, .slice q131 n131 c131, .int .i64 y.port, .slice q133 n133 c133, .slice q134 n134 c134, .slice q135 n135 c135, .bool y.hq, .bool y.hf] 25) = Z := ⟨_, rfl⟩
          obtain ⟨b13, hb13⟩ : ∃ b, XE0.heap.size = b := ⟨_, rfl⟩
          have U13_E1 : UB b13 #[.slice q130 n130 c130, .slice q131 n131 c131, .int .i64 y.port, .slice q133 n133 c133, .slice q134 n134 c134, .slice q135 n135 c135, .bool y.hq, .bool y.hf] XE1 := by rw [← hXE1, ← hb13]; exact UB.new XE0 _
          have hb : Below XE0.heap.size XE0 XE1 := by rw [← hXE1]; exact (Below.refl _ _).alloc (Nat.le_refl _) _
          have HXE1 := Lib.hid hXE1
          have HB13 := Lib.hid hb13
          clear hXE1 hb13
          have B_E1 := B_E0.trans (hb.mono B_E0.size)
          have I5_E1 := I5_E0.on hb
          have U5_E1 := U5_E0.on hb
          have I9_E1 := I9_E0.on hb
          have U9_E1 := U9_E0.on hb
          have I13_E1 := I13_E0.on hb
          clear I13_E0 U9_E0 I9_E0 U5_E0 I5_E0 B_E0 hb
          go_wp2_with fail
          refine pregion_any (fun X => Box b13 #[.slice q130 n130 c130, .slice q131 n131 c131, .int .i64 y.port, .slice q133 n133 c133, .slice q134 n134 c134, .slice q135 n135 c135, .bool y.hq, .bool y.hf] X ∧ Box b9 #[.slice q90 n90 c90, .slice q91 n91 c91, .int .i64 b.port, .slice q93 n93 c93, .slice q94 n94 c94, .slice q95 n95 c95, .bool b.hq, .bool b.hf] X) (by kernel_rfl) ?_
          rw [HB13.out, HXE1.out]
          have hb : Below XE1.heap.size XE1 XE1.drew := (Below.refl _ _).drew
          obtain ⟨XE1d, hXd⟩ : ∃ Z, XE1.drew = Z := ⟨_, rfl⟩
          rw [hXd] at hb ⊢
          clear hXd
          have B_E1d := B_E1.trans (hb.mono B_E1.size)
          have I5_E1d := I5_E1.on hb
          have U5_E1d := U5_E1.on hb
          have I9_E1d := I9_E1.on hb
          have U9_E1d := U9_E1.on hb
          have I13_E1d := I13_E1.on hb
          have U13_E1d := U13_E1.on hb
          clear U13_E1 I13_E1 U9_E1 I9_E1 U5_E1 I5_E1 B_E1 hb
          have hS0 := And.intro U13_E1d.box U9_E1d.box
          refine wpAnyH_take (i := 0) (v := (.int .i64 0)) rfl (by kernel_rfl) (by kernel_rfl) (by kernel_rfl) (fun _ _ _ h => h) (.inl ⟨by kernel_rfl, ?_⟩) hS0 ?_
          · rintro w ⟨h, k⟩; go_simp
          refine plist #[true, false, false, false, false, false, false, false, false, false, false, false] (by kernel_rfl) ?_
          refine wpAnyH_take (i := 1) (v := (.bool false)) rfl (by kernel_rfl) (by kernel_rfl) (by kernel_rfl) (fun _ _ _ h => h) (.inl ⟨by kernel_rfl, ?_⟩) hS0 ?_
          · rintro w ⟨h, k⟩; go_simp
          refine plist #[true, true, false, false, false, false, false, false, false, false, false, false] (by kernel_rfl) ?_
          refine wpAnyH_take (i := 2) (v := (.bool false)) rfl (by kernel_rfl) (by kernel_rfl) (by kernel_rfl) (fun _ _ _ h => h) (.inl ⟨by kernel_rfl, ?_⟩) hS0 ?_
          · rintro w ⟨h, k⟩; go_simp
          refine plist #[true, true, true, false, false, false, false, false, false, false, false, false] (by kernel_rfl) ?_
          refine wpAnyH_take (i := 3) (v := (.agg #[.slice q130 n130 c130, .slice q131 n131 c131, .int .i64 y.port, .slice q133 n133 c133, .slice q134 n134 c134, .slice q135 n135 c135, .bool y.hq, .bool y.hf])) rfl (by kernel_rfl) (by kernel_rfl) (by kernel_rfl) (fun _ _ _ h => h) (.inl ⟨by kernel_rfl, ?_⟩) hS0 ?_
          · rintro w ⟨h, k⟩; have he0 := h 0 _ rfl; have he1 := h 1 _ rfl; have he2 := h 2 _ rfl; have he3 := h 3 _ rfl; have he4 := h 4 _ rfl; have he5 := h 5 _ rfl; have he6 := h 6 _ rfl; have he7 := h 7 _ rfl; go_simp
          refine plist #[true, true, true, true, false, false, false, false, false, false, false, false] (by kernel_rfl) ?_
          refine wpAnyH_take (i := 6) (v := (.agg #[.slice q90 n90 c90, .slice q91 n91 c91, .int .i64 b.port, .slice q93 n93 c93, .slice q94 n94 c94, .slice q95 n95 c95, .bool b.hq, .bool b.hf])) rfl (by kernel_rfl) (by kernel_rfl) (by kernel_rfl) (fun _ _ _ h => h) (.inl ⟨by kernel_rfl, ?_⟩) hS0 ?_
          · rintro w ⟨h, k⟩; have ke0 := k 0 _ rfl; have ke1 := k 1 _ rfl; have ke2 := k 2 _ rfl; have ke3 := k 3 _ rfl; have ke4 := k 4 _ rfl; have ke5 := k 5 _ rfl; have ke6 := k 6 _ rfl; have ke7 := k 7 _ rfl; go_simp
          refine plist #[true, true, true, true, false, false, true, false, false, false, false, false] (by kernel_rfl) ?_
          refine pone 4 (by kernel_rfl) rfl fun K hK => ?_
          go_simp
          have con := Text_any y _ XE1d I13_E1d HOy.out (HG.out.on B_E1d) (by have := HNy.out; omega)
          rw [HR.out] at con
          refine con.mono ?_
          rintro e XE1a ⟨va, rfl, hr, hb⟩
          clear con
          obtain ⟨qa, ca, rfl, _, _, _, R_E1a, _⟩ := row_open hr
          clear hr
          have hS1 := And.intro (hS0.1.on hb) (hS0.2.on hb)
          clear hS0
          have B_E1a := B_E1d.trans (hb.mono B_E1d.size)
          have I5_E1a := I5_E1d.on hb
          have U5_E1a := U5_E1d.on hb
          have I9_E1a := I9_E1d.on hb
          have U9_E1a := U9_E1d.on hb
          have I13_E1a := I13_E1d.on hb
          have U13_E1a := U13_E1d.on hb
          clear U13_E1d I13_E1d U9_E1d I9_E1d U5_E1d I5_E1d B_E1d hb
          refine hK _ _ hS1 ?_
          clear hK K
          have hS2 := And.intro hS1 R_E1a
          clear hS1 R_E1a
          refine pmore (S' := fun X => (Box b13 #[.slice q130 n130 c130, .slice q131 n131 c131, .int .i64 y.port, .slice q133 n133 c133, .slice q134 n134 c134, .slice q135 n135 c135, .bool y.hq, .bool y.hf] X ∧ Box b9 #[.slice q90 n90 c90, .slice q91 n91 c91, .int .i64 b.port, .slice q93 n93 c93, .slice q94 n94 c94, .slice q95 n95 c95, .bool b.hq, .bool b.hf] X) ∧ Lib.BytesIn X qa R.length (Lib.numsL R)) (fun _ h => h.1) ?_
          refine plist #[true, true, true, true, true, false, true, false, false, false, false, false] (by kernel_rfl) ?_
          refine wpAnyH_take (i := 5) (v := (.string ⟨R.toArray⟩)) rfl (by kernel_rfl) (by kernel_rfl) (by kernel_rfl) (fun _ _ _ h => h) (.inl ⟨by kernel_rfl, ?_⟩) hS2 ?_
          · rintro w ⟨⟨h, k⟩, r⟩; have hcv := conv_bytes (c := ca) r rfl; go_simp
          refine plist #[true, true, true, true, true, true, true, false, false, false, false, false] (by kernel_rfl) ?_
          refine pone 7 (by kernel_rfl) rfl fun K hK => ?_
          go_simp
          refine (Bare_any b _ XE1a I9_E1a HOb.out (by have := HNb.out; omega)).mono ?_
          rintro e XE1c ⟨vc, rfl, IC_E1c, hb⟩
          rw [HY.out] at IC_E1c
          have hS3 := And.intro (And.intro (hS2.1.1.on hb) (hS2.1.2.on hb)) (bytes_on hS2.2 hb)
          clear hS2
          have B_E1c := B_E1a.trans (hb.mono B_E1a.size)
          have I5_E1c := I5_E1a.on hb
          have U5_E1c := U5_E1a.on hb
          have I9_E1c := I9_E1a.on hb
          have U9_E1c := U9_E1a.on hb
          have I13_E1c := I13_E1a.on hb
          have U13_E1c := U13_E1a.on hb
          clear U13_E1a I13_E1a U9_E1a I9_E1a U5_E1a I5_E1a B_E1a hb
          refine hK _ _ hS3 ?_
          clear hK K
          refine plist #[true, true, true, true, true, true, true, true, false, false, false, false] (by kernel_rfl) ?_
          refine pone 8 (by kernel_rfl) rfl fun K hK => ?_
          go_simp
          have con := Text_any y _ XE1c IC_E1c HOy.out (HG.out.on B_E1c) (by have := HNy.out; omega)
          rw [HR.out] at con
          have hS2 := hS3
          clear hS3
          refine con.mono ?_
          rintro e XE1b ⟨vb, rfl, hr, hb⟩
          clear con
          obtain ⟨qb, cb, rfl, _, _, _, R_E1b, _⟩ := row_open hr
          clear hr
          have hS4 := And.intro (And.intro (hS2.1.1.on hb) (hS2.1.2.on hb)) (bytes_on hS2.2 hb)
          clear hS2
          have B_E1b := B_E1c.trans (hb.mono B_E1c.size)
          have I5_E1b := I5_E1c.on hb
          have U5_E1b := U5_E1c.on hb
          have I9_E1b := I9_E1c.on hb
          have U9_E1b := U9_E1c.on hb
          have I13_E1b := I13_E1c.on hb
          have U13_E1b := U13_E1c.on hb
          have IC_E1b := IC_E1c.on hb
          clear IC_E1c U13_E1c I13_E1c U9_E1c I9_E1c U5_E1c I5_E1c B_E1c hb
          clear IC_E1b
          refine hK _ _ hS4 ?_
          clear hK K
          have hS5 := And.intro hS4 R_E1b
          clear hS4 R_E1b
          refine pmore (S' := fun X => ((Box b13 #[.slice q130 n130 c130, .slice q131 n131 c131, .int .i64 y.port, .slice q133 n133 c133, .slice q134 n134 c134, .slice q135 n135 c135, .bool y.hq, .bool y.hf] X ∧ Box b9 #[.slice q90 n90 c90, .slice q91 n91 c91, .int .i64 b.port, .slice q93 n93 c93, .slice q94 n94 c94, .slice q95 n95 c95, .bool b.hq, .bool b.hf] X) ∧ Lib.BytesIn X qa R.length (Lib.numsL R)) ∧ Lib.BytesIn X qb R.length (Lib.numsL R)) (fun _ h => h.1) ?_
          refine plist #[true, true, true, true, true, true, true, true, true, false, false, false] (by kernel_rfl) ?_
          refine wpAnyH_take (i := 9) (v := (.string ⟨R.toArray⟩)) rfl (by kernel_rfl) (by kernel_rfl) (by kernel_rfl) (fun _ _ _ h => h) (.inl ⟨by kernel_rfl, ?_⟩) hS5 ?_
          · rintro w ⟨⟨⟨h, k⟩, r⟩, r2⟩; have hcv := conv_bytes (c := cb) r2 rfl; go_simp
          refine plist #[true, true, true, true, true, true, true, true, true, true, false, false] (by kernel_rfl) ?_
          refine pone 10 (by kernel_rfl) rfl fun K hK => ?_
          go_simp
          refine hK _ _ hS5 ?_
          clear hK K
          refine plist #[true, true, true, true, true, true, true, true, true, true, true, false] (by kernel_rfl) ?_
          refine pone 11 (by kernel_rfl) rfl fun K hK => ?_
          go_simp
          refine hK _ _ hS5 ?_
          clear hK K
          refine pdone (by kernel_rfl) ?_ _
          clear hS5
          clear U13_E1b I13_E1b U9_E1b I9_E1b
          have con := Bare_any u _ XE1b I5_E1b HOu.out (by have := HNu.out; omega)
          have yc0 := U5_E1b.box 0 _ rfl
          have yc1 := U5_E1b.box 1 _ rfl
          have yc2 := U5_E1b.box 2 _ rfl
          have yc3 := U5_E1b.box 3 _ rfl
          have yc4 := U5_E1b.box 4 _ rfl
          have yc5 := U5_E1b.box 5 _ rfl
          have yc6 := U5_E1b.box 6 _ rfl
          have yc7 := U5_E1b.box 7 _ rfl
          go_wp2_with fail
          refine con.mono ?_
          rintro e XE ⟨vE, rfl, IE_E, hb⟩
          clear con yc0 yc1 yc2 yc3 yc4 yc5 yc6 yc7
          have B_E := B_E1b.trans (hb.mono B_E1b.size)
          have I5_E := I5_E1b.on hb
          have U5_E := U5_E1b.on hb
          clear U5_E1b I5_E1b B_E1b hb
          obtain ⟨pe0, me0, de0, pe1, me1, de1, pe3, me3, de3, pe4, me4, de4, pe5, me5, de5, rfl, -, -, tE3, -, tE5⟩ := IE_E
          have hE5 := tE5.at.1
          obtain rfl : me5 = 0 := by rw [← hE5]; rfl
          obtain ⟨pl, hpl, hp1, hp2⟩ := path_first u HOu.out
          have hU5 := U5_E.box
          have i53 : By XE (.slice q53 n53 c53) u.path := by
            obtain ⟨_, _, _, _, _, _, _, _, _, _, _, _, _, _, _, he, _, _, hh, _, _⟩ := id I5_E
            simp only [Value.agg.injEq, Array.mk.injEq, List.cons.injEq, Value.slice.injEq] at he
            obtain ⟨_, _, _, ⟨rfl, rfl, rfl⟩, _⟩ := he
            exact hh
          have hu5p := HOu.out.port1
          have hu5q := HOu.out.port2
          have e1 : decide ((1 : Int) ≤ (u.port : Int)) = true := by simp; omega
          have e2 : decide ((u.port : Int) ≤ (65535 : Int)) = true := by simp; omega
          have hbo := fun o => (Below.refl XE.heap.size XE).alloc (Nat.le_refl _) o
          have cvE : ∀ o, (convert 22 9 (.slice pe3 me3 de3)).run Tryd.prog (XE.alloc o) = .ok (.string ⟨u.path.toArray⟩) (XE.alloc o) := fun o => conv_bytes (tE3.on (hbo o)).at.2.2.2.2 (tE3.on (hbo o)).at.1
          have cvU : ∀ o, (convert 22 9 (.slice q53 n53 c53)).run Tryd.prog (XE.alloc o) = .ok (.string ⟨u.path.toArray⟩) (XE.alloc o) := fun o => conv_bytes (i53.on (hbo o)).at.2.2.2.2 (i53.on (hbo o)).at.1
          have hn53 := i53.at.1
          have hpos : 0 < n53 := by rw [← hn53, hpl]; simp
          obtain ⟨pb, po, rfl, hpc⟩ := i53.at.2.2.2.2.at hpos
          have pc0 : ∀ o, (XE.alloc o).cell? ⟨pb, po, none⟩ = some (.int .u8 47) := fun o => cell_on (by have h0 := hpc 0 hpos; rw [numsL_getD _ _ (by omega), hpl] at h0; exact h0) ((Below.refl _ _).alloc (Nat.le_refl _) _)
          have zc3 := fun o => cell_on (hU5 3 _ rfl) ((Below.refl XE.heap.size XE).alloc (Nat.le_refl _) o)
          have zc2 := fun o => cell_on (hU5 2 _ rfl) ((Below.refl XE.heap.size XE).alloc (Nat.le_refl _) o)
          have d53 : decide (0 < n53) = true := by simp; omega
          clear hpc hn53 hbo i53 tE3 tE5 hE5 hU5 hpl hu5p hu5q I5_E U5_E
          go_wp2
          go_ret
          exact ⟨rfl, B_E.alloc B_E.size _⟩

/-- The law: its tied card. -/
theorem proved : Rows.UrlBackCardSaid := card walk

end Go.Proofs.YtdgejnnapfbaeaaDoor.urlBack
