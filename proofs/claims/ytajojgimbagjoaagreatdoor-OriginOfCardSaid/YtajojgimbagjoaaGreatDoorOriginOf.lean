/- OriginOf: the law returns true at whatever input, and writes nothing that was there: its tied card. Conditions: none. -/
import Derived.Test.YtajojgimbagjoaaGreatDoorBaseD
namespace Go.Proofs.YtajojgimbagjoaaGreatDoor.originOf
open Go.RowKit Go.Shelf Url Org
attribute [local go_sem] Oper.semAt_some
set_option linter.unusedVariables false

theorem row_by {w : World} {a : Option Addr} {len cap : Nat} {zs : List Int} (h : IsRow .u8 w a len cap zs) : ∃ bs : List UInt8, By w (.slice a len cap) bs := by
  rcases h with ⟨rfl, rfl, rfl, rfl⟩ | ⟨x, rfl, h1, h2, h3, h4, h5⟩
  · exact ⟨[], by_nil w⟩
  · have hz : ∀ i, i < len → (Lib.numsL (Lib.bytesOf (zs.take len))).getD i 0 = zs.getD i 0 := fun i hi => by
      have hi' : i < zs.length := by omega
      have hw := bounds_u8 (h5 _ (List.getElem_mem hi'))
      have : (Lib.bytesOf (zs.take len)).getD i 0 = UInt8.ofNat (zs[i]).toNat := by
        simp [Lib.bytesOf, List.getD, hi, List.getElem?_eq_getElem hi']
      rw [numsL_getD _ _ (by simp [Lib.bytesOf]; omega), this, List.getD, List.getElem?_eq_getElem hi']
      simp only [Option.getD_some, UInt8.toNat_ofNat']
      omega
    refine ⟨Lib.bytesOf (zs.take len), By.of (by simp [Lib.bytesOf]; omega) h1 h2 (fun h => by cases h) (Lib.BytesIn.of_cells fun i hi => ?_)⟩
    rw [hz i hi]
    exact h4 i (by omega)

theorem RU_box {B : Nat} {cs : Array Value} {X : World} (h : Ref.RU B cs X) : Box B cs X := h.box
set_option maxRecDepth 100000 in
set_option maxHeartbeats 8000000 in
theorem same_any (a b : ByteArray) (p : Int) (w : World) :
    Calls Tryz.prog 8 #[.agg #[.string a, .string b, .int .i64 p, .int .i64 0], .agg #[.string a, .string b, .int .i64 p, .int .i64 0]] w fun e w' => e = .returned (.bool true) ∧ Below w.heap.size w w' := by
  go_enter Tryz.func8, Tryz.ntmps8
  go_wp2
  go_ret
  exact ⟨rfl, ((Below.refl _ w).alloc (Nat.le_refl _) _).alloc (by rw [World.size_alloc]; omega) _⟩

set_option maxRecDepth 100000 in
set_option maxHeartbeats 16000000 in
theorem walk : Walks := by
  intro a0 len0 cap0 z0 w w0 hG
  obtain ⟨bs, hb0⟩ := row_by w0
  clear w0
  by_cases hbig : 400 < len0
  · have d1 : decide ((400 : Int) < (len0 : Int)) = true := by simp; omega
    clear hb0
    have con := lives_any w hG
    go_enter Tryz.func3, Tryz.ntmps3
    go_wp2_with fail
    refine con.mono ?_
    rintro e w2 ⟨rfl, hb2⟩
    clear con
    have con := lives_any w2 (hG.on hb2)
    go_wp2_with fail
    refine con.mono ?_
    rintro e w3 ⟨rfl, hb3⟩
    go_wp2
    go_ret
    exact ⟨rfl, hb2.trans (hb3.mono hb2.size)⟩
  have d1 : decide ((400 : Int) < (len0 : Int)) = false := by simp; omega
  have hl0 := hb0.at.1
  have HG := Lib.hid hG
  have con := lives_any w hG
  have hpc := parse_canon bs (by omega)
  have con2 := fun X (hX : By X (.slice a0 len0 cap0) bs) (h : Gl X) => Parse_of canonOk a0 len0 cap0 bs X hX (by omega) h (fun u hu => by have := (url_facts bs u (hpc.trans hu) (by omega)).2.1; omega)
  cases hc : canonU bs with
  | inl m =>
    rw [hc] at con2
    have HC := Lib.hid con2
    clear hc hpc hl0 con2 hG
    go_enter Tryz.func3, Tryz.ntmps3
    go_wp2_with fail
    refine con.mono ?_
    rintro e X1 ⟨rfl, B_1⟩
    clear con
    have con := HC.out X1 (hb0.on B_1) (HG.out.on B_1)
    clear hb0 HC
    go_wp2_with fail
    refine con.mono ?_
    rintro e X2 ⟨hm, rfl, hb⟩
    have B_2 := B_1.trans (hb.mono B_1.size)
    have e5 : ((m : Int) != 0) = true := by rw [bne_iff_ne]; exact hm
    have B_3 := B_2.alloc B_2.size (.cells zeroU 25)
    unfold zeroU at B_3 ⊢
    clear con hm hb B_1 B_2
    go_wp2
    go_ret
    exact ⟨rfl, B_3⟩
  | inr u =>
  rw [hc] at con2
  obtain ⟨hok, hlt, hlp⟩ := url_facts bs u (hpc.trans hc) (by omega)
  have hpu : parseU (⟨bs.toArray⟩ : ByteArray).data.toList = .inr u := hpc.trans hc
  have hpl : placeU u = u.scheme ++ [58, 47, 47] ++ u.host ++ portT u := rfl
  have hpl2 := congrArg List.length hpl
  simp only [List.length_append] at hpl2
  have hpb : (placeU u).length ≤ 1218 := hlp
  have HP := Lib.hid (fun W => Ref.Place_any u W (by omega) (by omega) hok.port2)
  have HR := Lib.hid (fun W => Ref.refParse_any ⟨bs.toArray⟩ W u hpu)
  have HT := Lib.hid (fun W (h : Gl W) => Text_server u hok W h)
  have HU := Lib.hid (fun W (h : Gl W) => URL_server u hok W h (by omega))
  have hrl := root_len u hok
  have HX := Lib.hid (fun v W (h : UrlIn W v (rootU u)) (hG : Gl W) => Text_any (rootU u) v W h (root_ok u hok) hG (by omega))
  have HRT := Lib.hid (root_text u)
  have HC := Lib.hid con2
  clear hc hpc con2 hG hok hlt hlp hpu hpl hpl2 hrl
  go_enter Tryz.func3, Tryz.ntmps3
  go_wp2_with fail
  refine con.mono ?_
  rintro e X1 ⟨rfl, B_1⟩
  have T_1 := hb0.on B_1
  clear con hb0
  have con := HC.out X1 T_1 (HG.out.on B_1)
  clear HC
  go_wp2_with fail
  refine con.mono ?_
  rintro e X2 ⟨v, rfl, I_2, hb⟩
  obtain ⟨q0, n0, c0, q1, n1, c1, q3, n3, c3, q4, n4, c4, q5, n5, c5, rfl, _⟩ := id I_2
  have B_2 := B_1.trans (hb.mono B_1.size)
  have T_2 := T_1.on hb
  clear con hb B_1 T_1
  obtain ⟨X3, hX3⟩ : ∃ Z, X2.alloc (.cells #[.slice q0 n0 c0, .slice q1 n1 c1, .int .i64 u.port, .slice q3 n3 c3, .slice q4 n4 c4, .slice q5 n5 c5, .bool u.hq, .bool u.hf] 25) = Z := ⟨_, rfl⟩
  obtain ⟨b3, hb3⟩ : ∃ b, X2.heap.size = b := ⟨_, rfl⟩
  have U_3 : UB b3 #[.slice q0 n0 c0, .slice q1 n1 c1, .int .i64 u.port, .slice q3 n3 c3, .slice q4 n4 c4, .slice q5 n5 c5, .bool u.hq, .bool u.hf] X3 := by rw [← hX3, ← hb3]; exact UB.new X2 _
  have hb : Below X2.heap.size X2 X3 := by rw [← hX3]; exact (Below.refl _ _).alloc (Nat.le_refl _) _
  have HX3 := Lib.hid hX3
  have Hb3 := Lib.hid hb3
  clear hX3 hb3
  have B_3 := B_2.trans (hb.mono B_2.size)
  have I_3 := I_2.on hb
  have T_3 := T_2.on hb
  clear hb B_2 I_2 T_2
  have k0 := conv_bytes (c := cap0) T_3.at.2.2.2.2 hl0
  have con := HR.out X3
  unfold Ref.refV at con
  clear HR T_3 hl0
  go_wp2_with fail
  rw [Hb3.out, HX3.out]
  go_wp2_with fail
  (try rw [k0])
  go_wp2_with fail
  refine con.mono ?_
  rintro e X4 ⟨rfl, hb⟩
  clear con k0 HX3 Hb3
  have B_4 := B_3.trans (hb.mono B_3.size)
  have I_4 := I_3.on hb
  have U_4 := U_3.on hb
  clear hb B_3 I_3 U_3
  obtain ⟨X5, hX5⟩ : ∃ Z, X4.alloc (.cells #[.string ⟨u.scheme.toArray⟩, .string ⟨u.host.toArray⟩, .int .i64 u.port, .string ⟨u.path.toArray⟩, .string ⟨u.query.toArray⟩, .string ⟨u.frag.toArray⟩, .bool u.hq, .bool u.hf] 30) = Z := ⟨_, rfl⟩
  obtain ⟨b5, hb5⟩ : ∃ b, X4.heap.size = b := ⟨_, rfl⟩
  have R_5 : Ref.RU b5 #[.string ⟨u.scheme.toArray⟩, .string ⟨u.host.toArray⟩, .int .i64 u.port, .string ⟨u.path.toArray⟩, .string ⟨u.query.toArray⟩, .string ⟨u.frag.toArray⟩, .bool u.hq, .bool u.hf] X5 := by rw [← hX5, ← hb5]; exact Ref.RU.new X4 _
  have hb : Below X4.heap.size X4 X5 := by rw [← hX5]; exact (Below.refl _ _).alloc (Nat.le_refl _) _
  have HX5 := Lib.hid hX5
  have Hb5 := Lib.hid hb5
  clear hX5 hb5
  have B_5 := B_4.trans (hb.mono B_4.size)
  have I_5 := I_4.on hb
  have U_5 := U_4.on hb
  clear hb B_4 I_4 U_4
  have con := Of_any u _ X5 I_5
  unfold orgV at con
  have x0 := U_5.box 0 _ rfl
  have x1 := U_5.box 1 _ rfl
  have x2 := U_5.box 2 _ rfl
  have x3 := U_5.box 3 _ rfl
  have x4 := U_5.box 4 _ rfl
  have x5 := U_5.box 5 _ rfl
  have x6 := U_5.box 6 _ rfl
  have x7 := U_5.box 7 _ rfl
  go_upto_region 7 with fail
  rw [Hb5.out, HX5.out]
  go_wp2_with fail
  refine con.mono ?_
  rintro e X6 ⟨rfl, hb⟩
  clear con HX5 Hb5 x0 x1 x2 x3 x4 x5 x6 x7 I_5 U_5
  have B_6 := B_5.trans (hb.mono B_5.size)
  have R_6 := R_5.on hb
  clear hb B_5 R_5
  obtain ⟨X7, hX7⟩ : ∃ Z, X6.alloc (.cells #[.string ⟨u.scheme.toArray⟩, .string ⟨u.host.toArray⟩, .int .i64 u.port, .int .i64 0] 34) = Z := ⟨_, rfl⟩
  obtain ⟨b7, hb7⟩ : ∃ b, X6.heap.size = b := ⟨_, rfl⟩
  have O_7 : OB b7 #[.string ⟨u.scheme.toArray⟩, .string ⟨u.host.toArray⟩, .int .i64 u.port, .int .i64 0] X7 := by rw [← hX7, ← hb7]; exact OB.new X6 _
  have hb : Below X6.heap.size X6 X7 := by rw [← hX7]; exact (Below.refl _ _).alloc (Nat.le_refl _) _
  have HX7 := Lib.hid hX7
  have Hb7 := Lib.hid hb7
  clear hX7 hb7
  have B_7 := B_6.trans (hb.mono B_6.size)
  have R_7 := R_6.on hb
  clear hb B_6 R_6
  go_wp2_with fail
  rw [Hb7.out, HX7.out]
  refine pregion_any (fun X => Box b5 #[.string ⟨u.scheme.toArray⟩, .string ⟨u.host.toArray⟩, .int .i64 u.port, .string ⟨u.path.toArray⟩, .string ⟨u.query.toArray⟩, .string ⟨u.frag.toArray⟩, .bool u.hq, .bool u.hf] X ∧ Box b7 #[.string ⟨u.scheme.toArray⟩, .string ⟨u.host.toArray⟩, .int .i64 u.port, .int .i64 0] X) (by kernel_rfl) ?_
  have hb : Below X7.heap.size X7 X7.drew := (Below.refl _ _).drew
  have B_8 := B_7.trans (hb.mono B_7.size)
  have R_8 := R_7.on hb
  have O_8 := O_7.on hb
  clear hb B_7 R_7 O_7 HX7 Hb7
  generalize X7.drew = X8 at *
  have hS0 := And.intro (RU_box R_8) O_8.box
  refine wpAnyH_take (i := 0) (v := (.agg #[.string ⟨u.scheme.toArray⟩, .string ⟨u.host.toArray⟩, .int .i64 u.port, .int .i64 0])) rfl (by kernel_rfl) (by kernel_rfl) (by kernel_rfl) (fun _ _ _ h => h) (.inl ⟨by kernel_rfl, ?_⟩) hS0 ?_
  · rintro w ⟨h, k⟩; have k0 := k 0 _ rfl; have k1 := k 1 _ rfl; have k2 := k 2 _ rfl; have k3 := k 3 _ rfl; go_simp <;> omega
  refine plist #[true, false, false, false, false, false, false, false, false, false, false, false, false, false, false, false, false] (by kernel_rfl) ?_
  refine wpAnyH_take (i := 1) (v := (.pointer (some ⟨b5, 0, none⟩))) rfl (by kernel_rfl) (by kernel_rfl) (by kernel_rfl) (fun _ _ _ h => h) (.inl ⟨by kernel_rfl, ?_⟩) hS0 ?_
  · rintro w ⟨h, k⟩; go_simp <;> omega
  refine plist #[true, true, false, false, false, false, false, false, false, false, false, false, false, false, false, false, false] (by kernel_rfl) ?_
  refine wpAnyH_take (i := 2) (v := (.string ⟨u.scheme.toArray⟩)) rfl (by kernel_rfl) (by kernel_rfl) (by kernel_rfl) (fun _ _ _ h => h) (.inl ⟨by kernel_rfl, ?_⟩) hS0 ?_
  · rintro w ⟨h, k⟩; have h0 := h 0 _ rfl; go_simp <;> omega
  refine plist #[true, true, true, false, false, false, false, false, false, false, false, false, false, false, false, false, false] (by kernel_rfl) ?_
  refine wpAnyH_take (i := 3) (v := (.pointer (some ⟨b5, 1, none⟩))) rfl (by kernel_rfl) (by kernel_rfl) (by kernel_rfl) (fun _ _ _ h => h) (.inl ⟨by kernel_rfl, ?_⟩) hS0 ?_
  · rintro w ⟨h, k⟩; go_simp <;> omega
  refine plist #[true, true, true, true, false, false, false, false, false, false, false, false, false, false, false, false, false] (by kernel_rfl) ?_
  refine wpAnyH_take (i := 4) (v := (.string ⟨u.host.toArray⟩)) rfl (by kernel_rfl) (by kernel_rfl) (by kernel_rfl) (fun _ _ _ h => h) (.inl ⟨by kernel_rfl, ?_⟩) hS0 ?_
  · rintro w ⟨h, k⟩; have h0 := h 1 _ rfl; go_simp <;> omega
  refine plist #[true, true, true, true, true, false, false, false, false, false, false, false, false, false, false, false, false] (by kernel_rfl) ?_
  refine wpAnyH_take (i := 5) (v := (.pointer (some ⟨b5, 2, none⟩))) rfl (by kernel_rfl) (by kernel_rfl) (by kernel_rfl) (fun _ _ _ h => h) (.inl ⟨by kernel_rfl, ?_⟩) hS0 ?_
  · rintro w ⟨h, k⟩; go_simp <;> omega
  refine plist #[true, true, true, true, true, true, false, false, false, false, false, false, false, false, false, false, false] (by kernel_rfl) ?_
  refine wpAnyH_take (i := 6) (v := (.int .i64 u.port)) rfl (by kernel_rfl) (by kernel_rfl) (by kernel_rfl) (fun _ _ _ h => h) (.inl ⟨by kernel_rfl, ?_⟩) hS0 ?_
  · rintro w ⟨h, k⟩; have h0 := h 2 _ rfl; go_simp <;> omega
  refine plist #[true, true, true, true, true, true, true, false, false, false, false, false, false, false, false, false, false] (by kernel_rfl) ?_
  refine wpAnyH_take (i := 7) (v := (.agg #[.string ⟨u.scheme.toArray⟩, .string ⟨u.host.toArray⟩, .int .i64 u.port, .int .i64 0])) rfl (by kernel_rfl) (by kernel_rfl) (by kernel_rfl) (fun _ _ _ h => h) (.inl ⟨by kernel_rfl, ?_⟩) hS0 ?_
  · rintro w ⟨h, k⟩; go_simp <;> omega
  refine plist #[true, true, true, true, true, true, true, true, false, false, false, false, false, false, false, false, false] (by kernel_rfl) ?_
  have con := same_any ⟨u.scheme.toArray⟩ ⟨u.host.toArray⟩ u.port X8
  refine pone 8 (by kernel_rfl) rfl fun K hK => ?_
  go_simp
  refine con.mono ?_
  rintro e X9 ⟨rfl, hb⟩
  have B_9 := B_8.trans (hb.mono B_8.size)
  have R_9 := R_8.on hb
  have O_9 := O_8.on hb
  clear con hb B_8 R_8 O_8 hS0
  have hS0 := And.intro (RU_box R_9) O_9.box
  refine hK _ _ hS0 ?_
  clear hK K
  refine plist #[true, true, true, true, true, true, true, true, true, false, false, false, false, false, false, false, false] (by kernel_rfl) ?_
  refine wpAnyH_take (i := 9) (v := (.bool false)) rfl (by kernel_rfl) (by kernel_rfl) (by kernel_rfl) (fun _ _ _ h => h) (.inl ⟨by kernel_rfl, ?_⟩) hS0 ?_
  · rintro w ⟨h, k⟩; go_simp <;> omega
  refine plist #[true, true, true, true, true, true, true, true, true, true, false, false, false, false, false, false, false] (by kernel_rfl) ?_
  refine wpAnyH_take (i := 10) (v := (.bool false)) rfl (by kernel_rfl) (by kernel_rfl) (by kernel_rfl) (fun _ _ _ h => h) (.inl ⟨by kernel_rfl, ?_⟩) hS0 ?_
  · rintro w ⟨h, k⟩; go_simp <;> omega
  refine plist #[true, true, true, true, true, true, true, true, true, true, true, false, false, false, false, false, false] (by kernel_rfl) ?_
  refine wpAnyH_take (i := 11) (v := (.agg #[.string ⟨u.scheme.toArray⟩, .string ⟨u.host.toArray⟩, .int .i64 u.port, .int .i64 0])) rfl (by kernel_rfl) (by kernel_rfl) (by kernel_rfl) (fun _ _ _ h => h) (.inl ⟨by kernel_rfl, ?_⟩) hS0 ?_
  · rintro w ⟨h, k⟩; have k0 := k 0 _ rfl; have k1 := k 1 _ rfl; have k2 := k 2 _ rfl; have k3 := k 3 _ rfl; go_simp <;> omega
  refine plist #[true, true, true, true, true, true, true, true, true, true, true, true, false, false, false, false, false] (by kernel_rfl) ?_
  refine wpAnyH_take (i := 13) (v := (.agg #[.string ⟨u.scheme.toArray⟩, .string ⟨u.host.toArray⟩, .int .i64 u.port, .string ⟨u.path.toArray⟩, .string ⟨u.query.toArray⟩, .string ⟨u.frag.toArray⟩, .bool u.hq, .bool u.hf])) rfl (by kernel_rfl) (by kernel_rfl) (by kernel_rfl) (fun _ _ _ h => h) (.inl ⟨by kernel_rfl, ?_⟩) hS0 ?_
  · rintro w ⟨h, k⟩; have h0 := h 0 _ rfl; have h1 := h 1 _ rfl; have h2 := h 2 _ rfl; have h3 := h 3 _ rfl; have h4 := h 4 _ rfl; have h5 := h 5 _ rfl; have h6 := h 6 _ rfl; have h7 := h 7 _ rfl; go_simp <;> omega
  refine plist #[true, true, true, true, true, true, true, true, true, true, true, true, false, true, false, false, false] (by kernel_rfl) ?_
  have con := HT.out X9 (HG.out.on B_9)
  unfold orgV at con
  refine pone 12 (by kernel_rfl) rfl fun K hK => ?_
  go_simp
  refine con.mono ?_
  rintro e XA ⟨rfl, hb⟩
  have B_A := B_9.trans (hb.mono B_9.size)
  have R_A := R_9.on hb
  have O_A := O_9.on hb
  clear con hb B_9 R_9 O_9 hS0
  have hS0 := And.intro (RU_box R_A) O_A.box
  refine hK _ _ hS0 ?_
  clear hK K
  refine plist #[true, true, true, true, true, true, true, true, true, true, true, true, true, true, false, false, false] (by kernel_rfl) ?_
  have con := HP.out XA
  unfold Ref.refV at con
  refine pone 14 (by kernel_rfl) rfl fun K hK => ?_
  go_simp
  refine con.mono ?_
  rintro e XB ⟨rfl, hb⟩
  have B_B := B_A.trans (hb.mono B_A.size)
  have R_B := R_A.on hb
  have O_B := O_A.on hb
  clear con hb B_A R_A O_A hS0
  have hS0 := And.intro (RU_box R_B) O_B.box
  refine hK _ _ hS0 ?_
  clear hK K
  refine plist #[true, true, true, true, true, true, true, true, true, true, true, true, true, true, true, false, false] (by kernel_rfl) ?_
  refine pone 15 (by kernel_rfl) rfl fun K hK => ?_
  go_simp
  refine hK _ _ hS0 ?_
  clear hK K
  refine plist #[true, true, true, true, true, true, true, true, true, true, true, true, true, true, true, true, false] (by kernel_rfl) ?_
  refine pone 16 (by kernel_rfl) rfl fun K hK => ?_
  go_simp
  refine hK _ _ hS0 ?_
  clear hK K
  refine pdone (by kernel_rfl) ?_ _
  clear hS0
  have con := HU.out XB (HG.out.on B_B)
  unfold orgV at con
  have k0 := O_B.box 0 _ rfl
  have k1 := O_B.box 1 _ rfl
  have k2 := O_B.box 2 _ rfl
  have k3 := O_B.box 3 _ rfl
  go_wp2_with fail
  refine con.mono ?_
  rintro e XC ⟨v, rfl, I_C, hb⟩
  obtain ⟨r0, m0, d0, r1, m1, d1, r3, m3, d3, r4, m4, d4, r5, m5, d5, rfl, _⟩ := id I_C
  have B_C := B_B.trans (hb.mono B_B.size)
  have R_C := R_B.on hb
  have O_C := O_B.on hb
  clear con hb B_B R_B O_B k0 k1 k2 k3
  obtain ⟨XD, hXD⟩ : ∃ Z, XC.alloc (.cells #[.slice r0 m0 d0, .slice r1 m1 d1, .int .i64 (rootU u).port, .slice r3 m3 d3, .slice r4 m4 d4, .slice r5 m5 d5, .bool (rootU u).hq, .bool (rootU u).hf] 25) = Z := ⟨_, rfl⟩
  obtain ⟨b13, hb13⟩ : ∃ b, XC.heap.size = b := ⟨_, rfl⟩
  have V_D : UB b13 #[.slice r0 m0 d0, .slice r1 m1 d1, .int .i64 (rootU u).port, .slice r3 m3 d3, .slice r4 m4 d4, .slice r5 m5 d5, .bool (rootU u).hq, .bool (rootU u).hf] XD := by rw [← hXD, ← hb13]; exact UB.new XC _
  have hb : Below XC.heap.size XC XD := by rw [← hXD]; exact (Below.refl _ _).alloc (Nat.le_refl _) _
  have HXD := Lib.hid hXD
  have Hb13 := Lib.hid hb13
  clear hXD hb13
  have B_D := B_C.trans (hb.mono B_C.size)
  have I_D := I_C.on hb
  have R_D := R_C.on hb
  have O_D := O_C.on hb
  clear hb B_C I_C R_C O_C
  go_wp2_with fail
  rw [Hb13.out, HXD.out]
  refine pregion_any (fun X => Box b5 #[.string ⟨u.scheme.toArray⟩, .string ⟨u.host.toArray⟩, .int .i64 u.port, .string ⟨u.path.toArray⟩, .string ⟨u.query.toArray⟩, .string ⟨u.frag.toArray⟩, .bool u.hq, .bool u.hf] X ∧ Box b7 #[.string ⟨u.scheme.toArray⟩, .string ⟨u.host.toArray⟩, .int .i64 u.port, .int .i64 0] X ∧ Box b13 #[.slice r0 m0 d0, .slice r1 m1 d1, .int .i64 (rootU u).port, .slice r3 m3 d3, .slice r4 m4 d4, .slice r5 m5 d5, .bool (rootU u).hq, .bool (rootU u).hf] X) (by kernel_rfl) ?_
  have hb : Below XD.heap.size XD XD.drew := (Below.refl _ _).drew
  have B_E := B_D.trans (hb.mono B_D.size)
  have I_E := I_D.on hb
  have R_E := R_D.on hb
  have O_E := O_D.on hb
  have V_E := V_D.on hb
  clear hb B_D I_D R_D O_D V_D HXD Hb13
  generalize XD.drew = XE at *
  have hS0 := And.intro (RU_box R_E) (And.intro O_E.box V_E.box)
  refine wpAnyH_take (i := 0) (v := (.bool true)) rfl (by kernel_rfl) (by kernel_rfl) (by kernel_rfl) (fun _ _ _ h => h) (.inl ⟨by kernel_rfl, ?_⟩) hS0 ?_
  · rintro w ⟨h, k, g⟩; go_simp <;> omega
  refine plist #[true, false, false, false, false, false, false, false, false, false, false, false, false, false, false, false, false] (by kernel_rfl) ?_
  refine wpAnyH_take (i := 1) (v := (.bool true)) rfl (by kernel_rfl) (by kernel_rfl) (by kernel_rfl) (fun _ _ _ h => h) (.inl ⟨by kernel_rfl, ?_⟩) hS0 ?_
  · rintro w ⟨h, k, g⟩; go_simp <;> omega
  refine plist #[true, true, false, false, false, false, false, false, false, false, false, false, false, false, false, false, false] (by kernel_rfl) ?_
  refine wpAnyH_take (i := 2) (v := (.agg #[.slice r0 m0 d0, .slice r1 m1 d1, .int .i64 (rootU u).port, .slice r3 m3 d3, .slice r4 m4 d4, .slice r5 m5 d5, .bool (rootU u).hq, .bool (rootU u).hf])) rfl (by kernel_rfl) (by kernel_rfl) (by kernel_rfl) (fun _ _ _ h => h) (.inl ⟨by kernel_rfl, ?_⟩) hS0 ?_
  · rintro w ⟨h, k, g⟩; have h0 := g 0 _ rfl; have h1 := g 1 _ rfl; have h2 := g 2 _ rfl; have h3 := g 3 _ rfl; have h4 := g 4 _ rfl; have h5 := g 5 _ rfl; have h6 := g 6 _ rfl; have h7 := g 7 _ rfl; go_simp <;> omega
  refine plist #[true, true, true, false, false, false, false, false, false, false, false, false, false, false, false, false, false] (by kernel_rfl) ?_
  refine wpAnyH_take (i := 5) (v := (.agg #[.string ⟨u.scheme.toArray⟩, .string ⟨u.host.toArray⟩, .int .i64 u.port, .string ⟨u.path.toArray⟩, .string ⟨u.query.toArray⟩, .string ⟨u.frag.toArray⟩, .bool u.hq, .bool u.hf])) rfl (by kernel_rfl) (by kernel_rfl) (by kernel_rfl) (fun _ _ _ h => h) (.inl ⟨by kernel_rfl, ?_⟩) hS0 ?_
  · rintro w ⟨h, k, g⟩; have h0 := h 0 _ rfl; have h1 := h 1 _ rfl; have h2 := h 2 _ rfl; have h3 := h 3 _ rfl; have h4 := h 4 _ rfl; have h5 := h 5 _ rfl; have h6 := h 6 _ rfl; have h7 := h 7 _ rfl; go_simp <;> omega
  refine plist #[true, true, true, false, false, true, false, false, false, false, false, false, false, false, false, false, false] (by kernel_rfl) ?_
  have con := HX.out _ XE I_E (HG.out.on B_E)
  refine pone 3 (by kernel_rfl) rfl fun K hK => ?_
  go_simp
  refine con.mono ?_
  rintro e XF ⟨tv, rfl, hrow, hb⟩
  obtain ⟨qt, ct, rfl, _, _, _, hbi, _⟩ := row_open hrow
  have B_F := B_E.trans (hb.mono B_E.size)
  have I_F := I_E.on hb
  have R_F := R_E.on hb
  have O_F := O_E.on hb
  have V_F := V_E.on hb
  clear con hb B_E I_E R_E O_E V_E hS0 hrow
  have hS0 := And.intro (RU_box R_F) (And.intro O_F.box V_F.box)
  refine hK _ _ hS0 ?_
  clear hK K
  refine plist #[true, true, true, true, false, true, false, false, false, false, false, false, false, false, false, false, false] (by kernel_rfl) ?_
  obtain ⟨nt, hnt⟩ : ∃ n, (textU (rootU u)).length = n := ⟨_, rfl⟩
  obtain ⟨TT, hTT⟩ : ∃ T, textU (rootU u) = T := ⟨_, rfl⟩
  rw [hnt]
  have hn2 : TT.length = nt := by rw [← hTT]; exact hnt
  rw [hnt, hTT] at hbi
  refine pmore (S' := fun X => (Box b5 #[.string ⟨u.scheme.toArray⟩, .string ⟨u.host.toArray⟩, .int .i64 u.port, .string ⟨u.path.toArray⟩, .string ⟨u.query.toArray⟩, .string ⟨u.frag.toArray⟩, .bool u.hq, .bool u.hf] X ∧ Box b7 #[.string ⟨u.scheme.toArray⟩, .string ⟨u.host.toArray⟩, .int .i64 u.port, .int .i64 0] X ∧ Box b13 #[.slice r0 m0 d0, .slice r1 m1 d1, .int .i64 (rootU u).port, .slice r3 m3 d3, .slice r4 m4 d4, .slice r5 m5 d5, .bool (rootU u).hq, .bool (rootU u).hf] X) ∧ Lib.BytesIn X qt nt (Lib.numsL TT)) (fun _ h => h.1) ?_
  have hS1 := And.intro hS0 hbi
  have HCV := Lib.hid (fun X (h : Lib.BytesIn X qt nt (Lib.numsL TT)) => conv_bytes (c := ct) h hn2)
  have hst : (⟨TT.toArray⟩ : ByteArray) = ⟨(placeU u).toArray⟩ ++ ⟨#[47]⟩ := by rw [← hTT, HRT.out]; exact (str_app (placeU u) [47]).symm
  rw [hst] at HCV
  clear hS0 hbi hst hnt hTT hn2 HRT
  refine wpAnyH_take (i := 4) (v := (.string (⟨(placeU u).toArray⟩ ++ ⟨#[47]⟩))) rfl (by kernel_rfl) (by kernel_rfl) (by kernel_rfl) (fun _ _ _ h => h) (.inl ⟨by kernel_rfl, ?_⟩) hS1 ?_
  · rintro w ⟨⟨h, k, g⟩, f⟩; have kc := HCV.out _ f; go_simp <;> omega
  refine plist #[true, true, true, true, true, true, false, false, false, false, false, false, false, false, false, false, false] (by kernel_rfl) ?_
  have con := HP.out XF
  unfold Ref.refV at con
  refine pone 6 (by kernel_rfl) rfl fun K hK => ?_
  go_simp
  refine con.mono ?_
  rintro e XG ⟨rfl, hb⟩
  have B_G := B_F.trans (hb.mono B_F.size)
  have I_G := I_F.on hb
  have R_G := R_F.on hb
  have O_G := O_F.on hb
  have V_G := V_F.on hb
  have hS0 := And.intro (RU_box R_G) (And.intro O_G.box V_G.box)
  have hS2 := And.intro hS0 (bytes_on hS1.2 hb)
  clear con hb B_F I_F R_F O_F V_F hS1
  refine hK _ _ hS2 ?_
  clear hK K
  refine plist #[true, true, true, true, true, true, true, false, false, false, false, false, false, false, false, false, false] (by kernel_rfl) ?_
  have l1 : (placeU u).length + 1 ≤ 9223372036854775807 := by omega
  refine wpAnyH_take (i := 7) (v := (.string (⟨(placeU u).toArray⟩ ++ ⟨#[47]⟩))) rfl (by kernel_rfl) (by kernel_rfl) (by kernel_rfl) (fun _ _ _ h => h) (.inl ⟨by kernel_rfl, ?_⟩) hS2 ?_
  · rintro w ⟨⟨h, k, g⟩, f⟩; go_simp <;> omega
  refine plist #[true, true, true, true, true, true, true, true, false, false, false, false, false, false, false, false, false] (by kernel_rfl) ?_
  refine pone 8 (by kernel_rfl) rfl fun K hK => ?_
  go_simp
  refine hK _ _ hS2 ?_
  clear hK K
  refine plist #[true, true, true, true, true, true, true, true, true, false, false, false, false, false, false, false, false] (by kernel_rfl) ?_
  refine pone 9 (by kernel_rfl) rfl fun K hK => ?_
  go_simp
  refine hK _ _ hS2 ?_
  clear hK K
  refine plist #[true, true, true, true, true, true, true, true, true, true, false, false, false, false, false, false, false] (by kernel_rfl) ?_
  refine pone 10 (by kernel_rfl) rfl fun K hK => ?_
  go_simp
  refine hK _ _ hS2 ?_
  clear hK K
  refine plist #[true, true, true, true, true, true, true, true, true, true, true, false, false, false, false, false, false] (by kernel_rfl) ?_
  refine wpAnyH_take (i := 11) (v := (.agg #[.slice r0 m0 d0, .slice r1 m1 d1, .int .i64 (rootU u).port, .slice r3 m3 d3, .slice r4 m4 d4, .slice r5 m5 d5, .bool (rootU u).hq, .bool (rootU u).hf])) rfl (by kernel_rfl) (by kernel_rfl) (by kernel_rfl) (fun _ _ _ h => h) (.inl ⟨by kernel_rfl, ?_⟩) hS2 ?_
  · rintro w ⟨⟨h, k, g⟩, f⟩; have h0 := g 0 _ rfl; have h1 := g 1 _ rfl; have h2 := g 2 _ rfl; have h3 := g 3 _ rfl; have h4 := g 4 _ rfl; have h5 := g 5 _ rfl; have h6 := g 6 _ rfl; have h7 := g 7 _ rfl; go_simp <;> omega
  refine plist #[true, true, true, true, true, true, true, true, true, true, true, true, false, false, false, false, false] (by kernel_rfl) ?_
  refine wpAnyH_take (i := 13) (v := (.agg #[.string ⟨u.scheme.toArray⟩, .string ⟨u.host.toArray⟩, .int .i64 u.port, .int .i64 0])) rfl (by kernel_rfl) (by kernel_rfl) (by kernel_rfl) (fun _ _ _ h => h) (.inl ⟨by kernel_rfl, ?_⟩) hS2 ?_
  · rintro w ⟨⟨h, k, g⟩, f⟩; have k0 := k 0 _ rfl; have k1 := k 1 _ rfl; have k2 := k 2 _ rfl; have k3 := k 3 _ rfl; go_simp <;> omega
  refine plist #[true, true, true, true, true, true, true, true, true, true, true, true, false, true, false, false, false] (by kernel_rfl) ?_
  have con : Calls Tryz.prog 7 #[.agg #[.slice r0 m0 d0, .slice r1 m1 d1, .int .i64 (rootU u).port, .slice r3 m3 d3, .slice r4 m4 d4, .slice r5 m5 d5, .bool (rootU u).hq, .bool (rootU u).hf]] XG fun e w' => e = .returned (.agg #[.string ⟨u.scheme.toArray⟩, .string ⟨u.host.toArray⟩, .int .i64 u.port, .int .i64 0]) ∧ Below XG.heap.size XG w' := Of_any (rootU u) _ XG I_G
  refine pone 12 (by kernel_rfl) rfl fun K hK => ?_
  go_simp
  refine con.mono ?_
  rintro e XH ⟨rfl, hb⟩
  have B_H := B_G.trans (hb.mono B_G.size)
  have hS3 := And.intro (And.intro ((RU_box R_G).on hb) (And.intro (O_G.box.on hb) (V_G.box.on hb))) (bytes_on hS2.2 hb)
  clear con hb B_G I_G R_G O_G V_G hS0 hS2
  refine hK _ _ hS3 ?_
  clear hK K
  refine plist #[true, true, true, true, true, true, true, true, true, true, true, true, true, true, false, false, false] (by kernel_rfl) ?_
  refine pone 14 (by kernel_rfl) rfl fun K hK => ?_
  go_simp
  refine hK _ _ hS3 ?_
  clear hK K
  refine plist #[true, true, true, true, true, true, true, true, true, true, true, true, true, true, true, false, false] (by kernel_rfl) ?_
  refine pone 15 (by kernel_rfl) rfl fun K hK => ?_
  go_simp
  refine hK _ _ hS3 ?_
  clear hK K
  refine plist #[true, true, true, true, true, true, true, true, true, true, true, true, true, true, true, true, false] (by kernel_rfl) ?_
  refine pone 16 (by kernel_rfl) rfl fun K hK => ?_
  go_simp
  refine hK _ _ hS3 ?_
  clear hK K
  refine pdone (by kernel_rfl) ?_ _
  clear hS3
  go_wp2
  go_ret
  exact ⟨rfl, B_H⟩

theorem proved : Rows.OriginOfCardSaid := card walk

end Go.Proofs.YtajojgimbagjoaaGreatDoor.originOf
