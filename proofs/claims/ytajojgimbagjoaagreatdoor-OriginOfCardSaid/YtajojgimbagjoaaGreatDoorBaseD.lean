/- The texts that these laws rest on, put together, part 4. Conditions: as each says. -/
import Derived.Test.YtajojgimbagjoaaGreatDoorBaseC
import Derived.Deep.DeepCutAuto

namespace Go.Proofs.YtajojgimbagjoaaGreatDoor.Url
open Go.RowKit Go.Shelf
attribute [local go_sem] Oper.semAt_some

theorem nbz : ∀ (j : Nat) (x : Value), zeroU[j]? = some x → ∀ z : Int, x ≠ .int .u8 z := nb8 ⟨_, _, _, rfl⟩ ⟨_, _, _, rfl⟩ ⟨_, _, _, rfl⟩ ⟨_, _, _, rfl⟩ ⟨_, _, _, rfl⟩
/-- A slice of bytes outlives what is written where a URL's cells are. -/
theorem By.away {B : Nat} {cs : Array Value} {X Y : World} {v : Value} {l : List UInt8} (h : By X v l) (hU : UB B cs X) (hcs : ∀ (j : Nat) (x : Value), cs[j]? = some x → ∀ z : Int, x ≠ .int .u8 z) (hk : ∀ S : Nat → Prop, ¬ S B → Keep S X Y) : By Y v l := by
  obtain ⟨q, c, rfl, h2, h3, h4, h5⟩ := h
  refine ⟨q, c, rfl, h2, h3, h4, fun h0 => ?_⟩
  obtain ⟨b, o, he, hc⟩ := h5 h0
  refine ⟨b, o, he, fun j hj => ?_⟩
  have hne : b ≠ B := fun e => by
    subst e
    have h1 := hc j hj
    simp only [World.cell?, show X.heap[b]? = _ from hU] at h1
    exact hcs _ _ h1 _ rfl
  exact (World.cell?_of_block ((hk (fun k => k ≠ B) (fun h => h rfl)).block b (World.block_lt_of_cell? X _ (hc j hj)) hne)).trans (hc j hj)
theorem UB.set8 {B : Nat} {X : World} {a0 a1 a2 a3 a4 a5 a6 a7 : Value} (h : UB B #[a0, a1, a2, a3, a4, a5, a6, a7] X) (v : Value) :
    UB B #[a0, a1, v, a3, a4, a5, a6, a7] (X.setCell ⟨B, 2, none⟩ v) ∧ UB B #[a0, a1, a2, v, a4, a5, a6, a7] (X.setCell ⟨B, 3, none⟩ v) ∧ UB B #[a0, a1, a2, a3, v, a5, a6, a7] (X.setCell ⟨B, 4, none⟩ v) ∧ UB B #[a0, a1, a2, a3, a4, v, a6, a7] (X.setCell ⟨B, 5, none⟩ v) := by
  have h2 := h.set 2 v; have h3 := h.set 3 v; have h4 := h.set 4 v; have h5 := h.set 5 v
  simp only [List.setIfInBounds_toArray, List.set_cons_zero, List.set_cons_succ] at h2 h3 h4 h5
  exact ⟨h2, h3, h4, h5⟩

set_option maxRecDepth 100000 in
set_option maxHeartbeats 16000000 in
theorem canonOf_any (q : Option Addr) (n c : Nat) (t : List UInt8) (w : World) (hby : By w (.slice q n c) t) (hn : n ≤ 4096) (hG : Gl w) :
    Calls Tryz.prog 13 #[.slice q n c] w fun e w' => CanonOut (canonU t) w e w' := by
  have kc := fun (w : World) (C : Array Value) (n c : Nat) => Lib.run_convert_bytes_const (P := Tryz.prog) w 22 5 C n c Tryz.underlying22 Tryz.underlying5
  obtain ⟨X0, hX0⟩ : ∃ X0, (w.alloc (.cells #[.slice none 0 0, .slice none 0 0, .int .i64 0, .slice none 0 0, .slice none 0 0, .slice none 0 0, .bool false, .bool false] 25)).alloc (.cells #[.int .u8 58, .int .u8 47, .int .u8 47] 5 (3, 4)) = X0 := ⟨_, rfl⟩
  have hBz := (Below.refl _ w).alloc (Nat.le_refl _) (.cells #[.slice none 0 0, .slice none 0 0, .int .i64 0, .slice none 0 0, .slice none 0 0, .slice none 0 0, .bool false, .bool false] 25)
  have B_0 : Below w.heap.size w X0 := by rw [← hX0]; exact hBz.alloc hBz.size _
  have U_0 : UB w.heap.size zeroU X0 := by rw [← hX0]; exact (UB.new w zeroU).on ((Below.refl _ _).alloc (Nat.le_refl _) _)
  have hsep : Lib.BytesIn X0 (some ⟨w.heap.size + 1, 0, none⟩) 3 (Lib.numsL sepS) := by
    have := bytes_lit (w := w.alloc (.cells #[.slice none 0 0, .slice none 0 0, .int .i64 0, .slice none 0 0, .slice none 0 0, .slice none 0 0, .bool false, .bool false] 25)) #[.int .u8 58, .int .u8 47, .int .u8 47] sepS (3, 4) rfl
    rw [World.size_alloc] at this
    rw [← hX0]; exact this
  have kc1 := kc (w.alloc (.cells #[.slice none 0 0, .slice none 0 0, .int .i64 0, .slice none 0 0, .slice none 0 0, .slice none 0 0, .bool false, .bool false] 25)) #[.int .u8 58, .int .u8 47, .int .u8 47] 3 3
  rw [World.size_alloc] at kc1
  have con := Cut_any q (some ⟨w.heap.size + 1, 0, none⟩) n c 3 t X0 (hby.on B_0) (by omega) (hG.on B_0) hsep
  have HX0 := Lib.hid hX0
  have T_0 := hby.on B_0
  have hTl := hby.at.1
  clear hX0 hBz hsep hby hG
  rcases sep_cases t with ⟨hk, hsp⟩ | ⟨k, hk, hkl, hsp⟩
  · rw [cut_none hk] at con
    have HC := Lib.hid (canon_none t hsp)
    clear hsp hk T_0
    go_enter Tryz.func13, Tryz.ntmps13
    go_wp2_with fail
    rw [HX0.out]
    refine con.mono ?_
    rintro e X1 ⟨rfl, m, hm⟩
    have hb : Below X0.heap.size X0 X1 := by rw [hm]; exact below_drewN _ _
    clear con hm kc1 HX0
    have B_1 := B_0.trans (hb.mono B_0.size)
    have U_1 := U_0.on hb
    clear U_0 B_0 hb
    have zb := U_1.box
    have zc0 := zb 0 _ rfl
    have zf0 := U_1.frozen 0
    have zc1 := zb 1 _ rfl
    have zf1 := U_1.frozen 1
    have zc2 := zb 2 _ rfl
    have zf2 := U_1.frozen 2
    have zc3 := zb 3 _ rfl
    have zf3 := U_1.frozen 3
    have zc4 := zb 4 _ rfl
    have zf4 := U_1.frozen 4
    have zc5 := zb 5 _ rfl
    have zf5 := U_1.frozen 5
    have zc6 := zb 6 _ rfl
    have zf6 := U_1.frozen 6
    have zc7 := zb 7 _ rfl
    have zf7 := U_1.frozen 7
    clear zb
    go_wp2
    obtain ⟨Y, hY, hU, hkY, hbY⟩ := UB.put (show UB w.heap.size #[.slice none 0 0, .slice none 0 0, .int .i64 0, .slice none 0 0, .slice none 0 0, .slice none 0 0, .bool false, .bool false] _ from U_1) (.slice none 0 0) (.slice none 0 0) (.int .i64 0) (.slice none 0 0) (.slice none 0 0) (.slice none 0 0) (.bool false) (.bool false)
    rw [hY]
    (try simp only [Exit.inBlock, Exit.then])
    refine bodyPost_ret (ret_url2 rfl _ _ w.heap.size _ rfl hU rfl) rfl ?_
    rw [HC.out]
    exact ⟨by decide, rfl, B_1.trans (hbY _ (Nat.le_refl _))⟩
  · rw [cut_some hk] at con
    have S_0 := T_0.take (show k ≤ n by omega)
    have R_0 := T_0.drop (show k + 3 ≤ n by omega)
    have hnr : n - (k + 3) ≤ 4096 := by omega
    have hkn : k ≤ 4096 := by omega
    generalize t.take k = s at *
    generalize t.drop (k + 3) = r at *
    generalize hqR : subA q c (k + 3) = qR at *
    generalize hnR : n - (k + 3) = nR at *
    generalize hcR : c - (k + 3) = cR at *
    have HSP := Lib.hid hsp
    clear hsp hk T_0 hkl hTl hqR hnR hcR
    obtain ⟨own, hown⟩ : ∃ o, ownP (Ref.lowL s) = o := ⟨_, rfl⟩
    have HOW := Lib.hid hown
    clear hown
    go_enter Tryz.func13, Tryz.ntmps13
    go_wp2_with fail
    rw [HX0.out]
    refine con.mono ?_
    rintro e X1 ⟨rfl, m, hm⟩
    have hb : Below X0.heap.size X0 X1 := by rw [hm]; exact below_drewN _ _
    clear con hm kc1 HX0
    have B_1 := B_0.trans (hb.mono B_0.size)
    have U_1 := U_0.on hb
    have S_1 := S_0.on hb
    have R_1 := R_0.on hb
    clear R_0 S_0 U_0 B_0 hb
    have con := Own_any q k c s X1 S_1.at.1 (by omega) S_1.at.2.2.2.2
    rw [HOW.out] at con
    by_cases ho : own = 0
    · have e0 : ((own : Int) == 0) = true := by rw [ho]; rfl
      have HC := Lib.hid (canon_other t s r HSP.out (by rw [HOW.out]; exact ho))
      clear ho
      go_wp2_with fail
      refine con.mono ?_
      rintro e X2 ⟨rfl, hb⟩
      clear con
      have B_2 := B_1.trans (hb.mono B_1.size)
      have U_2 := U_1.on hb
      have S_2 := S_1.on hb
      have R_2 := R_1.on hb
      clear R_1 S_1 U_1 B_1 hb
      have zb := U_2.box
      have zc0 := zb 0 _ rfl
      have zf0 := U_2.frozen 0
      have zc1 := zb 1 _ rfl
      have zf1 := U_2.frozen 1
      have zc2 := zb 2 _ rfl
      have zf2 := U_2.frozen 2
      have zc3 := zb 3 _ rfl
      have zf3 := U_2.frozen 3
      have zc4 := zb 4 _ rfl
      have zf4 := U_2.frozen 4
      have zc5 := zb 5 _ rfl
      have zf5 := U_2.frozen 5
      have zc6 := zb 6 _ rfl
      have zf6 := U_2.frozen 6
      have zc7 := zb 7 _ rfl
      have zf7 := U_2.frozen 7
      clear zb
      go_wp2
      obtain ⟨Y, hY, hU, hkY, hbY⟩ := UB.put (show UB w.heap.size #[.slice none 0 0, .slice none 0 0, .int .i64 0, .slice none 0 0, .slice none 0 0, .slice none 0 0, .bool false, .bool false] _ from U_2) (.slice none 0 0) (.slice none 0 0) (.int .i64 0) (.slice none 0 0) (.slice none 0 0) (.slice none 0 0) (.bool false) (.bool false)
      rw [hY]
      (try simp only [Exit.inBlock, Exit.then])
      refine bodyPost_ret (ret_url2 rfl _ _ w.heap.size _ rfl hU rfl) rfl ?_
      rw [HC.out]
      exact ⟨by decide, rfl, B_2.trans (hbY _ (Nat.le_refl _))⟩
    have e0 : ((own : Int) == 0) = false := by rw [beq_eq_false_iff_ne]; omega
    have hs0 : Ref.lowL s = httpS ∨ Ref.lowL s = httpsS := Decidable.not_not.1 fun h => ho (by rw [← HOW.out]; exact (own_zero _).2 h)
    have HS := Lib.hid hs0
    have HC := Lib.hid (canon_rest t s r HSP.out (by rw [HOW.out]; exact ho))
    clear ho HSP hs0
    go_wp2_with fail
    refine con.mono ?_
    rintro e X2 ⟨rfl, hb⟩
    clear con
    have B_2 := B_1.trans (hb.mono B_1.size)
    have U_2 := U_1.on hb
    have S_2 := S_1.on hb
    have R_2 := R_1.on hb
    clear R_1 S_1 U_1 B_1 hb
    obtain ⟨bf, hbf⟩ : ∃ b, atOk 35 (r) = b := ⟨_, rfl⟩
    have con := At_any qR nR cR (r) 35 X2 R_2.at.1 (by have := R_2.at.1; omega) R_2.at.2.1 R_2.at.2.2.2.1 R_2.at.2.2.2.2
    rw [hbf] at con
    have Hbf := Lib.hid hbf
    clear hbf
    go_wp2_with fail
    refine con.mono ?_
    rintro e X3 ⟨v1, v2, rfl, hr1, hr2, hb⟩
    clear con
    obtain ⟨nA, hnA⟩ : ∃ n, (atFst 35 (r)).length = n := ⟨_, rfl⟩
    rw [hnA] at hr1
    obtain ⟨qA, cA, rfl, _, _, _, _, _⟩ := row_open hr1
    have A_3 := By.row hr1
    have hmA : nA ≤ 4096 := by have h1 := at_len 35 (r); have h2 := R_2.at.1; omega
    clear hr1 hnA
    obtain ⟨nF, hnF⟩ : ∃ n, (atSnd 35 (r)).length = n := ⟨_, rfl⟩
    rw [hnF] at hr2
    obtain ⟨qF, cF, rfl, _, _, _, _, _⟩ := row_open hr2
    have F_3 := By.row hr2
    have hmF : nF ≤ 4096 := by have h1 := at_len 35 (r); have h2 := R_2.at.1; omega
    clear hr2 hnF
    have B_3 := B_2.trans (hb.mono B_2.size)
    have U_3 := U_2.on hb
    have S_3 := S_2.on hb
    have R_3 := R_2.on hb
    clear R_2 S_2 U_2 B_2 hb
    clear e0
    clear R_3
    obtain ⟨bq, hbq⟩ : ∃ b, atOk 63 (atFst 35 r) = b := ⟨_, rfl⟩
    have con := At_any qA nA cA (atFst 35 r) 63 X3 A_3.at.1 (by have := A_3.at.1; omega) A_3.at.2.1 A_3.at.2.2.2.1 A_3.at.2.2.2.2
    rw [hbq] at con
    have Hbq := Lib.hid hbq
    clear hbq
    go_wp2_with fail
    refine con.mono ?_
    rintro e X4 ⟨v1, v2, rfl, hr1, hr2, hb⟩
    clear con
    obtain ⟨nE, hnE⟩ : ∃ n, (atFst 63 (atFst 35 r)).length = n := ⟨_, rfl⟩
    rw [hnE] at hr1
    obtain ⟨qE, cE, rfl, _, _, _, _, _⟩ := row_open hr1
    have E_4 := By.row hr1
    have hmE : nE ≤ 4096 := by have h1 := at_len 63 (atFst 35 r); have h2 := A_3.at.1; omega
    clear hr1 hnE
    obtain ⟨nQ, hnQ⟩ : ∃ n, (atSnd 63 (atFst 35 r)).length = n := ⟨_, rfl⟩
    rw [hnQ] at hr2
    obtain ⟨qQ, cQ, rfl, _, _, _, _, _⟩ := row_open hr2
    have Q_4 := By.row hr2
    have hmQ : nQ ≤ 4096 := by have h1 := at_len 63 (atFst 35 r); have h2 := A_3.at.1; omega
    clear hr2 hnQ
    have B_4 := B_3.trans (hb.mono B_3.size)
    have U_4 := U_3.on hb
    have S_4 := S_3.on hb
    have A_4 := A_3.on hb
    have F_4 := F_3.on hb
    clear F_3 A_3 S_3 U_3 B_3 hb
    clear A_4
    have con := atSlash_any qE nE cE (atFst 63 (atFst 35 r)) X4 E_4
    go_wp2_with fail
    refine con.mono ?_
    rintro e X5 ⟨v1, v2, rfl, V_4, P_4, hb, -⟩
    have V_5 := V_4.on hb
    have P_5 := P_4.on hb
    clear con V_4 P_4
    obtain ⟨qV, cV, rfl, _⟩ := id V_5
    obtain ⟨qP, cP, rfl, _⟩ := id P_5
    have hP5 := ahead_drop 47 (atFst 63 (atFst 35 r))
    have hVl := ahead_len 47 (atFst 63 (atFst 35 r))
    have hEl := E_4.at.1
    replace V_5 : By X5 (.slice qV (srvL r).length cV) (srvL r) := V_5
    replace P_5 : By X5 (.slice qP (pthL r).length cP) (pthL r) := P_5
    have HPF := Lib.hid (show pthL r = [] ∨ ∃ x, pthL r = 47 :: x from hP5)
    have hPl : (pthL r).length ≤ 4096 := by
      have : (pthL r).length ≤ (atFst 63 (atFst 35 r)).length := by unfold pthL; rw [List.length_drop]; omega
      omega
    have hVl' : (srvL r).length ≤ 4096 := by have : (srvL r).length ≤ (atFst 63 (atFst 35 r)).length := hVl; omega
    change By X5 (.slice qV (aheadL 47 (atFst 63 (atFst 35 r))).length cV) (srvL r) at V_5
    change By X5 (.slice qP ((atFst 63 (atFst 35 r)).drop (aheadL 47 (atFst 63 (atFst 35 r))).length).length cP) (pthL r) at P_5
    obtain ⟨nV, hnV⟩ : ∃ n, (aheadL 47 (atFst 63 (atFst 35 r))).length = n := ⟨_, rfl⟩
    obtain ⟨nP, hnP⟩ : ∃ n, ((atFst 63 (atFst 35 r)).drop (aheadL 47 (atFst 63 (atFst 35 r))).length).length = n := ⟨_, rfl⟩
    rw [hnP] at P_5 ⊢
    rw [hnV] at V_5 ⊢
    have hmV : nV ≤ 4096 := by rw [← hnV]; exact hVl'
    have hmP : nP ≤ 4096 := by rw [← hnP]; exact hPl
    clear hP5 hVl hEl hPl hVl' hnV hnP
    have B_5 := B_4.trans (hb.mono B_4.size)
    have U_5 := U_4.on hb
    have S_5 := S_4.on hb
    have F_5 := F_4.on hb
    have E_5 := E_4.on hb
    have Q_5 := Q_4.on hb
    clear Q_4 E_4 F_4 S_4 U_4 B_4 hb
    clear E_5
    obtain ⟨bp, hbp⟩ : ∃ b, atOk 58 (srvL r) = b := ⟨_, rfl⟩
    have con := At_any qV nV cV (srvL r) 58 X5 V_5.at.1 (by have := V_5.at.1; omega) V_5.at.2.1 V_5.at.2.2.2.1 V_5.at.2.2.2.2
    rw [hbp] at con
    have Hbp := Lib.hid hbp
    clear hbp
    go_wp2_with fail
    refine con.mono ?_
    rintro e X6 ⟨v1, v2, rfl, hr1, hr2, hb⟩
    clear con
    obtain ⟨nN, hnN⟩ : ∃ n, (atFst 58 (srvL r)).length = n := ⟨_, rfl⟩
    rw [hnN] at hr1
    obtain ⟨qN, cN, rfl, _, _, _, _, _⟩ := row_open hr1
    have N_6 := By.row hr1
    have hmN : nN ≤ 4096 := by have h1 := at_len 58 (srvL r); have h2 := V_5.at.1; omega
    clear hr1 hnN
    obtain ⟨nD, hnD⟩ : ∃ n, (atSnd 58 (srvL r)).length = n := ⟨_, rfl⟩
    rw [hnD] at hr2
    obtain ⟨qD, cD, rfl, _, _, _, _, _⟩ := row_open hr2
    have D_6 := By.row hr2
    have hmD : nD ≤ 4096 := by have h1 := at_len 58 (srvL r); have h2 := V_5.at.1; omega
    clear hr2 hnD
    have B_6 := B_5.trans (hb.mono B_5.size)
    have U_6 := U_5.on hb
    have S_6 := S_5.on hb
    have F_6 := F_5.on hb
    have Q_6 := Q_5.on hb
    have V_6 := V_5.on hb
    have P_6 := P_5.on hb
    clear P_5 V_5 Q_5 F_5 S_5 U_5 B_5 hb
    clear V_6
    have con := Host.Parse_any qN nN cN (atFst 58 (srvL r)) X6 N_6.at.1 (by omega) N_6.at.2.2.2.2
    obtain ⟨pe, hpe⟩ : ∃ pe, Host.parseE (atFst 58 (srvL r)) = pe := ⟨_, rfl⟩
    have HPE := Lib.hid hpe
    clear hpe
    go_wp2_with fail
    refine con.mono ?_
    rintro e X7 ⟨vH, rfl, hrH, hb⟩
    rw [HPE.out]
    obtain ⟨nH, hnH⟩ : ∃ n, (Host.canL (atFst 58 (srvL r))).length = n := ⟨_, rfl⟩
    rw [hnH] at hrH
    obtain ⟨qH, cH, rfl, _, _, _, _, _⟩ := row_open hrH
    have H_7 := By.row hrH
    clear con hrH hnH
    have B_7 := B_6.trans (hb.mono B_6.size)
    have U_7 := U_6.on hb
    have S_7 := S_6.on hb
    have F_7 := F_6.on hb
    have Q_7 := Q_6.on hb
    have P_7 := P_6.on hb
    have N_7 := N_6.on hb
    have D_7 := D_6.on hb
    clear D_6 N_6 P_6 Q_6 F_6 S_6 U_6 B_6 hb
    clear N_7
    by_cases hp7 : pe = 0
    case neg =>
      have e7 : ((pe : Int) != 0) = true := by rw [bne_iff_ne]; exact hp7
      have HE := Lib.hid (show canonU t = .inl pe by rw [HC.out, rest_host _ r HS.out (by rw [HPE.out]; exact hp7), HPE.out])
      have hp8 := Lib.hid hp7
      clear HC hp7
      have zb := U_7.box
      have zc0 := zb 0 _ rfl
      have zf0 := U_7.frozen 0
      have zc1 := zb 1 _ rfl
      have zf1 := U_7.frozen 1
      have zc2 := zb 2 _ rfl
      have zf2 := U_7.frozen 2
      have zc3 := zb 3 _ rfl
      have zf3 := U_7.frozen 3
      have zc4 := zb 4 _ rfl
      have zf4 := U_7.frozen 4
      have zc5 := zb 5 _ rfl
      have zf5 := U_7.frozen 5
      have zc6 := zb 6 _ rfl
      have zf6 := U_7.frozen 6
      have zc7 := zb 7 _ rfl
      have zf7 := U_7.frozen 7
      clear zb
      go_wp2
      obtain ⟨Y, hY, hU, hkY, hbY⟩ := UB.put (show UB w.heap.size #[.slice none 0 0, .slice none 0 0, .int .i64 0, .slice none 0 0, .slice none 0 0, .slice none 0 0, .bool false, .bool false] _ from U_7) (.slice none 0 0) (.slice none 0 0) (.int .i64 0) (.slice none 0 0) (.slice none 0 0) (.slice none 0 0) (.bool false) (.bool false)
      rw [hY]
      (try simp only [Exit.inBlock, Exit.then])
      refine bodyPost_ret (ret_url2 rfl _ _ w.heap.size _ rfl hU rfl) rfl ?_
      rw [HE.out]
      exact ⟨hp8.out, rfl, B_7.trans (hbY _ (Nat.le_refl _))⟩
    subst hp7
    have HCL := Lib.hid (show Host.canL (atFst 58 (srvL r)) = Ref.lowL (atFst 58 (srvL r)) by unfold Host.canL; rw [if_pos HPE.out])
    rw [HCL.out] at H_7
    have con := Lower_any q k c s X7 S_7.at.1 (by omega) S_7.at.2.2.2.2
    go_wp2_with fail
    refine con.mono ?_
    rintro e X8 ⟨vL, rfl, hrL, hb⟩
    obtain ⟨qL, cL, rfl, _, _, _, _, _⟩ := row_open hrL
    have L_8 : By X8 (.slice qL k cL) (Ref.lowL s) := By.row hrL
    clear con hrL HCL
    have B_8 := B_7.trans (hb.mono B_7.size)
    have U_8 := U_7.on hb
    have S_8 := S_7.on hb
    have F_8 := F_7.on hb
    have Q_8 := Q_7.on hb
    have P_8 := P_7.on hb
    have D_8 := D_7.on hb
    have H_8 := H_7.on hb
    clear H_7 D_7 P_7 Q_7 F_7 S_7 U_7 B_7 hb
    have con := Own_any q k c s X8 S_8.at.1 (by omega) S_8.at.2.2.2.2
    rw [HOW.out] at con
    go_wp2_with fail
    refine con.mono ?_
    rintro e X9 ⟨rfl, hb⟩
    clear con
    have B_9 := B_8.trans (hb.mono B_8.size)
    have U_9 := U_8.on hb
    have S_9 := S_8.on hb
    have F_9 := F_8.on hb
    have Q_9 := Q_8.on hb
    have P_9 := P_8.on hb
    have D_9 := D_8.on hb
    have H_9 := H_8.on hb
    have L_9 := L_8.on hb
    clear L_8 H_8 D_8 P_8 Q_8 F_8 S_8 U_8 B_8 hb
    clear S_9
    obtain ⟨XA, hXA⟩ : ∃ XA, X9.alloc (.cells #[.slice qL k cL, .slice qH nH cH, .int .i64 own, .slice none 0 0, .slice none 0 0, .slice none 0 0, .bool bq, .bool bf] 25) = XA := ⟨_, rfl⟩
    obtain ⟨b18, hb18⟩ : ∃ b, X9.heap.size = b := ⟨_, rfl⟩
    have W_A : UB b18 #[.slice qL k cL, .slice qH nH cH, .int .i64 own, .slice none 0 0, .slice none 0 0, .slice none 0 0, .bool bq, .bool bf] XA := by rw [← hXA, ← hb18]; exact UB.new X9 _
    have hb : Below X9.heap.size X9 XA := by rw [← hXA]; exact (Below.refl _ _).alloc (Nat.le_refl _) _
    have hne : ¬ w.heap.size = b18 := by have := U_9.lt; omega
    have hne' : ¬ b18 = w.heap.size := fun h => hne h.symm
    have hle : w.heap.size ≤ b18 := by have := U_9.lt; omega
    have HXA := Lib.hid hXA
    have HB18 := Lib.hid hb18
    clear hXA hb18
    have B_A := B_9.trans (hb.mono B_9.size)
    have U_A := U_9.on hb
    have F_A := F_9.on hb
    have Q_A := Q_9.on hb
    have P_A := P_9.on hb
    have D_A := D_9.on hb
    have H_A := H_9.on hb
    have L_A := L_9.on hb
    clear L_9 H_9 D_9 P_9 Q_9 F_9 U_9 B_9 hb
    cases bp with
    | false =>
      clear D_A
      have HPO := Lib.hid (show portC (Ref.lowL s) (atSnd 58 (srvL r)) (atOk 58 (srvL r)) = (own : Int) by rw [Hbp.out]; unfold portC; rw [if_neg (by decide), HOW.out])
      go_wp2_with fail
      rw [HB18.out, HXA.out]
      have con := canonOfPath_any qP nP cP (pthL r) XA P_A (by omega) HPF.out
      refine con.mono ?_
      rintro e XC ⟨vW, ep, rfl, hep, hr, hb⟩
      have HEP : Hid (ep = if (pathL (pthL r)).isSome then 0 else 2) := hep
      replace hr : XC.ownsRow XA.heap.size 5 1 vW ((pathL (pthL r)).getD []).length (byV ((pathL (pthL r)).getD [])) := hr
      obtain ⟨nW, hnW⟩ : ∃ n, ((pathL (pthL r)).getD []).length = n := ⟨_, rfl⟩
      rw [hnW] at hr
      obtain ⟨qW, cW, rfl, _, _, _, _, _⟩ := row_open hr
      have GP_C := By.row hr
      clear con hr hnW hep
      have B_C := B_A.trans (hb.mono B_A.size)
      have U_C := U_A.on hb
      have F_C := F_A.on hb
      have Q_C := Q_A.on hb
      have P_C := P_A.on hb
      have H_C := H_A.on hb
      have L_C := L_A.on hb
      have W_C := W_A.on hb
      clear W_A L_A H_A P_A Q_A F_A U_A B_A hb
      clear P_C
      cases bq with
      | false =>
        clear Q_C
        cases bf with
        | false =>
          clear F_C
          have yb := W_C.box
          have yc0 := yb 0 _ rfl
          have yf0 := W_C.frozen 0
          have yc1 := yb 1 _ rfl
          have yf1 := W_C.frozen 1
          have yc2 := yb 2 _ rfl
          have yf2 := W_C.frozen 2
          have yc3 := yb 3 _ rfl
          have yf3 := W_C.frozen 3
          have yc4 := yb 4 _ rfl
          have yf4 := W_C.frozen 4
          have yc5 := yb 5 _ rfl
          have yf5 := W_C.frozen 5
          have yc6 := yb 6 _ rfl
          have yf6 := W_C.frozen 6
          have yc7 := yb 7 _ rfl
          have yf7 := W_C.frozen 7
          clear yb
          have zb := U_C.box
          have zc0 := zb 0 _ rfl
          have zf0 := U_C.frozen 0
          have zc1 := zb 1 _ rfl
          have zf1 := U_C.frozen 1
          have zc2 := zb 2 _ rfl
          have zf2 := U_C.frozen 2
          have zc3 := zb 3 _ rfl
          have zf3 := U_C.frozen 3
          have zc4 := zb 4 _ rfl
          have zf4 := U_C.frozen 4
          have zc5 := zb 5 _ rfl
          have zf5 := U_C.frozen 5
          have zc6 := zb 6 _ rfl
          have zf6 := U_C.frozen 6
          have zc7 := zb 7 _ rfl
          have zf7 := U_C.frozen 7
          clear zb
          obtain ⟨XZ, hXZ⟩ : ∃ Z, XC.setCell ⟨b18, 3, none⟩ (.slice qW nW cW) = Z := ⟨_, rfl⟩
          have B_Z : Below w.heap.size w XZ := by rw [← hXZ]; exact B_C.setCell (p := ⟨b18, 3, none⟩) hle _
          have U_Z : UB w.heap.size zeroU XZ := by rw [← hXZ]; exact U_C.other hne _
          have H_Z := By.set (i := 3) (u := .slice qW nW cW) H_C W_C (nb8 ⟨_, _, _, rfl⟩ ⟨_, _, _, rfl⟩ ⟨_, _, _, rfl⟩ ⟨_, _, _, rfl⟩ ⟨_, _, _, rfl⟩)
          rw [hXZ] at H_Z
          have L_Z := By.set (i := 3) (u := .slice qW nW cW) L_C W_C (nb8 ⟨_, _, _, rfl⟩ ⟨_, _, _, rfl⟩ ⟨_, _, _, rfl⟩ ⟨_, _, _, rfl⟩ ⟨_, _, _, rfl⟩)
          rw [hXZ] at L_Z
          have GP_Z := By.set (i := 3) (u := .slice qW nW cW) GP_C W_C (nb8 ⟨_, _, _, rfl⟩ ⟨_, _, _, rfl⟩ ⟨_, _, _, rfl⟩ ⟨_, _, _, rfl⟩ ⟨_, _, _, rfl⟩)
          rw [hXZ] at GP_Z
          have W_Z : UB b18 #[.slice qL k cL, .slice qH nH cH, .int .i64 own, .slice qW nW cW, .slice none 0 0, .slice none 0 0, .bool false, .bool false] XZ := by rw [← hXZ]; exact (W_C.set8 (.slice qW nW cW)).2.1
          clear GP_C W_C L_C H_C U_C B_C
          have HXZ := Lib.hid hXZ
          clear hXZ
          by_cases hp0 : (own : Int) = 0
          case pos =>
            have e0 : (((own : Int)) == 0) = true := by rw [beq_iff_eq]; exact hp0
            have hpo := HPO.out
            rw [hp0] at hpo
            clear hp0
            have HE := Lib.hid (show canonU t = .inl 2 by rw [HC.out]; exact rest_port _ r HS.out HPE.out hpo)
            go_wp2
            rw [HXZ.out]
            obtain ⟨Y, hY, hU, hkY, hbY⟩ := UB.put (show UB w.heap.size #[.slice none 0 0, .slice none 0 0, .int .i64 0, .slice none 0 0, .slice none 0 0, .slice none 0 0, .bool false, .bool false] _ from U_Z) (.slice none 0 0) (.slice none 0 0) (.int .i64 0) (.slice none 0 0) (.slice none 0 0) (.slice none 0 0) (.bool false) (.bool false)
            rw [hY]
            (try simp only [Exit.inBlock, Exit.then])
            refine bodyPost_ret (ret_url2 rfl _ _ w.heap.size _ rfl hU rfl) rfl ?_
            rw [HE.out]
            exact ⟨by decide, rfl, B_Z.trans (hbY _ (Nat.le_refl _))⟩
          have e0 : (((own : Int)) == 0) = false := by rw [beq_eq_false_iff_ne]; exact hp0
          have hpo : portC (Ref.lowL s) (atSnd 58 (srvL r)) (atOk 58 (srvL r)) ≠ 0 := by rw [HPO.out]; exact hp0
          cases hpp : pathL (pthL r) with
          | none =>
            obtain rfl : ep = 2 := by have := HEP.out; rw [hpp] at this; exact this
            have hpp2 := Lib.hid hpp
            clear hpp
            have HE := Lib.hid (show canonU t = .inl 2 by rw [HC.out]; exact rest_path _ r HS.out HPE.out hpp2.out)
            go_wp2
            rw [HXZ.out]
            obtain ⟨Y, hY, hU, hkY, hbY⟩ := UB.put (show UB w.heap.size #[.slice none 0 0, .slice none 0 0, .int .i64 0, .slice none 0 0, .slice none 0 0, .slice none 0 0, .bool false, .bool false] _ from U_Z) (.slice none 0 0) (.slice none 0 0) (.int .i64 0) (.slice none 0 0) (.slice none 0 0) (.slice none 0 0) (.bool false) (.bool false)
            rw [hY]
            (try simp only [Exit.inBlock, Exit.then])
            refine bodyPost_ret (ret_url2 rfl _ _ w.heap.size _ rfl hU rfl) rfl ?_
            rw [HE.out]
            exact ⟨by decide, rfl, B_Z.trans (hbY _ (Nat.le_refl _))⟩
          | some pp =>
            obtain rfl : ep = 0 := by have := HEP.out; rw [hpp] at this; exact this
            have h3 : optC (atOk 63 (atFst 35 r)) (atSnd 63 (atFst 35 r)) = some [] := by rw [Hbq.out]; rfl
            have h4 : optC (atOk 35 r) (atSnd 35 r) = some [] := by rw [Hbf.out]; rfl
            obtain ⟨pn, hpn, hrg⟩ := rest_good _ r HS.out HPE.out pp [] [] hpo hpp h3 h4
            rw [Hbq.out, Hbf.out] at hrg
            have hpn2 : (own : Int) = (pn : Int) := by rw [← HPO.out]; exact hpn
            have HE := Lib.hid (HC.out.trans hrg)
            have HPN := Lib.hid hpn2
            rw [hpp] at GP_Z
            clear hpo hrg hpn hpn2 h3 h4 hpp  hp0
            go_wp2
            rw [HXZ.out]
            obtain ⟨Y, hY, hU, hkY, hbY⟩ := UB.put (show UB w.heap.size #[.slice none 0 0, .slice none 0 0, .int .i64 0, .slice none 0 0, .slice none 0 0, .slice none 0 0, .bool false, .bool false] _ from U_Z) (.slice qL k cL) (.slice qH nH cH) (.int .i64 own) (.slice qW nW cW) (.slice none 0 0) (.slice none 0 0) (.bool false) (.bool false)
            rw [hY]
            (try simp only [Exit.inBlock, Exit.then])
            refine bodyPost_ret (ret_url2 rfl _ _ w.heap.size _ rfl hU rfl) rfl ?_
            rw [HE.out]
            refine ⟨_, rfl, ⟨qL, k, cL, qH, nH, cH, qW, nW, cW, none, 0, 0, none, 0, 0, by rw [HPN.out], L_Z.away U_Z nbz hkY, H_Z.away U_Z nbz hkY, GP_Z.away U_Z nbz hkY, by_nil _, by_nil _⟩, B_Z.trans (hbY _ (Nat.le_refl _))⟩
        | true =>
          have yb := W_C.box
          have yc3 := yb 3 _ rfl
          have yf3 := W_C.frozen 3
          clear yb
          go_wp2_with fail
          clear yc3 yf3
          obtain ⟨XF, hXF⟩ : ∃ Z, XC.setCell ⟨b18, 3, none⟩ (.slice qW nW cW) = Z := ⟨_, rfl⟩
          rw [hXF]
          have B_F : Below w.heap.size w XF := by rw [← hXF]; exact B_C.setCell (p := ⟨b18, 3, none⟩) hle _
          have U_F : UB w.heap.size zeroU XF := by rw [← hXF]; exact U_C.other hne _
          have F_F := By.set (i := 3) (u := .slice qW nW cW) F_C W_C (nb8 ⟨_, _, _, rfl⟩ ⟨_, _, _, rfl⟩ ⟨_, _, _, rfl⟩ ⟨_, _, _, rfl⟩ ⟨_, _, _, rfl⟩)
          rw [hXF] at F_F
          have H_F := By.set (i := 3) (u := .slice qW nW cW) H_C W_C (nb8 ⟨_, _, _, rfl⟩ ⟨_, _, _, rfl⟩ ⟨_, _, _, rfl⟩ ⟨_, _, _, rfl⟩ ⟨_, _, _, rfl⟩)
          rw [hXF] at H_F
          have L_F := By.set (i := 3) (u := .slice qW nW cW) L_C W_C (nb8 ⟨_, _, _, rfl⟩ ⟨_, _, _, rfl⟩ ⟨_, _, _, rfl⟩ ⟨_, _, _, rfl⟩ ⟨_, _, _, rfl⟩)
          rw [hXF] at L_F
          have GP_F := By.set (i := 3) (u := .slice qW nW cW) GP_C W_C (nb8 ⟨_, _, _, rfl⟩ ⟨_, _, _, rfl⟩ ⟨_, _, _, rfl⟩ ⟨_, _, _, rfl⟩ ⟨_, _, _, rfl⟩)
          rw [hXF] at GP_F
          have W_F : UB b18 #[.slice qL k cL, .slice qH nH cH, .int .i64 own, .slice qW nW cW, .slice none 0 0, .slice none 0 0, .bool false, .bool true] XF := by rw [← hXF]; exact (W_C.set8 (.slice qW nW cW)).2.1
          clear GP_C W_C L_C H_C F_C U_C B_C
          clear hXF
          have con := Pct.Canon_any qF nF cF (atSnd 35 r) 2 XF F_F.at.1 (by omega) F_F.at.2.2.2.2
          refine con.mono ?_
          rintro e XG ⟨vZ, ef, rfl, hef, hr, hb⟩
          have HEF : Hid (ef = if (formL 2 (atSnd 35 r)).isSome then 0 else 2) := hef
          replace hr : XG.ownsRow XF.heap.size 5 1 vZ ((formL 2 (atSnd 35 r)).getD []).length (byV ((formL 2 (atSnd 35 r)).getD [])) := hr
          obtain ⟨nZ, hnZ⟩ : ∃ n, ((formL 2 (atSnd 35 r)).getD []).length = n := ⟨_, rfl⟩
          rw [hnZ] at hr
          obtain ⟨qZ, cZ, rfl, _, _, _, _, _⟩ := row_open hr
          have GF_G := By.row hr
          clear con hr hnZ hef
          have B_G := B_F.trans (hb.mono B_F.size)
          have U_G := U_F.on hb
          have F_G := F_F.on hb
          have H_G := H_F.on hb
          have L_G := L_F.on hb
          have W_G := W_F.on hb
          have GP_G := GP_F.on hb
          clear GP_F W_F L_F H_F F_F U_F B_F hb
          clear F_G
          have yb := W_G.box
          have yc0 := yb 0 _ rfl
          have yf0 := W_G.frozen 0
          have yc1 := yb 1 _ rfl
          have yf1 := W_G.frozen 1
          have yc2 := yb 2 _ rfl
          have yf2 := W_G.frozen 2
          have yc3 := yb 3 _ rfl
          have yf3 := W_G.frozen 3
          have yc4 := yb 4 _ rfl
          have yf4 := W_G.frozen 4
          have yc5 := yb 5 _ rfl
          have yf5 := W_G.frozen 5
          have yc6 := yb 6 _ rfl
          have yf6 := W_G.frozen 6
          have yc7 := yb 7 _ rfl
          have yf7 := W_G.frozen 7
          clear yb
          have zb := U_G.box
          have zc0 := zb 0 _ rfl
          have zf0 := U_G.frozen 0
          have zc1 := zb 1 _ rfl
          have zf1 := U_G.frozen 1
          have zc2 := zb 2 _ rfl
          have zf2 := U_G.frozen 2
          have zc3 := zb 3 _ rfl
          have zf3 := U_G.frozen 3
          have zc4 := zb 4 _ rfl
          have zf4 := U_G.frozen 4
          have zc5 := zb 5 _ rfl
          have zf5 := U_G.frozen 5
          have zc6 := zb 6 _ rfl
          have zf6 := U_G.frozen 6
          have zc7 := zb 7 _ rfl
          have zf7 := U_G.frozen 7
          clear zb
          obtain ⟨XZ, hXZ⟩ : ∃ Z, XG.setCell ⟨b18, 5, none⟩ (.slice qZ nZ cZ) = Z := ⟨_, rfl⟩
          have B_Z : Below w.heap.size w XZ := by rw [← hXZ]; exact B_G.setCell (p := ⟨b18, 5, none⟩) hle _
          have U_Z : UB w.heap.size zeroU XZ := by rw [← hXZ]; exact U_G.other hne _
          have H_Z := By.set (i := 5) (u := .slice qZ nZ cZ) H_G W_G (nb8 ⟨_, _, _, rfl⟩ ⟨_, _, _, rfl⟩ ⟨_, _, _, rfl⟩ ⟨_, _, _, rfl⟩ ⟨_, _, _, rfl⟩)
          rw [hXZ] at H_Z
          have L_Z := By.set (i := 5) (u := .slice qZ nZ cZ) L_G W_G (nb8 ⟨_, _, _, rfl⟩ ⟨_, _, _, rfl⟩ ⟨_, _, _, rfl⟩ ⟨_, _, _, rfl⟩ ⟨_, _, _, rfl⟩)
          rw [hXZ] at L_Z
          have GP_Z := By.set (i := 5) (u := .slice qZ nZ cZ) GP_G W_G (nb8 ⟨_, _, _, rfl⟩ ⟨_, _, _, rfl⟩ ⟨_, _, _, rfl⟩ ⟨_, _, _, rfl⟩ ⟨_, _, _, rfl⟩)
          rw [hXZ] at GP_Z
          have GF_Z := By.set (i := 5) (u := .slice qZ nZ cZ) GF_G W_G (nb8 ⟨_, _, _, rfl⟩ ⟨_, _, _, rfl⟩ ⟨_, _, _, rfl⟩ ⟨_, _, _, rfl⟩ ⟨_, _, _, rfl⟩)
          rw [hXZ] at GF_Z
          have W_Z : UB b18 #[.slice qL k cL, .slice qH nH cH, .int .i64 own, .slice qW nW cW, .slice none 0 0, .slice qZ nZ cZ, .bool false, .bool true] XZ := by rw [← hXZ]; exact (W_G.set8 (.slice qZ nZ cZ)).2.2.2
          clear GF_G GP_G W_G L_G H_G U_G B_G
          have HXZ := Lib.hid hXZ
          clear hXZ
          by_cases hp0 : (own : Int) = 0
          case pos =>
            have e0 : (((own : Int)) == 0) = true := by rw [beq_iff_eq]; exact hp0
            have hpo := HPO.out
            rw [hp0] at hpo
            clear hp0
            have HE := Lib.hid (show canonU t = .inl 2 by rw [HC.out]; exact rest_port _ r HS.out HPE.out hpo)
            go_wp2
            rw [HXZ.out]
            obtain ⟨Y, hY, hU, hkY, hbY⟩ := UB.put (show UB w.heap.size #[.slice none 0 0, .slice none 0 0, .int .i64 0, .slice none 0 0, .slice none 0 0, .slice none 0 0, .bool false, .bool false] _ from U_Z) (.slice none 0 0) (.slice none 0 0) (.int .i64 0) (.slice none 0 0) (.slice none 0 0) (.slice none 0 0) (.bool false) (.bool false)
            rw [hY]
            (try simp only [Exit.inBlock, Exit.then])
            refine bodyPost_ret (ret_url2 rfl _ _ w.heap.size _ rfl hU rfl) rfl ?_
            rw [HE.out]
            exact ⟨by decide, rfl, B_Z.trans (hbY _ (Nat.le_refl _))⟩
          have e0 : (((own : Int)) == 0) = false := by rw [beq_eq_false_iff_ne]; exact hp0
          have hpo : portC (Ref.lowL s) (atSnd 58 (srvL r)) (atOk 58 (srvL r)) ≠ 0 := by rw [HPO.out]; exact hp0
          cases hpp : pathL (pthL r) with
          | none =>
            obtain rfl : ep = 2 := by have := HEP.out; rw [hpp] at this; exact this
            have hpp2 := Lib.hid hpp
            clear hpp
            have HE := Lib.hid (show canonU t = .inl 2 by rw [HC.out]; exact rest_path _ r HS.out HPE.out hpp2.out)
            go_wp2
            rw [HXZ.out]
            obtain ⟨Y, hY, hU, hkY, hbY⟩ := UB.put (show UB w.heap.size #[.slice none 0 0, .slice none 0 0, .int .i64 0, .slice none 0 0, .slice none 0 0, .slice none 0 0, .bool false, .bool false] _ from U_Z) (.slice none 0 0) (.slice none 0 0) (.int .i64 0) (.slice none 0 0) (.slice none 0 0) (.slice none 0 0) (.bool false) (.bool false)
            rw [hY]
            (try simp only [Exit.inBlock, Exit.then])
            refine bodyPost_ret (ret_url2 rfl _ _ w.heap.size _ rfl hU rfl) rfl ?_
            rw [HE.out]
            exact ⟨by decide, rfl, B_Z.trans (hbY _ (Nat.le_refl _))⟩
          | some pp =>
            obtain rfl : ep = 0 := by have := HEP.out; rw [hpp] at this; exact this
            cases hff : formL 2 (atSnd 35 r) with
            | none =>
              obtain rfl : ef = 2 := by have := HEF.out; rw [hff] at this; exact this
              have h4 := Lib.hid (show optC (atOk 35 r) (atSnd 35 r) = none by rw [Hbf.out]; exact hff)
              clear hff hpp
              have HE := Lib.hid (show canonU t = .inl 2 by rw [HC.out]; exact rest_frag _ r HS.out HPE.out h4.out)
              go_wp2
              rw [HXZ.out]
              obtain ⟨Y, hY, hU, hkY, hbY⟩ := UB.put (show UB w.heap.size #[.slice none 0 0, .slice none 0 0, .int .i64 0, .slice none 0 0, .slice none 0 0, .slice none 0 0, .bool false, .bool false] _ from U_Z) (.slice none 0 0) (.slice none 0 0) (.int .i64 0) (.slice none 0 0) (.slice none 0 0) (.slice none 0 0) (.bool false) (.bool false)
              rw [hY]
              (try simp only [Exit.inBlock, Exit.then])
              refine bodyPost_ret (ret_url2 rfl _ _ w.heap.size _ rfl hU rfl) rfl ?_
              rw [HE.out]
              exact ⟨by decide, rfl, B_Z.trans (hbY _ (Nat.le_refl _))⟩
            | some ff =>
              obtain rfl : ef = 0 := by have := HEF.out; rw [hff] at this; exact this
              have h3 : optC (atOk 63 (atFst 35 r)) (atSnd 63 (atFst 35 r)) = some [] := by rw [Hbq.out]; rfl
              have h4 : optC (atOk 35 r) (atSnd 35 r) = some ff := by rw [Hbf.out]; exact hff
              obtain ⟨pn, hpn, hrg⟩ := rest_good _ r HS.out HPE.out pp [] ff hpo hpp h3 h4
              rw [Hbq.out, Hbf.out] at hrg
              have hpn2 : (own : Int) = (pn : Int) := by rw [← HPO.out]; exact hpn
              have HE := Lib.hid (HC.out.trans hrg)
              have HPN := Lib.hid hpn2
              rw [hpp] at GP_Z
              rw [hff] at GF_Z
              clear hpo hrg hpn hpn2 h3 h4 hpp hff hp0
              go_wp2
              rw [HXZ.out]
              obtain ⟨Y, hY, hU, hkY, hbY⟩ := UB.put (show UB w.heap.size #[.slice none 0 0, .slice none 0 0, .int .i64 0, .slice none 0 0, .slice none 0 0, .slice none 0 0, .bool false, .bool false] _ from U_Z) (.slice qL k cL) (.slice qH nH cH) (.int .i64 own) (.slice qW nW cW) (.slice none 0 0) (.slice qZ nZ cZ) (.bool false) (.bool true)
              rw [hY]
              (try simp only [Exit.inBlock, Exit.then])
              refine bodyPost_ret (ret_url2 rfl _ _ w.heap.size _ rfl hU rfl) rfl ?_
              rw [HE.out]
              refine ⟨_, rfl, ⟨qL, k, cL, qH, nH, cH, qW, nW, cW, none, 0, 0, qZ, nZ, cZ, by rw [HPN.out], L_Z.away U_Z nbz hkY, H_Z.away U_Z nbz hkY, GP_Z.away U_Z nbz hkY, by_nil _, GF_Z.away U_Z nbz hkY⟩, B_Z.trans (hbY _ (Nat.le_refl _))⟩
      | true =>
        have yb := W_C.box
        have yc3 := yb 3 _ rfl
        have yf3 := W_C.frozen 3
        clear yb
        go_wp2_with fail
        clear yc3 yf3
        obtain ⟨XD, hXD⟩ : ∃ Z, XC.setCell ⟨b18, 3, none⟩ (.slice qW nW cW) = Z := ⟨_, rfl⟩
        rw [hXD]
        have B_D : Below w.heap.size w XD := by rw [← hXD]; exact B_C.setCell (p := ⟨b18, 3, none⟩) hle _
        have U_D : UB w.heap.size zeroU XD := by rw [← hXD]; exact U_C.other hne _
        have F_D := By.set (i := 3) (u := .slice qW nW cW) F_C W_C (nb8 ⟨_, _, _, rfl⟩ ⟨_, _, _, rfl⟩ ⟨_, _, _, rfl⟩ ⟨_, _, _, rfl⟩ ⟨_, _, _, rfl⟩)
        rw [hXD] at F_D
        have Q_D := By.set (i := 3) (u := .slice qW nW cW) Q_C W_C (nb8 ⟨_, _, _, rfl⟩ ⟨_, _, _, rfl⟩ ⟨_, _, _, rfl⟩ ⟨_, _, _, rfl⟩ ⟨_, _, _, rfl⟩)
        rw [hXD] at Q_D
        have H_D := By.set (i := 3) (u := .slice qW nW cW) H_C W_C (nb8 ⟨_, _, _, rfl⟩ ⟨_, _, _, rfl⟩ ⟨_, _, _, rfl⟩ ⟨_, _, _, rfl⟩ ⟨_, _, _, rfl⟩)
        rw [hXD] at H_D
        have L_D := By.set (i := 3) (u := .slice qW nW cW) L_C W_C (nb8 ⟨_, _, _, rfl⟩ ⟨_, _, _, rfl⟩ ⟨_, _, _, rfl⟩ ⟨_, _, _, rfl⟩ ⟨_, _, _, rfl⟩)
        rw [hXD] at L_D
        have GP_D := By.set (i := 3) (u := .slice qW nW cW) GP_C W_C (nb8 ⟨_, _, _, rfl⟩ ⟨_, _, _, rfl⟩ ⟨_, _, _, rfl⟩ ⟨_, _, _, rfl⟩ ⟨_, _, _, rfl⟩)
        rw [hXD] at GP_D
        have W_D : UB b18 #[.slice qL k cL, .slice qH nH cH, .int .i64 own, .slice qW nW cW, .slice none 0 0, .slice none 0 0, .bool true, .bool bf] XD := by rw [← hXD]; exact (W_C.set8 (.slice qW nW cW)).2.1
        clear GP_C W_C L_C H_C Q_C F_C U_C B_C
        clear hXD
        have con := Pct.Canon_any qQ nQ cQ (atSnd 63 (atFst 35 r)) 2 XD Q_D.at.1 (by omega) Q_D.at.2.2.2.2
        refine con.mono ?_
        rintro e XE ⟨vY, eq, rfl, heq, hr, hb⟩
        have HEQ : Hid (eq = if (formL 2 (atSnd 63 (atFst 35 r))).isSome then 0 else 2) := heq
        replace hr : XE.ownsRow XD.heap.size 5 1 vY ((formL 2 (atSnd 63 (atFst 35 r))).getD []).length (byV ((formL 2 (atSnd 63 (atFst 35 r))).getD [])) := hr
        obtain ⟨nY, hnY⟩ : ∃ n, ((formL 2 (atSnd 63 (atFst 35 r))).getD []).length = n := ⟨_, rfl⟩
        rw [hnY] at hr
        obtain ⟨qY, cY, rfl, _, _, _, _, _⟩ := row_open hr
        have GQ_E := By.row hr
        clear con hr hnY heq
        have B_E := B_D.trans (hb.mono B_D.size)
        have U_E := U_D.on hb
        have F_E := F_D.on hb
        have Q_E := Q_D.on hb
        have H_E := H_D.on hb
        have L_E := L_D.on hb
        have W_E := W_D.on hb
        have GP_E := GP_D.on hb
        clear GP_D W_D L_D H_D Q_D F_D U_D B_D hb
        clear Q_E
        cases bf with
        | false =>
          clear F_E
          have yb := W_E.box
          have yc0 := yb 0 _ rfl
          have yf0 := W_E.frozen 0
          have yc1 := yb 1 _ rfl
          have yf1 := W_E.frozen 1
          have yc2 := yb 2 _ rfl
          have yf2 := W_E.frozen 2
          have yc3 := yb 3 _ rfl
          have yf3 := W_E.frozen 3
          have yc4 := yb 4 _ rfl
          have yf4 := W_E.frozen 4
          have yc5 := yb 5 _ rfl
          have yf5 := W_E.frozen 5
          have yc6 := yb 6 _ rfl
          have yf6 := W_E.frozen 6
          have yc7 := yb 7 _ rfl
          have yf7 := W_E.frozen 7
          clear yb
          have zb := U_E.box
          have zc0 := zb 0 _ rfl
          have zf0 := U_E.frozen 0
          have zc1 := zb 1 _ rfl
          have zf1 := U_E.frozen 1
          have zc2 := zb 2 _ rfl
          have zf2 := U_E.frozen 2
          have zc3 := zb 3 _ rfl
          have zf3 := U_E.frozen 3
          have zc4 := zb 4 _ rfl
          have zf4 := U_E.frozen 4
          have zc5 := zb 5 _ rfl
          have zf5 := U_E.frozen 5
          have zc6 := zb 6 _ rfl
          have zf6 := U_E.frozen 6
          have zc7 := zb 7 _ rfl
          have zf7 := U_E.frozen 7
          clear zb
          obtain ⟨XZ, hXZ⟩ : ∃ Z, XE.setCell ⟨b18, 4, none⟩ (.slice qY nY cY) = Z := ⟨_, rfl⟩
          have B_Z : Below w.heap.size w XZ := by rw [← hXZ]; exact B_E.setCell (p := ⟨b18, 4, none⟩) hle _
          have U_Z : UB w.heap.size zeroU XZ := by rw [← hXZ]; exact U_E.other hne _
          have H_Z := By.set (i := 4) (u := .slice qY nY cY) H_E W_E (nb8 ⟨_, _, _, rfl⟩ ⟨_, _, _, rfl⟩ ⟨_, _, _, rfl⟩ ⟨_, _, _, rfl⟩ ⟨_, _, _, rfl⟩)
          rw [hXZ] at H_Z
          have L_Z := By.set (i := 4) (u := .slice qY nY cY) L_E W_E (nb8 ⟨_, _, _, rfl⟩ ⟨_, _, _, rfl⟩ ⟨_, _, _, rfl⟩ ⟨_, _, _, rfl⟩ ⟨_, _, _, rfl⟩)
          rw [hXZ] at L_Z
          have GP_Z := By.set (i := 4) (u := .slice qY nY cY) GP_E W_E (nb8 ⟨_, _, _, rfl⟩ ⟨_, _, _, rfl⟩ ⟨_, _, _, rfl⟩ ⟨_, _, _, rfl⟩ ⟨_, _, _, rfl⟩)
          rw [hXZ] at GP_Z
          have GQ_Z := By.set (i := 4) (u := .slice qY nY cY) GQ_E W_E (nb8 ⟨_, _, _, rfl⟩ ⟨_, _, _, rfl⟩ ⟨_, _, _, rfl⟩ ⟨_, _, _, rfl⟩ ⟨_, _, _, rfl⟩)
          rw [hXZ] at GQ_Z
          have W_Z : UB b18 #[.slice qL k cL, .slice qH nH cH, .int .i64 own, .slice qW nW cW, .slice qY nY cY, .slice none 0 0, .bool true, .bool false] XZ := by rw [← hXZ]; exact (W_E.set8 (.slice qY nY cY)).2.2.1
          clear GQ_E GP_E W_E L_E H_E U_E B_E
          have HXZ := Lib.hid hXZ
          clear hXZ
          by_cases hp0 : (own : Int) = 0
          case pos =>
            have e0 : (((own : Int)) == 0) = true := by rw [beq_iff_eq]; exact hp0
            have hpo := HPO.out
            rw [hp0] at hpo
            clear hp0
            have HE := Lib.hid (show canonU t = .inl 2 by rw [HC.out]; exact rest_port _ r HS.out HPE.out hpo)
            go_wp2
            rw [HXZ.out]
            obtain ⟨Y, hY, hU, hkY, hbY⟩ := UB.put (show UB w.heap.size #[.slice none 0 0, .slice none 0 0, .int .i64 0, .slice none 0 0, .slice none 0 0, .slice none 0 0, .bool false, .bool false] _ from U_Z) (.slice none 0 0) (.slice none 0 0) (.int .i64 0) (.slice none 0 0) (.slice none 0 0) (.slice none 0 0) (.bool false) (.bool false)
            rw [hY]
            (try simp only [Exit.inBlock, Exit.then])
            refine bodyPost_ret (ret_url2 rfl _ _ w.heap.size _ rfl hU rfl) rfl ?_
            rw [HE.out]
            exact ⟨by decide, rfl, B_Z.trans (hbY _ (Nat.le_refl _))⟩
          have e0 : (((own : Int)) == 0) = false := by rw [beq_eq_false_iff_ne]; exact hp0
          have hpo : portC (Ref.lowL s) (atSnd 58 (srvL r)) (atOk 58 (srvL r)) ≠ 0 := by rw [HPO.out]; exact hp0
          cases hpp : pathL (pthL r) with
          | none =>
            obtain rfl : ep = 2 := by have := HEP.out; rw [hpp] at this; exact this
            have hpp2 := Lib.hid hpp
            clear hpp
            have HE := Lib.hid (show canonU t = .inl 2 by rw [HC.out]; exact rest_path _ r HS.out HPE.out hpp2.out)
            go_wp2
            rw [HXZ.out]
            obtain ⟨Y, hY, hU, hkY, hbY⟩ := UB.put (show UB w.heap.size #[.slice none 0 0, .slice none 0 0, .int .i64 0, .slice none 0 0, .slice none 0 0, .slice none 0 0, .bool false, .bool false] _ from U_Z) (.slice none 0 0) (.slice none 0 0) (.int .i64 0) (.slice none 0 0) (.slice none 0 0) (.slice none 0 0) (.bool false) (.bool false)
            rw [hY]
            (try simp only [Exit.inBlock, Exit.then])
            refine bodyPost_ret (ret_url2 rfl _ _ w.heap.size _ rfl hU rfl) rfl ?_
            rw [HE.out]
            exact ⟨by decide, rfl, B_Z.trans (hbY _ (Nat.le_refl _))⟩
          | some pp =>
            obtain rfl : ep = 0 := by have := HEP.out; rw [hpp] at this; exact this
            cases hqq : formL 2 (atSnd 63 (atFst 35 r)) with
            | none =>
              obtain rfl : eq = 2 := by have := HEQ.out; rw [hqq] at this; exact this
              have h3 := Lib.hid (show optC (atOk 63 (atFst 35 r)) (atSnd 63 (atFst 35 r)) = none by rw [Hbq.out]; exact hqq)
              clear hqq hpp
              have HE := Lib.hid (show canonU t = .inl 2 by rw [HC.out]; exact rest_query _ r HS.out HPE.out h3.out)
              go_wp2
              rw [HXZ.out]
              obtain ⟨Y, hY, hU, hkY, hbY⟩ := UB.put (show UB w.heap.size #[.slice none 0 0, .slice none 0 0, .int .i64 0, .slice none 0 0, .slice none 0 0, .slice none 0 0, .bool false, .bool false] _ from U_Z) (.slice none 0 0) (.slice none 0 0) (.int .i64 0) (.slice none 0 0) (.slice none 0 0) (.slice none 0 0) (.bool false) (.bool false)
              rw [hY]
              (try simp only [Exit.inBlock, Exit.then])
              refine bodyPost_ret (ret_url2 rfl _ _ w.heap.size _ rfl hU rfl) rfl ?_
              rw [HE.out]
              exact ⟨by decide, rfl, B_Z.trans (hbY _ (Nat.le_refl _))⟩
            | some qq =>
              obtain rfl : eq = 0 := by have := HEQ.out; rw [hqq] at this; exact this
              have h3 : optC (atOk 63 (atFst 35 r)) (atSnd 63 (atFst 35 r)) = some qq := by rw [Hbq.out]; exact hqq
              have h4 : optC (atOk 35 r) (atSnd 35 r) = some [] := by rw [Hbf.out]; rfl
              obtain ⟨pn, hpn, hrg⟩ := rest_good _ r HS.out HPE.out pp qq [] hpo hpp h3 h4
              rw [Hbq.out, Hbf.out] at hrg
              have hpn2 : (own : Int) = (pn : Int) := by rw [← HPO.out]; exact hpn
              have HE := Lib.hid (HC.out.trans hrg)
              have HPN := Lib.hid hpn2
              rw [hpp] at GP_Z
              rw [hqq] at GQ_Z
              clear hpo hrg hpn hpn2 h3 h4 hpp hqq  hp0
              go_wp2
              rw [HXZ.out]
              obtain ⟨Y, hY, hU, hkY, hbY⟩ := UB.put (show UB w.heap.size #[.slice none 0 0, .slice none 0 0, .int .i64 0, .slice none 0 0, .slice none 0 0, .slice none 0 0, .bool false, .bool false] _ from U_Z) (.slice qL k cL) (.slice qH nH cH) (.int .i64 own) (.slice qW nW cW) (.slice qY nY cY) (.slice none 0 0) (.bool true) (.bool false)
              rw [hY]
              (try simp only [Exit.inBlock, Exit.then])
              refine bodyPost_ret (ret_url2 rfl _ _ w.heap.size _ rfl hU rfl) rfl ?_
              rw [HE.out]
              refine ⟨_, rfl, ⟨qL, k, cL, qH, nH, cH, qW, nW, cW, qY, nY, cY, none, 0, 0, by rw [HPN.out], L_Z.away U_Z nbz hkY, H_Z.away U_Z nbz hkY, GP_Z.away U_Z nbz hkY, GQ_Z.away U_Z nbz hkY, by_nil _⟩, B_Z.trans (hbY _ (Nat.le_refl _))⟩
        | true =>
          have yb := W_E.box
          have yc4 := yb 4 _ rfl
          have yf4 := W_E.frozen 4
          clear yb
          go_wp2_with fail
          clear yc4 yf4
          obtain ⟨XF, hXF⟩ : ∃ Z, XE.setCell ⟨b18, 4, none⟩ (.slice qY nY cY) = Z := ⟨_, rfl⟩
          rw [hXF]
          have B_F : Below w.heap.size w XF := by rw [← hXF]; exact B_E.setCell (p := ⟨b18, 4, none⟩) hle _
          have U_F : UB w.heap.size zeroU XF := by rw [← hXF]; exact U_E.other hne _
          have F_F := By.set (i := 4) (u := .slice qY nY cY) F_E W_E (nb8 ⟨_, _, _, rfl⟩ ⟨_, _, _, rfl⟩ ⟨_, _, _, rfl⟩ ⟨_, _, _, rfl⟩ ⟨_, _, _, rfl⟩)
          rw [hXF] at F_F
          have H_F := By.set (i := 4) (u := .slice qY nY cY) H_E W_E (nb8 ⟨_, _, _, rfl⟩ ⟨_, _, _, rfl⟩ ⟨_, _, _, rfl⟩ ⟨_, _, _, rfl⟩ ⟨_, _, _, rfl⟩)
          rw [hXF] at H_F
          have L_F := By.set (i := 4) (u := .slice qY nY cY) L_E W_E (nb8 ⟨_, _, _, rfl⟩ ⟨_, _, _, rfl⟩ ⟨_, _, _, rfl⟩ ⟨_, _, _, rfl⟩ ⟨_, _, _, rfl⟩)
          rw [hXF] at L_F
          have GP_F := By.set (i := 4) (u := .slice qY nY cY) GP_E W_E (nb8 ⟨_, _, _, rfl⟩ ⟨_, _, _, rfl⟩ ⟨_, _, _, rfl⟩ ⟨_, _, _, rfl⟩ ⟨_, _, _, rfl⟩)
          rw [hXF] at GP_F
          have GQ_F := By.set (i := 4) (u := .slice qY nY cY) GQ_E W_E (nb8 ⟨_, _, _, rfl⟩ ⟨_, _, _, rfl⟩ ⟨_, _, _, rfl⟩ ⟨_, _, _, rfl⟩ ⟨_, _, _, rfl⟩)
          rw [hXF] at GQ_F
          have W_F : UB b18 #[.slice qL k cL, .slice qH nH cH, .int .i64 own, .slice qW nW cW, .slice qY nY cY, .slice none 0 0, .bool true, .bool true] XF := by rw [← hXF]; exact (W_E.set8 (.slice qY nY cY)).2.2.1
          clear GQ_E GP_E W_E L_E H_E F_E U_E B_E
          clear hXF
          have con := Pct.Canon_any qF nF cF (atSnd 35 r) 2 XF F_F.at.1 (by omega) F_F.at.2.2.2.2
          refine con.mono ?_
          rintro e XG ⟨vZ, ef, rfl, hef, hr, hb⟩
          have HEF : Hid (ef = if (formL 2 (atSnd 35 r)).isSome then 0 else 2) := hef
          replace hr : XG.ownsRow XF.heap.size 5 1 vZ ((formL 2 (atSnd 35 r)).getD []).length (byV ((formL 2 (atSnd 35 r)).getD [])) := hr
          obtain ⟨nZ, hnZ⟩ : ∃ n, ((formL 2 (atSnd 35 r)).getD []).length = n := ⟨_, rfl⟩
          rw [hnZ] at hr
          obtain ⟨qZ, cZ, rfl, _, _, _, _, _⟩ := row_open hr
          have GF_G := By.row hr
          clear con hr hnZ hef
          have B_G := B_F.trans (hb.mono B_F.size)
          have U_G := U_F.on hb
          have F_G := F_F.on hb
          have H_G := H_F.on hb
          have L_G := L_F.on hb
          have W_G := W_F.on hb
          have GP_G := GP_F.on hb
          have GQ_G := GQ_F.on hb
          clear GQ_F GP_F W_F L_F H_F F_F U_F B_F hb
          clear F_G
          have yb := W_G.box
          have yc0 := yb 0 _ rfl
          have yf0 := W_G.frozen 0
          have yc1 := yb 1 _ rfl
          have yf1 := W_G.frozen 1
          have yc2 := yb 2 _ rfl
          have yf2 := W_G.frozen 2
          have yc3 := yb 3 _ rfl
          have yf3 := W_G.frozen 3
          have yc4 := yb 4 _ rfl
          have yf4 := W_G.frozen 4
          have yc5 := yb 5 _ rfl
          have yf5 := W_G.frozen 5
          have yc6 := yb 6 _ rfl
          have yf6 := W_G.frozen 6
          have yc7 := yb 7 _ rfl
          have yf7 := W_G.frozen 7
          clear yb
          have zb := U_G.box
          have zc0 := zb 0 _ rfl
          have zf0 := U_G.frozen 0
          have zc1 := zb 1 _ rfl
          have zf1 := U_G.frozen 1
          have zc2 := zb 2 _ rfl
          have zf2 := U_G.frozen 2
          have zc3 := zb 3 _ rfl
          have zf3 := U_G.frozen 3
          have zc4 := zb 4 _ rfl
          have zf4 := U_G.frozen 4
          have zc5 := zb 5 _ rfl
          have zf5 := U_G.frozen 5
          have zc6 := zb 6 _ rfl
          have zf6 := U_G.frozen 6
          have zc7 := zb 7 _ rfl
          have zf7 := U_G.frozen 7
          clear zb
          obtain ⟨XZ, hXZ⟩ : ∃ Z, XG.setCell ⟨b18, 5, none⟩ (.slice qZ nZ cZ) = Z := ⟨_, rfl⟩
          have B_Z : Below w.heap.size w XZ := by rw [← hXZ]; exact B_G.setCell (p := ⟨b18, 5, none⟩) hle _
          have U_Z : UB w.heap.size zeroU XZ := by rw [← hXZ]; exact U_G.other hne _
          have H_Z := By.set (i := 5) (u := .slice qZ nZ cZ) H_G W_G (nb8 ⟨_, _, _, rfl⟩ ⟨_, _, _, rfl⟩ ⟨_, _, _, rfl⟩ ⟨_, _, _, rfl⟩ ⟨_, _, _, rfl⟩)
          rw [hXZ] at H_Z
          have L_Z := By.set (i := 5) (u := .slice qZ nZ cZ) L_G W_G (nb8 ⟨_, _, _, rfl⟩ ⟨_, _, _, rfl⟩ ⟨_, _, _, rfl⟩ ⟨_, _, _, rfl⟩ ⟨_, _, _, rfl⟩)
          rw [hXZ] at L_Z
          have GP_Z := By.set (i := 5) (u := .slice qZ nZ cZ) GP_G W_G (nb8 ⟨_, _, _, rfl⟩ ⟨_, _, _, rfl⟩ ⟨_, _, _, rfl⟩ ⟨_, _, _, rfl⟩ ⟨_, _, _, rfl⟩)
          rw [hXZ] at GP_Z
          have GQ_Z := By.set (i := 5) (u := .slice qZ nZ cZ) GQ_G W_G (nb8 ⟨_, _, _, rfl⟩ ⟨_, _, _, rfl⟩ ⟨_, _, _, rfl⟩ ⟨_, _, _, rfl⟩ ⟨_, _, _, rfl⟩)
          rw [hXZ] at GQ_Z
          have GF_Z := By.set (i := 5) (u := .slice qZ nZ cZ) GF_G W_G (nb8 ⟨_, _, _, rfl⟩ ⟨_, _, _, rfl⟩ ⟨_, _, _, rfl⟩ ⟨_, _, _, rfl⟩ ⟨_, _, _, rfl⟩)
          rw [hXZ] at GF_Z
          have W_Z : UB b18 #[.slice qL k cL, .slice qH nH cH, .int .i64 own, .slice qW nW cW, .slice qY nY cY, .slice qZ nZ cZ, .bool true, .bool true] XZ := by rw [← hXZ]; exact (W_G.set8 (.slice qZ nZ cZ)).2.2.2
          clear GF_G GQ_G GP_G W_G L_G H_G U_G B_G
          have HXZ := Lib.hid hXZ
          clear hXZ
          by_cases hp0 : (own : Int) = 0
          case pos =>
            have e0 : (((own : Int)) == 0) = true := by rw [beq_iff_eq]; exact hp0
            have hpo := HPO.out
            rw [hp0] at hpo
            clear hp0
            have HE := Lib.hid (show canonU t = .inl 2 by rw [HC.out]; exact rest_port _ r HS.out HPE.out hpo)
            go_wp2
            rw [HXZ.out]
            obtain ⟨Y, hY, hU, hkY, hbY⟩ := UB.put (show UB w.heap.size #[.slice none 0 0, .slice none 0 0, .int .i64 0, .slice none 0 0, .slice none 0 0, .slice none 0 0, .bool false, .bool false] _ from U_Z) (.slice none 0 0) (.slice none 0 0) (.int .i64 0) (.slice none 0 0) (.slice none 0 0) (.slice none 0 0) (.bool false) (.bool false)
            rw [hY]
            (try simp only [Exit.inBlock, Exit.then])
            refine bodyPost_ret (ret_url2 rfl _ _ w.heap.size _ rfl hU rfl) rfl ?_
            rw [HE.out]
            exact ⟨by decide, rfl, B_Z.trans (hbY _ (Nat.le_refl _))⟩
          have e0 : (((own : Int)) == 0) = false := by rw [beq_eq_false_iff_ne]; exact hp0
          have hpo : portC (Ref.lowL s) (atSnd 58 (srvL r)) (atOk 58 (srvL r)) ≠ 0 := by rw [HPO.out]; exact hp0
          cases hpp : pathL (pthL r) with
          | none =>
            obtain rfl : ep = 2 := by have := HEP.out; rw [hpp] at this; exact this
            have hpp2 := Lib.hid hpp
            clear hpp
            have HE := Lib.hid (show canonU t = .inl 2 by rw [HC.out]; exact rest_path _ r HS.out HPE.out hpp2.out)
            go_wp2
            rw [HXZ.out]
            obtain ⟨Y, hY, hU, hkY, hbY⟩ := UB.put (show UB w.heap.size #[.slice none 0 0, .slice none 0 0, .int .i64 0, .slice none 0 0, .slice none 0 0, .slice none 0 0, .bool false, .bool false] _ from U_Z) (.slice none 0 0) (.slice none 0 0) (.int .i64 0) (.slice none 0 0) (.slice none 0 0) (.slice none 0 0) (.bool false) (.bool false)
            rw [hY]
            (try simp only [Exit.inBlock, Exit.then])
            refine bodyPost_ret (ret_url2 rfl _ _ w.heap.size _ rfl hU rfl) rfl ?_
            rw [HE.out]
            exact ⟨by decide, rfl, B_Z.trans (hbY _ (Nat.le_refl _))⟩
          | some pp =>
            obtain rfl : ep = 0 := by have := HEP.out; rw [hpp] at this; exact this
            cases hqq : formL 2 (atSnd 63 (atFst 35 r)) with
            | none =>
              obtain rfl : eq = 2 := by have := HEQ.out; rw [hqq] at this; exact this
              have h3 := Lib.hid (show optC (atOk 63 (atFst 35 r)) (atSnd 63 (atFst 35 r)) = none by rw [Hbq.out]; exact hqq)
              clear hqq hpp
              have HE := Lib.hid (show canonU t = .inl 2 by rw [HC.out]; exact rest_query _ r HS.out HPE.out h3.out)
              go_wp2
              rw [HXZ.out]
              obtain ⟨Y, hY, hU, hkY, hbY⟩ := UB.put (show UB w.heap.size #[.slice none 0 0, .slice none 0 0, .int .i64 0, .slice none 0 0, .slice none 0 0, .slice none 0 0, .bool false, .bool false] _ from U_Z) (.slice none 0 0) (.slice none 0 0) (.int .i64 0) (.slice none 0 0) (.slice none 0 0) (.slice none 0 0) (.bool false) (.bool false)
              rw [hY]
              (try simp only [Exit.inBlock, Exit.then])
              refine bodyPost_ret (ret_url2 rfl _ _ w.heap.size _ rfl hU rfl) rfl ?_
              rw [HE.out]
              exact ⟨by decide, rfl, B_Z.trans (hbY _ (Nat.le_refl _))⟩
            | some qq =>
              obtain rfl : eq = 0 := by have := HEQ.out; rw [hqq] at this; exact this
              cases hff : formL 2 (atSnd 35 r) with
              | none =>
                obtain rfl : ef = 2 := by have := HEF.out; rw [hff] at this; exact this
                have h4 := Lib.hid (show optC (atOk 35 r) (atSnd 35 r) = none by rw [Hbf.out]; exact hff)
                clear hff hpp
                have HE := Lib.hid (show canonU t = .inl 2 by rw [HC.out]; exact rest_frag _ r HS.out HPE.out h4.out)
                go_wp2
                rw [HXZ.out]
                obtain ⟨Y, hY, hU, hkY, hbY⟩ := UB.put (show UB w.heap.size #[.slice none 0 0, .slice none 0 0, .int .i64 0, .slice none 0 0, .slice none 0 0, .slice none 0 0, .bool false, .bool false] _ from U_Z) (.slice none 0 0) (.slice none 0 0) (.int .i64 0) (.slice none 0 0) (.slice none 0 0) (.slice none 0 0) (.bool false) (.bool false)
                rw [hY]
                (try simp only [Exit.inBlock, Exit.then])
                refine bodyPost_ret (ret_url2 rfl _ _ w.heap.size _ rfl hU rfl) rfl ?_
                rw [HE.out]
                exact ⟨by decide, rfl, B_Z.trans (hbY _ (Nat.le_refl _))⟩
              | some ff =>
                obtain rfl : ef = 0 := by have := HEF.out; rw [hff] at this; exact this
                have h3 : optC (atOk 63 (atFst 35 r)) (atSnd 63 (atFst 35 r)) = some qq := by rw [Hbq.out]; exact hqq
                have h4 : optC (atOk 35 r) (atSnd 35 r) = some ff := by rw [Hbf.out]; exact hff
                obtain ⟨pn, hpn, hrg⟩ := rest_good _ r HS.out HPE.out pp qq ff hpo hpp h3 h4
                rw [Hbq.out, Hbf.out] at hrg
                have hpn2 : (own : Int) = (pn : Int) := by rw [← HPO.out]; exact hpn
                have HE := Lib.hid (HC.out.trans hrg)
                have HPN := Lib.hid hpn2
                rw [hpp] at GP_Z
                rw [hqq] at GQ_Z
                rw [hff] at GF_Z
                clear hpo hrg hpn hpn2 h3 h4 hpp hqq hff hp0
                go_wp2
                rw [HXZ.out]
                obtain ⟨Y, hY, hU, hkY, hbY⟩ := UB.put (show UB w.heap.size #[.slice none 0 0, .slice none 0 0, .int .i64 0, .slice none 0 0, .slice none 0 0, .slice none 0 0, .bool false, .bool false] _ from U_Z) (.slice qL k cL) (.slice qH nH cH) (.int .i64 own) (.slice qW nW cW) (.slice qY nY cY) (.slice qZ nZ cZ) (.bool true) (.bool true)
                rw [hY]
                (try simp only [Exit.inBlock, Exit.then])
                refine bodyPost_ret (ret_url2 rfl _ _ w.heap.size _ rfl hU rfl) rfl ?_
                rw [HE.out]
                refine ⟨_, rfl, ⟨qL, k, cL, qH, nH, cH, qW, nW, cW, qY, nY, cY, qZ, nZ, cZ, by rw [HPN.out], L_Z.away U_Z nbz hkY, H_Z.away U_Z nbz hkY, GP_Z.away U_Z nbz hkY, GQ_Z.away U_Z nbz hkY, GF_Z.away U_Z nbz hkY⟩, B_Z.trans (hbY _ (Nat.le_refl _))⟩
    | true =>
      have con := Number_any qD nD cD (atSnd 58 (srvL r)) 65535 XA D_A.at.1 (by omega) D_A.at.2.2.2.2 (by decide) (by decide)
      obtain ⟨pv, hpv⟩ : ∃ p, (numOf 65535 (atSnd 58 (srvL r))).getD 0 = p := ⟨_, rfl⟩
      have HPO := Lib.hid (show portC (Ref.lowL s) (atSnd 58 (srvL r)) (atOk 58 (srvL r)) = pv by rw [Hbp.out, ← hpv]; rfl)
      unfold numV at con
      rw [hpv] at con
      generalize (numOf 65535 (atSnd 58 (srvL r))).isSome = ps at con
      clear hpv
      go_wp2_with fail
      rw [HB18.out, HXA.out]
      refine con.mono ?_
      rintro e XB ⟨rfl, rfl⟩
      clear con
      clear D_A
      have yb := W_A.box
      have yc2 := yb 2 _ rfl
      have yf2 := W_A.frozen 2
      clear yb
      go_wp2_with fail
      clear yc2 yf2
      obtain ⟨XB, hXB⟩ : ∃ Z, XA.setCell ⟨b18, 2, none⟩ (.int .i64 pv) = Z := ⟨_, rfl⟩
      rw [hXB]
      have B_B : Below w.heap.size w XB := by rw [← hXB]; exact B_A.setCell (p := ⟨b18, 2, none⟩) hle _
      have U_B : UB w.heap.size zeroU XB := by rw [← hXB]; exact U_A.other hne _
      have F_B := By.set (i := 2) (u := .int .i64 pv) F_A W_A (nb8 ⟨_, _, _, rfl⟩ ⟨_, _, _, rfl⟩ ⟨_, _, _, rfl⟩ ⟨_, _, _, rfl⟩ ⟨_, _, _, rfl⟩)
      rw [hXB] at F_B
      have Q_B := By.set (i := 2) (u := .int .i64 pv) Q_A W_A (nb8 ⟨_, _, _, rfl⟩ ⟨_, _, _, rfl⟩ ⟨_, _, _, rfl⟩ ⟨_, _, _, rfl⟩ ⟨_, _, _, rfl⟩)
      rw [hXB] at Q_B
      have P_B := By.set (i := 2) (u := .int .i64 pv) P_A W_A (nb8 ⟨_, _, _, rfl⟩ ⟨_, _, _, rfl⟩ ⟨_, _, _, rfl⟩ ⟨_, _, _, rfl⟩ ⟨_, _, _, rfl⟩)
      rw [hXB] at P_B
      have H_B := By.set (i := 2) (u := .int .i64 pv) H_A W_A (nb8 ⟨_, _, _, rfl⟩ ⟨_, _, _, rfl⟩ ⟨_, _, _, rfl⟩ ⟨_, _, _, rfl⟩ ⟨_, _, _, rfl⟩)
      rw [hXB] at H_B
      have L_B := By.set (i := 2) (u := .int .i64 pv) L_A W_A (nb8 ⟨_, _, _, rfl⟩ ⟨_, _, _, rfl⟩ ⟨_, _, _, rfl⟩ ⟨_, _, _, rfl⟩ ⟨_, _, _, rfl⟩)
      rw [hXB] at L_B
      have W_B : UB b18 #[.slice qL k cL, .slice qH nH cH, .int .i64 pv, .slice none 0 0, .slice none 0 0, .slice none 0 0, .bool bq, .bool bf] XB := by rw [← hXB]; exact (W_A.set8 (.int .i64 pv)).1
      clear W_A L_A H_A P_A Q_A F_A U_A B_A
      clear hXB
      have con := canonOfPath_any qP nP cP (pthL r) XB P_B (by omega) HPF.out
      refine con.mono ?_
      rintro e XC ⟨vW, ep, rfl, hep, hr, hb⟩
      have HEP : Hid (ep = if (pathL (pthL r)).isSome then 0 else 2) := hep
      replace hr : XC.ownsRow XB.heap.size 5 1 vW ((pathL (pthL r)).getD []).length (byV ((pathL (pthL r)).getD [])) := hr
      obtain ⟨nW, hnW⟩ : ∃ n, ((pathL (pthL r)).getD []).length = n := ⟨_, rfl⟩
      rw [hnW] at hr
      obtain ⟨qW, cW, rfl, _, _, _, _, _⟩ := row_open hr
      have GP_C := By.row hr
      clear con hr hnW hep
      have B_C := B_B.trans (hb.mono B_B.size)
      have U_C := U_B.on hb
      have F_C := F_B.on hb
      have Q_C := Q_B.on hb
      have P_C := P_B.on hb
      have H_C := H_B.on hb
      have L_C := L_B.on hb
      have W_C := W_B.on hb
      clear W_B L_B H_B P_B Q_B F_B U_B B_B hb
      clear P_C
      cases bq with
      | false =>
        clear Q_C
        cases bf with
        | false =>
          clear F_C
          have yb := W_C.box
          have yc0 := yb 0 _ rfl
          have yf0 := W_C.frozen 0
          have yc1 := yb 1 _ rfl
          have yf1 := W_C.frozen 1
          have yc2 := yb 2 _ rfl
          have yf2 := W_C.frozen 2
          have yc3 := yb 3 _ rfl
          have yf3 := W_C.frozen 3
          have yc4 := yb 4 _ rfl
          have yf4 := W_C.frozen 4
          have yc5 := yb 5 _ rfl
          have yf5 := W_C.frozen 5
          have yc6 := yb 6 _ rfl
          have yf6 := W_C.frozen 6
          have yc7 := yb 7 _ rfl
          have yf7 := W_C.frozen 7
          clear yb
          have zb := U_C.box
          have zc0 := zb 0 _ rfl
          have zf0 := U_C.frozen 0
          have zc1 := zb 1 _ rfl
          have zf1 := U_C.frozen 1
          have zc2 := zb 2 _ rfl
          have zf2 := U_C.frozen 2
          have zc3 := zb 3 _ rfl
          have zf3 := U_C.frozen 3
          have zc4 := zb 4 _ rfl
          have zf4 := U_C.frozen 4
          have zc5 := zb 5 _ rfl
          have zf5 := U_C.frozen 5
          have zc6 := zb 6 _ rfl
          have zf6 := U_C.frozen 6
          have zc7 := zb 7 _ rfl
          have zf7 := U_C.frozen 7
          clear zb
          obtain ⟨XZ, hXZ⟩ : ∃ Z, XC.setCell ⟨b18, 3, none⟩ (.slice qW nW cW) = Z := ⟨_, rfl⟩
          have B_Z : Below w.heap.size w XZ := by rw [← hXZ]; exact B_C.setCell (p := ⟨b18, 3, none⟩) hle _
          have U_Z : UB w.heap.size zeroU XZ := by rw [← hXZ]; exact U_C.other hne _
          have H_Z := By.set (i := 3) (u := .slice qW nW cW) H_C W_C (nb8 ⟨_, _, _, rfl⟩ ⟨_, _, _, rfl⟩ ⟨_, _, _, rfl⟩ ⟨_, _, _, rfl⟩ ⟨_, _, _, rfl⟩)
          rw [hXZ] at H_Z
          have L_Z := By.set (i := 3) (u := .slice qW nW cW) L_C W_C (nb8 ⟨_, _, _, rfl⟩ ⟨_, _, _, rfl⟩ ⟨_, _, _, rfl⟩ ⟨_, _, _, rfl⟩ ⟨_, _, _, rfl⟩)
          rw [hXZ] at L_Z
          have GP_Z := By.set (i := 3) (u := .slice qW nW cW) GP_C W_C (nb8 ⟨_, _, _, rfl⟩ ⟨_, _, _, rfl⟩ ⟨_, _, _, rfl⟩ ⟨_, _, _, rfl⟩ ⟨_, _, _, rfl⟩)
          rw [hXZ] at GP_Z
          have W_Z : UB b18 #[.slice qL k cL, .slice qH nH cH, .int .i64 pv, .slice qW nW cW, .slice none 0 0, .slice none 0 0, .bool false, .bool false] XZ := by rw [← hXZ]; exact (W_C.set8 (.slice qW nW cW)).2.1
          clear GP_C W_C L_C H_C U_C B_C
          have HXZ := Lib.hid hXZ
          clear hXZ
          by_cases hp0 : (pv : Int) = 0
          case pos =>
            have e0 : (((pv : Int)) == 0) = true := by rw [beq_iff_eq]; exact hp0
            have hpo := HPO.out
            rw [hp0] at hpo
            clear hp0
            have HE := Lib.hid (show canonU t = .inl 2 by rw [HC.out]; exact rest_port _ r HS.out HPE.out hpo)
            go_wp2
            rw [HXZ.out]
            obtain ⟨Y, hY, hU, hkY, hbY⟩ := UB.put (show UB w.heap.size #[.slice none 0 0, .slice none 0 0, .int .i64 0, .slice none 0 0, .slice none 0 0, .slice none 0 0, .bool false, .bool false] _ from U_Z) (.slice none 0 0) (.slice none 0 0) (.int .i64 0) (.slice none 0 0) (.slice none 0 0) (.slice none 0 0) (.bool false) (.bool false)
            rw [hY]
            (try simp only [Exit.inBlock, Exit.then])
            refine bodyPost_ret (ret_url2 rfl _ _ w.heap.size _ rfl hU rfl) rfl ?_
            rw [HE.out]
            exact ⟨by decide, rfl, B_Z.trans (hbY _ (Nat.le_refl _))⟩
          have e0 : (((pv : Int)) == 0) = false := by rw [beq_eq_false_iff_ne]; exact hp0
          have hpo : portC (Ref.lowL s) (atSnd 58 (srvL r)) (atOk 58 (srvL r)) ≠ 0 := by rw [HPO.out]; exact hp0
          cases hpp : pathL (pthL r) with
          | none =>
            obtain rfl : ep = 2 := by have := HEP.out; rw [hpp] at this; exact this
            have hpp2 := Lib.hid hpp
            clear hpp
            have HE := Lib.hid (show canonU t = .inl 2 by rw [HC.out]; exact rest_path _ r HS.out HPE.out hpp2.out)
            go_wp2
            rw [HXZ.out]
            obtain ⟨Y, hY, hU, hkY, hbY⟩ := UB.put (show UB w.heap.size #[.slice none 0 0, .slice none 0 0, .int .i64 0, .slice none 0 0, .slice none 0 0, .slice none 0 0, .bool false, .bool false] _ from U_Z) (.slice none 0 0) (.slice none 0 0) (.int .i64 0) (.slice none 0 0) (.slice none 0 0) (.slice none 0 0) (.bool false) (.bool false)
            rw [hY]
            (try simp only [Exit.inBlock, Exit.then])
            refine bodyPost_ret (ret_url2 rfl _ _ w.heap.size _ rfl hU rfl) rfl ?_
            rw [HE.out]
            exact ⟨by decide, rfl, B_Z.trans (hbY _ (Nat.le_refl _))⟩
          | some pp =>
            obtain rfl : ep = 0 := by have := HEP.out; rw [hpp] at this; exact this
            have h3 : optC (atOk 63 (atFst 35 r)) (atSnd 63 (atFst 35 r)) = some [] := by rw [Hbq.out]; rfl
            have h4 : optC (atOk 35 r) (atSnd 35 r) = some [] := by rw [Hbf.out]; rfl
            obtain ⟨pn, hpn, hrg⟩ := rest_good _ r HS.out HPE.out pp [] [] hpo hpp h3 h4
            rw [Hbq.out, Hbf.out] at hrg
            have hpn2 : (pv : Int) = (pn : Int) := by rw [← HPO.out]; exact hpn
            have HE := Lib.hid (HC.out.trans hrg)
            have HPN := Lib.hid hpn2
            rw [hpp] at GP_Z
            clear hpo hrg hpn hpn2 h3 h4 hpp  hp0
            go_wp2
            rw [HXZ.out]
            obtain ⟨Y, hY, hU, hkY, hbY⟩ := UB.put (show UB w.heap.size #[.slice none 0 0, .slice none 0 0, .int .i64 0, .slice none 0 0, .slice none 0 0, .slice none 0 0, .bool false, .bool false] _ from U_Z) (.slice qL k cL) (.slice qH nH cH) (.int .i64 pv) (.slice qW nW cW) (.slice none 0 0) (.slice none 0 0) (.bool false) (.bool false)
            rw [hY]
            (try simp only [Exit.inBlock, Exit.then])
            refine bodyPost_ret (ret_url2 rfl _ _ w.heap.size _ rfl hU rfl) rfl ?_
            rw [HE.out]
            refine ⟨_, rfl, ⟨qL, k, cL, qH, nH, cH, qW, nW, cW, none, 0, 0, none, 0, 0, by rw [HPN.out], L_Z.away U_Z nbz hkY, H_Z.away U_Z nbz hkY, GP_Z.away U_Z nbz hkY, by_nil _, by_nil _⟩, B_Z.trans (hbY _ (Nat.le_refl _))⟩
        | true =>
          have yb := W_C.box
          have yc3 := yb 3 _ rfl
          have yf3 := W_C.frozen 3
          clear yb
          go_wp2_with fail
          clear yc3 yf3
          obtain ⟨XF, hXF⟩ : ∃ Z, XC.setCell ⟨b18, 3, none⟩ (.slice qW nW cW) = Z := ⟨_, rfl⟩
          rw [hXF]
          have B_F : Below w.heap.size w XF := by rw [← hXF]; exact B_C.setCell (p := ⟨b18, 3, none⟩) hle _
          have U_F : UB w.heap.size zeroU XF := by rw [← hXF]; exact U_C.other hne _
          have F_F := By.set (i := 3) (u := .slice qW nW cW) F_C W_C (nb8 ⟨_, _, _, rfl⟩ ⟨_, _, _, rfl⟩ ⟨_, _, _, rfl⟩ ⟨_, _, _, rfl⟩ ⟨_, _, _, rfl⟩)
          rw [hXF] at F_F
          have H_F := By.set (i := 3) (u := .slice qW nW cW) H_C W_C (nb8 ⟨_, _, _, rfl⟩ ⟨_, _, _, rfl⟩ ⟨_, _, _, rfl⟩ ⟨_, _, _, rfl⟩ ⟨_, _, _, rfl⟩)
          rw [hXF] at H_F
          have L_F := By.set (i := 3) (u := .slice qW nW cW) L_C W_C (nb8 ⟨_, _, _, rfl⟩ ⟨_, _, _, rfl⟩ ⟨_, _, _, rfl⟩ ⟨_, _, _, rfl⟩ ⟨_, _, _, rfl⟩)
          rw [hXF] at L_F
          have GP_F := By.set (i := 3) (u := .slice qW nW cW) GP_C W_C (nb8 ⟨_, _, _, rfl⟩ ⟨_, _, _, rfl⟩ ⟨_, _, _, rfl⟩ ⟨_, _, _, rfl⟩ ⟨_, _, _, rfl⟩)
          rw [hXF] at GP_F
          have W_F : UB b18 #[.slice qL k cL, .slice qH nH cH, .int .i64 pv, .slice qW nW cW, .slice none 0 0, .slice none 0 0, .bool false, .bool true] XF := by rw [← hXF]; exact (W_C.set8 (.slice qW nW cW)).2.1
          clear GP_C W_C L_C H_C F_C U_C B_C
          clear hXF
          have con := Pct.Canon_any qF nF cF (atSnd 35 r) 2 XF F_F.at.1 (by omega) F_F.at.2.2.2.2
          refine con.mono ?_
          rintro e XG ⟨vZ, ef, rfl, hef, hr, hb⟩
          have HEF : Hid (ef = if (formL 2 (atSnd 35 r)).isSome then 0 else 2) := hef
          replace hr : XG.ownsRow XF.heap.size 5 1 vZ ((formL 2 (atSnd 35 r)).getD []).length (byV ((formL 2 (atSnd 35 r)).getD [])) := hr
          obtain ⟨nZ, hnZ⟩ : ∃ n, ((formL 2 (atSnd 35 r)).getD []).length = n := ⟨_, rfl⟩
          rw [hnZ] at hr
          obtain ⟨qZ, cZ, rfl, _, _, _, _, _⟩ := row_open hr
          have GF_G := By.row hr
          clear con hr hnZ hef
          have B_G := B_F.trans (hb.mono B_F.size)
          have U_G := U_F.on hb
          have F_G := F_F.on hb
          have H_G := H_F.on hb
          have L_G := L_F.on hb
          have W_G := W_F.on hb
          have GP_G := GP_F.on hb
          clear GP_F W_F L_F H_F F_F U_F B_F hb
          clear F_G
          have yb := W_G.box
          have yc0 := yb 0 _ rfl
          have yf0 := W_G.frozen 0
          have yc1 := yb 1 _ rfl
          have yf1 := W_G.frozen 1
          have yc2 := yb 2 _ rfl
          have yf2 := W_G.frozen 2
          have yc3 := yb 3 _ rfl
          have yf3 := W_G.frozen 3
          have yc4 := yb 4 _ rfl
          have yf4 := W_G.frozen 4
          have yc5 := yb 5 _ rfl
          have yf5 := W_G.frozen 5
          have yc6 := yb 6 _ rfl
          have yf6 := W_G.frozen 6
          have yc7 := yb 7 _ rfl
          have yf7 := W_G.frozen 7
          clear yb
          have zb := U_G.box
          have zc0 := zb 0 _ rfl
          have zf0 := U_G.frozen 0
          have zc1 := zb 1 _ rfl
          have zf1 := U_G.frozen 1
          have zc2 := zb 2 _ rfl
          have zf2 := U_G.frozen 2
          have zc3 := zb 3 _ rfl
          have zf3 := U_G.frozen 3
          have zc4 := zb 4 _ rfl
          have zf4 := U_G.frozen 4
          have zc5 := zb 5 _ rfl
          have zf5 := U_G.frozen 5
          have zc6 := zb 6 _ rfl
          have zf6 := U_G.frozen 6
          have zc7 := zb 7 _ rfl
          have zf7 := U_G.frozen 7
          clear zb
          obtain ⟨XZ, hXZ⟩ : ∃ Z, XG.setCell ⟨b18, 5, none⟩ (.slice qZ nZ cZ) = Z := ⟨_, rfl⟩
          have B_Z : Below w.heap.size w XZ := by rw [← hXZ]; exact B_G.setCell (p := ⟨b18, 5, none⟩) hle _
          have U_Z : UB w.heap.size zeroU XZ := by rw [← hXZ]; exact U_G.other hne _
          have H_Z := By.set (i := 5) (u := .slice qZ nZ cZ) H_G W_G (nb8 ⟨_, _, _, rfl⟩ ⟨_, _, _, rfl⟩ ⟨_, _, _, rfl⟩ ⟨_, _, _, rfl⟩ ⟨_, _, _, rfl⟩)
          rw [hXZ] at H_Z
          have L_Z := By.set (i := 5) (u := .slice qZ nZ cZ) L_G W_G (nb8 ⟨_, _, _, rfl⟩ ⟨_, _, _, rfl⟩ ⟨_, _, _, rfl⟩ ⟨_, _, _, rfl⟩ ⟨_, _, _, rfl⟩)
          rw [hXZ] at L_Z
          have GP_Z := By.set (i := 5) (u := .slice qZ nZ cZ) GP_G W_G (nb8 ⟨_, _, _, rfl⟩ ⟨_, _, _, rfl⟩ ⟨_, _, _, rfl⟩ ⟨_, _, _, rfl⟩ ⟨_, _, _, rfl⟩)
          rw [hXZ] at GP_Z
          have GF_Z := By.set (i := 5) (u := .slice qZ nZ cZ) GF_G W_G (nb8 ⟨_, _, _, rfl⟩ ⟨_, _, _, rfl⟩ ⟨_, _, _, rfl⟩ ⟨_, _, _, rfl⟩ ⟨_, _, _, rfl⟩)
          rw [hXZ] at GF_Z
          have W_Z : UB b18 #[.slice qL k cL, .slice qH nH cH, .int .i64 pv, .slice qW nW cW, .slice none 0 0, .slice qZ nZ cZ, .bool false, .bool true] XZ := by rw [← hXZ]; exact (W_G.set8 (.slice qZ nZ cZ)).2.2.2
          clear GF_G GP_G W_G L_G H_G U_G B_G
          have HXZ := Lib.hid hXZ
          clear hXZ
          by_cases hp0 : (pv : Int) = 0
          case pos =>
            have e0 : (((pv : Int)) == 0) = true := by rw [beq_iff_eq]; exact hp0
            have hpo := HPO.out
            rw [hp0] at hpo
            clear hp0
            have HE := Lib.hid (show canonU t = .inl 2 by rw [HC.out]; exact rest_port _ r HS.out HPE.out hpo)
            go_wp2
            rw [HXZ.out]
            obtain ⟨Y, hY, hU, hkY, hbY⟩ := UB.put (show UB w.heap.size #[.slice none 0 0, .slice none 0 0, .int .i64 0, .slice none 0 0, .slice none 0 0, .slice none 0 0, .bool false, .bool false] _ from U_Z) (.slice none 0 0) (.slice none 0 0) (.int .i64 0) (.slice none 0 0) (.slice none 0 0) (.slice none 0 0) (.bool false) (.bool false)
            rw [hY]
            (try simp only [Exit.inBlock, Exit.then])
            refine bodyPost_ret (ret_url2 rfl _ _ w.heap.size _ rfl hU rfl) rfl ?_
            rw [HE.out]
            exact ⟨by decide, rfl, B_Z.trans (hbY _ (Nat.le_refl _))⟩
          have e0 : (((pv : Int)) == 0) = false := by rw [beq_eq_false_iff_ne]; exact hp0
          have hpo : portC (Ref.lowL s) (atSnd 58 (srvL r)) (atOk 58 (srvL r)) ≠ 0 := by rw [HPO.out]; exact hp0
          cases hpp : pathL (pthL r) with
          | none =>
            obtain rfl : ep = 2 := by have := HEP.out; rw [hpp] at this; exact this
            have hpp2 := Lib.hid hpp
            clear hpp
            have HE := Lib.hid (show canonU t = .inl 2 by rw [HC.out]; exact rest_path _ r HS.out HPE.out hpp2.out)
            go_wp2
            rw [HXZ.out]
            obtain ⟨Y, hY, hU, hkY, hbY⟩ := UB.put (show UB w.heap.size #[.slice none 0 0, .slice none 0 0, .int .i64 0, .slice none 0 0, .slice none 0 0, .slice none 0 0, .bool false, .bool false] _ from U_Z) (.slice none 0 0) (.slice none 0 0) (.int .i64 0) (.slice none 0 0) (.slice none 0 0) (.slice none 0 0) (.bool false) (.bool false)
            rw [hY]
            (try simp only [Exit.inBlock, Exit.then])
            refine bodyPost_ret (ret_url2 rfl _ _ w.heap.size _ rfl hU rfl) rfl ?_
            rw [HE.out]
            exact ⟨by decide, rfl, B_Z.trans (hbY _ (Nat.le_refl _))⟩
          | some pp =>
            obtain rfl : ep = 0 := by have := HEP.out; rw [hpp] at this; exact this
            cases hff : formL 2 (atSnd 35 r) with
            | none =>
              obtain rfl : ef = 2 := by have := HEF.out; rw [hff] at this; exact this
              have h4 := Lib.hid (show optC (atOk 35 r) (atSnd 35 r) = none by rw [Hbf.out]; exact hff)
              clear hff hpp
              have HE := Lib.hid (show canonU t = .inl 2 by rw [HC.out]; exact rest_frag _ r HS.out HPE.out h4.out)
              go_wp2
              rw [HXZ.out]
              obtain ⟨Y, hY, hU, hkY, hbY⟩ := UB.put (show UB w.heap.size #[.slice none 0 0, .slice none 0 0, .int .i64 0, .slice none 0 0, .slice none 0 0, .slice none 0 0, .bool false, .bool false] _ from U_Z) (.slice none 0 0) (.slice none 0 0) (.int .i64 0) (.slice none 0 0) (.slice none 0 0) (.slice none 0 0) (.bool false) (.bool false)
              rw [hY]
              (try simp only [Exit.inBlock, Exit.then])
              refine bodyPost_ret (ret_url2 rfl _ _ w.heap.size _ rfl hU rfl) rfl ?_
              rw [HE.out]
              exact ⟨by decide, rfl, B_Z.trans (hbY _ (Nat.le_refl _))⟩
            | some ff =>
              obtain rfl : ef = 0 := by have := HEF.out; rw [hff] at this; exact this
              have h3 : optC (atOk 63 (atFst 35 r)) (atSnd 63 (atFst 35 r)) = some [] := by rw [Hbq.out]; rfl
              have h4 : optC (atOk 35 r) (atSnd 35 r) = some ff := by rw [Hbf.out]; exact hff
              obtain ⟨pn, hpn, hrg⟩ := rest_good _ r HS.out HPE.out pp [] ff hpo hpp h3 h4
              rw [Hbq.out, Hbf.out] at hrg
              have hpn2 : (pv : Int) = (pn : Int) := by rw [← HPO.out]; exact hpn
              have HE := Lib.hid (HC.out.trans hrg)
              have HPN := Lib.hid hpn2
              rw [hpp] at GP_Z
              rw [hff] at GF_Z
              clear hpo hrg hpn hpn2 h3 h4 hpp hff hp0
              go_wp2
              rw [HXZ.out]
              obtain ⟨Y, hY, hU, hkY, hbY⟩ := UB.put (show UB w.heap.size #[.slice none 0 0, .slice none 0 0, .int .i64 0, .slice none 0 0, .slice none 0 0, .slice none 0 0, .bool false, .bool false] _ from U_Z) (.slice qL k cL) (.slice qH nH cH) (.int .i64 pv) (.slice qW nW cW) (.slice none 0 0) (.slice qZ nZ cZ) (.bool false) (.bool true)
              rw [hY]
              (try simp only [Exit.inBlock, Exit.then])
              refine bodyPost_ret (ret_url2 rfl _ _ w.heap.size _ rfl hU rfl) rfl ?_
              rw [HE.out]
              refine ⟨_, rfl, ⟨qL, k, cL, qH, nH, cH, qW, nW, cW, none, 0, 0, qZ, nZ, cZ, by rw [HPN.out], L_Z.away U_Z nbz hkY, H_Z.away U_Z nbz hkY, GP_Z.away U_Z nbz hkY, by_nil _, GF_Z.away U_Z nbz hkY⟩, B_Z.trans (hbY _ (Nat.le_refl _))⟩
      | true =>
        have yb := W_C.box
        have yc3 := yb 3 _ rfl
        have yf3 := W_C.frozen 3
        clear yb
        go_wp2_with fail
        clear yc3 yf3
        obtain ⟨XD, hXD⟩ : ∃ Z, XC.setCell ⟨b18, 3, none⟩ (.slice qW nW cW) = Z := ⟨_, rfl⟩
        rw [hXD]
        have B_D : Below w.heap.size w XD := by rw [← hXD]; exact B_C.setCell (p := ⟨b18, 3, none⟩) hle _
        have U_D : UB w.heap.size zeroU XD := by rw [← hXD]; exact U_C.other hne _
        have F_D := By.set (i := 3) (u := .slice qW nW cW) F_C W_C (nb8 ⟨_, _, _, rfl⟩ ⟨_, _, _, rfl⟩ ⟨_, _, _, rfl⟩ ⟨_, _, _, rfl⟩ ⟨_, _, _, rfl⟩)
        rw [hXD] at F_D
        have Q_D := By.set (i := 3) (u := .slice qW nW cW) Q_C W_C (nb8 ⟨_, _, _, rfl⟩ ⟨_, _, _, rfl⟩ ⟨_, _, _, rfl⟩ ⟨_, _, _, rfl⟩ ⟨_, _, _, rfl⟩)
        rw [hXD] at Q_D
        have H_D := By.set (i := 3) (u := .slice qW nW cW) H_C W_C (nb8 ⟨_, _, _, rfl⟩ ⟨_, _, _, rfl⟩ ⟨_, _, _, rfl⟩ ⟨_, _, _, rfl⟩ ⟨_, _, _, rfl⟩)
        rw [hXD] at H_D
        have L_D := By.set (i := 3) (u := .slice qW nW cW) L_C W_C (nb8 ⟨_, _, _, rfl⟩ ⟨_, _, _, rfl⟩ ⟨_, _, _, rfl⟩ ⟨_, _, _, rfl⟩ ⟨_, _, _, rfl⟩)
        rw [hXD] at L_D
        have GP_D := By.set (i := 3) (u := .slice qW nW cW) GP_C W_C (nb8 ⟨_, _, _, rfl⟩ ⟨_, _, _, rfl⟩ ⟨_, _, _, rfl⟩ ⟨_, _, _, rfl⟩ ⟨_, _, _, rfl⟩)
        rw [hXD] at GP_D
        have W_D : UB b18 #[.slice qL k cL, .slice qH nH cH, .int .i64 pv, .slice qW nW cW, .slice none 0 0, .slice none 0 0, .bool true, .bool bf] XD := by rw [← hXD]; exact (W_C.set8 (.slice qW nW cW)).2.1
        clear GP_C W_C L_C H_C Q_C F_C U_C B_C
        clear hXD
        have con := Pct.Canon_any qQ nQ cQ (atSnd 63 (atFst 35 r)) 2 XD Q_D.at.1 (by omega) Q_D.at.2.2.2.2
        refine con.mono ?_
        rintro e XE ⟨vY, eq, rfl, heq, hr, hb⟩
        have HEQ : Hid (eq = if (formL 2 (atSnd 63 (atFst 35 r))).isSome then 0 else 2) := heq
        replace hr : XE.ownsRow XD.heap.size 5 1 vY ((formL 2 (atSnd 63 (atFst 35 r))).getD []).length (byV ((formL 2 (atSnd 63 (atFst 35 r))).getD [])) := hr
        obtain ⟨nY, hnY⟩ : ∃ n, ((formL 2 (atSnd 63 (atFst 35 r))).getD []).length = n := ⟨_, rfl⟩
        rw [hnY] at hr
        obtain ⟨qY, cY, rfl, _, _, _, _, _⟩ := row_open hr
        have GQ_E := By.row hr
        clear con hr hnY heq
        have B_E := B_D.trans (hb.mono B_D.size)
        have U_E := U_D.on hb
        have F_E := F_D.on hb
        have Q_E := Q_D.on hb
        have H_E := H_D.on hb
        have L_E := L_D.on hb
        have W_E := W_D.on hb
        have GP_E := GP_D.on hb
        clear GP_D W_D L_D H_D Q_D F_D U_D B_D hb
        clear Q_E
        cases bf with
        | false =>
          clear F_E
          have yb := W_E.box
          have yc0 := yb 0 _ rfl
          have yf0 := W_E.frozen 0
          have yc1 := yb 1 _ rfl
          have yf1 := W_E.frozen 1
          have yc2 := yb 2 _ rfl
          have yf2 := W_E.frozen 2
          have yc3 := yb 3 _ rfl
          have yf3 := W_E.frozen 3
          have yc4 := yb 4 _ rfl
          have yf4 := W_E.frozen 4
          have yc5 := yb 5 _ rfl
          have yf5 := W_E.frozen 5
          have yc6 := yb 6 _ rfl
          have yf6 := W_E.frozen 6
          have yc7 := yb 7 _ rfl
          have yf7 := W_E.frozen 7
          clear yb
          have zb := U_E.box
          have zc0 := zb 0 _ rfl
          have zf0 := U_E.frozen 0
          have zc1 := zb 1 _ rfl
          have zf1 := U_E.frozen 1
          have zc2 := zb 2 _ rfl
          have zf2 := U_E.frozen 2
          have zc3 := zb 3 _ rfl
          have zf3 := U_E.frozen 3
          have zc4 := zb 4 _ rfl
          have zf4 := U_E.frozen 4
          have zc5 := zb 5 _ rfl
          have zf5 := U_E.frozen 5
          have zc6 := zb 6 _ rfl
          have zf6 := U_E.frozen 6
          have zc7 := zb 7 _ rfl
          have zf7 := U_E.frozen 7
          clear zb
          obtain ⟨XZ, hXZ⟩ : ∃ Z, XE.setCell ⟨b18, 4, none⟩ (.slice qY nY cY) = Z := ⟨_, rfl⟩
          have B_Z : Below w.heap.size w XZ := by rw [← hXZ]; exact B_E.setCell (p := ⟨b18, 4, none⟩) hle _
          have U_Z : UB w.heap.size zeroU XZ := by rw [← hXZ]; exact U_E.other hne _
          have H_Z := By.set (i := 4) (u := .slice qY nY cY) H_E W_E (nb8 ⟨_, _, _, rfl⟩ ⟨_, _, _, rfl⟩ ⟨_, _, _, rfl⟩ ⟨_, _, _, rfl⟩ ⟨_, _, _, rfl⟩)
          rw [hXZ] at H_Z
          have L_Z := By.set (i := 4) (u := .slice qY nY cY) L_E W_E (nb8 ⟨_, _, _, rfl⟩ ⟨_, _, _, rfl⟩ ⟨_, _, _, rfl⟩ ⟨_, _, _, rfl⟩ ⟨_, _, _, rfl⟩)
          rw [hXZ] at L_Z
          have GP_Z := By.set (i := 4) (u := .slice qY nY cY) GP_E W_E (nb8 ⟨_, _, _, rfl⟩ ⟨_, _, _, rfl⟩ ⟨_, _, _, rfl⟩ ⟨_, _, _, rfl⟩ ⟨_, _, _, rfl⟩)
          rw [hXZ] at GP_Z
          have GQ_Z := By.set (i := 4) (u := .slice qY nY cY) GQ_E W_E (nb8 ⟨_, _, _, rfl⟩ ⟨_, _, _, rfl⟩ ⟨_, _, _, rfl⟩ ⟨_, _, _, rfl⟩ ⟨_, _, _, rfl⟩)
          rw [hXZ] at GQ_Z
          have W_Z : UB b18 #[.slice qL k cL, .slice qH nH cH, .int .i64 pv, .slice qW nW cW, .slice qY nY cY, .slice none 0 0, .bool true, .bool false] XZ := by rw [← hXZ]; exact (W_E.set8 (.slice qY nY cY)).2.2.1
          clear GQ_E GP_E W_E L_E H_E U_E B_E
          have HXZ := Lib.hid hXZ
          clear hXZ
          by_cases hp0 : (pv : Int) = 0
          case pos =>
            have e0 : (((pv : Int)) == 0) = true := by rw [beq_iff_eq]; exact hp0
            have hpo := HPO.out
            rw [hp0] at hpo
            clear hp0
            have HE := Lib.hid (show canonU t = .inl 2 by rw [HC.out]; exact rest_port _ r HS.out HPE.out hpo)
            go_wp2
            rw [HXZ.out]
            obtain ⟨Y, hY, hU, hkY, hbY⟩ := UB.put (show UB w.heap.size #[.slice none 0 0, .slice none 0 0, .int .i64 0, .slice none 0 0, .slice none 0 0, .slice none 0 0, .bool false, .bool false] _ from U_Z) (.slice none 0 0) (.slice none 0 0) (.int .i64 0) (.slice none 0 0) (.slice none 0 0) (.slice none 0 0) (.bool false) (.bool false)
            rw [hY]
            (try simp only [Exit.inBlock, Exit.then])
            refine bodyPost_ret (ret_url2 rfl _ _ w.heap.size _ rfl hU rfl) rfl ?_
            rw [HE.out]
            exact ⟨by decide, rfl, B_Z.trans (hbY _ (Nat.le_refl _))⟩
          have e0 : (((pv : Int)) == 0) = false := by rw [beq_eq_false_iff_ne]; exact hp0
          have hpo : portC (Ref.lowL s) (atSnd 58 (srvL r)) (atOk 58 (srvL r)) ≠ 0 := by rw [HPO.out]; exact hp0
          cases hpp : pathL (pthL r) with
          | none =>
            obtain rfl : ep = 2 := by have := HEP.out; rw [hpp] at this; exact this
            have hpp2 := Lib.hid hpp
            clear hpp
            have HE := Lib.hid (show canonU t = .inl 2 by rw [HC.out]; exact rest_path _ r HS.out HPE.out hpp2.out)
            go_wp2
            rw [HXZ.out]
            obtain ⟨Y, hY, hU, hkY, hbY⟩ := UB.put (show UB w.heap.size #[.slice none 0 0, .slice none 0 0, .int .i64 0, .slice none 0 0, .slice none 0 0, .slice none 0 0, .bool false, .bool false] _ from U_Z) (.slice none 0 0) (.slice none 0 0) (.int .i64 0) (.slice none 0 0) (.slice none 0 0) (.slice none 0 0) (.bool false) (.bool false)
            rw [hY]
            (try simp only [Exit.inBlock, Exit.then])
            refine bodyPost_ret (ret_url2 rfl _ _ w.heap.size _ rfl hU rfl) rfl ?_
            rw [HE.out]
            exact ⟨by decide, rfl, B_Z.trans (hbY _ (Nat.le_refl _))⟩
          | some pp =>
            obtain rfl : ep = 0 := by have := HEP.out; rw [hpp] at this; exact this
            cases hqq : formL 2 (atSnd 63 (atFst 35 r)) with
            | none =>
              obtain rfl : eq = 2 := by have := HEQ.out; rw [hqq] at this; exact this
              have h3 := Lib.hid (show optC (atOk 63 (atFst 35 r)) (atSnd 63 (atFst 35 r)) = none by rw [Hbq.out]; exact hqq)
              clear hqq hpp
              have HE := Lib.hid (show canonU t = .inl 2 by rw [HC.out]; exact rest_query _ r HS.out HPE.out h3.out)
              go_wp2
              rw [HXZ.out]
              obtain ⟨Y, hY, hU, hkY, hbY⟩ := UB.put (show UB w.heap.size #[.slice none 0 0, .slice none 0 0, .int .i64 0, .slice none 0 0, .slice none 0 0, .slice none 0 0, .bool false, .bool false] _ from U_Z) (.slice none 0 0) (.slice none 0 0) (.int .i64 0) (.slice none 0 0) (.slice none 0 0) (.slice none 0 0) (.bool false) (.bool false)
              rw [hY]
              (try simp only [Exit.inBlock, Exit.then])
              refine bodyPost_ret (ret_url2 rfl _ _ w.heap.size _ rfl hU rfl) rfl ?_
              rw [HE.out]
              exact ⟨by decide, rfl, B_Z.trans (hbY _ (Nat.le_refl _))⟩
            | some qq =>
              obtain rfl : eq = 0 := by have := HEQ.out; rw [hqq] at this; exact this
              have h3 : optC (atOk 63 (atFst 35 r)) (atSnd 63 (atFst 35 r)) = some qq := by rw [Hbq.out]; exact hqq
              have h4 : optC (atOk 35 r) (atSnd 35 r) = some [] := by rw [Hbf.out]; rfl
              obtain ⟨pn, hpn, hrg⟩ := rest_good _ r HS.out HPE.out pp qq [] hpo hpp h3 h4
              rw [Hbq.out, Hbf.out] at hrg
              have hpn2 : (pv : Int) = (pn : Int) := by rw [← HPO.out]; exact hpn
              have HE := Lib.hid (HC.out.trans hrg)
              have HPN := Lib.hid hpn2
              rw [hpp] at GP_Z
              rw [hqq] at GQ_Z
              clear hpo hrg hpn hpn2 h3 h4 hpp hqq  hp0
              go_wp2
              rw [HXZ.out]
              obtain ⟨Y, hY, hU, hkY, hbY⟩ := UB.put (show UB w.heap.size #[.slice none 0 0, .slice none 0 0, .int .i64 0, .slice none 0 0, .slice none 0 0, .slice none 0 0, .bool false, .bool false] _ from U_Z) (.slice qL k cL) (.slice qH nH cH) (.int .i64 pv) (.slice qW nW cW) (.slice qY nY cY) (.slice none 0 0) (.bool true) (.bool false)
              rw [hY]
              (try simp only [Exit.inBlock, Exit.then])
              refine bodyPost_ret (ret_url2 rfl _ _ w.heap.size _ rfl hU rfl) rfl ?_
              rw [HE.out]
              refine ⟨_, rfl, ⟨qL, k, cL, qH, nH, cH, qW, nW, cW, qY, nY, cY, none, 0, 0, by rw [HPN.out], L_Z.away U_Z nbz hkY, H_Z.away U_Z nbz hkY, GP_Z.away U_Z nbz hkY, GQ_Z.away U_Z nbz hkY, by_nil _⟩, B_Z.trans (hbY _ (Nat.le_refl _))⟩
        | true =>
          have yb := W_E.box
          have yc4 := yb 4 _ rfl
          have yf4 := W_E.frozen 4
          clear yb
          go_wp2_with fail
          clear yc4 yf4
          obtain ⟨XF, hXF⟩ : ∃ Z, XE.setCell ⟨b18, 4, none⟩ (.slice qY nY cY) = Z := ⟨_, rfl⟩
          rw [hXF]
          have B_F : Below w.heap.size w XF := by rw [← hXF]; exact B_E.setCell (p := ⟨b18, 4, none⟩) hle _
          have U_F : UB w.heap.size zeroU XF := by rw [← hXF]; exact U_E.other hne _
          have F_F := By.set (i := 4) (u := .slice qY nY cY) F_E W_E (nb8 ⟨_, _, _, rfl⟩ ⟨_, _, _, rfl⟩ ⟨_, _, _, rfl⟩ ⟨_, _, _, rfl⟩ ⟨_, _, _, rfl⟩)
          rw [hXF] at F_F
          have H_F := By.set (i := 4) (u := .slice qY nY cY) H_E W_E (nb8 ⟨_, _, _, rfl⟩ ⟨_, _, _, rfl⟩ ⟨_, _, _, rfl⟩ ⟨_, _, _, rfl⟩ ⟨_, _, _, rfl⟩)
          rw [hXF] at H_F
          have L_F := By.set (i := 4) (u := .slice qY nY cY) L_E W_E (nb8 ⟨_, _, _, rfl⟩ ⟨_, _, _, rfl⟩ ⟨_, _, _, rfl⟩ ⟨_, _, _, rfl⟩ ⟨_, _, _, rfl⟩)
          rw [hXF] at L_F
          have GP_F := By.set (i := 4) (u := .slice qY nY cY) GP_E W_E (nb8 ⟨_, _, _, rfl⟩ ⟨_, _, _, rfl⟩ ⟨_, _, _, rfl⟩ ⟨_, _, _, rfl⟩ ⟨_, _, _, rfl⟩)
          rw [hXF] at GP_F
          have GQ_F := By.set (i := 4) (u := .slice qY nY cY) GQ_E W_E (nb8 ⟨_, _, _, rfl⟩ ⟨_, _, _, rfl⟩ ⟨_, _, _, rfl⟩ ⟨_, _, _, rfl⟩ ⟨_, _, _, rfl⟩)
          rw [hXF] at GQ_F
          have W_F : UB b18 #[.slice qL k cL, .slice qH nH cH, .int .i64 pv, .slice qW nW cW, .slice qY nY cY, .slice none 0 0, .bool true, .bool true] XF := by rw [← hXF]; exact (W_E.set8 (.slice qY nY cY)).2.2.1
          clear GQ_E GP_E W_E L_E H_E F_E U_E B_E
          clear hXF
          have con := Pct.Canon_any qF nF cF (atSnd 35 r) 2 XF F_F.at.1 (by omega) F_F.at.2.2.2.2
          refine con.mono ?_
          rintro e XG ⟨vZ, ef, rfl, hef, hr, hb⟩
          have HEF : Hid (ef = if (formL 2 (atSnd 35 r)).isSome then 0 else 2) := hef
          replace hr : XG.ownsRow XF.heap.size 5 1 vZ ((formL 2 (atSnd 35 r)).getD []).length (byV ((formL 2 (atSnd 35 r)).getD [])) := hr
          obtain ⟨nZ, hnZ⟩ : ∃ n, ((formL 2 (atSnd 35 r)).getD []).length = n := ⟨_, rfl⟩
          rw [hnZ] at hr
          obtain ⟨qZ, cZ, rfl, _, _, _, _, _⟩ := row_open hr
          have GF_G := By.row hr
          clear con hr hnZ hef
          have B_G := B_F.trans (hb.mono B_F.size)
          have U_G := U_F.on hb
          have F_G := F_F.on hb
          have H_G := H_F.on hb
          have L_G := L_F.on hb
          have W_G := W_F.on hb
          have GP_G := GP_F.on hb
          have GQ_G := GQ_F.on hb
          clear GQ_F GP_F W_F L_F H_F F_F U_F B_F hb
          clear F_G
          have yb := W_G.box
          have yc0 := yb 0 _ rfl
          have yf0 := W_G.frozen 0
          have yc1 := yb 1 _ rfl
          have yf1 := W_G.frozen 1
          have yc2 := yb 2 _ rfl
          have yf2 := W_G.frozen 2
          have yc3 := yb 3 _ rfl
          have yf3 := W_G.frozen 3
          have yc4 := yb 4 _ rfl
          have yf4 := W_G.frozen 4
          have yc5 := yb 5 _ rfl
          have yf5 := W_G.frozen 5
          have yc6 := yb 6 _ rfl
          have yf6 := W_G.frozen 6
          have yc7 := yb 7 _ rfl
          have yf7 := W_G.frozen 7
          clear yb
          have zb := U_G.box
          have zc0 := zb 0 _ rfl
          have zf0 := U_G.frozen 0
          have zc1 := zb 1 _ rfl
          have zf1 := U_G.frozen 1
          have zc2 := zb 2 _ rfl
          have zf2 := U_G.frozen 2
          have zc3 := zb 3 _ rfl
          have zf3 := U_G.frozen 3
          have zc4 := zb 4 _ rfl
          have zf4 := U_G.frozen 4
          have zc5 := zb 5 _ rfl
          have zf5 := U_G.frozen 5
          have zc6 := zb 6 _ rfl
          have zf6 := U_G.frozen 6
          have zc7 := zb 7 _ rfl
          have zf7 := U_G.frozen 7
          clear zb
          obtain ⟨XZ, hXZ⟩ : ∃ Z, XG.setCell ⟨b18, 5, none⟩ (.slice qZ nZ cZ) = Z := ⟨_, rfl⟩
          have B_Z : Below w.heap.size w XZ := by rw [← hXZ]; exact B_G.setCell (p := ⟨b18, 5, none⟩) hle _
          have U_Z : UB w.heap.size zeroU XZ := by rw [← hXZ]; exact U_G.other hne _
          have H_Z := By.set (i := 5) (u := .slice qZ nZ cZ) H_G W_G (nb8 ⟨_, _, _, rfl⟩ ⟨_, _, _, rfl⟩ ⟨_, _, _, rfl⟩ ⟨_, _, _, rfl⟩ ⟨_, _, _, rfl⟩)
          rw [hXZ] at H_Z
          have L_Z := By.set (i := 5) (u := .slice qZ nZ cZ) L_G W_G (nb8 ⟨_, _, _, rfl⟩ ⟨_, _, _, rfl⟩ ⟨_, _, _, rfl⟩ ⟨_, _, _, rfl⟩ ⟨_, _, _, rfl⟩)
          rw [hXZ] at L_Z
          have GP_Z := By.set (i := 5) (u := .slice qZ nZ cZ) GP_G W_G (nb8 ⟨_, _, _, rfl⟩ ⟨_, _, _, rfl⟩ ⟨_, _, _, rfl⟩ ⟨_, _, _, rfl⟩ ⟨_, _, _, rfl⟩)
          rw [hXZ] at GP_Z
          have GQ_Z := By.set (i := 5) (u := .slice qZ nZ cZ) GQ_G W_G (nb8 ⟨_, _, _, rfl⟩ ⟨_, _, _, rfl⟩ ⟨_, _, _, rfl⟩ ⟨_, _, _, rfl⟩ ⟨_, _, _, rfl⟩)
          rw [hXZ] at GQ_Z
          have GF_Z := By.set (i := 5) (u := .slice qZ nZ cZ) GF_G W_G (nb8 ⟨_, _, _, rfl⟩ ⟨_, _, _, rfl⟩ ⟨_, _, _, rfl⟩ ⟨_, _, _, rfl⟩ ⟨_, _, _, rfl⟩)
          rw [hXZ] at GF_Z
          have W_Z : UB b18 #[.slice qL k cL, .slice qH nH cH, .int .i64 pv, .slice qW nW cW, .slice qY nY cY, .slice qZ nZ cZ, .bool true, .bool true] XZ := by rw [← hXZ]; exact (W_G.set8 (.slice qZ nZ cZ)).2.2.2
          clear GF_G GQ_G GP_G W_G L_G H_G U_G B_G
          have HXZ := Lib.hid hXZ
          clear hXZ
          by_cases hp0 : (pv : Int) = 0
          case pos =>
            have e0 : (((pv : Int)) == 0) = true := by rw [beq_iff_eq]; exact hp0
            have hpo := HPO.out
            rw [hp0] at hpo
            clear hp0
            have HE := Lib.hid (show canonU t = .inl 2 by rw [HC.out]; exact rest_port _ r HS.out HPE.out hpo)
            go_wp2
            rw [HXZ.out]
            obtain ⟨Y, hY, hU, hkY, hbY⟩ := UB.put (show UB w.heap.size #[.slice none 0 0, .slice none 0 0, .int .i64 0, .slice none 0 0, .slice none 0 0, .slice none 0 0, .bool false, .bool false] _ from U_Z) (.slice none 0 0) (.slice none 0 0) (.int .i64 0) (.slice none 0 0) (.slice none 0 0) (.slice none 0 0) (.bool false) (.bool false)
            rw [hY]
            (try simp only [Exit.inBlock, Exit.then])
            refine bodyPost_ret (ret_url2 rfl _ _ w.heap.size _ rfl hU rfl) rfl ?_
            rw [HE.out]
            exact ⟨by decide, rfl, B_Z.trans (hbY _ (Nat.le_refl _))⟩
          have e0 : (((pv : Int)) == 0) = false := by rw [beq_eq_false_iff_ne]; exact hp0
          have hpo : portC (Ref.lowL s) (atSnd 58 (srvL r)) (atOk 58 (srvL r)) ≠ 0 := by rw [HPO.out]; exact hp0
          cases hpp : pathL (pthL r) with
          | none =>
            obtain rfl : ep = 2 := by have := HEP.out; rw [hpp] at this; exact this
            have hpp2 := Lib.hid hpp
            clear hpp
            have HE := Lib.hid (show canonU t = .inl 2 by rw [HC.out]; exact rest_path _ r HS.out HPE.out hpp2.out)
            go_wp2
            rw [HXZ.out]
            obtain ⟨Y, hY, hU, hkY, hbY⟩ := UB.put (show UB w.heap.size #[.slice none 0 0, .slice none 0 0, .int .i64 0, .slice none 0 0, .slice none 0 0, .slice none 0 0, .bool false, .bool false] _ from U_Z) (.slice none 0 0) (.slice none 0 0) (.int .i64 0) (.slice none 0 0) (.slice none 0 0) (.slice none 0 0) (.bool false) (.bool false)
            rw [hY]
            (try simp only [Exit.inBlock, Exit.then])
            refine bodyPost_ret (ret_url2 rfl _ _ w.heap.size _ rfl hU rfl) rfl ?_
            rw [HE.out]
            exact ⟨by decide, rfl, B_Z.trans (hbY _ (Nat.le_refl _))⟩
          | some pp =>
            obtain rfl : ep = 0 := by have := HEP.out; rw [hpp] at this; exact this
            cases hqq : formL 2 (atSnd 63 (atFst 35 r)) with
            | none =>
              obtain rfl : eq = 2 := by have := HEQ.out; rw [hqq] at this; exact this
              have h3 := Lib.hid (show optC (atOk 63 (atFst 35 r)) (atSnd 63 (atFst 35 r)) = none by rw [Hbq.out]; exact hqq)
              clear hqq hpp
              have HE := Lib.hid (show canonU t = .inl 2 by rw [HC.out]; exact rest_query _ r HS.out HPE.out h3.out)
              go_wp2
              rw [HXZ.out]
              obtain ⟨Y, hY, hU, hkY, hbY⟩ := UB.put (show UB w.heap.size #[.slice none 0 0, .slice none 0 0, .int .i64 0, .slice none 0 0, .slice none 0 0, .slice none 0 0, .bool false, .bool false] _ from U_Z) (.slice none 0 0) (.slice none 0 0) (.int .i64 0) (.slice none 0 0) (.slice none 0 0) (.slice none 0 0) (.bool false) (.bool false)
              rw [hY]
              (try simp only [Exit.inBlock, Exit.then])
              refine bodyPost_ret (ret_url2 rfl _ _ w.heap.size _ rfl hU rfl) rfl ?_
              rw [HE.out]
              exact ⟨by decide, rfl, B_Z.trans (hbY _ (Nat.le_refl _))⟩
            | some qq =>
              obtain rfl : eq = 0 := by have := HEQ.out; rw [hqq] at this; exact this
              cases hff : formL 2 (atSnd 35 r) with
              | none =>
                obtain rfl : ef = 2 := by have := HEF.out; rw [hff] at this; exact this
                have h4 := Lib.hid (show optC (atOk 35 r) (atSnd 35 r) = none by rw [Hbf.out]; exact hff)
                clear hff hpp
                have HE := Lib.hid (show canonU t = .inl 2 by rw [HC.out]; exact rest_frag _ r HS.out HPE.out h4.out)
                go_wp2
                rw [HXZ.out]
                obtain ⟨Y, hY, hU, hkY, hbY⟩ := UB.put (show UB w.heap.size #[.slice none 0 0, .slice none 0 0, .int .i64 0, .slice none 0 0, .slice none 0 0, .slice none 0 0, .bool false, .bool false] _ from U_Z) (.slice none 0 0) (.slice none 0 0) (.int .i64 0) (.slice none 0 0) (.slice none 0 0) (.slice none 0 0) (.bool false) (.bool false)
                rw [hY]
                (try simp only [Exit.inBlock, Exit.then])
                refine bodyPost_ret (ret_url2 rfl _ _ w.heap.size _ rfl hU rfl) rfl ?_
                rw [HE.out]
                exact ⟨by decide, rfl, B_Z.trans (hbY _ (Nat.le_refl _))⟩
              | some ff =>
                obtain rfl : ef = 0 := by have := HEF.out; rw [hff] at this; exact this
                have h3 : optC (atOk 63 (atFst 35 r)) (atSnd 63 (atFst 35 r)) = some qq := by rw [Hbq.out]; exact hqq
                have h4 : optC (atOk 35 r) (atSnd 35 r) = some ff := by rw [Hbf.out]; exact hff
                obtain ⟨pn, hpn, hrg⟩ := rest_good _ r HS.out HPE.out pp qq ff hpo hpp h3 h4
                rw [Hbq.out, Hbf.out] at hrg
                have hpn2 : (pv : Int) = (pn : Int) := by rw [← HPO.out]; exact hpn
                have HE := Lib.hid (HC.out.trans hrg)
                have HPN := Lib.hid hpn2
                rw [hpp] at GP_Z
                rw [hqq] at GQ_Z
                rw [hff] at GF_Z
                clear hpo hrg hpn hpn2 h3 h4 hpp hqq hff hp0
                go_wp2
                rw [HXZ.out]
                obtain ⟨Y, hY, hU, hkY, hbY⟩ := UB.put (show UB w.heap.size #[.slice none 0 0, .slice none 0 0, .int .i64 0, .slice none 0 0, .slice none 0 0, .slice none 0 0, .bool false, .bool false] _ from U_Z) (.slice qL k cL) (.slice qH nH cH) (.int .i64 pv) (.slice qW nW cW) (.slice qY nY cY) (.slice qZ nZ cZ) (.bool true) (.bool true)
                rw [hY]
                (try simp only [Exit.inBlock, Exit.then])
                refine bodyPost_ret (ret_url2 rfl _ _ w.heap.size _ rfl hU rfl) rfl ?_
                rw [HE.out]
                refine ⟨_, rfl, ⟨qL, k, cL, qH, nH, cH, qW, nW, cW, qY, nY, cY, qZ, nZ, cZ, by rw [HPN.out], L_Z.away U_Z nbz hkY, H_Z.away U_Z nbz hkY, GP_Z.away U_Z nbz hkY, GQ_Z.away U_Z nbz hkY, GF_Z.away U_Z nbz hkY⟩, B_Z.trans (hbY _ (Nat.le_refl _))⟩

end Go.Proofs.YtajojgimbagjoaaGreatDoor.Url

namespace Go.Proofs.YtajojgimbagjoaaGreatDoor.Url
open Go.RowKit Go.Shelf
attribute [local go_sem] Oper.semAt_some

theorem nbzL : ∀ (j : Nat) (x : Value), zeroU[j]? = some x → ∀ z : Int, x ≠ .int .u8 z := nb8 ⟨_, _, _, rfl⟩ ⟨_, _, _, rfl⟩ ⟨_, _, _, rfl⟩ ⟨_, _, _, rfl⟩ ⟨_, _, _, rfl⟩
/-- A slice of bytes outlives what is written where a URL's cells are. -/
theorem By.awayL {B : Nat} {cs : Array Value} {X Y : World} {v : Value} {l : List UInt8} (h : By X v l) (hU : UB B cs X) (hcs : ∀ (j : Nat) (x : Value), cs[j]? = some x → ∀ z : Int, x ≠ .int .u8 z) (hk : ∀ S : Nat → Prop, ¬ S B → Keep S X Y) : By Y v l := by
  obtain ⟨q, c, rfl, h2, h3, h4, h5⟩ := h
  refine ⟨q, c, rfl, h2, h3, h4, fun h0 => ?_⟩
  obtain ⟨b, o, he, hc⟩ := h5 h0
  refine ⟨b, o, he, fun j hj => ?_⟩
  have hne : b ≠ B := fun e => by
    subst e
    have h1 := hc j hj
    simp only [World.cell?, show X.heap[b]? = _ from hU] at h1
    exact hcs _ _ h1 _ rfl
  exact (World.cell?_of_block ((hk (fun k => k ≠ B) (fun h => h rfl)).block b (World.block_lt_of_cell? X _ (hc j hj)) hne)).trans (hc j hj)
/-- canonOf's contract. -/
def CanonOk : Prop := ∀ (q : Option Addr) (n c : Nat) (t : List UInt8) (w : World), By w (.slice q n c) t → n ≤ 4096 → Gl w → Calls Tryz.prog 13 #[.slice q n c] w fun e w' => CanonOut (canonU t) w e w'

set_option maxRecDepth 100000 in
set_option maxHeartbeats 8000000 in
theorem Parse_of (hcan : CanonOk) (q : Option Addr) (n c : Nat) (t : List UInt8) (w : World) (hby : By w (.slice q n c) t) (hn : n ≤ 4096) (hG : Gl w) (hT : ∀ u, canonU t = .inr u → (textU u).length ≤ 4096) :
    Calls Tryz.prog 5 #[.slice q n c] w fun e w' => CanonOut (canonU t) w e w' := by
  have d0 : decide ((4096 : Int) < (n : Int)) = false := by simp; omega
  obtain ⟨X0, hX0⟩ : ∃ X0, w.alloc (.cells #[.slice none 0 0, .slice none 0 0, .int .i64 0, .slice none 0 0, .slice none 0 0, .slice none 0 0, .bool false, .bool false] 25) = X0 := ⟨_, rfl⟩
  have B_0 : Below w.heap.size w X0 := by rw [← hX0]; exact (Below.refl _ w).alloc (Nat.le_refl _) _
  have U_0 : UB w.heap.size zeroU X0 := by rw [← hX0]; exact UB.new w zeroU
  have con := hcan q n c t X0 (hby.on B_0) hn (hG.on B_0)
  have hok : ∀ u, canonU t = .inr u → Ok u := fun u h => parse_ok t u (by rw [parse_canon t (by rw [hby.at.1]; exact hn)]; exact h)
  have HX0 := Lib.hid hX0
  have HG := Lib.hid hG
  clear hX0 hby hG
  cases hc : canonU t with
  | inl m =>
    rw [hc] at con
    clear hc hok hT
    go_enter Tryz.func5, Tryz.ntmps5
    go_wp2_with fail
    rw [HX0.out]
    refine con.mono ?_
    rintro e X1 ⟨hm, rfl, hb⟩
    have U_1 := U_0.on hb
    have B_1 := B_0.trans (hb.mono B_0.size)
    clear con hb U_0 B_0 HX0
    have e1 : ((m : Int) != 0) = true := by rw [bne_iff_ne]; exact hm
    have HM := Lib.hid hm
    clear hm
    unfold zeroU
    have zc : ∀ o, UB w.heap.size zeroU (X1.alloc o) := fun o => U_1.on ((Below.refl _ _).alloc (Nat.le_refl _) _)
    have zc0 := fun o => (zc o).box 0 _ rfl
    have zc1 := fun o => (zc o).box 1 _ rfl
    have zc2 := fun o => (zc o).box 2 _ rfl
    have zc3 := fun o => (zc o).box 3 _ rfl
    have zc4 := fun o => (zc o).box 4 _ rfl
    have zc5 := fun o => (zc o).box 5 _ rfl
    have zc6 := fun o => (zc o).box 6 _ rfl
    have zc7 := fun o => (zc o).box 7 _ rfl
    have zf0 := fun o => (zc o).frozen 0
    have zf1 := fun o => (zc o).frozen 1
    have zf2 := fun o => (zc o).frozen 2
    have zf3 := fun o => (zc o).frozen 3
    have zf4 := fun o => (zc o).frozen 4
    have zf5 := fun o => (zc o).frozen 5
    have zf6 := fun o => (zc o).frozen 6
    have zf7 := fun o => (zc o).frozen 7
    clear zc
    go_wp2
    have U_2 := U_1.on ((Below.refl X1.heap.size X1).alloc (Nat.le_refl _) (.cells #[.slice none 0 0, .slice none 0 0, .int .i64 0, .slice none 0 0, .slice none 0 0, .slice none 0 0, .bool false, .bool false] 25))
    have B_2 := B_1.alloc B_1.size (.cells #[.slice none 0 0, .slice none 0 0, .int .i64 0, .slice none 0 0, .slice none 0 0, .slice none 0 0, .bool false, .bool false] 25)
    obtain ⟨Y, hY, hU, hkY, hbY⟩ := UB.put (show UB w.heap.size #[.slice none 0 0, .slice none 0 0, .int .i64 0, .slice none 0 0, .slice none 0 0, .slice none 0 0, .bool false, .bool false] _ from U_2) (.slice none 0 0) (.slice none 0 0) (.int .i64 0) (.slice none 0 0) (.slice none 0 0) (.slice none 0 0) (.bool false) (.bool false)
    rw [hY]
    (try simp only [Exit.inBlock, Exit.then])
    refine bodyPost_ret (ret_url2 rfl _ _ w.heap.size _ rfl hU rfl) rfl ?_
    exact ⟨HM.out, rfl, B_2.trans (hbY _ (Nat.le_refl _))⟩
  | inr u =>
    rw [hc] at con
    have HO := Lib.hid (hok u hc)
    have HT := Lib.hid (hT u hc)
    clear hc hok hT
    go_enter Tryz.func5, Tryz.ntmps5
    go_wp2_with fail
    rw [HX0.out]
    refine con.mono ?_
    rintro e X1 ⟨v, rfl, hin, hb⟩
    have U_1 := U_0.on hb
    have B_1 := B_0.trans (hb.mono B_0.size)
    clear con hb U_0 B_0 HX0
    obtain ⟨q0, n0, c0, q1, n1, c1, q3, n3, c3, q4, n4, c4, q5, n5, c5, rfl, i0, i1, i3, i4, i5⟩ := id hin
    obtain ⟨X2, hX2⟩ : ∃ X2, X1.alloc (.cells #[.slice q0 n0 c0, .slice q1 n1 c1, .int .i64 u.port, .slice q3 n3 c3, .slice q4 n4 c4, .slice q5 n5 c5, .bool u.hq, .bool u.hf] 25) = X2 := ⟨_, rfl⟩
    have hb : Below X1.heap.size X1 X2 := by rw [← hX2]; exact (Below.refl _ _).alloc (Nat.le_refl _) _
    obtain ⟨b4, hb4⟩ : ∃ b, X1.heap.size = b := ⟨_, rfl⟩
    have W_2 : UB b4 #[.slice q0 n0 c0, .slice q1 n1 c1, .int .i64 u.port, .slice q3 n3 c3, .slice q4 n4 c4, .slice q5 n5 c5, .bool u.hq, .bool u.hf] X2 := by rw [← hX2, ← hb4]; exact UB.new X1 _
    have hne : ¬ w.heap.size = b4 := by have := U_1.lt; omega
    have hne' : ¬ b4 = w.heap.size := fun h => hne h.symm
    have U_2 := U_1.on hb
    have B_2 := B_1.trans (hb.mono B_1.size)
    have HX2 := Lib.hid hX2
    have HB4 := Lib.hid hb4
    have con := Text_any u _ X2 (hin.on hb) HO.out (HG.out.on B_2) (by have := HT.out; omega)
    have j0 := i0.on hb
    have j1 := i1.on hb
    have j3 := i3.on hb
    have j4 := i4.on hb
    have j5 := i5.on hb
    obtain ⟨L, hL⟩ : ∃ L, (textU u).length = L := ⟨_, rfl⟩
    have d1 : decide ((4096 : Int) < (L : Int)) = false := by have := HT.out; simp; omega
    rw [hL] at con
    clear hX2 hb4 U_1 B_1 hin i0 i1 i3 i4 i5 hb hL
    go_wp2_with fail
    rw [HB4.out, HX2.out]
    refine con.mono ?_
    rintro e X3 ⟨v3, rfl, hr, hb⟩
    obtain ⟨qt, ct, rfl, _, _, _, _, _⟩ := row_open hr
    have U_3 := U_2.on hb
    have W_3 := W_2.on hb
    have B_3 := B_2.trans (hb.mono B_2.size)
    have k0 := j0.on hb
    have k1 := j1.on hb
    have k3 := j3.on hb
    have k4 := j4.on hb
    have k5 := j5.on hb
    clear con hr hb U_2 W_2 B_2 j0 j1 j3 j4 j5 HX2 HB4
    have yb := W_3.box
    have yc0 := yb 0 _ rfl
    have yf0 := W_3.frozen 0
    have yc1 := yb 1 _ rfl
    have yf1 := W_3.frozen 1
    have yc2 := yb 2 _ rfl
    have yf2 := W_3.frozen 2
    have yc3 := yb 3 _ rfl
    have yf3 := W_3.frozen 3
    have yc4 := yb 4 _ rfl
    have yf4 := W_3.frozen 4
    have yc5 := yb 5 _ rfl
    have yf5 := W_3.frozen 5
    have yc6 := yb 6 _ rfl
    have yf6 := W_3.frozen 6
    have yc7 := yb 7 _ rfl
    have yf7 := W_3.frozen 7
    clear yb
    have zb := U_3.box
    have zc0 := zb 0 _ rfl
    have zf0 := U_3.frozen 0
    have zc1 := zb 1 _ rfl
    have zf1 := U_3.frozen 1
    have zc2 := zb 2 _ rfl
    have zf2 := U_3.frozen 2
    have zc3 := zb 3 _ rfl
    have zf3 := U_3.frozen 3
    have zc4 := zb 4 _ rfl
    have zf4 := U_3.frozen 4
    have zc5 := zb 5 _ rfl
    have zf5 := U_3.frozen 5
    have zc6 := zb 6 _ rfl
    have zf6 := U_3.frozen 6
    have zc7 := zb 7 _ rfl
    have zf7 := U_3.frozen 7
    clear zb
    go_wp2
    obtain ⟨Y, hY, hU, hkY, hbY⟩ := UB.put (show UB w.heap.size #[.slice none 0 0, .slice none 0 0, .int .i64 0, .slice none 0 0, .slice none 0 0, .slice none 0 0, .bool false, .bool false] _ from U_3) (.slice q0 n0 c0) (.slice q1 n1 c1) (.int .i64 u.port) (.slice q3 n3 c3) (.slice q4 n4 c4) (.slice q5 n5 c5) (.bool u.hq) (.bool u.hf)
    rw [hY]
    (try simp only [Exit.inBlock, Exit.then])
    refine bodyPost_ret (ret_url2 rfl _ _ w.heap.size _ rfl hU rfl) rfl ?_
    exact ⟨_, rfl, ⟨q0, n0, c0, q1, n1, c1, q3, n3, c3, q4, n4, c4, q5, n5, c5, rfl, k0.awayL U_3 nbzL hkY, k1.awayL U_3 nbzL hkY, k3.awayL U_3 nbzL hkY, k4.awayL U_3 nbzL hkY, k5.awayL U_3 nbzL hkY⟩, B_3.trans (hbY _ (Nat.le_refl _))⟩

end Go.Proofs.YtajojgimbagjoaaGreatDoor.Url

namespace Go.Proofs.YtajojgimbagjoaaGreatDoor.Org
open Go.RowKit Go.Shelf Url
attribute [local go_sem] Oper.semAt_some

theorem canonOk : CanonOk := fun q n c t w h1 h2 h3 => canonOf_any q n c t w h1 h2 h3
def liveT : List UInt8 := [104, 116, 116, 112, 58, 47, 47, 97, 46, 111, 114, 103, 58, 56, 48, 56, 48, 47, 120]
def liveS : List UInt8 := [104, 116, 116, 112, 58, 47, 47, 97, 46, 111, 114, 103, 58, 56, 48, 56, 48]
def placeOf (o : Sum Int U) : Option (List UInt8 × Nat) := match o with
  | .inr u => some (placeU u, (textU u).length)
  | .inl _ => none
theorem live_of : placeOf (canonU liveT) = some (liveS, 19) := by decide +kernel
theorem live_url : ∃ u, canonU liveT = .inr u ∧ placeU u = liveS ∧ (textU u).length = 19 := by
  have h := live_of
  cases hc : canonU liveT with
  | inl n => rw [hc] at h; cases h
  | inr u =>
    rw [hc] at h
    have := Option.some.inj h
    exact ⟨u, rfl, congrArg Prod.fst this, congrArg Prod.snd this⟩
theorem canon_ok (t : List UInt8) (u : U) (h : canonU t = .inr u) (hl : t.length ≤ 4096) : Ok u := parse_ok t u (by rw [parse_canon t hl]; exact h)

set_option maxRecDepth 100000 in
set_option maxHeartbeats 8000000 in
theorem lives_any (w : World) (hG : Gl w) : Calls Tryz.prog 4 #[] w fun e w' => e = .returned (.bool true) ∧ Below w.heap.size w w' := by
  have kc := fun (w : World) (C : Array Value) (n c : Nat) => Lib.run_convert_bytes_const (P := Tryz.prog) w 22 5 C n c Tryz.underlying22 Tryz.underlying5
  obtain ⟨u, hu, hT, hl19⟩ := live_url
  obtain ⟨X0, hX0⟩ : ∃ X0, w.alloc (.cells #[.int .u8 104, .int .u8 116, .int .u8 116, .int .u8 112, .int .u8 58, .int .u8 47, .int .u8 47, .int .u8 97, .int .u8 46, .int .u8 111, .int .u8 114, .int .u8 103, .int .u8 58, .int .u8 56, .int .u8 48, .int .u8 56, .int .u8 48, .int .u8 47, .int .u8 120] 5 (19, 20)) = X0 := ⟨_, rfl⟩
  have B_0 : Below w.heap.size w X0 := by rw [← hX0]; exact (Below.refl _ w).alloc (Nat.le_refl _) _
  have hby : By X0 (.slice (some ⟨w.heap.size, 0, none⟩) 19 19) liveT := by rw [← hX0]; exact by_lit w #[.int .u8 104, .int .u8 116, .int .u8 116, .int .u8 112, .int .u8 58, .int .u8 47, .int .u8 47, .int .u8 97, .int .u8 46, .int .u8 111, .int .u8 114, .int .u8 103, .int .u8 58, .int .u8 56, .int .u8 48, .int .u8 56, .int .u8 48, .int .u8 47, .int .u8 120] liveT (19, 20) 19 rfl rfl (by decide)
  have con := Parse_of canonOk (some ⟨w.heap.size, 0, none⟩) 19 19 liveT X0 hby (by omega) (hG.on B_0) (fun u' hu' => by rw [hu] at hu'; cases hu'; omega)
  rw [hu] at con
  have HO := Lib.hid (canon_ok liveT u hu (by decide))
  have HX0 := Lib.hid hX0
  have HT := Lib.hid hT
  have HG := Lib.hid hG
  clear hX0 hby hG hu hT hl19
  go_enter Tryz.func4, Tryz.ntmps4
  go_wp2_with fail
  rw [HX0.out]
  refine con.mono ?_
  rintro e X1 ⟨v, rfl, hin, hb⟩
  have B_1 := B_0.trans (hb.mono B_0.size)
  clear con hb B_0 HX0
  obtain ⟨q0, n0, c0, q1, n1, c1, q3, n3, c3, q4, n4, c4, q5, n5, c5, rfl, i0, i1, i3, i4, i5⟩ := id hin
  obtain ⟨X2, hX2⟩ : ∃ X2, X1.alloc (.cells #[.slice q0 n0 c0, .slice q1 n1 c1, .int .i64 u.port, .slice q3 n3 c3, .slice q4 n4 c4, .slice q5 n5 c5, .bool u.hq, .bool u.hf] 25) = X2 := ⟨_, rfl⟩
  have hb : Below X1.heap.size X1 X2 := by rw [← hX2]; exact (Below.refl _ _).alloc (Nat.le_refl _) _
  have B_2 := B_1.trans (hb.mono B_1.size)
  have con := Of_any u _ X2 (hin.on hb)
  have HX2 := Lib.hid hX2
  clear hX2 hb B_1 hin i0 i1 i3 i4 i5
  go_wp2_with fail
  rw [HX2.out]
  refine con.mono ?_
  rintro e X3 ⟨rfl, hb⟩
  have B_3 := B_2.trans (hb.mono B_2.size)
  clear con hb B_2 HX2
  have con := Text_server u HO.out X3 (HG.out.on B_3)
  rw [HT.out] at con
  go_wp2_with fail
  refine con.mono ?_
  rintro e X4 ⟨rfl, hb⟩
  have B_4 := B_3.trans (hb.mono B_3.size)
  clear con hb B_3
  go_wp2
  go_ret
  exact ⟨(by first | rfl | decide), B_4⟩

end Go.Proofs.YtajojgimbagjoaaGreatDoor.Org

namespace Go.Proofs.YtajojgimbagjoaaGreatDoor.Org
open Go.RowKit Go.Shelf Url
attribute [local go_sem] Oper.semAt_some

/-- What url.Parse tells, in one form. -/
def ParseIs (t : List UInt8) (w : World) (e : Ending) (w' : World) : Prop := ∃ q0 n0 c0 q1 n1 c1 p q3 n3 c3 q4 n4 c4 q5 n5 c5 hq hf m,
  e = .returned (.tuple #[.agg #[.slice q0 n0 c0, .slice q1 n1 c1, .int .i64 p, .slice q3 n3 c3, .slice q4 n4 c4, .slice q5 n5 c5, .bool hq, .bool hf], .int .i64 m]) ∧
  (m ≠ 0 ∨ ∃ u : U, m = 0 ∧ parseU t = .inr u ∧ (u.port : Int) = p ∧ u.hq = hq ∧ u.hf = hf ∧ UrlIn w' (.agg #[.slice q0 n0 c0, .slice q1 n1 c1, .int .i64 p, .slice q3 n3 c3, .slice q4 n4 c4, .slice q5 n5 c5, .bool hq, .bool hf]) u) ∧ Below w.heap.size w w'
theorem Parse_is (q : Option Addr) (n c : Nat) (t : List UInt8) (w : World) (hby : By w (.slice q n c) t) (hn : n ≤ 400) (hG : Gl w) :
    Calls Tryz.prog 5 #[.slice q n c] w fun e w' => ParseIs t w e w' := by
  have hl := hby.at.1
  have hp := parse_canon t (by omega)
  refine (Parse_of canonOk q n c t w hby (by omega) hG (fun u hu => by have := text_len t u (hp.trans hu); omega)).mono ?_
  intro e w' h
  cases hc : canonU t with
  | inl m =>
    rw [hc] at h
    obtain ⟨hm, rfl, hb⟩ := h
    exact ⟨_, _, _, _, _, _, _, _, _, _, _, _, _, _, _, _, _, _, m, rfl, .inl hm, hb⟩
  | inr u =>
    rw [hc] at h
    obtain ⟨v, rfl, hin, hb⟩ := h
    obtain ⟨q0, n0, c0, q1, n1, c1, q3, n3, c3, q4, n4, c4, q5, n5, c5, rfl, i⟩ := id hin
    exact ⟨_, _, _, _, _, _, _, _, _, _, _, _, _, _, _, _, _, _, 0, rfl, .inr ⟨u, rfl, hp.trans hc, rfl, rfl, rfl, hin⟩, hb⟩
theorem url_facts (t : List UInt8) (u : U) (h : parseU t = .inr u) (hl : t.length ≤ 400) : Ok u ∧ (textU u).length ≤ 1218 ∧ (placeU u).length ≤ 1218 := by
  have h1 := text_len t u h
  have h2 := parse_ok t u h
  have h3 := root_len u h2
  rw [root_text, List.length_append] at h3
  simp only [List.length_cons, List.length_nil] at h3
  exact ⟨h2, by omega, by omega⟩

end Go.Proofs.YtajojgimbagjoaaGreatDoor.Org

namespace Go.Proofs.YtajojgimbagjoaaGreatDoor.Org
open Go.RowKit Go.Shelf Url
attribute [local go_sem] Oper.semAt_some
set_option linter.unusedVariables false

theorem UB.drewN {B : Nat} {cs : Array Value} {X : World} (h : UB B cs X) (q : Nat) : UB B cs (X.drewN q) := h

set_option maxRecDepth 100000 in
set_option maxHeartbeats 8000000 in
/-- What has a text that is no URL's has no URL. -/
theorem URL_bad (a0 a1 : ByteArray) (a2 a3 : Int) (T : List UInt8) (w : World) (hG : Gl w) (hT : T.length ≤ 400) (hp : ∀ u, parseU T ≠ .inr u)
    (htext : ∀ W, Gl W → Calls Tryz.prog 9 #[.agg #[.string a0, .string a1, .int .i64 a2, .int .i64 a3]] W fun e w' => e = .returned (.string ⟨T.toArray⟩) ∧ Below W.heap.size W w') :
    Calls Tryz.prog 11 #[.agg #[.string a0, .string a1, .int .i64 a2, .int .i64 a3]] w fun e w' => e = .returned (.tuple #[.agg zeroU, .bool false]) ∧ Below w.heap.size w w' := by
  obtain ⟨X1, hX1⟩ : ∃ X1, (w.alloc (.cells #[.string a0, .string a1, .int .i64 a2, .int .i64 a3] 34)).alloc (.cells #[.slice none 0 0, .slice none 0 0, .int .i64 0, .slice none 0 0, .slice none 0 0, .slice none 0 0, .bool false, .bool false] 25) = X1 := ⟨_, rfl⟩
  have B_1 : Below w.heap.size w X1 := by rw [← hX1]; exact ((Below.refl _ w).alloc (Nat.le_refl _) _).alloc (by rw [World.size_alloc]; omega) _
  have O_1 : OB w.heap.size #[.string a0, .string a1, .int .i64 a2, .int .i64 a3] X1 := by rw [← hX1]; exact (OB.new w _).on ((Below.refl _ _).alloc (Nat.le_refl _) _)
  have U_1 : UB (w.heap.size + 1) #[.slice none 0 0, .slice none 0 0, .int .i64 0, .slice none 0 0, .slice none 0 0, .slice none 0 0, .bool false, .bool false] X1 := by
    have := UB.new (w.alloc (.cells #[.string a0, .string a1, .int .i64 a2, .int .i64 a3] 34)) #[.slice none 0 0, .slice none 0 0, .int .i64 0, .slice none 0 0, .slice none 0 0, .slice none 0 0, .bool false, .bool false]
    rw [World.size_alloc] at this
    rw [← hX1]; exact this
  have y0 := O_1.box 0 _ rfl
  have y1 := O_1.box 1 _ rfl
  have y2 := O_1.box 2 _ rfl
  have y3 := O_1.box 3 _ rfl
  have con := htext X1 (hG.on B_1)
  have HX1 := Lib.hid hX1
  have HG := Lib.hid hG
  clear hX1 hG htext
  go_enter Tryz.func11, Tryz.ntmps11
  go_wp2_with fail
  rw [HX1.out]
  go_wp2_with fail
  refine con.mono ?_
  rintro e X2 ⟨rfl, hb⟩
  have B_2 := B_1.trans (hb.mono B_1.size)
  have O_2 := O_1.on hb
  have U_2 := U_1.on hb
  clear con hb B_1 O_1 U_1 HX1 y0 y1 y2 y3
  obtain ⟨c, X3, k0, hby, hb, -⟩ := conv_new X2 T (by omega)
  have B_3 := B_2.trans (hb.mono B_2.size)
  have O_3 := O_2.on hb
  have U_3 := U_2.on hb
  have con := Parse_is (some ⟨X2.heap.size, 0, none⟩) T.length c T X3 hby hT (HG.out.on B_3)
  clear hby hb B_2 O_2 U_2
  go_wp2_with fail
  (try rw [k0])
  go_wp2_with fail
  refine con.mono ?_
  rintro e X4 ⟨q0, n0, c0, q1, n1, c1, p, q3, n3, c3, q4, n4, c4, q5, n5, c5, hq, hf, m, rfl, hm, hb⟩
  have hm : m ≠ 0 := by
    rcases hm with h | ⟨u, _, h, _⟩
    · exact h
    · exact absurd h (hp u)
  have e5 : ((m : Int) != 0) = true := by rw [bne_iff_ne]; exact hm
  have hb2 := (Below.refl _ X4).alloc (Nat.le_refl _) (.cells #[.slice q0 n0 c0, .slice q1 n1 c1, .int .i64 p, .slice q3 n3 c3, .slice q4 n4 c4, .slice q5 n5 c5, .bool hq, .bool hf] 25)
  have B_5 := (B_3.trans (hb.mono B_3.size)).trans (hb2.mono (Nat.le_trans B_3.size hb.size))
  have U_5 := (U_3.on hb).on hb2
  clear con hb hb2 hm B_3 O_3 U_3 hp k0
  have x0 := U_5.box 0 _ rfl
  have x1 := U_5.box 1 _ rfl
  have x2 := U_5.box 2 _ rfl
  have x3 := U_5.box 3 _ rfl
  have x4 := U_5.box 4 _ rfl
  have x5 := U_5.box 5 _ rfl
  have x6 := U_5.box 6 _ rfl
  have x7 := U_5.box 7 _ rfl
  have f0 := U_5.frozen 0
  have f1 := U_5.frozen 1
  have f2 := U_5.frozen 2
  have f3 := U_5.frozen 3
  have f4 := U_5.frozen 4
  have f5 := U_5.frozen 5
  have f6 := U_5.frozen 6
  have f7 := U_5.frozen 7
  go_wp2_with (go_quiet (fail))
  obtain ⟨Y, hY, hU, hkY, hbY⟩ := UB.put (UB.drewN U_5 _) (.slice none 0 0) (.slice none 0 0) (.int .i64 0) (.slice none 0 0) (.slice none 0 0) (.slice none 0 0) (.bool false) (.bool false)
  rw [hY]
  (try simp only [Exit.inBlock, Exit.then])
  refine bodyPost_ret (ret_url2 rfl _ _ (w.heap.size + 1) _ rfl hU rfl) rfl ?_
  exact ⟨rfl, (B_5.trans ((Url.below_drewN _ _).mono B_5.size)).trans (hbY _ (Nat.le_succ _))⟩

set_option maxRecDepth 100000 in
set_option maxHeartbeats 8000000 in
/-- A server's URL is that of its path "/". -/
theorem URL_server (u : U) (hok : Ok u) (w : World) (hG : Gl w) (hl : (textU u).length ≤ 4096) :
    Calls Tryz.prog 11 #[orgV u.scheme u.host u.port 0] w fun e w' => ∃ v, e = .returned (.tuple #[v, .bool true]) ∧ UrlIn w' v (rootU u) ∧ Below w.heap.size w w' := by
  have htext := fun W (h : Gl W) => Text_server u hok W h
  have hlr := root_len u hok
  have hpl : (placeU u).length ≤ 4096 := by rw [root_text, List.length_append] at hlr; simp only [List.length_cons, List.length_nil] at hlr; omega
  have hp := place_parse u hok hpl
  rw [parse_canon _ hpl] at hp
  have hlr2 : (textU (rootU u)).length ≤ 4096 := by omega
  generalize placeU u = T at *
  unfold orgV at htext ⊢
  obtain ⟨a0, ha0⟩ : ∃ a0 : ByteArray, (⟨u.scheme.toArray⟩ : ByteArray) = a0 := ⟨_, rfl⟩
  obtain ⟨a1, ha1⟩ : ∃ a1 : ByteArray, (⟨u.host.toArray⟩ : ByteArray) = a1 := ⟨_, rfl⟩
  obtain ⟨a2, ha2⟩ : ∃ a2 : Int, (u.port : Int) = a2 := ⟨_, rfl⟩
  obtain ⟨a3, ha3⟩ : ∃ a3 : Int, a3 = 0 := ⟨_, rfl⟩
  rw [ha0, ha1, ha2, ← ha3] at htext ⊢
  have HA := Lib.hid (show orgV (rootU u).scheme (rootU u).host (rootU u).port 0 = .agg #[.string a0, .string a1, .int .i64 a2, .int .i64 a3] by rw [← ha0, ← ha1, ← ha2, ha3]; rfl)
  clear ha0 ha1 ha2 ha3 hok hl hlr
  generalize rootU u = u at *
  obtain ⟨X1, hX1⟩ : ∃ X1, (w.alloc (.cells #[.string a0, .string a1, .int .i64 a2, .int .i64 a3] 34)).alloc (.cells #[.slice none 0 0, .slice none 0 0, .int .i64 0, .slice none 0 0, .slice none 0 0, .slice none 0 0, .bool false, .bool false] 25) = X1 := ⟨_, rfl⟩
  have B_1 : Below w.heap.size w X1 := by rw [← hX1]; exact ((Below.refl _ w).alloc (Nat.le_refl _) _).alloc (by rw [World.size_alloc]; omega) _
  have O_1 : OB w.heap.size #[.string a0, .string a1, .int .i64 a2, .int .i64 a3] X1 := by rw [← hX1]; exact (OB.new w _).on ((Below.refl _ _).alloc (Nat.le_refl _) _)
  have U_1 : UB (w.heap.size + 1) #[.slice none 0 0, .slice none 0 0, .int .i64 0, .slice none 0 0, .slice none 0 0, .slice none 0 0, .bool false, .bool false] X1 := by
    have := UB.new (w.alloc (.cells #[.string a0, .string a1, .int .i64 a2, .int .i64 a3] 34)) #[.slice none 0 0, .slice none 0 0, .int .i64 0, .slice none 0 0, .slice none 0 0, .slice none 0 0, .bool false, .bool false]
    rw [World.size_alloc] at this
    rw [← hX1]; exact this
  have y0 := O_1.box 0 _ rfl
  have y1 := O_1.box 1 _ rfl
  have y2 := O_1.box 2 _ rfl
  have y3 := O_1.box 3 _ rfl
  have con := htext X1 (hG.on B_1)
  have HX1 := Lib.hid hX1
  have HG := Lib.hid hG
  clear hX1 hG htext
  go_enter Tryz.func11, Tryz.ntmps11
  go_wp2_with fail
  rw [HX1.out]
  go_wp2_with fail
  refine con.mono ?_
  rintro e X2 ⟨rfl, hb⟩
  have B_2 := B_1.trans (hb.mono B_1.size)
  have O_2 := O_1.on hb
  have U_2 := U_1.on hb
  clear con hb B_1 O_1 U_1 HX1 y0 y1 y2 y3
  obtain ⟨c, X3, k0, hby, hb, -⟩ := conv_new X2 T (by omega)
  have B_3 := B_2.trans (hb.mono B_2.size)
  have O_3 := O_2.on hb
  have U_3 := U_2.on hb
  have con := Parse_of canonOk (some ⟨X2.heap.size, 0, none⟩) T.length c T X3 hby hpl (HG.out.on B_3) (fun u' hu' => by rw [hp] at hu'; cases hu'; exact hlr2)
  rw [hp] at con
  clear hby hb B_2 O_2 U_2
  go_wp2_with fail
  (try rw [k0])
  go_wp2_with fail
  refine con.mono ?_
  rintro e X4 ⟨v, rfl, hin, hb⟩
  obtain ⟨q0, n0, c0, q1, n1, c1, q3, n3, c3, q4, n4, c4, q5, n5, c5, rfl, _⟩ := id hin
  obtain ⟨X5, hX5⟩ : ∃ Z, X4.alloc (.cells #[.slice q0 n0 c0, .slice q1 n1 c1, .int .i64 u.port, .slice q3 n3 c3, .slice q4 n4 c4, .slice q5 n5 c5, .bool u.hq, .bool u.hf] 25) = Z := ⟨_, rfl⟩
  obtain ⟨b5, hb5⟩ : ∃ b, X4.heap.size = b := ⟨_, rfl⟩
  have V_5 : UB b5 #[.slice q0 n0 c0, .slice q1 n1 c1, .int .i64 u.port, .slice q3 n3 c3, .slice q4 n4 c4, .slice q5 n5 c5, .bool u.hq, .bool u.hf] X5 := by rw [← hX5, ← hb5]; exact UB.new X4 _
  have hb2 : Below X4.heap.size X4 X5 := by rw [← hX5]; exact (Below.refl _ _).alloc (Nat.le_refl _) _
  have B_5 := (B_3.trans (hb.mono B_3.size)).trans (hb2.mono (Nat.le_trans B_3.size hb.size))
  have O_5 := (O_3.on hb).on hb2
  have U_5 := (U_3.on hb).on hb2
  have I_5 := hin.on hb2
  have hne : w.heap.size + 1 < b5 := by rw [← hb5]; exact (U_3.on hb).lt
  have HX5 := Lib.hid hX5
  have HB5 := Lib.hid hb5
  clear con hb hb2 B_3 O_3 U_3 k0 hX5 hb5 hin hp hpl hlr2
  go_wp2_with fail
  rw [HB5.out, HX5.out]
  refine pregion_any (fun X => Box b5 #[.slice q0 n0 c0, .slice q1 n1 c1, .int .i64 u.port, .slice q3 n3 c3, .slice q4 n4 c4, .slice q5 n5 c5, .bool u.hq, .bool u.hf] X ∧ Box w.heap.size #[.string a0, .string a1, .int .i64 a2, .int .i64 a3] X) (by kernel_rfl) ?_
  have hb : Below X5.heap.size X5 X5.drew := (Below.refl _ _).drew
  have B_6 := B_5.trans (hb.mono B_5.size)
  have I_6 := I_5.on hb
  have V_6 := V_5.on hb
  have O_6 := O_5.on hb
  have U_6 := U_5.on hb
  clear hb B_5 I_5 V_5 O_5 U_5 HX5 HB5
  generalize X5.drew = X6 at *
  have hS0 := And.intro V_6.box O_6.box
  refine wpAnyH_take (i := 0) (v := (.int .i64 0)) rfl (by kernel_rfl) (by kernel_rfl) (by kernel_rfl) (fun _ _ _ h => h) (.inl ⟨by kernel_rfl, ?_⟩) hS0 ?_
  · rintro w ⟨h, k⟩; go_simp <;> omega
  refine plist #[true, false, false, false, false, false, false, false] (by kernel_rfl) ?_
  refine wpAnyH_take (i := 1) (v := (.bool false)) rfl (by kernel_rfl) (by kernel_rfl) (by kernel_rfl) (fun _ _ _ h => h) (.inl ⟨by kernel_rfl, ?_⟩) hS0 ?_
  · rintro w ⟨h, k⟩; go_simp <;> omega
  refine plist #[true, true, false, false, false, false, false, false] (by kernel_rfl) ?_
  refine wpAnyH_take (i := 2) (v := (.bool false)) rfl (by kernel_rfl) (by kernel_rfl) (by kernel_rfl) (fun _ _ _ h => h) (.inl ⟨by kernel_rfl, ?_⟩) hS0 ?_
  · rintro w ⟨h, k⟩; go_simp <;> omega
  refine plist #[true, true, true, false, false, false, false, false] (by kernel_rfl) ?_
  refine wpAnyH_take (i := 5) (v := (.agg #[.string a0, .string a1, .int .i64 a2, .int .i64 a3])) rfl (by kernel_rfl) (by kernel_rfl) (by kernel_rfl) (fun _ _ _ h => h) (.inl ⟨by kernel_rfl, ?_⟩) hS0 ?_
  · rintro w ⟨h, k⟩; have k0 := k 0 _ rfl; have k1 := k 1 _ rfl; have k2 := k 2 _ rfl; have k3 := k 3 _ rfl; go_simp <;> omega
  refine plist #[true, true, true, false, false, true, false, false] (by kernel_rfl) ?_
  refine pone 3 (by kernel_rfl) rfl fun K hK => ?_
  have x0 := V_6.box 0 _ rfl
  have x1 := V_6.box 1 _ rfl
  have x2 := V_6.box 2 _ rfl
  have x3 := V_6.box 3 _ rfl
  have x4 := V_6.box 4 _ rfl
  have x5 := V_6.box 5 _ rfl
  have x6 := V_6.box 6 _ rfl
  have x7 := V_6.box 7 _ rfl
  go_simp
  refine hK _ _ hS0 ?_
  clear hK K
  refine plist #[true, true, true, true, false, true, false, false] (by kernel_rfl) ?_
  have con := Of_any u _ X6 I_6
  rw [HA.out] at con
  refine pone 4 (by kernel_rfl) rfl fun K hK => ?_
  go_simp
  refine con.mono ?_
  rintro e X7 ⟨rfl, hb⟩
  have B_7 := B_6.trans (hb.mono B_6.size)
  have I_7 := I_6.on hb
  have V_7 := V_6.on hb
  have O_7 := O_6.on hb
  have U_7 := U_6.on hb
  clear con hb B_6 I_6 V_6 O_6 U_6 hS0 x0 x1 x2 x3 x4 x5 x6 x7
  have hS0 := And.intro V_7.box O_7.box
  refine hK _ _ hS0 ?_
  clear hK K
  refine plist #[true, true, true, true, true, true, false, false] (by kernel_rfl) ?_
  refine pone 6 (by kernel_rfl) rfl fun K hK => ?_
  go_simp
  refine hK _ _ hS0 ?_
  clear hK K
  refine plist #[true, true, true, true, true, true, true, false] (by kernel_rfl) ?_
  refine pone 7 (by kernel_rfl) rfl fun K hK => ?_
  go_simp
  refine hK _ _ hS0 ?_
  clear hK K
  refine pdone (by kernel_rfl) ?_ _
  clear hS0 HA HG
  have x0 := V_7.box 0 _ rfl
  have x1 := V_7.box 1 _ rfl
  have x2 := V_7.box 2 _ rfl
  have x3 := V_7.box 3 _ rfl
  have x4 := V_7.box 4 _ rfl
  have x5 := V_7.box 5 _ rfl
  have x6 := V_7.box 6 _ rfl
  have x7 := V_7.box 7 _ rfl
  have z0 := U_7.box 0 _ rfl
  have z1 := U_7.box 1 _ rfl
  have z2 := U_7.box 2 _ rfl
  have z3 := U_7.box 3 _ rfl
  have z4 := U_7.box 4 _ rfl
  have z5 := U_7.box 5 _ rfl
  have z6 := U_7.box 6 _ rfl
  have z7 := U_7.box 7 _ rfl
  have f0 := U_7.frozen 0
  have f1 := U_7.frozen 1
  have f2 := U_7.frozen 2
  have f3 := U_7.frozen 3
  have f4 := U_7.frozen 4
  have f5 := U_7.frozen 5
  have f6 := U_7.frozen 6
  have f7 := U_7.frozen 7
  go_wp2
  obtain ⟨Y, hY, hU, hkY, hbY⟩ := UB.put U_7 (.slice q0 n0 c0) (.slice q1 n1 c1) (.int .i64 u.port) (.slice q3 n3 c3) (.slice q4 n4 c4) (.slice q5 n5 c5) (.bool u.hq) (.bool u.hf)
  rw [hY]
  (try simp only [Exit.inBlock, Exit.then])
  refine bodyPost_ret (ret_url2 rfl _ _ (w.heap.size + 1) _ rfl hU rfl) rfl ?_
  refine ⟨_, rfl, ?_, B_7.trans (hbY _ (Nat.le_succ _))⟩
  obtain ⟨_, _, _, _, _, _, _, _, _, _, _, _, _, _, _, he, i0, i1, i3, i4, i5⟩ := id I_7
  cases he
  exact ⟨_, _, _, _, _, _, _, _, _, _, _, _, _, _, _, rfl, i0.awayL U_7 nbzL hkY, i1.awayL U_7 nbzL hkY, i3.awayL U_7 nbzL hkY, i4.awayL U_7 nbzL hkY, i5.awayL U_7 nbzL hkY⟩

end Go.Proofs.YtajojgimbagjoaaGreatDoor.Org

namespace Go.Proofs.YtajojgimbagjoaaGreatDoor.Ref
open Go.RowKit Go.Shelf Url

/-- What is kept of the first k of N pieces. -/
def outL (N k : Nat) (cs : List (List UInt8)) : List (List UInt8) := if k < N then stackL [] cs else dotsL cs
theorem out_mid (N k : Nat) (cs : List (List UInt8)) (h : k < N) : outL N k cs = stackL [] cs := by unfold outL; rw [if_pos h]
theorem out_end (N k : Nat) (cs : List (List UInt8)) (h : ¬ k < N) : outL N k cs = dotsL cs := by unfold outL; rw [if_neg h]
theorem out_last (N k : Nat) (cs : List (List UInt8)) (h : ¬ k < N) (hd : dotB (cs.getLastD []) = true) : outL N k cs = stackL [] cs ++ [[]] := by rw [out_end N k cs h, dotsL, if_pos hd]
theorem out_other (N k : Nat) (cs : List (List UInt8)) (hd : dotB (cs.getLastD []) = false) : outL N k cs = stackL [] cs := by
  unfold outL
  split
  · rfl
  · rw [dotsL, if_neg (by rw [hd]; simp), List.append_nil]
/-- Pieces, each behind a slash. -/
def slashL (R : List (List UInt8)) : List UInt8 := R.flatMap fun x => 47 :: x
theorem slash_join : ∀ R : List (List UInt8), R ≠ [] → slashL R = 47 :: joinL 47 R
  | [], h => absurd rfl h
  | [p], _ => by simp [slashL, joinL]
  | p :: q :: r, _ => by
    have ih := slash_join (q :: r) (by simp)
    show (47 :: p) ++ slashL (q :: r) = 47 :: (p ++ 47 :: joinL 47 (q :: r))
    rw [ih]; simp
theorem slash_weight : ∀ R : List (List UInt8), (slashL R).length = weightL R
  | [] => rfl
  | p :: r => by
    have ih := slash_weight r
    show ((47 :: p) ++ slashL r).length = p.length + 1 + weightL r
    rw [List.length_append, ih]; simp
theorem slash_take (R : List (List UInt8)) (k : Nat) (h : k < R.length) : slashL (R.take (k + 1)) = slashL (R.take k) ++ 47 :: R.getD k [] := by
  rw [List.take_succ_eq_append_getElem h]
  unfold slashL
  rw [List.flatMap_append]
  congr 1
  simp [List.getD, List.getElem?_eq_getElem h]
theorem weight_take (R : List (List UInt8)) (k : Nat) : weightL (R.take k) ≤ weightL R := by
  have h := List.take_append_drop k R
  have : weightL (R.take k) + weightL (R.drop k) = weightL R := by rw [← weight_app, h]
  omega
theorem forms_take (l : List (List UInt8)) (k : Nat) (cs : List (List UInt8)) (c : List UInt8) (hk : k < l.length) (h : formsL (l.take k) = some cs) (hc : formL 1 (l.getD k []) = some c) : formsL (l.take (k + 1)) = some (cs ++ [c]) := by
  have e : l.take (k + 1) = l.take k ++ [l.getD k []] := by
    rw [List.take_succ_eq_append_getElem hk]
    congr 2
    simp [List.getD, List.getElem?_eq_getElem hk]
  rw [e]
  exact forms_snoc _ _ _ _ h hc
theorem forms_none (l : List (List UInt8)) (k : Nat) (hk : k < l.length) (hc : formL 1 (l.getD k []) = none) : formsL l = none := by
  have e := (List.take_append_drop k l).symm
  rw [drop_consS l k hk] at e
  rw [e]
  exact forms_bad _ _ _ hc
theorem owns_slice {W : World} {base n : Nat} {v : Value} {xs : List (List UInt8)} (h : W.ownsRow base 9 1 v n (xs.map strV)) : ∃ q c, v = .slice q n c ∧ n ≤ c ∧ c ≤ maxLen := by
  obtain ⟨q, c, rfl, _, h1, h2, _, _⟩ := strs_row h
  exact ⟨q, c, rfl, h1, h2⟩
theorem owns_pop {W : World} {base n c : Nat} {q : Option Addr} {xs : List (List UInt8)} (h : W.ownsRow base 9 1 (.slice q (n + 1) c) (n + 1) (xs.map strV)) : W.ownsRow base 9 1 (.slice q n c) n (xs.dropLast.map strV) := by
  obtain ⟨h0, h⟩ := h
  rw [List.length_map] at h0
  refine ⟨by rw [List.length_map, List.length_dropLast]; omega, ?_⟩
  rcases h with ⟨h1, _⟩ | ⟨g, cap, cur, he, hb, hg, h1, h2, h3, h4⟩
  · cases h1
  · cases he
    refine .inr ⟨g, c, cur, rfl, hb, hg, by omega, h2, h3, ?_⟩
    have : xs.dropLast.map strV = (xs.map strV).take n := by
      rw [List.dropLast_eq_take, ← List.map_take]
      congr 2
      omega
    rw [this, ← h4, List.take_take]
    congr 1
    omega
theorem own_pop (q : Option Addr) (n m c : Nat) : (Value.slice q n c).ownBlock = (Value.slice q m c).ownBlock := by cases q <;> rfl
theorem run_slice_toS (q : Option Addr) (n c j : Nat) (W : World) (hj : j ≤ c) :
    (Instr.slice 68 (.slice q n c) none (some (.int .i64 (j : Int))) none).run Tryz.prog W = .ok (.slice q j c) W := by
  have hs : ∀ w, (Go.sizeOf 9).run Tryz.prog w = .ok 1 w := Tryz.sizeOf9
  have he : Tryz.prog.elem 68 = 9 := by kernel_rfl
  have h := run_slice_h (P := Tryz.prog) (w := W) 68 q n c (by rw [he]; exact Tryz.underlying68) .i64 j (by omega) (by omega)
  rw [h, he, hs]
  have h0 := subA_zero q c
  unfold Go.Proofs.YtajojgimbagjoaaGreatDoor.subA at h0
  simp only [Result.andThen, sliced, Int.toNat_natCast, Nat.sub_zero, Nat.mul_one, h0]

/-- A path's one form, if it has one. -/
def DotsOut (o : Option (List UInt8)) (w : World) (e : Ending) (w' : World) : Prop :=
  ∃ x : ByteArray, e = .returned (.tuple #[.string x, .bool o.isSome]) ∧ Hid (x.data.toList = o.getD []) ∧ Below w.heap.size w w'
theorem dots_none {o : Option (List UInt8)} {w w' : World} (h : o = none) (hb : Below w.heap.size w w') : DotsOut o w (.returned (.tuple #[.string ⟨#[]⟩, .bool false])) w' := by
  subst h; exact ⟨_, rfl, rfl, hb⟩
theorem dots_some {o : Option (List UInt8)} {l : List UInt8} {w w' : World} {x : ByteArray} (h : o = some l) (hx : x.data.toList = l) (hb : Below w.heap.size w w') : DotsOut o w (.returned (.tuple #[.string x, .bool true])) w' := by
  subst h; exact ⟨_, rfl, hx, hb⟩
theorem path_cons (r : List UInt8) : pathL (47 :: r) = (formsL (splitL 47 r)).map fun cs => 47 :: joinL 47 (dotsL cs) := rfl
theorem ba_slash (z p : ByteArray) : (z ++ ⟨#[47]⟩ ++ p).data.toList = z.data.toList ++ 47 :: p.data.toList := by
  simp [ByteArray.data_append, Array.toList_append]

set_option maxRecDepth 100000 in
set_option maxHeartbeats 8000000 in
theorem Dots_any (s : ByteArray) (w : World) (hs : s.size ≤ 1048576) (hform : s.data.toList = [] ∨ ∃ r, s.data.toList = 47 :: r) :
    Calls Tryz.prog 20 #[.string s] w fun e w' => DotsOut (pathL s.data.toList) w e w' := by
  obtain ⟨i0, hi0, hz0, hz1, hz2⟩ := info_parts info_str
  have e0 := lit_eq s []
  rcases hform with hn | ⟨r, hr⟩
  · rw [decide_eq_true hn] at e0
    have H := Lib.hid (show pathL s.data.toList = some [47] by rw [hn]; rfl)
    clear hn
    go_enter Tryz.func20, Tryz.ntmps20
    go_wp2
    go_ret2
    exact dots_some H.out rfl (Below.refl _ _)
  · rw [decide_eq_false (by rw [hr]; simp)] at e0
    have con := Split_any 47 s w (by omega)
    have hlen := split_len 47 r
    have hrl : r.length ≤ 1048575 := by have := ba_len s; rw [hr] at this; simp at this; omega
    have hsp : splitL 47 s.data.toList = [] :: splitL 47 r := by rw [hr]; exact split_is 47 r
    have HPS := Lib.hid (show pathL s.data.toList = (formsL (splitL 47 r)).map fun cs => 47 :: joinL 47 (dotsL cs) by rw [hr]; rfl)
    have HSM := Lib.hid (split_small 47 r)
    have HWT := Lib.hid (weight_split 47 r)
    rw [hsp] at con
    have hne0 := split_ne 47 r
    obtain ⟨ys, hys⟩ : ∃ ys, splitL 47 r = ys := ⟨_, rfl⟩
    rw [hys] at con hlen HPS HSM HWT hne0
    obtain ⟨N, hN⟩ : ∃ N, ys.length = N := ⟨_, rfl⟩
    have HN := Lib.hid hN
    have HNE := Lib.hid hne0
    have hN1 : 1 ≤ N := by rw [← hN]; exact List.length_pos_iff.2 hne0
    rw [List.length_cons, hN] at con
    rw [hN] at hlen
    generalize pathL s.data.toList = po at *
    clear hys hN hne0 hsp hr
    go_enter Tryz.func20, Tryz.ntmps20
    go_wp2_with fail
    refine con.mono ?_
    rintro e w1 ⟨v, rfl, hrow, hbel⟩
    obtain ⟨q0, c0, rfl, hl0, hnc0, hcm0, hst0, hblk0⟩ := strs_row hrow
    have hst1 := hst0.from (i := 1) hnc0 hl0
    have hsl := run_slice_fromS q0 (N + 1) c0 0 w1 (by omega)
    have hbq : ∀ a, subA q0 c0 1 = some a → a.block < w1.heap.size := fun a ha => by
      unfold subA at ha
      split at ha
      · exact (hblk0 a ha).1
      · cases q0 with
        | none => cases ha
        | some a0 => cases ha; exact (hblk0 a0 rfl).1
    rw [show N + 1 - 1 = N from rfl, List.drop_one, List.tail_cons] at hst1
    rw [show (((0 : Nat) : Int) + 1) = 1 from rfl, show 0 + 1 = 1 from rfl, show N + 1 - 1 = N from rfl] at hsl
    have hcm1 : c0 - 1 ≤ maxLen := by omega
    have hnc1 : N ≤ c0 - 1 := by omega
    generalize subA q0 c0 1 = q at *
    generalize c0 - 1 = c at *
    clear con hrow hst0 hblk0 hl0 hnc0
    have hs1 := hbel.size
    have hmade : (w1.alloc (.cells #[] 9)).ownsRow w.heap.size 9 1 (.slice (some ⟨w1.heap.size, 0, none⟩) 0 0) 0 [] := World.ownsRow_made w1 #[] 0 hs1 (Nat.zero_le _) rfl
    have hb2 : Below w.heap.size w (w1.alloc (.cells #[] 9)) := hbel.alloc hs1 _
    have hst2 := hst1.on ((Below.refl _ w1).alloc (Nat.le_refl _) (.cells #[] 9))
    have hne2 : ∀ b, (Value.slice (some ⟨w1.heap.size, 0, none⟩) 0 0).ownBlock = some b → ∀ a, q = some a → b ≠ a.block := fun b hb a ha => by
      have h1 := hbq a ha
      cases hb
      show w1.heap.size ≠ a.block
      omega
    unfold maxLen at hcm0 hcm1
    clear hst1
    go_wp2_with fail
    (try rw [hsl])
    go_wp2
    go_loopw [5, 21] (fun o i wr => ∃ k : Nat, ∃ cs ks : List (List UInt8), k ≤ N ∧ i = .int .i64 k ∧ Hid (formsL (ys.take k) = some cs) ∧ cs.length = k ∧ Hid (outL N k cs = ks) ∧ ks.length ≤ k + 1 ∧
      wr.ownsRow w.heap.size 9 1 o ks.length (ks.map strV) ∧ (∀ b, o.ownBlock = some b → ∀ a, q = some a → b ≠ a.block) ∧ StIn wr q N ys ∧ Below w.heap.size w wr) (fun _ i _ => N - (intOf i).toNat)
    case atStart => exact ⟨0, [], [], Nat.zero_le _, rfl, rfl, rfl, Lib.hid (out_mid N 0 [] hN1), Nat.zero_le _, hmade, hne2, hst2, hb2⟩
    case round =>
      obtain ⟨k, cs, ks, hk, rfl, HF, hcl, HO, hkl, hownr, hner, hstr, hbr⟩ := hrel
      clear hmade hne2 hst2 hb2 hsl
      by_cases hlt : k < N
      · obtain ⟨b, oo, hqe, hbb, hc⟩ := hstr (by omega)
        have ck := hc k hlt
        have hy := HSM.out (ys.getD k []) (by
          have hk' : k < ys.length := by rw [HN.out]; exact hlt
          rw [List.getD, List.getElem?_eq_getElem hk']; exact List.getElem_mem hk')
        have hfn := forms_none ys k (by rw [HN.out]; exact hlt)
        have hft := forms_take ys k cs
        obtain ⟨y, hyy⟩ : ∃ y, ys.getD k [] = y := ⟨_, rfl⟩
        rw [hyy] at ck hy hfn hft
        obtain ⟨p, hp, hpv⟩ := str_of y
        rw [hpv] at ck
        subst hp
        have con := Pct.refCanon_any p 1 wr (by rw [ba_len] at hy; omega)
        have hrs := hbr.size
        have hbl : b < wr.heap.size := hbb
        subst hqe
        have HCL := Lib.hid hcl
        clear hpv hyy hc hcl
        cases hf : Pct.itemsL p.data.toList with
        | none =>
          rw [hf] at con
          have HPN := Lib.hid (show po = none by rw [HPS.out, hfn (by unfold formL; rw [hf]; rfl)]; rfl)
          clear hf hfn hft HF HO
          go_wp2_with fail
          refine con.mono ?_
          rintro e w3 ⟨cx, rfl, hcx, hb3⟩
          go_wp2
          go_ret2
          exact dots_none HPN.out (hbr.trans (hb3.mono hrs))
        | some m =>
          rw [hf] at con
          have hf2 : formL 1 p.data.toList = some (Pct.canL 1 m) := by unfold formL; rw [hf]; rfl
          have HF1 := Lib.hid (hft (Pct.canL 1 m) (by rw [HN.out]; exact hlt) HF.out hf2)
          rw [out_mid N k cs hlt] at HO
          clear hf hfn hft hf2 HF
          go_wp2_with fail
          refine con.mono ?_
          rintro e w3 ⟨cx, rfl, hcx, hb3⟩
          have hcx' : cx.data.toList = Pct.canL 1 m := hcx.out
          have HF2 := Lib.hid (show formsL (ys.take (k + 1)) = some (cs ++ [cx.data.toList]) by rw [hcx']; exact HF1.out)
          have hb03 := hbr.trans (hb3.mono hrs)
          have hrs3 := hb3.size
          have hown3 := owns_below hownr hb3
          have hst3 := hstr.on hb3
          have hne3 := hner
          have hql : ∀ a, (some ⟨b, oo, none⟩ : Option Addr) = some a → a.block < w3.heap.size + 1 := fun a ha => by cases ha; show b < _; omega
          have HSN := Lib.hid (stack_snoc cs cx.data.toList)
          rw [HO.out] at HSN
          have HLN := Lib.hid (last_snoc cs cx.data.toList)
          have f1 := lit_eq cx [46]
          have f2 := lit_eq cx [46, 46]
          replace hrs : w.heap.size ≤ w3.heap.size := by omega
          obtain ⟨M, hM⟩ : ∃ M, ks.length = M := ⟨_, rfl⟩
          have HM := Lib.hid hM
          rw [hM] at hkl hown3
          clear con hcx hcx' HF1 hstr hownr hner hM ck
          by_cases h1 : cx.data.toList = [46]
          · rw [decide_eq_true h1] at f1
            rw [decide_eq_false (by rw [h1]; decide)] at f2
            have g1 : (cx.toList != [46]) = false := by unfold bne; rw [f1]; rfl
            have g2 : (cx.toList != [46, 46]) = true := by unfold bne; rw [f2]; rfl
            have HSK := Lib.hid (show stackL [] (cs ++ [cx.data.toList]) = ks by rw [HSN.out, if_pos h1])
            have HDT := Lib.hid (show dotB ((cs ++ [cx.data.toList]).getLastD []) = true by rw [HLN.out, h1]; decide)
            clear h1 HSN HLN
            by_cases hlast : k + 1 = N
            · have e5 : ((k : Int) == (N : Int) - 1) = true := by rw [beq_iff_eq]; omega
              have HO2 := Lib.hid (show outL N (k + 1) (cs ++ [cx.data.toList]) = ks ++ [[]] by rw [out_last _ _ _ (by omega) HDT.out, HSK.out])
              go_wp2_with (at_builtin; refine wpList_append_own_at _ rfl _ _ 68 rfl w.heap.size 9 i0 (.string ByteArray.empty) 1 16 Tryz.underlying68 hi0 hz0 hz1 hz2 rfl (by decide) _ _ _ rfl (hown3.alloc _) ⟨w3.heap.size, 0, none⟩ 1 1 [.string ⟨#[]⟩] rfl rfl (cell_one_new _ _ _) (by simp [Value.oneCell']) (by unfold maxLen; omega) (by omega) (by simp; omega) ?_; intro v' w4 hown' hgrow _ hat)
              have hb4 : Below w.heap.size w3 w4 := ((Below.refl _ w3).alloc hrs _).grown hgrow (by simp; omega) (fun b hb => (hown3.lt b hb).1)
              go_roundw
              case rel =>
                refine ⟨k + 1, cs ++ [cx.data.toList], ks ++ [[]], by omega, by go_num, HF2, by rw [List.length_append, HCL.out]; rfl, HO2, by rw [List.length_append, HM.out]; simp <;> omega, by rw [List.map_append, List.length_append, HM.out]; exact hown', fun b' hb' a ha => ?_, hst3.grown hgrow (fun a ha hr => hne3 _ hr a ha rfl), hb03.trans hb4⟩
                rcases hat with h' | h'
                · rw [h'] at hb'; exact hne3 b' hb' a ha
                · rw [h'] at hb'
                  cases hb'
                  have := hql a ha
                  rw [World.size_alloc]
                  omega
              case measure => simp [intOf]; omega
            · have e5 : ((k : Int) == (N : Int) - 1) = false := by rw [beq_eq_false_iff_ne]; omega
              have HO2 := Lib.hid (show outL N (k + 1) (cs ++ [cx.data.toList]) = ks by rw [out_mid _ _ _ (by omega), HSK.out])
              go_wp2
              go_roundw
              case rel => exact ⟨k + 1, cs ++ [cx.data.toList], ks, by omega, by go_num, HF2, by rw [List.length_append, HCL.out]; rfl, HO2, by rw [HM.out]; omega, by rw [HM.out]; exact hown3, hne3, hst3, hb03⟩
              case measure => simp [intOf]; omega
          · rw [decide_eq_false h1] at f1
            have g1 : (cx.toList != [46]) = true := by unfold bne; rw [f1]; rfl
            by_cases h2 : cx.data.toList = [46, 46]
            · rw [decide_eq_true h2] at f2
              have g2 : (cx.toList != [46, 46]) = false := by unfold bne; rw [f2]; rfl
              have HSK := Lib.hid (show stackL [] (cs ++ [cx.data.toList]) = ks.dropLast by rw [HSN.out, if_neg h1, if_pos h2])
              have HDT := Lib.hid (show dotB ((cs ++ [cx.data.toList]).getLastD []) = true by rw [HLN.out, h2]; decide)
              clear h1 h2 HSN HLN
              obtain ⟨qo, co, rfl, hmc, hcm⟩ := owns_slice hown3
              unfold maxLen at hcm
              cases M with
              | zero =>
                have hkn : ks = [] := List.eq_nil_of_length_eq_zero HM.out
                have hdl : (ks.dropLast) = ks := by rw [hkn]; rfl
                rw [hdl] at HSK
                have hown3 : w3.ownsRow w.heap.size 9 1 (.slice qo 0 co) 0 (ks.map strV) := hown3
                clear hkn hdl
                by_cases hlast : k + 1 = N
                · have e5 : ((k : Int) == (N : Int) - 1) = true := by rw [beq_iff_eq]; omega
                  have HO2 := Lib.hid (show outL N (k + 1) (cs ++ [cx.data.toList]) = ks ++ [[]] by rw [out_last _ _ _ (by omega) HDT.out, HSK.out])
                  go_wp2_with (at_builtin; refine wpList_append_own_at _ rfl _ _ 68 rfl w.heap.size 9 i0 (.string ByteArray.empty) 1 16 Tryz.underlying68 hi0 hz0 hz1 hz2 rfl (by decide) _ _ _ rfl (hown3.alloc _) ⟨w3.heap.size, 0, none⟩ 1 1 [.string ⟨#[]⟩] rfl rfl (cell_one_new _ _ _) (by simp [Value.oneCell']) (by unfold maxLen; omega) (by omega) (by simp; omega) ?_; intro v' w4 hown' hgrow _ hat)
                  have hb4 : Below w.heap.size w3 w4 := ((Below.refl _ w3).alloc hrs _).grown hgrow (by simp; omega) (fun b hb => (hown3.lt b hb).1)
                  go_roundw
                  case rel =>
                    refine ⟨k + 1, cs ++ [cx.data.toList], ks ++ [[]], by omega, by go_num, HF2, by rw [List.length_append, HCL.out]; rfl, HO2, by rw [List.length_append, HM.out]; simp <;> omega, by rw [List.map_append, List.length_append, HM.out]; exact hown', fun b' hb' a ha => ?_, hst3.grown hgrow (fun a ha hr => hne3 _ hr a ha rfl), hb03.trans hb4⟩
                    rcases hat with h' | h'
                    · rw [h'] at hb'; exact hne3 b' hb' a ha
                    · rw [h'] at hb'
                      cases hb'
                      have := hql a ha
                      rw [World.size_alloc]
                      omega
                  case measure => simp [intOf]; omega
                · have e5 : ((k : Int) == (N : Int) - 1) = false := by rw [beq_eq_false_iff_ne]; omega
                  have HO2 := Lib.hid (show outL N (k + 1) (cs ++ [cx.data.toList]) = ks by rw [out_mid _ _ _ (by omega), HSK.out])
                  go_wp2
                  go_roundw
                  case rel => exact ⟨k + 1, cs ++ [cx.data.toList], ks, by omega, by go_num, HF2, by rw [List.length_append, HCL.out]; rfl, HO2, by rw [HM.out]; omega, by rw [HM.out]; exact hown3, hne3, hst3, hb03⟩
                  case measure => simp [intOf]; omega
              | succ M =>
                have hown5 := owns_pop hown3
                have HM5 := Lib.hid (show ks.dropLast.length = M by rw [List.length_dropLast, HM.out]; rfl)
                have hne5 : ∀ b', (Value.slice qo M co).ownBlock = some b' → ∀ a, (some ⟨b, oo, none⟩ : Option Addr) = some a → b' ≠ a.block := fun b' hb' => hne3 b' ((own_pop qo (M + 1) M co).trans hb')
                have hto := fun W => run_slice_toS qo (M + 1) co M W (by omega)
                obtain ⟨kd, hkd⟩ : ∃ kd, ks.dropLast = kd := ⟨_, rfl⟩
                rw [hkd] at HSK hown5 HM5
                clear hown3 hne3 hkd HO HM
                by_cases hlast : k + 1 = N
                · have e5 : ((k : Int) == (N : Int) - 1) = true := by rw [beq_iff_eq]; omega
                  have HO2 := Lib.hid (show outL N (k + 1) (cs ++ [cx.data.toList]) = kd ++ [[]] by rw [out_last _ _ _ (by omega) HDT.out, HSK.out])
                  go_wp2_with (at_builtin; refine wpList_append_own_at _ rfl _ _ 68 rfl w.heap.size 9 i0 (.string ByteArray.empty) 1 16 Tryz.underlying68 hi0 hz0 hz1 hz2 rfl (by decide) _ _ _ rfl (hown5.alloc _) ⟨w3.heap.size, 0, none⟩ 1 1 [.string ⟨#[]⟩] rfl rfl (cell_one_new _ _ _) (by simp [Value.oneCell']) (by unfold maxLen; omega) (by omega) (by simp; omega) ?_; intro v' w4 hown' hgrow _ hat)
                  have hb4 : Below w.heap.size w3 w4 := ((Below.refl _ w3).alloc hrs _).grown hgrow (by simp; omega) (fun b hb => (hown5.lt b hb).1)
                  go_roundw
                  case rel =>
                    refine ⟨k + 1, cs ++ [cx.data.toList], kd ++ [[]], by omega, by go_num, HF2, by rw [List.length_append, HCL.out]; rfl, HO2, by rw [List.length_append, HM5.out]; simp <;> omega, by rw [List.map_append, List.length_append, HM5.out]; exact hown', fun b' hb' a ha => ?_, hst3.grown hgrow (fun a ha hr => hne5 _ hr a ha rfl), hb03.trans hb4⟩
                    rcases hat with h' | h'
                    · rw [h'] at hb'; exact hne5 b' hb' a ha
                    · rw [h'] at hb'
                      cases hb'
                      have := hql a ha
                      rw [World.size_alloc]
                      omega
                  case measure => simp [intOf]; omega
                · have e5 : ((k : Int) == (N : Int) - 1) = false := by rw [beq_eq_false_iff_ne]; omega
                  have HO2 := Lib.hid (show outL N (k + 1) (cs ++ [cx.data.toList]) = kd by rw [out_mid _ _ _ (by omega), HSK.out])
                  go_wp2
                  go_roundw
                  case rel => exact ⟨k + 1, cs ++ [cx.data.toList], kd, by omega, by go_num, HF2, by rw [List.length_append, HCL.out]; rfl, HO2, by rw [HM5.out]; omega, by rw [HM5.out]; exact hown5, hne5, hst3, hb03⟩
                  case measure => simp [intOf]; omega
            · rw [decide_eq_false h2] at f2
              have g2 : (cx.toList != [46, 46]) = true := by unfold bne; rw [f2]; rfl
              have HSK := Lib.hid (show outL N (k + 1) (cs ++ [cx.data.toList]) = ks ++ [cx.data.toList] by
                rw [out_other _ _ _ (by rw [HLN.out]; unfold dotB; simp [h1, h2]), HSN.out, if_neg h1, if_neg h2])
              have HV := Lib.hid (show strV cx.data.toList = .string cx by unfold strV; simp)
              clear h1 h2 HSN HLN
              go_wp2_with (at_builtin; refine wpList_append_own_at _ rfl _ _ 68 rfl w.heap.size 9 i0 (.string ByteArray.empty) 1 16 Tryz.underlying68 hi0 hz0 hz1 hz2 rfl (by decide) _ _ _ rfl (hown3.alloc _) ⟨w3.heap.size, 0, none⟩ 1 1 [.string cx] rfl rfl (cell_one_new _ _ _) (by simp [Value.oneCell']) (by unfold maxLen; omega) (by omega) (by simp; omega) ?_; intro v' w4 hown' hgrow _ hat)
              have hb4 : Below w.heap.size w3 w4 := ((Below.refl _ w3).alloc hrs _).grown hgrow (by simp; omega) (fun b hb => (hown3.lt b hb).1)
              go_roundw
              case rel =>
                refine ⟨k + 1, cs ++ [cx.data.toList], ks ++ [cx.data.toList], by omega, by go_num, HF2, by rw [List.length_append, HCL.out]; rfl, HSK, by rw [List.length_append, HM.out]; simp <;> omega, by rw [List.map_append, List.length_append, HM.out, List.map_cons, HV.out]; exact hown', fun b' hb' a ha => ?_, hst3.grown hgrow (fun a ha hr => hne3 _ hr a ha rfl), hb03.trans hb4⟩
                rcases hat with h' | h'
                · rw [h'] at hb'; exact hne3 b' hb' a ha
                · rw [h'] at hb'
                  cases hb'
                  have := hql a ha
                  rw [World.size_alloc]
                  omega
              case measure => simp [intOf]; omega
      · have HD := Lib.hid (show ks = dotsL cs by rw [← HO.out, out_end N k cs (by omega)])
        have hF : formsL ys = some cs := by rw [← HF.out, List.take_of_length_le (by rw [HN.out]; omega)]
        have HP := Lib.hid (show po = some (slashL ks) by
          rw [HPS.out, hF, HD.out, slash_join _ (dots_ne cs (forms_ne ys cs hF HNE.out))]; rfl)
        have hw1 := weight_forms ys cs hF
        have hw2 := weight_dots cs
        have hw3 := HWT.out
        rw [← HD.out] at hw2
        have hks : 1 ≤ weightL ks := by
          have h := dots_ne cs (forms_ne ys cs hF HNE.out)
          rw [← HD.out] at h
          cases ks with
          | nil => exact absurd rfl h
          | cons a l => unfold weightL; omega
        have HW : weightL ks ≤ 4194304 := by omega
        have HSL := Lib.hid (fun j => (by rw [slash_weight]; exact Nat.le_trans (weight_take ks j) HW : (slashL (ks.take j)).length ≤ 4194304))
        have HPOS := Lib.hid (show 1 ≤ (slashL ks).length by rw [slash_weight]; exact hks)
        obtain ⟨qo, co, rfl, hkk, hmc, hcm, hsto, _⟩ := strs_row hownr
        obtain ⟨M, hM⟩ : ∃ M, ks.length = M := ⟨_, rfl⟩
        have HM := Lib.hid hM
        rw [hM] at hkl hmc hsto ⊢
        unfold maxLen at hcm
        clear HF HO hF hownr hner hstr HD hw1 hw2 hw3 hks HW hkk hM
        go_wp2
        go_loop [10, 66] (fun d i => ∃ j : Nat, ∃ z : ByteArray, j ≤ M ∧ i = .int .i64 j ∧ d = .string z ∧ Hid (z.data.toList = slashL (ks.take j))) (fun _ i => M - (intOf i).toNat)
        case atStart => exact ⟨0, ⟨#[]⟩, Nat.zero_le _, rfl, rfl, rfl⟩
        case round =>
          obtain ⟨j, z, hj, rfl, rfl, HZ⟩ := hrel
          have hzl := HSL.out j
          rw [← HZ.out, ba_len] at hzl
          by_cases hjl : j < M
          · obtain ⟨b, oo, rfl, _, hc⟩ := hsto (by omega)
            have ck := hc j hjl
            have hst := slash_take ks j (by rw [HM.out]; exact hjl)
            generalize ks.getD j [] = y at *
            obtain ⟨p, hp, hpv⟩ := str_of y
            rw [hpv] at ck
            subst hp
            have HZ2 := Lib.hid (show (z ++ ⟨#[47]⟩ ++ p).data.toList = slashL (ks.take (j + 1)) by rw [ba_slash, HZ.out, hst])
            have hzz := HSL.out (j + 1)
            rw [← HZ2.out, ba_len] at hzz
            have hz1' : (z ++ ⟨#[47]⟩ : ByteArray).size = z.size + 1 := by rw [ByteArray.size_append]; rfl
            have hz2' : (z ++ ⟨#[47]⟩ ++ p).size = z.size + 1 + p.size := by rw [ByteArray.size_append, hz1']
            have hz3 : z.size + 1 + p.size ≤ 4194304 := by omega
            clear hpv hst hc HZ hzz
            go_wp2
            go_round
            case rel => exact ⟨j + 1, _, by omega, by go_num, rfl, HZ2⟩
            case measure => simp [intOf]; omega
          · have HZE := Lib.hid (show z.data.toList = slashL ks by rw [HZ.out, List.take_of_length_le (by rw [HM.out]; omega)])
            have e7 := lit_eq z []
            rw [decide_eq_false (by rw [HZE.out]; intro h; have := HPOS.out; rw [h] at this; simp at this)] at e7
            clear HZ
            go_wp2
            go_ret2
            exact dots_some HP.out HZE.out hbr

end Go.Proofs.YtajojgimbagjoaaGreatDoor.Ref

namespace Go.Proofs.YtajojgimbagjoaaGreatDoor.Ref
open Go.RowKit Go.Shelf Url
attribute [local go_sem] Oper.semAt_some
set_option linter.unusedVariables false

/-- Block B holds the cells of the document's own URL. -/
def RU (B : Nat) (cs : Array Value) (X : World) : Prop := X.heap[B]? = some (.cells cs 30 (0, 0))
theorem RU.box {B : Nat} {cs : Array Value} {X : World} (h : RU B cs X) : Box B cs X := fun i x hx => by
  simp only [World.cell?, show X.heap[B]? = _ from h]; exact hx
theorem RU.frozen {B : Nat} {cs : Array Value} {X : World} (h : RU B cs X) (i : Nat) : X.frozen? ⟨B, i, none⟩ = false := by
  simp [World.frozen?, show X.heap[B]? = _ from h]
theorem RU.on {B : Nat} {cs : Array Value} {X Y : World} (h : RU B cs X) (hk : Below X.heap.size X Y) : RU B cs Y := (hk.block B (Array.getElem?_eq_some_iff.1 h).1).trans h
theorem RU.below {B M : Nat} {cs : Array Value} {X Y : World} (h : RU B cs X) (hk : Below M X Y) (hB : B < M) : RU B cs Y := (hk.block B hB).trans h
theorem RU.lt {B : Nat} {cs : Array Value} {X : World} (h : RU B cs X) : B < X.heap.size := (Array.getElem?_eq_some_iff.1 h).1
theorem RU.new (w : World) (cs : Array Value) : RU w.heap.size cs (w.alloc (.cells cs 30)) := World.alloc_heap_new w _
theorem RU.set {B : Nat} {cs : Array Value} {X : World} (h : RU B cs X) (i : Nat) (v : Value) : RU B (cs.setIfInBounds i v) (X.setCell ⟨B, i, none⟩ v) := by
  obtain ⟨hlt, hk⟩ := Array.getElem?_eq_some_iff.1 h
  show (X.heap.modify B _)[B]? = _
  rw [Array.getElem?_eq_getElem (by rw [Array.size_modify]; exact hlt), Array.getElem_modify_self, hk]
  rfl
/-- All eight cells set, one by one. -/
theorem RU.put {B : Nat} {X : World} {a0 a1 a2 a3 a4 a5 a6 a7 : Value} (h : RU B #[a0, a1, a2, a3, a4, a5, a6, a7] X) (v0 v1 v2 v3 v4 v5 v6 v7 : Value) :
    ∃ Y, (((((((X.setCell ⟨B, 0, none⟩ v0).setCell ⟨B, 1, none⟩ v1).setCell ⟨B, 2, none⟩ v2).setCell ⟨B, 3, none⟩ v3).setCell ⟨B, 4, none⟩ v4).setCell ⟨B, 5, none⟩ v5).setCell ⟨B, 6, none⟩ v6).setCell ⟨B, 7, none⟩ v7 = Y ∧
      RU B #[v0, v1, v2, v3, v4, v5, v6, v7] Y ∧ (∀ S : Nat → Prop, ¬ S B → Keep S X Y) ∧ ∀ M, M ≤ B → Below M X Y := by
  have h8 := (((((((h.set 0 v0).set 1 v1).set 2 v2).set 3 v3).set 4 v4).set 5 v5).set 6 v6).set 7 v7
  simp only [List.setIfInBounds_toArray, List.set_cons_zero, List.set_cons_succ] at h8
  refine ⟨_, rfl, h8, fun S hS => ?_, fun M hM => ?_⟩
  · exact (Keep.setCell _ _ _ hS).trans ((Keep.setCell _ _ _ hS).trans ((Keep.setCell _ _ _ hS).trans ((Keep.setCell _ _ _ hS).trans ((Keep.setCell _ _ _ hS).trans ((Keep.setCell _ _ _ hS).trans ((Keep.setCell _ _ _ hS).trans (Keep.setCell _ _ _ hS)))))))
  · exact (((((((((Below.refl M X).setCell (p := ⟨B, 0, none⟩) hM v0).setCell (p := ⟨B, 1, none⟩) hM v1).setCell (p := ⟨B, 2, none⟩) hM v2).setCell (p := ⟨B, 3, none⟩) hM v3).setCell (p := ⟨B, 4, none⟩) hM v4).setCell (p := ⟨B, 5, none⟩) hM v5).setCell (p := ⟨B, 6, none⟩) hM v6).setCell (p := ⟨B, 7, none⟩) hM v7)
theorem size_ru : (Tryz.prog.info? 30).map (·.size) = some 8 := by kernel_rfl
/-- A URL that lies in the result's cell is handed over. -/
theorem ret_ru {fn : Func} {p : Tmp} (h : fn.results = #[.cell p 30]) (tmps : Array Value) (w : World) (B : Nat) (cs : Array Value) (hp : tmps.getD p undef = .pointer (some ⟨B, 0, none⟩)) (hU : RU B cs w) (hs : cs.size = 8) :
    (results fn tmps).run Tryz.prog w = .ok (.agg cs) w :=
  results_cell_row h tmps w B _ cs (0, 0) _ hp hU Tryz.underlying30 rfl (by rw [size_ru, hs])
theorem ret_ru2 {fn : Func} {p u : Tmp} (h : fn.results = #[.cell p 30, .tmp u]) (tmps : Array Value) (w : World) (B : Nat) (cs : Array Value) (hp : tmps.getD p undef = .pointer (some ⟨B, 0, none⟩)) (hU : RU B cs w) (hs : cs.size = 8) :
    (results fn tmps).run Tryz.prog w = .ok (.tuple #[.agg cs, tmps.getD u undef]) w := by
  rw [results_cell_tmp h, hp]
  simp [asAddr, Result.andThen, run_loadVar_row w B 30 _ cs (0, 0) _ hU Tryz.underlying30 rfl (by rw [size_ru, hs])]

theorem RU.other {B C i : Nat} {cs : Array Value} {X : World} (h : RU B cs X) (hne : B ≠ C) (u : Value) : RU B cs (X.setCell ⟨C, i, none⟩ u) :=
  ((Keep.setCell (S := fun k => k = B) X ⟨C, i, none⟩ u (fun h => hne h.symm)).block B h.lt rfl).trans h

theorem parse_open (t : List UInt8) (u : U) (h : parseU t = .inr u) : t.length ≤ 4096 ∧ ∃ k : Nat, Lib.index t [58, 47, 47] = (k : Int) ∧ k + 3 ≤ t.length ∧ ownP (lowL (t.take k)) ≠ 0 ∧ restU (lowL (t.take k)) (t.drop (k + 3)) = .inr u := by
  unfold parseU at h
  split at h
  · cases h
  · rename_i hl
    refine ⟨by omega, ?_⟩
    rcases sep_cases t with ⟨_, h1⟩ | ⟨k, h1, h2, h3⟩
    · rw [h1] at h; cases h
    · rw [h3] at h
      simp only at h
      split at h
      · rename_i hs
        refine ⟨k, h1, h2, fun h0 => (own_zero _).1 h0 hs, h⟩
      · cases h
theorem rest_open (s r : List UInt8) (u : U) (h : restU s r = .inr u) : ∀ r1 r2 a hh : List UInt8, aheadL 35 r = r1 → aheadL 63 r1 = r2 → aheadL 47 r2 = a → aheadL 58 a = hh → Host.parseE hh = 0 ∧
    ∃ n p q f, portL s (Host.tailL 58 a) = some n ∧ pathL (r2.drop a.length) = some p ∧ optL (Host.tailL 63 r1) = some q ∧ optL (Host.tailL 35 r) = some f ∧ u = ⟨s, lowL hh, n, p, q, f, (Host.tailL 63 r1).isSome, (Host.tailL 35 r).isSome⟩ := by
  rintro r1 r2 a hh rfl rfl rfl rfl
  unfold restU at h
  simp only at h
  split at h
  · cases h
  · rename_i h0
    refine ⟨Decidable.not_not.1 h0, ?_⟩
    split at h
    · rename_i n p q f hn hp hq hf
      cases h
      exact ⟨n, p, q, f, hn, hp, hq, hf, rfl⟩
    · cases h
theorem slash_cases (l : List UInt8) : (Lib.index l [47] = -1 ∧ aheadL 47 l = l) ∨ ∃ k : Nat, Lib.index l [47] = (k : Int) ∧ k < l.length ∧ aheadL 47 l = l.take k := by
  rw [Lib.index_one]
  by_cases h : (47 : UInt8) ∈ l
  · obtain ⟨x, y, rfl, hx⟩ := List.eq_append_cons_of_mem h
    refine .inr ⟨x.length, ?_, by simp, ?_⟩
    · refine index_at _ _ _ (by simp) (by simp [List.getD]) fun j hj e => ?_
      apply hx
      rw [← e, List.getD, List.getElem?_append_left hj, List.getElem?_eq_getElem hj]
      exact List.getElem_mem hj
    · rw [(ahead_yes 47 x y hx).1]; simp
  · refine .inl ⟨index_no _ _ fun j hj e => h ?_, (ahead_no 47 l h).1⟩
    rw [← e, List.getD, List.getElem?_eq_getElem hj]
    exact List.getElem_mem hj
theorem opt_form (o : Option (List UInt8)) (c : List UInt8) (h : optL o = some c) : ∃ m, Pct.itemsL (o.getD []) = some m ∧ Pct.canL 2 m = c := by
  have h2 : formL 2 (o.getD []) = some c := by
    cases o with
    | none => rw [optL] at h; cases h; rfl
    | some l => exact h
  unfold formL at h2
  obtain ⟨m, hm, hc⟩ := Option.map_eq_some_iff.1 h2
  exact ⟨m, hm, hc⟩

theorem find_is (s x : ByteArray) (z : Int) (w : World) (hs : s.size ≤ 1099511627775) (hx0 : 0 < x.size) (hx : x.size ≤ 1099511627775) (h : Lib.index s.data.toList x.data.toList = z) :
    Calls Tryz.prog 14 #[.string s, .string x] w fun e w' => e = .returned (.int .i64 z) ∧ Below w.heap.size w w' :=
  (find_any s x w hs hx0 hx).mono fun e w' hh => by
    obtain ⟨rfl, q, rfl⟩ := hh
    exact ⟨by rw [h], below_drewN _ _⟩
theorem At_is (c : UInt8) (s : ByteArray) (w : World) (hs : s.size ≤ 1099511627775) :
    Calls Tryz.prog 17 #[.string s, .int .u8 (c.toNat : Int)] w fun e w' => ∃ x y : ByteArray, e = .returned (.tuple #[.string x, .string y, .bool (Host.tailL c s.data.toList).isSome]) ∧ Hid (x.data.toList = aheadL c s.data.toList) ∧ Hid (y.data.toList = (Host.tailL c s.data.toList).getD []) ∧ Below w.heap.size w w' :=
  (At_any c s w hs).mono fun e w' hh => by
    obtain ⟨x, y, h1, h2, h3, q, rfl⟩ := hh
    exact ⟨x, y, h1, h2, h3, below_drewN _ _⟩
theorem Lower_is (s : ByteArray) (w : World) (hs : s.size ≤ 1099511627775) :
    Calls Tryz.prog 15 #[.string s] w fun e w' => ∃ x : ByteArray, e = .returned (.string x) ∧ Hid (x.data.toList = lowL s.data.toList) ∧ Below w.heap.size w w' :=
  (Lower_any s w hs).mono fun e w' hh => by
    obtain ⟨x, h1, h2, q, rfl⟩ := hh
    exact ⟨x, h1, h2, below_drewN _ _⟩
theorem tail_len (c : UInt8) (l : List UInt8) : ((Host.tailL c l).getD []).length ≤ l.length := by
  have := ahead_tail c l
  cases h : Host.tailL c l with
  | none => simp
  | some d => rw [h] at this; simp at this ⊢; omega

set_option maxRecDepth 100000 in
set_option maxHeartbeats 16000000 in
theorem refParse_any (s : ByteArray) (w : World) (u : U) (h : parseU s.data.toList = .inr u) :
    Calls Tryz.prog 6 #[.string s] w fun e w' => e = .returned (.tuple #[refV u, .int .i64 0]) ∧ Below w.heap.size w w' := by
  obtain ⟨hlen, k, hk, hk3, hown, hrest⟩ := parse_open _ _ h
  rw [ba_len] at hlen hk3
  have d1 : decide ((4096 : Int) < (s.size : Int)) = false := by simp; omega
  have d2 : decide ((k : Int) < 0) = false := by simp
  have hS : (s.extract 0 k).data.toList = s.data.toList.take k := ext_takeS s k
  have hR : (s.extract (k + 3) s.size).data.toList = s.data.toList.drop (k + 3) := ext_dropS s (k + 3)
  rw [← hS, ← hR] at hrest
  rw [← hS] at hown
  obtain ⟨X0, hX0⟩ : ∃ X0, w.alloc (.cells #[.string ⟨#[]⟩, .string ⟨#[]⟩, .int .i64 0, .string ⟨#[]⟩, .string ⟨#[]⟩, .string ⟨#[]⟩, .bool false, .bool false] 30) = X0 := ⟨_, rfl⟩
  have B_0 : Below w.heap.size w X0 := by rw [← hX0]; exact (Below.refl _ w).alloc (Nat.le_refl _) _
  have V_0 : RU w.heap.size #[.string ⟨#[]⟩, .string ⟨#[]⟩, .int .i64 0, .string ⟨#[]⟩, .string ⟨#[]⟩, .string ⟨#[]⟩, .bool false, .bool false] X0 := by rw [← hX0]; exact RU.new w _
  have con := find_is s ⟨#[58, 47, 47]⟩ k X0 (by omega) (by decide) (by decide) hk
  have hRl : (s.extract (k + 3) s.size).size ≤ 4096 := by rw [ByteArray.size_extract]; omega
  have con2 := fun W => Lower_is (s.extract 0 k) W (by rw [ByteArray.size_extract]; omega)
  generalize (s.extract 0 k).data.toList = SL at *
  have HX0 := Lib.hid hX0
  have HREST := Lib.hid hrest
  clear hX0 h hk hS hR hrest
  go_enter Tryz.func6, Tryz.ntmps6
  go_wp2_with fail
  rw [HX0.out]
  go_wp2_with fail
  refine con.mono ?_
  rintro e X1 ⟨rfl, hb⟩
  have B_1 := B_0.trans (hb.mono B_0.size)
  have V_1 := V_0.on hb
  clear con hb B_0 V_0 HX0
  go_wp2_with fail
  refine (con2 _).mono ?_
  rintro e X2 ⟨x0, rfl, hx0, hb⟩
  have B_2 := B_1.trans (hb.mono B_1.size)
  have V_2 := V_1.on hb
  clear con2 hb B_1 V_1
  rw [← hx0.out] at hown
  have hrest := HREST.out
  rw [← hx0.out] at hrest
  have HRO := Lib.hid (rest_open _ _ _ hrest)
  clear hrest HREST
  obtain ⟨X3, hX3⟩ : ∃ Z, X2.alloc (.cells #[.string x0, .string ⟨#[]⟩, .int .i64 0, .string ⟨#[]⟩, .string ⟨#[]⟩, .string ⟨#[]⟩, .bool false, .bool false] 30) = Z := ⟨_, rfl⟩
  obtain ⟨b5, hb5⟩ : ∃ b, X2.heap.size = b := ⟨_, rfl⟩
  have U_3 : RU b5 #[.string x0, .string ⟨#[]⟩, .int .i64 0, .string ⟨#[]⟩, .string ⟨#[]⟩, .string ⟨#[]⟩, .bool false, .bool false] X3 := by rw [← hX3, ← hb5]; exact RU.new X2 _
  have hb : Below X2.heap.size X2 X3 := by rw [← hX3]; exact (Below.refl _ _).alloc (Nat.le_refl _) _
  have B_3 := B_2.trans (hb.mono B_2.size)
  have V_3 := V_2.on hb
  have hne : w.heap.size < b5 := by rw [← hb5]; exact V_2.lt
  have hle : w.heap.size ≤ b5 := by omega
  have HX3 := Lib.hid hX3
  have HB5 := Lib.hid hb5
  clear hX3 hb5 hb B_2 V_2 hx0
  have con := Own_any x0 X3
  obtain ⟨own, ho⟩ : ∃ o, ownP x0.data.toList = o := ⟨_, rfl⟩
  rw [ho] at con hown
  have e0 : ((own : Int) == 0) = false := by rw [beq_eq_false_iff_ne]; omega
  have HOW := Lib.hid ho
  clear ho hown
  go_wp2_with fail
  rw [HB5.out, HX3.out]
  refine con.mono ?_
  rintro e X ⟨rfl, rfl⟩
  clear con HX3 HB5
  have y0 := U_3.box 0 _ rfl
  have y1 := U_3.box 1 _ rfl
  have y2 := U_3.box 2 _ rfl
  have y3 := U_3.box 3 _ rfl
  have y4 := U_3.box 4 _ rfl
  have y5 := U_3.box 5 _ rfl
  have y6 := U_3.box 6 _ rfl
  have y7 := U_3.box 7 _ rfl
  have f0 := U_3.frozen 0
  have f1 := U_3.frozen 1
  have f2 := U_3.frozen 2
  have f3 := U_3.frozen 3
  have f4 := U_3.frozen 4
  have f5 := U_3.frozen 5
  have f6 := U_3.frozen 6
  have f7 := U_3.frozen 7
  obtain ⟨X4, hX4⟩ : ∃ Z, X3.setCell ⟨b5, 2, none⟩ (.int .i64 (own : Int)) = Z := ⟨_, rfl⟩
  have U_4 : RU b5 (#[.string x0, .string ⟨#[]⟩, .int .i64 (own : Int), .string ⟨#[]⟩, .string ⟨#[]⟩, .string ⟨#[]⟩, .bool false, .bool false]) X4 := by
    have h := U_3.set 2 (.int .i64 (own : Int))
    simp only [List.setIfInBounds_toArray, List.set_cons_zero, List.set_cons_succ] at h
    rw [← hX4]; exact h
  have V_4 : RU w.heap.size #[.string ⟨#[]⟩, .string ⟨#[]⟩, .int .i64 0, .string ⟨#[]⟩, .string ⟨#[]⟩, .string ⟨#[]⟩, .bool false, .bool false] X4 := by rw [← hX4]; exact V_3.other (by omega) _
  have B_4 : Below w.heap.size w X4 := by rw [← hX4]; exact B_3.setCell (p := ⟨b5, 2, none⟩) hle _
  have HX4 := Lib.hid hX4
  have con := At_is 35 (s.extract (k + 3) s.size) X4 (by omega)
  clear hX4
  go_wp2_with fail
  rw [HX4.out]
  refine con.mono ?_
  rintro e X5 ⟨r1, fr, rfl, hr1, hfr, hb⟩
  generalize (s.extract (k + 3) s.size) = rr at *
  have B_5 := B_4.trans (hb.mono B_4.size)
  have U_5 := U_4.on hb
  have V_5 := V_4.on hb
  clear con hb B_4 U_4 V_4 y0 f0 y1 f1 y2 f2 y3 f3 y4 f4 y5 f5 y6 f6 y7 f7 HX4 B_3 U_3 V_3
  have hr1l : r1.size ≤ 4096 := by rw [← ba_len, hr1.out]; have := ahead_len 35 rr.data.toList; rw [ba_len] at this; omega
  have hfrl : fr.size ≤ 4096 := by rw [← ba_len, hfr.out]; have := tail_len 35 rr.data.toList; rw [ba_len] at this; omega
  have hro := HRO.out _ (aheadL 63 r1.data.toList) (aheadL 47 (aheadL 63 r1.data.toList)) (aheadL 58 (aheadL 47 (aheadL 63 r1.data.toList))) hr1.out.symm rfl rfl rfl
  have con := At_is 63 r1 X5 (by omega)
  obtain ⟨oF, hoF⟩ : ∃ o, Host.tailL 35 rr.data.toList = o := ⟨_, rfl⟩
  rw [hoF] at hro hfr
  have HRO := Lib.hid hro
  have HOF := Lib.hid hoF
  clear hr1 hRl hro hoF
  go_wp2_with fail
  (try rw [HOF.out])
  refine con.mono ?_
  rintro e X6 ⟨r2, qu, rfl, hr2, hqu, hb⟩
  have B_6 := B_5.trans (hb.mono B_5.size)
  have U_6 := U_5.on hb
  have V_6 := V_5.on hb
  clear con hb B_5 U_5 V_5
  have hr2l : r2.size ≤ 4096 := by rw [← ba_len, hr2.out]; have := ahead_len 63 r1.data.toList; rw [ba_len] at this; omega
  have hqul : qu.size ≤ 4096 := by rw [← ba_len, hqu.out]; have := tail_len 63 r1.data.toList; rw [ba_len] at this; omega
  have hro := HRO.out
  rw [← hr2.out] at hro
  obtain ⟨oQ, hoQ⟩ : ∃ o, Host.tailL 63 r1.data.toList = o := ⟨_, rfl⟩
  rw [hoQ] at hro hqu
  have HRO := Lib.hid hro
  have HOQ := Lib.hid hoQ
  clear hr2 hr1l hro hoQ
  obtain ⟨z, hz⟩ : ∃ z, Lib.index r2.data.toList [47] = z := ⟨_, rfl⟩
  have con := find_is r2 ⟨#[47]⟩ z X6 (by omega) (by decide) (by decide) hz
  have HZ := Lib.hid hz
  clear hz
  go_wp2_with fail
  refine con.mono ?_
  rintro e X7 ⟨rfl, hb⟩
  have B_7 := B_6.trans (hb.mono B_6.size)
  have U_7 := U_6.on hb
  have V_7 := V_6.on hb
  clear con hb B_6 U_6 V_6
  go_upto_if 66 with fail
  go_cut [6, 11] from 67 to 72 (fun s6 s11 X => ∃ x y : ByteArray, s6 = .string x ∧ s11 = .string y ∧ Hid (x.data.toList = aheadL 47 r2.data.toList) ∧ Hid (y.data.toList = r2.data.toList.drop (aheadL 47 r2.data.toList).length) ∧ X = X7)
  case first =>
    rcases slash_cases r2.data.toList with ⟨h1, h2⟩ | ⟨j, h1, h2, h3⟩
    · have hz : z = -1 := by rw [← HZ.out, h1]
      subst hz
      have H2 := Lib.hid h2
      clear h1 h2
      go_wp2_with fail
      go_meet
      exact ⟨r2, ⟨#[]⟩, rfl, rfl, Lib.hid H2.out.symm, Lib.hid (by rw [H2.out, List.drop_length]), rfl⟩
    · have hz : z = (j : Int) := by rw [← HZ.out, h1]
      subst hz
      have d3 : decide ((0 : Int) ≤ (j : Int)) = true := by simp
      rw [ba_len] at h2
      have H3 := Lib.hid h3
      clear h1 h3
      go_wp2_with fail
      go_meet
      refine ⟨r2.extract 0 j, r2.extract j r2.size, rfl, rfl, Lib.hid (by rw [H3.out]; exact ext_takeS r2 j), Lib.hid ?_, rfl⟩
      rw [H3.out, List.length_take, Nat.min_eq_left (by rw [ba_len]; omega)]
      exact ext_dropS r2 j
  case rest =>
    obtain ⟨x, y, rfl, rfl, hx, hy, hw⟩ := hcut
    rw [hw]
    clear hw HZ
    have hxl : x.size ≤ 4096 := by rw [← ba_len, hx.out]; have := ahead_len 47 r2.data.toList; rw [ba_len] at this; omega
    have hyl : y.size ≤ 4096 := by rw [← ba_len, hy.out, List.length_drop, ba_len]; omega
    have hyf : y.data.toList = [] ∨ ∃ r, y.data.toList = 47 :: r := by rw [hy.out]; exact ahead_drop 47 _
    obtain ⟨hhost, n, p, qq, ff, hport, hpath, hquery, hfrag, hu⟩ := HRO.out
    rw [← hy.out] at hpath
    rw [← hx.out] at hport hhost hu
    clear HRO hx hy hr2l
    have HYF := Lib.hid hyf
    have HPATH := Lib.hid hpath
    obtain ⟨mq, hmq, hcq⟩ := opt_form _ _ hquery
    obtain ⟨mf, hmf, hcf⟩ := opt_form _ _ hfrag
    rw [← hqu.out] at hmq
    rw [← hfr.out] at hmf
    have HQ := Lib.hid (And.intro hmq hcq)
    have HFR := Lib.hid (And.intro hmf hcf)
    clear hyf hpath hmq hcq hmf hcf hquery hfrag hqu hfr
    have con := At_is 58 x X7 (by omega)
    obtain ⟨oP, hoP⟩ : ∃ o, Host.tailL 58 x.data.toList = o := ⟨_, rfl⟩
    rw [hoP] at hport con
    obtain ⟨hh, hhh⟩ : ∃ o, aheadL 58 x.data.toList = o := ⟨_, rfl⟩
    rw [hhh] at con hhost hu
    have hhl : hh.length ≤ 4096 := by rw [← hhh]; have := ahead_len 58 x.data.toList; rw [ba_len] at this; omega
    have hpl : (oP.getD []).length ≤ 4096 := by rw [← hoP]; have := tail_len 58 x.data.toList; rw [ba_len] at this; omega
    have HU := Lib.hid hu
    have HPO := Lib.hid hport
    clear hu hport hoP hhh
    go_wp2_with fail
    refine con.mono ?_
    rintro e X8 ⟨nm, pt, rfl, hnm, hpt, hb⟩
    have B_8 := B_7.trans (hb.mono B_7.size)
    have U_8 := U_7.on hb
    have V_8 := V_7.on hb
    clear con hb B_7 U_7 V_7 hxl
    have hnl : nm.size ≤ 4096 := by rw [← ba_len, hnm.out]; exact hhl
    have hptl : pt.size ≤ 4096 := by rw [← ba_len, hpt.out]; exact hpl
    have con := Parse_any nm X8 (by omega)
    rw [hnm.out, hhost] at con
    clear hhl hpl hhost
    go_wp2_with fail
    refine con.mono ?_
    rintro e X9 ⟨hn, rfl, hhn0, hb⟩
    have B_9 := B_8.trans (hb.mono B_8.size)
    have U_9 := U_8.on hb
    have V_9 := V_8.on hb
    clear con hb B_8 U_8 V_8 hnm
    have hhn : Hid (hn.data.toList = lowL hh) := Lib.hid (hhn0.out.trans (if_pos rfl))
    clear hhn0
    have y0 := U_9.box 0 _ rfl
    have y1 := U_9.box 1 _ rfl
    have y2 := U_9.box 2 _ rfl
    have y3 := U_9.box 3 _ rfl
    have y4 := U_9.box 4 _ rfl
    have y5 := U_9.box 5 _ rfl
    have y6 := U_9.box 6 _ rfl
    have y7 := U_9.box 7 _ rfl
    have f0 := U_9.frozen 0
    have f1 := U_9.frozen 1
    have f2 := U_9.frozen 2
    have f3 := U_9.frozen 3
    have f4 := U_9.frozen 4
    have f5 := U_9.frozen 5
    have f6 := U_9.frozen 6
    have f7 := U_9.frozen 7
    go_upto_if 90 with fail
    obtain ⟨XA, hXA⟩ : ∃ Z, X9.setCell ⟨b5, 1, none⟩ (.string hn) = Z := ⟨_, rfl⟩
    have U_A : RU b5 (#[.string x0, .string hn, .int .i64 (own : Int), .string ⟨#[]⟩, .string ⟨#[]⟩, .string ⟨#[]⟩, .bool false, .bool false]) XA := by
      have h := U_9.set 1 (.string hn)
      simp only [List.setIfInBounds_toArray, List.set_cons_zero, List.set_cons_succ] at h
      rw [← hXA]; exact h
    have V_A : RU w.heap.size #[.string ⟨#[]⟩, .string ⟨#[]⟩, .int .i64 0, .string ⟨#[]⟩, .string ⟨#[]⟩, .string ⟨#[]⟩, .bool false, .bool false] XA := by rw [← hXA]; exact V_9.other (by omega) _
    have B_A : Below w.heap.size w XA := by rw [← hXA]; exact B_9.setCell (p := ⟨b5, 1, none⟩) hle _
    rw [hXA]
    clear hXA y0 f0 y1 f1 y2 f2 y3 f3 y4 f4 y5 f5 y6 f6 y7 f7 B_9 U_9 V_9
    go_cut [18, 19] from 91 to 104 (fun s18 s19 X => RU b5 (#[.string x0, .string hn, .int .i64 (n : Int), .string ⟨#[]⟩, .string ⟨#[]⟩, .string ⟨#[]⟩, .bool false, .bool false]) X ∧ RU w.heap.size #[.string ⟨#[]⟩, .string ⟨#[]⟩, .int .i64 0, .string ⟨#[]⟩, .string ⟨#[]⟩, .string ⟨#[]⟩, .bool false, .bool false] X ∧ Below w.heap.size w X)
    case first =>
      cases oP with
      | none =>
        have hn2 : n = own := by
          have h := HPO.out
          rw [portL, HOW.out] at h
          exact (Option.some.inj h).symm
        subst hn2
        clear HPO
        go_wp2_with fail
        go_meet
        exact ⟨U_A, V_A, B_A⟩
      | some d =>
        have h := HPO.out
        rw [portL] at h
        obtain ⟨m, hm, hm2⟩ := Option.bind_eq_some_iff.1 h
        split at hm2
        · rename_i hm1
          have hmn : m = (n : Int) := by
            have := Option.some.inj hm2
            omega
          subst hmn
          have hpd : pt.data.toList = d := hpt.out
          have con := Number_any pt 65535 XA (by omega) (by omega) (by omega)
          rw [hpd, hm] at con
          unfold numV at con
          have e9 : ((n : Int) == 0) = false := by rw [beq_eq_false_iff_ne]; omega
          have hn9 : Hid ((1 : Int) ≤ (n : Int)) := Lib.hid hm1
          clear h hm hm2 hm1 hpd HPO
          have y0 := U_A.box 0 _ rfl
          have y1 := U_A.box 1 _ rfl
          have y2 := U_A.box 2 _ rfl
          have y3 := U_A.box 3 _ rfl
          have y4 := U_A.box 4 _ rfl
          have y5 := U_A.box 5 _ rfl
          have y6 := U_A.box 6 _ rfl
          have y7 := U_A.box 7 _ rfl
          have f0 := U_A.frozen 0
          have f1 := U_A.frozen 1
          have f2 := U_A.frozen 2
          have f3 := U_A.frozen 3
          have f4 := U_A.frozen 4
          have f5 := U_A.frozen 5
          have f6 := U_A.frozen 6
          have f7 := U_A.frozen 7
          go_wp2_with fail
          refine con.mono ?_
          rintro e X ⟨rfl, rfl⟩
          clear con
          go_wp2_with fail
          go_meet
          refine ⟨?_, V_A.other (by omega) _, B_A.setCell (p := ⟨b5, 2, none⟩) hle _⟩
          have h := U_A.set 2 (.int .i64 (n : Int))
          simp only [List.setIfInBounds_toArray, List.set_cons_zero, List.set_cons_succ] at h
          exact h
        · cases hm2
    case rest =>
      obtain ⟨U_B, V_B, B_B⟩ := hcut
      clear U_A V_A B_A HPO hpt hptl
      generalize wc = XB at *
      have con := Dots_any y XB (by omega) HYF.out
      rw [HPATH.out] at con
      clear HYF HPATH
      go_wp2_with fail
      refine con.mono ?_
      rintro e XC ⟨pa, rfl, hpa, hb⟩
      have B_C := B_B.trans (hb.mono B_B.size)
      have U_C := U_B.on hb
      have V_C := V_B.on hb
      clear con hb B_B U_B V_B hyl
      have con := Pct.refCanon_any qu 2 XC (by omega)
      rw [HQ.out.1] at con
      go_wp2_with fail
      refine con.mono ?_
      rintro e XD ⟨qa, rfl, hqa, hb⟩
      have B_D := B_C.trans (hb.mono B_C.size)
      have U_D := U_C.on hb
      have V_D := V_C.on hb
      clear con hb B_C U_C V_C hqul
      have con := Pct.refCanon_any fr 2 XD (by omega)
      rw [HFR.out.1] at con
      go_wp2_with fail
      refine con.mono ?_
      rintro e XE ⟨fa, rfl, hfa, hb⟩
      have B_E := B_D.trans (hb.mono B_D.size)
      have U_E := U_D.on hb
      have V_E := V_D.on hb
      clear con hb B_D U_D V_D hfrl
      have hqa' : qa.data.toList = qq := by rw [hqa.out]; exact HQ.out.2
      have hfa' : fa.data.toList = ff := by rw [hfa.out]; exact HFR.out.2
      have hpa' : pa.data.toList = p := hpa.out
      have HV := Lib.hid (show refV u = .agg #[.string x0, .string hn, .int .i64 (n : Int), .string pa, .string qa, .string fa, .bool oQ.isSome, .bool oF.isSome] by
        rw [HU.out]
        unfold refV
        simp only
        rw [← ba_of (x := x0) rfl, ← ba_of hhn.out, ← ba_of hpa', ← ba_of hqa', ← ba_of hfa'])
      clear hqa hfa hpa hqa' hfa' hpa' HQ HFR HU hhn
      have y0 := U_E.box 0 _ rfl
      have y1 := U_E.box 1 _ rfl
      have y2 := U_E.box 2 _ rfl
      have y3 := U_E.box 3 _ rfl
      have y4 := U_E.box 4 _ rfl
      have y5 := U_E.box 5 _ rfl
      have y6 := U_E.box 6 _ rfl
      have y7 := U_E.box 7 _ rfl
      have f0 := U_E.frozen 0
      have f1 := U_E.frozen 1
      have f2 := U_E.frozen 2
      have f3 := U_E.frozen 3
      have f4 := U_E.frozen 4
      have f5 := U_E.frozen 5
      have f6 := U_E.frozen 6
      have f7 := U_E.frozen 7
      have z0 := V_E.box 0 _ rfl
      have z1 := V_E.box 1 _ rfl
      have z2 := V_E.box 2 _ rfl
      have z3 := V_E.box 3 _ rfl
      have z4 := V_E.box 4 _ rfl
      have z5 := V_E.box 5 _ rfl
      have z6 := V_E.box 6 _ rfl
      have z7 := V_E.box 7 _ rfl
      have g0 := V_E.frozen 0
      have g1 := V_E.frozen 1
      have g2 := V_E.frozen 2
      have g3 := V_E.frozen 3
      have g4 := V_E.frozen 4
      have g5 := V_E.frozen 5
      have g6 := V_E.frozen 6
      have g7 := V_E.frozen 7
      go_wp2
      rw [HOQ.out]
      have V_F := ((((V_E.other (show w.heap.size ≠ b5 by omega) (i := 3) (.string pa)).other (show w.heap.size ≠ b5 by omega) (i := 4) (.string qa)).other (show w.heap.size ≠ b5 by omega) (i := 5) (.string fa)).other (show w.heap.size ≠ b5 by omega) (i := 6) (.bool oQ.isSome)).other (show w.heap.size ≠ b5 by omega) (i := 7) (.bool oF.isSome)
      have B_F := ((((B_E.setCell (p := ⟨b5, 3, none⟩) hle (.string pa)).setCell (p := ⟨b5, 4, none⟩) hle (.string qa)).setCell (p := ⟨b5, 5, none⟩) hle (.string fa)).setCell (p := ⟨b5, 6, none⟩) hle (.bool oQ.isSome)).setCell (p := ⟨b5, 7, none⟩) hle (.bool oF.isSome)
      obtain ⟨Y, hY, hU, hkY, hbY⟩ := RU.put V_F (.string x0) (.string hn) (.int .i64 (n : Int)) (.string pa) (.string qa) (.string fa) (.bool oQ.isSome) (.bool oF.isSome)
      rw [hY]
      (try simp only [Exit.inBlock, Exit.then])
      refine bodyPost_ret (ret_ru2 rfl _ _ w.heap.size _ rfl hU rfl) rfl ?_
      exact ⟨by rw [HV.out]; rfl, B_F.trans (hbY _ (Nat.le_refl _))⟩

end Go.Proofs.YtajojgimbagjoaaGreatDoor.Ref
