/- The texts that these laws rest on, put together, part 4. Conditions: as each says. -/
import Derived.Test.YtedglpfdibamdaaGreatDoorBaseC
import Derived.Laws.StructEq
import Derived.Shelf.SlSortCmp.QuietGrown
namespace Go.Proofs.YtedglpfdibamdaaGreatDoor.Url
open Go.RowKit Go.Shelf
attribute [local go_sem] Oper.semAt_some
theorem nbz : ∀ (j : Nat) (x : Value), zeroU[j]? = some x → ∀ z : Int, x ≠ .int .u8 z := nb8 ⟨_, _, _, rfl⟩ ⟨_, _, _, rfl⟩ ⟨_, _, _, rfl⟩ ⟨_, _, _, rfl⟩ ⟨_, _, _, rfl⟩
theorem By.away {B : Nat} {cs : Array Value} {X Y : World} {v : Value} {l : List UInt8} (h : By X v l) (hU : UB B cs X) (hcs : ∀ (j : Nat) (x : Value), cs[j]? = some x → ∀ z : Int, x ≠ .int .u8 z) (hk : ∀ S : Nat → Prop, ¬ S B → Keep S X Y) : By Y v l := by
  obtain ⟨q, c, rfl, h2, h3, h4, h5⟩ := h
  refine ⟨q, c, rfl, h2, h3, h4, fun h0 => ?_⟩
  obtain ⟨b, o, he, hc⟩ := h5 h0
  refine ⟨b, o, he, fun j hj => ?_⟩
  have hne : b ≠ B := fun e => by
    subst e
    have h1 := hc j hj
    simp only [World.cell?, show X.heap[b]? = _ from hU] at h1
    exact hcs _ _ h1 _ rfl
  exact (World.cell?_of_block ((hk (fun k => k ≠ B) (fun h => h rfl)).block b (World.block_lt_of_cell? X _ (hc j hj)) hne)).trans (hc j hj)
theorem UB.set8 {B : Nat} {X : World} {a0 a1 a2 a3 a4 a5 a6 a7 : Value} (h : UB B #[a0, a1, a2, a3, a4, a5, a6, a7] X) (v : Value) :
    UB B #[a0, a1, v, a3, a4, a5, a6, a7] (X.setCell ⟨B, 2, none⟩ v) ∧ UB B #[a0, a1, a2, v, a4, a5, a6, a7] (X.setCell ⟨B, 3, none⟩ v) ∧ UB B #[a0, a1, a2, a3, v, a5, a6, a7] (X.setCell ⟨B, 4, none⟩ v) ∧ UB B #[a0, a1, a2, a3, a4, v, a6, a7] (X.setCell ⟨B, 5, none⟩ v) := by
  have h2 := h.set 2 v; have h3 := h.set 3 v; have h4 := h.set 4 v; have h5 := h.set 5 v
  simp only [List.setIfInBounds_toArray, List.set_cons_zero, List.set_cons_succ] at h2 h3 h4 h5
  exact ⟨h2, h3, h4, h5⟩
set_option maxRecDepth 100000 in
set_option maxHeartbeats 16000000 in
theorem canonOf_any (q : Option Addr) (n c : Nat) (t : List UInt8) (w : World) (hby : By w (.slice q n c) t) (hn : n ≤ 4096) (hG : Gl w) :
    Calls Tryz.prog 114 #[.slice q n c] w fun e w' => CanonOut (canonU t) w e w' := by
  have kc := fun (w : World) (C : Array Value) (n c : Nat) => Lib.run_convert_bytes_const (P := Tryz.prog) w 22 5 C n c Tryz.underlying22 Tryz.underlying5
  obtain ⟨X0, hX0⟩ : ∃ X0, (w.alloc (.cells #[.slice none 0 0, .slice none 0 0, .int .i64 0, .slice none 0 0, .slice none 0 0, .slice none 0 0, .bool false, .bool false] 100)).alloc (.cells #[.int .u8 58, .int .u8 47, .int .u8 47] 5 (3, 4)) = X0 := ⟨_, rfl⟩
  have hBz := (Below.refl _ w).alloc (Nat.le_refl _) (.cells #[.slice none 0 0, .slice none 0 0, .int .i64 0, .slice none 0 0, .slice none 0 0, .slice none 0 0, .bool false, .bool false] 100)
  have B_0 : Below w.heap.size w X0 := by rw [← hX0]; exact hBz.alloc hBz.size _
  have U_0 : UB w.heap.size zeroU X0 := by rw [← hX0]; exact (UB.new w zeroU).on ((Below.refl _ _).alloc (Nat.le_refl _) _)
  have hsep : Lib.BytesIn X0 (some ⟨w.heap.size + 1, 0, none⟩) 3 (Lib.numsL sepS) := by
    have := bytes_lit (w := w.alloc (.cells #[.slice none 0 0, .slice none 0 0, .int .i64 0, .slice none 0 0, .slice none 0 0, .slice none 0 0, .bool false, .bool false] 100)) #[.int .u8 58, .int .u8 47, .int .u8 47] sepS (3, 4) rfl
    rw [World.size_alloc] at this
    rw [← hX0]; exact this
  have kc1 := kc (w.alloc (.cells #[.slice none 0 0, .slice none 0 0, .int .i64 0, .slice none 0 0, .slice none 0 0, .slice none 0 0, .bool false, .bool false] 100)) #[.int .u8 58, .int .u8 47, .int .u8 47] 3 3
  rw [World.size_alloc] at kc1
  have con := Cut_any q (some ⟨w.heap.size + 1, 0, none⟩) n c 3 t X0 (hby.on B_0) (by omega) (hG.on B_0) hsep
  have HX0 := Lib.hid hX0
  have T_0 := hby.on B_0
  have hTl := hby.at.1
  clear hX0 hBz hsep hby hG
  rcases sep_cases t with ⟨hk, hsp⟩ | ⟨k, hk, hkl, hsp⟩
  · rw [cut_none hk] at con
    have HC := Lib.hid (canon_none t hsp)
    clear hsp hk T_0
    go_enter Tryz.func114, Tryz.ntmps114
    go_wp2_with fail
    rw [HX0.out]
    refine con.mono ?_
    rintro e X1 ⟨rfl, m, hm⟩
    have hb : Below X0.heap.size X0 X1 := by rw [hm]; exact below_drewN _ _
    clear con hm kc1 HX0
    have B_1 := B_0.trans (hb.mono B_0.size)
    have U_1 := U_0.on hb
    clear U_0 B_0 hb
    have zb := U_1.box
    have zc0 := zb 0 _ rfl
    have zf0 := U_1.frozen 0
    have zc1 := zb 1 _ rfl
    have zf1 := U_1.frozen 1
    have zc2 := zb 2 _ rfl
    have zf2 := U_1.frozen 2
    have zc3 := zb 3 _ rfl
    have zf3 := U_1.frozen 3
    have zc4 := zb 4 _ rfl
    have zf4 := U_1.frozen 4
    have zc5 := zb 5 _ rfl
    have zf5 := U_1.frozen 5
    have zc6 := zb 6 _ rfl
    have zf6 := U_1.frozen 6
    have zc7 := zb 7 _ rfl
    have zf7 := U_1.frozen 7
    clear zb
    go_wp2
    obtain ⟨Y, hY, hU, hkY, hbY⟩ := UB.put (show UB w.heap.size #[.slice none 0 0, .slice none 0 0, .int .i64 0, .slice none 0 0, .slice none 0 0, .slice none 0 0, .bool false, .bool false] _ from U_1) (.slice none 0 0) (.slice none 0 0) (.int .i64 0) (.slice none 0 0) (.slice none 0 0) (.slice none 0 0) (.bool false) (.bool false)
    rw [hY]
    (try simp only [Exit.inBlock, Exit.then])
    refine bodyPost_ret (ret_url2 rfl _ _ w.heap.size _ rfl hU rfl) rfl ?_
    rw [HC.out]
    exact ⟨by decide, rfl, B_1.trans (hbY _ (Nat.le_refl _))⟩
  · rw [cut_some hk] at con
    have S_0 := T_0.take (show k ≤ n by omega)
    have R_0 := T_0.drop (show k + 3 ≤ n by omega)
    have hnr : n - (k + 3) ≤ 4096 := by omega
    have hkn : k ≤ 4096 := by omega
    generalize t.take k = s at *
    generalize t.drop (k + 3) = r at *
    generalize hqR : subA q c (k + 3) = qR at *
    generalize hnR : n - (k + 3) = nR at *
    generalize hcR : c - (k + 3) = cR at *
    have HSP := Lib.hid hsp
    clear hsp hk T_0 hkl hTl hqR hnR hcR
    obtain ⟨own, hown⟩ : ∃ o, ownP (Ref.lowL s) = o := ⟨_, rfl⟩
    have HOW := Lib.hid hown
    clear hown
    go_enter Tryz.func114, Tryz.ntmps114
    go_wp2_with fail
    rw [HX0.out]
    refine con.mono ?_
    rintro e X1 ⟨rfl, m, hm⟩
    have hb : Below X0.heap.size X0 X1 := by rw [hm]; exact below_drewN _ _
    clear con hm kc1 HX0
    have B_1 := B_0.trans (hb.mono B_0.size)
    have U_1 := U_0.on hb
    have S_1 := S_0.on hb
    have R_1 := R_0.on hb
    clear R_0 S_0 U_0 B_0 hb
    have con := Own_any q k c s X1 S_1.at.1 (by omega) S_1.at.2.2.2.2
    rw [HOW.out] at con
    by_cases ho : own = 0
    · have e0 : ((own : Int) == 0) = true := by rw [ho]; rfl
      have HC := Lib.hid (canon_other t s r HSP.out (by rw [HOW.out]; exact ho))
      clear ho
      go_wp2_with fail
      refine con.mono ?_
      rintro e X2 ⟨rfl, hb⟩
      clear con
      have B_2 := B_1.trans (hb.mono B_1.size)
      have U_2 := U_1.on hb
      have S_2 := S_1.on hb
      have R_2 := R_1.on hb
      clear R_1 S_1 U_1 B_1 hb
      have zb := U_2.box
      have zc0 := zb 0 _ rfl
      have zf0 := U_2.frozen 0
      have zc1 := zb 1 _ rfl
      have zf1 := U_2.frozen 1
      have zc2 := zb 2 _ rfl
      have zf2 := U_2.frozen 2
      have zc3 := zb 3 _ rfl
      have zf3 := U_2.frozen 3
      have zc4 := zb 4 _ rfl
      have zf4 := U_2.frozen 4
      have zc5 := zb 5 _ rfl
      have zf5 := U_2.frozen 5
      have zc6 := zb 6 _ rfl
      have zf6 := U_2.frozen 6
      have zc7 := zb 7 _ rfl
      have zf7 := U_2.frozen 7
      clear zb
      go_wp2
      obtain ⟨Y, hY, hU, hkY, hbY⟩ := UB.put (show UB w.heap.size #[.slice none 0 0, .slice none 0 0, .int .i64 0, .slice none 0 0, .slice none 0 0, .slice none 0 0, .bool false, .bool false] _ from U_2) (.slice none 0 0) (.slice none 0 0) (.int .i64 0) (.slice none 0 0) (.slice none 0 0) (.slice none 0 0) (.bool false) (.bool false)
      rw [hY]
      (try simp only [Exit.inBlock, Exit.then])
      refine bodyPost_ret (ret_url2 rfl _ _ w.heap.size _ rfl hU rfl) rfl ?_
      rw [HC.out]
      exact ⟨by decide, rfl, B_2.trans (hbY _ (Nat.le_refl _))⟩
    have e0 : ((own : Int) == 0) = false := by rw [beq_eq_false_iff_ne]; omega
    have hs0 : Ref.lowL s = httpS ∨ Ref.lowL s = httpsS := Decidable.not_not.1 fun h => ho (by rw [← HOW.out]; exact (own_zero _).2 h)
    have HS := Lib.hid hs0
    have HC := Lib.hid (canon_rest t s r HSP.out (by rw [HOW.out]; exact ho))
    clear ho HSP hs0
    go_wp2_with fail
    refine con.mono ?_
    rintro e X2 ⟨rfl, hb⟩
    clear con
    have B_2 := B_1.trans (hb.mono B_1.size)
    have U_2 := U_1.on hb
    have S_2 := S_1.on hb
    have R_2 := R_1.on hb
    clear R_1 S_1 U_1 B_1 hb
    obtain ⟨bf, hbf⟩ : ∃ b, atOk 35 (r) = b := ⟨_, rfl⟩
    have con := At_any qR nR cR (r) 35 X2 R_2.at.1 (by have := R_2.at.1; omega) R_2.at.2.1 R_2.at.2.2.2.1 R_2.at.2.2.2.2
    rw [hbf] at con
    have Hbf := Lib.hid hbf
    clear hbf
    go_wp2_with fail
    refine con.mono ?_
    rintro e X3 ⟨v1, v2, rfl, hr1, hr2, hb⟩
    clear con
    obtain ⟨nA, hnA⟩ : ∃ n, (atFst 35 (r)).length = n := ⟨_, rfl⟩
    rw [hnA] at hr1
    obtain ⟨qA, cA, rfl, _, _, _, _, _⟩ := row_open hr1
    have A_3 := By.row hr1
    have hmA : nA ≤ 4096 := by have h1 := at_len 35 (r); have h2 := R_2.at.1; omega
    clear hr1 hnA
    obtain ⟨nF, hnF⟩ : ∃ n, (atSnd 35 (r)).length = n := ⟨_, rfl⟩
    rw [hnF] at hr2
    obtain ⟨qF, cF, rfl, _, _, _, _, _⟩ := row_open hr2
    have F_3 := By.row hr2
    have hmF : nF ≤ 4096 := by have h1 := at_len 35 (r); have h2 := R_2.at.1; omega
    clear hr2 hnF
    have B_3 := B_2.trans (hb.mono B_2.size)
    have U_3 := U_2.on hb
    have S_3 := S_2.on hb
    have R_3 := R_2.on hb
    clear R_2 S_2 U_2 B_2 hb
    clear e0
    clear R_3
    obtain ⟨bq, hbq⟩ : ∃ b, atOk 63 (atFst 35 r) = b := ⟨_, rfl⟩
    have con := At_any qA nA cA (atFst 35 r) 63 X3 A_3.at.1 (by have := A_3.at.1; omega) A_3.at.2.1 A_3.at.2.2.2.1 A_3.at.2.2.2.2
    rw [hbq] at con
    have Hbq := Lib.hid hbq
    clear hbq
    go_wp2_with fail
    refine con.mono ?_
    rintro e X4 ⟨v1, v2, rfl, hr1, hr2, hb⟩
    clear con
    obtain ⟨nE, hnE⟩ : ∃ n, (atFst 63 (atFst 35 r)).length = n := ⟨_, rfl⟩
    rw [hnE] at hr1
    obtain ⟨qE, cE, rfl, _, _, _, _, _⟩ := row_open hr1
    have E_4 := By.row hr1
    have hmE : nE ≤ 4096 := by have h1 := at_len 63 (atFst 35 r); have h2 := A_3.at.1; omega
    clear hr1 hnE
    obtain ⟨nQ, hnQ⟩ : ∃ n, (atSnd 63 (atFst 35 r)).length = n := ⟨_, rfl⟩
    rw [hnQ] at hr2
    obtain ⟨qQ, cQ, rfl, _, _, _, _, _⟩ := row_open hr2
    have Q_4 := By.row hr2
    have hmQ : nQ ≤ 4096 := by have h1 := at_len 63 (atFst 35 r); have h2 := A_3.at.1; omega
    clear hr2 hnQ
    have B_4 := B_3.trans (hb.mono B_3.size)
    have U_4 := U_3.on hb
    have S_4 := S_3.on hb
    have A_4 := A_3.on hb
    have F_4 := F_3.on hb
    clear F_3 A_3 S_3 U_3 B_3 hb
    clear A_4
    have con := atSlash_any qE nE cE (atFst 63 (atFst 35 r)) X4 E_4
    go_wp2_with fail
    refine con.mono ?_
    rintro e X5 ⟨v1, v2, rfl, V_4, P_4, hb, -⟩
    have V_5 := V_4.on hb
    have P_5 := P_4.on hb
    clear con V_4 P_4
    obtain ⟨qV, cV, rfl, _⟩ := id V_5
    obtain ⟨qP, cP, rfl, _⟩ := id P_5
    have hP5 := ahead_drop 47 (atFst 63 (atFst 35 r))
    have hVl := ahead_len 47 (atFst 63 (atFst 35 r))
    have hEl := E_4.at.1
    replace V_5 : By X5 (.slice qV (srvL r).length cV) (srvL r) := V_5
    replace P_5 : By X5 (.slice qP (pthL r).length cP) (pthL r) := P_5
    have HPF := Lib.hid (show pthL r = [] ∨ ∃ x, pthL r = 47 :: x from hP5)
    have hPl : (pthL r).length ≤ 4096 := by
      have : (pthL r).length ≤ (atFst 63 (atFst 35 r)).length := by unfold pthL; rw [List.length_drop]; omega
      omega
    have hVl' : (srvL r).length ≤ 4096 := by have : (srvL r).length ≤ (atFst 63 (atFst 35 r)).length := hVl; omega
    change By X5 (.slice qV (aheadL 47 (atFst 63 (atFst 35 r))).length cV) (srvL r) at V_5
    change By X5 (.slice qP ((atFst 63 (atFst 35 r)).drop (aheadL 47 (atFst 63 (atFst 35 r))).length).length cP) (pthL r) at P_5
    obtain ⟨nV, hnV⟩ : ∃ n, (aheadL 47 (atFst 63 (atFst 35 r))).length = n := ⟨_, rfl⟩
    obtain ⟨nP, hnP⟩ : ∃ n, ((atFst 63 (atFst 35 r)).drop (aheadL 47 (atFst 63 (atFst 35 r))).length).length = n := ⟨_, rfl⟩
    rw [hnP] at P_5 ⊢
    rw [hnV] at V_5 ⊢
    have hmV : nV ≤ 4096 := by rw [← hnV]; exact hVl'
    have hmP : nP ≤ 4096 := by rw [← hnP]; exact hPl
    clear hP5 hVl hEl hPl hVl' hnV hnP
    have B_5 := B_4.trans (hb.mono B_4.size)
    have U_5 := U_4.on hb
    have S_5 := S_4.on hb
    have F_5 := F_4.on hb
    have E_5 := E_4.on hb
    have Q_5 := Q_4.on hb
    clear Q_4 E_4 F_4 S_4 U_4 B_4 hb
    clear E_5
    obtain ⟨bp, hbp⟩ : ∃ b, atOk 58 (srvL r) = b := ⟨_, rfl⟩
    have con := At_any qV nV cV (srvL r) 58 X5 V_5.at.1 (by have := V_5.at.1; omega) V_5.at.2.1 V_5.at.2.2.2.1 V_5.at.2.2.2.2
    rw [hbp] at con
    have Hbp := Lib.hid hbp
    clear hbp
    go_wp2_with fail
    refine con.mono ?_
    rintro e X6 ⟨v1, v2, rfl, hr1, hr2, hb⟩
    clear con
    obtain ⟨nN, hnN⟩ : ∃ n, (atFst 58 (srvL r)).length = n := ⟨_, rfl⟩
    rw [hnN] at hr1
    obtain ⟨qN, cN, rfl, _, _, _, _, _⟩ := row_open hr1
    have N_6 := By.row hr1
    have hmN : nN ≤ 4096 := by have h1 := at_len 58 (srvL r); have h2 := V_5.at.1; omega
    clear hr1 hnN
    obtain ⟨nD, hnD⟩ : ∃ n, (atSnd 58 (srvL r)).length = n := ⟨_, rfl⟩
    rw [hnD] at hr2
    obtain ⟨qD, cD, rfl, _, _, _, _, _⟩ := row_open hr2
    have D_6 := By.row hr2
    have hmD : nD ≤ 4096 := by have h1 := at_len 58 (srvL r); have h2 := V_5.at.1; omega
    clear hr2 hnD
    have B_6 := B_5.trans (hb.mono B_5.size)
    have U_6 := U_5.on hb
    have S_6 := S_5.on hb
    have F_6 := F_5.on hb
    have Q_6 := Q_5.on hb
    have V_6 := V_5.on hb
    have P_6 := P_5.on hb
    clear P_5 V_5 Q_5 F_5 S_5 U_5 B_5 hb
    clear V_6
    have con := Host.Parse_any qN nN cN (atFst 58 (srvL r)) X6 N_6.at.1 (by omega) N_6.at.2.2.2.2
    obtain ⟨pe, hpe⟩ : ∃ pe, Host.parseE (atFst 58 (srvL r)) = pe := ⟨_, rfl⟩
    have HPE := Lib.hid hpe
    clear hpe
    go_wp2_with fail
    refine con.mono ?_
    rintro e X7 ⟨vH, rfl, hrH, hb⟩
    rw [HPE.out]
    obtain ⟨nH, hnH⟩ : ∃ n, (Host.canL (atFst 58 (srvL r))).length = n := ⟨_, rfl⟩
    rw [hnH] at hrH
    obtain ⟨qH, cH, rfl, _, _, _, _, _⟩ := row_open hrH
    have H_7 := By.row hrH
    clear con hrH hnH
    have B_7 := B_6.trans (hb.mono B_6.size)
    have U_7 := U_6.on hb
    have S_7 := S_6.on hb
    have F_7 := F_6.on hb
    have Q_7 := Q_6.on hb
    have P_7 := P_6.on hb
    have N_7 := N_6.on hb
    have D_7 := D_6.on hb
    clear D_6 N_6 P_6 Q_6 F_6 S_6 U_6 B_6 hb
    clear N_7
    by_cases hp7 : pe = 0
    case neg =>
      have e7 : ((pe : Int) != 0) = true := by rw [bne_iff_ne]; exact hp7
      have HE := Lib.hid (show canonU t = .inl pe by rw [HC.out, rest_host _ r HS.out (by rw [HPE.out]; exact hp7), HPE.out])
      have hp8 := Lib.hid hp7
      clear HC hp7
      have zb := U_7.box
      have zc0 := zb 0 _ rfl
      have zf0 := U_7.frozen 0
      have zc1 := zb 1 _ rfl
      have zf1 := U_7.frozen 1
      have zc2 := zb 2 _ rfl
      have zf2 := U_7.frozen 2
      have zc3 := zb 3 _ rfl
      have zf3 := U_7.frozen 3
      have zc4 := zb 4 _ rfl
      have zf4 := U_7.frozen 4
      have zc5 := zb 5 _ rfl
      have zf5 := U_7.frozen 5
      have zc6 := zb 6 _ rfl
      have zf6 := U_7.frozen 6
      have zc7 := zb 7 _ rfl
      have zf7 := U_7.frozen 7
      clear zb
      go_wp2
      obtain ⟨Y, hY, hU, hkY, hbY⟩ := UB.put (show UB w.heap.size #[.slice none 0 0, .slice none 0 0, .int .i64 0, .slice none 0 0, .slice none 0 0, .slice none 0 0, .bool false, .bool false] _ from U_7) (.slice none 0 0) (.slice none 0 0) (.int .i64 0) (.slice none 0 0) (.slice none 0 0) (.slice none 0 0) (.bool false) (.bool false)
      rw [hY]
      (try simp only [Exit.inBlock, Exit.then])
      refine bodyPost_ret (ret_url2 rfl _ _ w.heap.size _ rfl hU rfl) rfl ?_
      rw [HE.out]
      exact ⟨hp8.out, rfl, B_7.trans (hbY _ (Nat.le_refl _))⟩
    subst hp7
    have HCL := Lib.hid (show Host.canL (atFst 58 (srvL r)) = Ref.lowL (atFst 58 (srvL r)) by unfold Host.canL; rw [if_pos HPE.out])
    rw [HCL.out] at H_7
    have con := Lower_any q k c s X7 S_7.at.1 (by omega) S_7.at.2.2.2.2
    go_wp2_with fail
    refine con.mono ?_
    rintro e X8 ⟨vL, rfl, hrL, hb⟩
    obtain ⟨qL, cL, rfl, _, _, _, _, _⟩ := row_open hrL
    have L_8 : By X8 (.slice qL k cL) (Ref.lowL s) := By.row hrL
    clear con hrL HCL
    have B_8 := B_7.trans (hb.mono B_7.size)
    have U_8 := U_7.on hb
    have S_8 := S_7.on hb
    have F_8 := F_7.on hb
    have Q_8 := Q_7.on hb
    have P_8 := P_7.on hb
    have D_8 := D_7.on hb
    have H_8 := H_7.on hb
    clear H_7 D_7 P_7 Q_7 F_7 S_7 U_7 B_7 hb
    have con := Own_any q k c s X8 S_8.at.1 (by omega) S_8.at.2.2.2.2
    rw [HOW.out] at con
    go_wp2_with fail
    refine con.mono ?_
    rintro e X9 ⟨rfl, hb⟩
    clear con
    have B_9 := B_8.trans (hb.mono B_8.size)
    have U_9 := U_8.on hb
    have S_9 := S_8.on hb
    have F_9 := F_8.on hb
    have Q_9 := Q_8.on hb
    have P_9 := P_8.on hb
    have D_9 := D_8.on hb
    have H_9 := H_8.on hb
    have L_9 := L_8.on hb
    clear L_8 H_8 D_8 P_8 Q_8 F_8 S_8 U_8 B_8 hb
    clear S_9
    obtain ⟨XA, hXA⟩ : ∃ XA, X9.alloc (.cells #[.slice qL k cL, .slice qH nH cH, .int .i64 own, .slice none 0 0, .slice none 0 0, .slice none 0 0, .bool bq, .bool bf] 100) = XA := ⟨_, rfl⟩
    obtain ⟨b18, hb18⟩ : ∃ b, X9.heap.size = b := ⟨_, rfl⟩
    have W_A : UB b18 #[.slice qL k cL, .slice qH nH cH, .int .i64 own, .slice none 0 0, .slice none 0 0, .slice none 0 0, .bool bq, .bool bf] XA := by rw [← hXA, ← hb18]; exact UB.new X9 _
    have hb : Below X9.heap.size X9 XA := by rw [← hXA]; exact (Below.refl _ _).alloc (Nat.le_refl _) _
    have hne : ¬ w.heap.size = b18 := by have := U_9.lt; omega
    have hne' : ¬ b18 = w.heap.size := fun h => hne h.symm
    have hle : w.heap.size ≤ b18 := by have := U_9.lt; omega
    have HXA := Lib.hid hXA
    have HB18 := Lib.hid hb18
    clear hXA hb18
    have B_A := B_9.trans (hb.mono B_9.size)
    have U_A := U_9.on hb
    have F_A := F_9.on hb
    have Q_A := Q_9.on hb
    have P_A := P_9.on hb
    have D_A := D_9.on hb
    have H_A := H_9.on hb
    have L_A := L_9.on hb
    clear L_9 H_9 D_9 P_9 Q_9 F_9 U_9 B_9 hb
    cases bp with
    | false =>
      clear D_A
      have HPO := Lib.hid (show portC (Ref.lowL s) (atSnd 58 (srvL r)) (atOk 58 (srvL r)) = (own : Int) by rw [Hbp.out]; unfold portC; rw [if_neg (by decide), HOW.out])
      go_wp2_with fail
      rw [HB18.out, HXA.out]
      have con := canonOfPath_any qP nP cP (pthL r) XA P_A (by omega) HPF.out
      refine con.mono ?_
      rintro e XC ⟨vW, ep, rfl, hep, hr, hb⟩
      have HEP : Hid (ep = if (pathL (pthL r)).isSome then 0 else 2) := hep
      replace hr : XC.ownsRow XA.heap.size 5 1 vW ((pathL (pthL r)).getD []).length (byV ((pathL (pthL r)).getD [])) := hr
      obtain ⟨nW, hnW⟩ : ∃ n, ((pathL (pthL r)).getD []).length = n := ⟨_, rfl⟩
      rw [hnW] at hr
      obtain ⟨qW, cW, rfl, _, _, _, _, _⟩ := row_open hr
      have GP_C := By.row hr
      clear con hr hnW hep
      have B_C := B_A.trans (hb.mono B_A.size)
      have U_C := U_A.on hb
      have F_C := F_A.on hb
      have Q_C := Q_A.on hb
      have P_C := P_A.on hb
      have H_C := H_A.on hb
      have L_C := L_A.on hb
      have W_C := W_A.on hb
      clear W_A L_A H_A P_A Q_A F_A U_A B_A hb
      clear P_C
      cases bq with
      | false =>
        clear Q_C
        cases bf with
        | false =>
          clear F_C
          have yb := W_C.box
          have yc0 := yb 0 _ rfl
          have yf0 := W_C.frozen 0
          have yc1 := yb 1 _ rfl
          have yf1 := W_C.frozen 1
          have yc2 := yb 2 _ rfl
          have yf2 := W_C.frozen 2
          have yc3 := yb 3 _ rfl
          have yf3 := W_C.frozen 3
          have yc4 := yb 4 _ rfl
          have yf4 := W_C.frozen 4
          have yc5 := yb 5 _ rfl
          have yf5 := W_C.frozen 5
          have yc6 := yb 6 _ rfl
          have yf6 := W_C.frozen 6
          have yc7 := yb 7 _ rfl
          have yf7 := W_C.frozen 7
          clear yb
          have zb := U_C.box
          have zc0 := zb 0 _ rfl
          have zf0 := U_C.frozen 0
          have zc1 := zb 1 _ rfl
          have zf1 := U_C.frozen 1
          have zc2 := zb 2 _ rfl
          have zf2 := U_C.frozen 2
          have zc3 := zb 3 _ rfl
          have zf3 := U_C.frozen 3
          have zc4 := zb 4 _ rfl
          have zf4 := U_C.frozen 4
          have zc5 := zb 5 _ rfl
          have zf5 := U_C.frozen 5
          have zc6 := zb 6 _ rfl
          have zf6 := U_C.frozen 6
          have zc7 := zb 7 _ rfl
          have zf7 := U_C.frozen 7
          clear zb
          obtain ⟨XZ, hXZ⟩ : ∃ Z, XC.setCell ⟨b18, 3, none⟩ (.slice qW nW cW) = Z := ⟨_, rfl⟩
          have B_Z : Below w.heap.size w XZ := by rw [← hXZ]; exact B_C.setCell (p := ⟨b18, 3, none⟩) hle _
          have U_Z : UB w.heap.size zeroU XZ := by rw [← hXZ]; exact U_C.other hne _
          have H_Z := By.set (i := 3) (u := .slice qW nW cW) H_C W_C (nb8 ⟨_, _, _, rfl⟩ ⟨_, _, _, rfl⟩ ⟨_, _, _, rfl⟩ ⟨_, _, _, rfl⟩ ⟨_, _, _, rfl⟩)
          rw [hXZ] at H_Z
          have L_Z := By.set (i := 3) (u := .slice qW nW cW) L_C W_C (nb8 ⟨_, _, _, rfl⟩ ⟨_, _, _, rfl⟩ ⟨_, _, _, rfl⟩ ⟨_, _, _, rfl⟩ ⟨_, _, _, rfl⟩)
          rw [hXZ] at L_Z
          have GP_Z := By.set (i := 3) (u := .slice qW nW cW) GP_C W_C (nb8 ⟨_, _, _, rfl⟩ ⟨_, _, _, rfl⟩ ⟨_, _, _, rfl⟩ ⟨_, _, _, rfl⟩ ⟨_, _, _, rfl⟩)
          rw [hXZ] at GP_Z
          have W_Z : UB b18 #[.slice qL k cL, .slice qH nH cH, .int .i64 own, .slice qW nW cW, .slice none 0 0, .slice none 0 0, .bool false, .bool false] XZ := by rw [← hXZ]; exact (W_C.set8 (.slice qW nW cW)).2.1
          clear GP_C W_C L_C H_C U_C B_C
          have HXZ := Lib.hid hXZ
          clear hXZ
          by_cases hp0 : (own : Int) = 0
          case pos =>
            have e0 : (((own : Int)) == 0) = true := by rw [beq_iff_eq]; exact hp0
            have hpo := HPO.out
            rw [hp0] at hpo
            clear hp0
            have HE := Lib.hid (show canonU t = .inl 2 by rw [HC.out]; exact rest_port _ r HS.out HPE.out hpo)
            go_wp2
            rw [HXZ.out]
            obtain ⟨Y, hY, hU, hkY, hbY⟩ := UB.put (show UB w.heap.size #[.slice none 0 0, .slice none 0 0, .int .i64 0, .slice none 0 0, .slice none 0 0, .slice none 0 0, .bool false, .bool false] _ from U_Z) (.slice none 0 0) (.slice none 0 0) (.int .i64 0) (.slice none 0 0) (.slice none 0 0) (.slice none 0 0) (.bool false) (.bool false)
            rw [hY]
            (try simp only [Exit.inBlock, Exit.then])
            refine bodyPost_ret (ret_url2 rfl _ _ w.heap.size _ rfl hU rfl) rfl ?_
            rw [HE.out]
            exact ⟨by decide, rfl, B_Z.trans (hbY _ (Nat.le_refl _))⟩
          have e0 : (((own : Int)) == 0) = false := by rw [beq_eq_false_iff_ne]; exact hp0
          have hpo : portC (Ref.lowL s) (atSnd 58 (srvL r)) (atOk 58 (srvL r)) ≠ 0 := by rw [HPO.out]; exact hp0
          cases hpp : pathL (pthL r) with
          | none =>
            obtain rfl : ep = 2 := by have := HEP.out; rw [hpp] at this; exact this
            have hpp2 := Lib.hid hpp
            clear hpp
            have HE := Lib.hid (show canonU t = .inl 2 by rw [HC.out]; exact rest_path _ r HS.out HPE.out hpp2.out)
            go_wp2
            rw [HXZ.out]
            obtain ⟨Y, hY, hU, hkY, hbY⟩ := UB.put (show UB w.heap.size #[.slice none 0 0, .slice none 0 0, .int .i64 0, .slice none 0 0, .slice none 0 0, .slice none 0 0, .bool false, .bool false] _ from U_Z) (.slice none 0 0) (.slice none 0 0) (.int .i64 0) (.slice none 0 0) (.slice none 0 0) (.slice none 0 0) (.bool false) (.bool false)
            rw [hY]
            (try simp only [Exit.inBlock, Exit.then])
            refine bodyPost_ret (ret_url2 rfl _ _ w.heap.size _ rfl hU rfl) rfl ?_
            rw [HE.out]
            exact ⟨by decide, rfl, B_Z.trans (hbY _ (Nat.le_refl _))⟩
          | some pp =>
            obtain rfl : ep = 0 := by have := HEP.out; rw [hpp] at this; exact this
            have h3 : optC (atOk 63 (atFst 35 r)) (atSnd 63 (atFst 35 r)) = some [] := by rw [Hbq.out]; rfl
            have h4 : optC (atOk 35 r) (atSnd 35 r) = some [] := by rw [Hbf.out]; rfl
            obtain ⟨pn, hpn, hrg⟩ := rest_good _ r HS.out HPE.out pp [] [] hpo hpp h3 h4
            rw [Hbq.out, Hbf.out] at hrg
            have hpn2 : (own : Int) = (pn : Int) := by rw [← HPO.out]; exact hpn
            have HE := Lib.hid (HC.out.trans hrg)
            have HPN := Lib.hid hpn2
            rw [hpp] at GP_Z
            clear hpo hrg hpn hpn2 h3 h4 hpp  hp0
            go_wp2
            rw [HXZ.out]
            obtain ⟨Y, hY, hU, hkY, hbY⟩ := UB.put (show UB w.heap.size #[.slice none 0 0, .slice none 0 0, .int .i64 0, .slice none 0 0, .slice none 0 0, .slice none 0 0, .bool false, .bool false] _ from U_Z) (.slice qL k cL) (.slice qH nH cH) (.int .i64 own) (.slice qW nW cW) (.slice none 0 0) (.slice none 0 0) (.bool false) (.bool false)
            rw [hY]
            (try simp only [Exit.inBlock, Exit.then])
            refine bodyPost_ret (ret_url2 rfl _ _ w.heap.size _ rfl hU rfl) rfl ?_
            rw [HE.out]
            refine ⟨_, rfl, ⟨qL, k, cL, qH, nH, cH, qW, nW, cW, none, 0, 0, none, 0, 0, by rw [HPN.out], L_Z.away U_Z nbz hkY, H_Z.away U_Z nbz hkY, GP_Z.away U_Z nbz hkY, by_nil _, by_nil _⟩, B_Z.trans (hbY _ (Nat.le_refl _))⟩
        | true =>
          have yb := W_C.box
          have yc3 := yb 3 _ rfl
          have yf3 := W_C.frozen 3
          clear yb
          go_wp2_with fail
          clear yc3 yf3
          obtain ⟨XF, hXF⟩ : ∃ Z, XC.setCell ⟨b18, 3, none⟩ (.slice qW nW cW) = Z := ⟨_, rfl⟩
          rw [hXF]
          have B_F : Below w.heap.size w XF := by rw [← hXF]; exact B_C.setCell (p := ⟨b18, 3, none⟩) hle _
          have U_F : UB w.heap.size zeroU XF := by rw [← hXF]; exact U_C.other hne _
          have F_F := By.set (i := 3) (u := .slice qW nW cW) F_C W_C (nb8 ⟨_, _, _, rfl⟩ ⟨_, _, _, rfl⟩ ⟨_, _, _, rfl⟩ ⟨_, _, _, rfl⟩ ⟨_, _, _, rfl⟩)
          rw [hXF] at F_F
          have H_F := By.set (i := 3) (u := .slice qW nW cW) H_C W_C (nb8 ⟨_, _, _, rfl⟩ ⟨_, _, _, rfl⟩ ⟨_, _, _, rfl⟩ ⟨_, _, _, rfl⟩ ⟨_, _, _, rfl⟩)
          rw [hXF] at H_F
          have L_F := By.set (i := 3) (u := .slice qW nW cW) L_C W_C (nb8 ⟨_, _, _, rfl⟩ ⟨_, _, _, rfl⟩ ⟨_, _, _, rfl⟩ ⟨_, _, _, rfl⟩ ⟨_, _, _, rfl⟩)
          rw [hXF] at L_F
          have GP_F := By.set (i := 3) (u := .slice qW nW cW) GP_C W_C (nb8 ⟨_, _, _, rfl⟩ ⟨_, _, _, rfl⟩ ⟨_, _, _, rfl⟩ ⟨_, _, _, rfl⟩ ⟨_, _, _, rfl⟩)
          rw [hXF] at GP_F
          have W_F : UB b18 #[.slice qL k cL, .slice qH nH cH, .int .i64 own, .slice qW nW cW, .slice none 0 0, .slice none 0 0, .bool false, .bool true] XF := by rw [← hXF]; exact (W_C.set8 (.slice qW nW cW)).2.1
          clear GP_C W_C L_C H_C F_C U_C B_C
          clear hXF
          have con := Pct.Canon_any qF nF cF (atSnd 35 r) 2 XF F_F.at.1 (by omega) F_F.at.2.2.2.2
          refine con.mono ?_
          rintro e XG ⟨vZ, ef, rfl, hef, hr, hb⟩
          have HEF : Hid (ef = if (formL 2 (atSnd 35 r)).isSome then 0 else 2) := hef
          replace hr : XG.ownsRow XF.heap.size 5 1 vZ ((formL 2 (atSnd 35 r)).getD []).length (byV ((formL 2 (atSnd 35 r)).getD [])) := hr
          obtain ⟨nZ, hnZ⟩ : ∃ n, ((formL 2 (atSnd 35 r)).getD []).length = n := ⟨_, rfl⟩
          rw [hnZ] at hr
          obtain ⟨qZ, cZ, rfl, _, _, _, _, _⟩ := row_open hr
          have GF_G := By.row hr
          clear con hr hnZ hef
          have B_G := B_F.trans (hb.mono B_F.size)
          have U_G := U_F.on hb
          have F_G := F_F.on hb
          have H_G := H_F.on hb
          have L_G := L_F.on hb
          have W_G := W_F.on hb
          have GP_G := GP_F.on hb
          clear GP_F W_F L_F H_F F_F U_F B_F hb
          clear F_G
          have yb := W_G.box
          have yc0 := yb 0 _ rfl
          have yf0 := W_G.frozen 0
          have yc1 := yb 1 _ rfl
          have yf1 := W_G.frozen 1
          have yc2 := yb 2 _ rfl
          have yf2 := W_G.frozen 2
          have yc3 := yb 3 _ rfl
          have yf3 := W_G.frozen 3
          have yc4 := yb 4 _ rfl
          have yf4 := W_G.frozen 4
          have yc5 := yb 5 _ rfl
          have yf5 := W_G.frozen 5
          have yc6 := yb 6 _ rfl
          have yf6 := W_G.frozen 6
          have yc7 := yb 7 _ rfl
          have yf7 := W_G.frozen 7
          clear yb
          have zb := U_G.box
          have zc0 := zb 0 _ rfl
          have zf0 := U_G.frozen 0
          have zc1 := zb 1 _ rfl
          have zf1 := U_G.frozen 1
          have zc2 := zb 2 _ rfl
          have zf2 := U_G.frozen 2
          have zc3 := zb 3 _ rfl
          have zf3 := U_G.frozen 3
          have zc4 := zb 4 _ rfl
          have zf4 := U_G.frozen 4
          have zc5 := zb 5 _ rfl
          have zf5 := U_G.frozen 5
          have zc6 := zb 6 _ rfl
          have zf6 := U_G.frozen 6
          have zc7 := zb 7 _ rfl
          have zf7 := U_G.frozen 7
          clear zb
          obtain ⟨XZ, hXZ⟩ : ∃ Z, XG.setCell ⟨b18, 5, none⟩ (.slice qZ nZ cZ) = Z := ⟨_, rfl⟩
          have B_Z : Below w.heap.size w XZ := by rw [← hXZ]; exact B_G.setCell (p := ⟨b18, 5, none⟩) hle _
          have U_Z : UB w.heap.size zeroU XZ := by rw [← hXZ]; exact U_G.other hne _
          have H_Z := By.set (i := 5) (u := .slice qZ nZ cZ) H_G W_G (nb8 ⟨_, _, _, rfl⟩ ⟨_, _, _, rfl⟩ ⟨_, _, _, rfl⟩ ⟨_, _, _, rfl⟩ ⟨_, _, _, rfl⟩)
          rw [hXZ] at H_Z
          have L_Z := By.set (i := 5) (u := .slice qZ nZ cZ) L_G W_G (nb8 ⟨_, _, _, rfl⟩ ⟨_, _, _, rfl⟩ ⟨_, _, _, rfl⟩ ⟨_, _, _, rfl⟩ ⟨_, _, _, rfl⟩)
          rw [hXZ] at L_Z
          have GP_Z := By.set (i := 5) (u := .slice qZ nZ cZ) GP_G W_G (nb8 ⟨_, _, _, rfl⟩ ⟨_, _, _, rfl⟩ ⟨_, _, _, rfl⟩ ⟨_, _, _, rfl⟩ ⟨_, _, _, rfl⟩)
          rw [hXZ] at GP_Z
          have GF_Z := By.set (i := 5) (u := .slice qZ nZ cZ) GF_G W_G (nb8 ⟨_, _, _, rfl⟩ ⟨_, _, _, rfl⟩ ⟨_, _, _, rfl⟩ ⟨_, _, _, rfl⟩ ⟨_, _, _, rfl⟩)
          rw [hXZ] at GF_Z
          have W_Z : UB b18 #[.slice qL k cL, .slice qH nH cH, .int .i64 own, .slice qW nW cW, .slice none 0 0, .slice qZ nZ cZ, .bool false, .bool true] XZ := by rw [← hXZ]; exact (W_G.set8 (.slice qZ nZ cZ)).2.2.2
          clear GF_G GP_G W_G L_G H_G U_G B_G
          have HXZ := Lib.hid hXZ
          clear hXZ
          by_cases hp0 : (own : Int) = 0
          case pos =>
            have e0 : (((own : Int)) == 0) = true := by rw [beq_iff_eq]; exact hp0
            have hpo := HPO.out
            rw [hp0] at hpo
            clear hp0
            have HE := Lib.hid (show canonU t = .inl 2 by rw [HC.out]; exact rest_port _ r HS.out HPE.out hpo)
            go_wp2
            rw [HXZ.out]
            obtain ⟨Y, hY, hU, hkY, hbY⟩ := UB.put (show UB w.heap.size #[.slice none 0 0, .slice none 0 0, .int .i64 0, .slice none 0 0, .slice none 0 0, .slice none 0 0, .bool false, .bool false] _ from U_Z) (.slice none 0 0) (.slice none 0 0) (.int .i64 0) (.slice none 0 0) (.slice none 0 0) (.slice none 0 0) (.bool false) (.bool false)
            rw [hY]
            (try simp only [Exit.inBlock, Exit.then])
            refine bodyPost_ret (ret_url2 rfl _ _ w.heap.size _ rfl hU rfl) rfl ?_
            rw [HE.out]
            exact ⟨by decide, rfl, B_Z.trans (hbY _ (Nat.le_refl _))⟩
          have e0 : (((own : Int)) == 0) = false := by rw [beq_eq_false_iff_ne]; exact hp0
          have hpo : portC (Ref.lowL s) (atSnd 58 (srvL r)) (atOk 58 (srvL r)) ≠ 0 := by rw [HPO.out]; exact hp0
          cases hpp : pathL (pthL r) with
          | none =>
            obtain rfl : ep = 2 := by have := HEP.out; rw [hpp] at this; exact this
            have hpp2 := Lib.hid hpp
            clear hpp
            have HE := Lib.hid (show canonU t = .inl 2 by rw [HC.out]; exact rest_path _ r HS.out HPE.out hpp2.out)
            go_wp2
            rw [HXZ.out]
            obtain ⟨Y, hY, hU, hkY, hbY⟩ := UB.put (show UB w.heap.size #[.slice none 0 0, .slice none 0 0, .int .i64 0, .slice none 0 0, .slice none 0 0, .slice none 0 0, .bool false, .bool false] _ from U_Z) (.slice none 0 0) (.slice none 0 0) (.int .i64 0) (.slice none 0 0) (.slice none 0 0) (.slice none 0 0) (.bool false) (.bool false)
            rw [hY]
            (try simp only [Exit.inBlock, Exit.then])
            refine bodyPost_ret (ret_url2 rfl _ _ w.heap.size _ rfl hU rfl) rfl ?_
            rw [HE.out]
            exact ⟨by decide, rfl, B_Z.trans (hbY _ (Nat.le_refl _))⟩
          | some pp =>
            obtain rfl : ep = 0 := by have := HEP.out; rw [hpp] at this; exact this
            cases hff : formL 2 (atSnd 35 r) with
            | none =>
              obtain rfl : ef = 2 := by have := HEF.out; rw [hff] at this; exact this
              have h4 := Lib.hid (show optC (atOk 35 r) (atSnd 35 r) = none by rw [Hbf.out]; exact hff)
              clear hff hpp
              have HE := Lib.hid (show canonU t = .inl 2 by rw [HC.out]; exact rest_frag _ r HS.out HPE.out h4.out)
              go_wp2
              rw [HXZ.out]
              obtain ⟨Y, hY, hU, hkY, hbY⟩ := UB.put (show UB w.heap.size #[.slice none 0 0, .slice none 0 0, .int .i64 0, .slice none 0 0, .slice none 0 0, .slice none 0 0, .bool false, .bool false] _ from U_Z) (.slice none 0 0) (.slice none 0 0) (.int .i64 0) (.slice none 0 0) (.slice none 0 0) (.slice none 0 0) (.bool false) (.bool false)
              rw [hY]
              (try simp only [Exit.inBlock, Exit.then])
              refine bodyPost_ret (ret_url2 rfl _ _ w.heap.size _ rfl hU rfl) rfl ?_
              rw [HE.out]
              exact ⟨by decide, rfl, B_Z.trans (hbY _ (Nat.le_refl _))⟩
            | some ff =>
              obtain rfl : ef = 0 := by have := HEF.out; rw [hff] at this; exact this
              have h3 : optC (atOk 63 (atFst 35 r)) (atSnd 63 (atFst 35 r)) = some [] := by rw [Hbq.out]; rfl
              have h4 : optC (atOk 35 r) (atSnd 35 r) = some ff := by rw [Hbf.out]; exact hff
              obtain ⟨pn, hpn, hrg⟩ := rest_good _ r HS.out HPE.out pp [] ff hpo hpp h3 h4
              rw [Hbq.out, Hbf.out] at hrg
              have hpn2 : (own : Int) = (pn : Int) := by rw [← HPO.out]; exact hpn
              have HE := Lib.hid (HC.out.trans hrg)
              have HPN := Lib.hid hpn2
              rw [hpp] at GP_Z
              rw [hff] at GF_Z
              clear hpo hrg hpn hpn2 h3 h4 hpp hff hp0
              go_wp2
              rw [HXZ.out]
              obtain ⟨Y, hY, hU, hkY, hbY⟩ := UB.put (show UB w.heap.size #[.slice none 0 0, .slice none 0 0, .int .i64 0, .slice none 0 0, .slice none 0 0, .slice none 0 0, .bool false, .bool false] _ from U_Z) (.slice qL k cL) (.slice qH nH cH) (.int .i64 own) (.slice qW nW cW) (.slice none 0 0) (.slice qZ nZ cZ) (.bool false) (.bool true)
              rw [hY]
              (try simp only [Exit.inBlock, Exit.then])
              refine bodyPost_ret (ret_url2 rfl _ _ w.heap.size _ rfl hU rfl) rfl ?_
              rw [HE.out]
              refine ⟨_, rfl, ⟨qL, k, cL, qH, nH, cH, qW, nW, cW, none, 0, 0, qZ, nZ, cZ, by rw [HPN.out], L_Z.away U_Z nbz hkY, H_Z.away U_Z nbz hkY, GP_Z.away U_Z nbz hkY, by_nil _, GF_Z.away U_Z nbz hkY⟩, B_Z.trans (hbY _ (Nat.le_refl _))⟩
      | true =>
        have yb := W_C.box
        have yc3 := yb 3 _ rfl
        have yf3 := W_C.frozen 3
        clear yb
        go_wp2_with fail
        clear yc3 yf3
        obtain ⟨XD, hXD⟩ : ∃ Z, XC.setCell ⟨b18, 3, none⟩ (.slice qW nW cW) = Z := ⟨_, rfl⟩
        rw [hXD]
        have B_D : Below w.heap.size w XD := by rw [← hXD]; exact B_C.setCell (p := ⟨b18, 3, none⟩) hle _
        have U_D : UB w.heap.size zeroU XD := by rw [← hXD]; exact U_C.other hne _
        have F_D := By.set (i := 3) (u := .slice qW nW cW) F_C W_C (nb8 ⟨_, _, _, rfl⟩ ⟨_, _, _, rfl⟩ ⟨_, _, _, rfl⟩ ⟨_, _, _, rfl⟩ ⟨_, _, _, rfl⟩)
        rw [hXD] at F_D
        have Q_D := By.set (i := 3) (u := .slice qW nW cW) Q_C W_C (nb8 ⟨_, _, _, rfl⟩ ⟨_, _, _, rfl⟩ ⟨_, _, _, rfl⟩ ⟨_, _, _, rfl⟩ ⟨_, _, _, rfl⟩)
        rw [hXD] at Q_D
        have H_D := By.set (i := 3) (u := .slice qW nW cW) H_C W_C (nb8 ⟨_, _, _, rfl⟩ ⟨_, _, _, rfl⟩ ⟨_, _, _, rfl⟩ ⟨_, _, _, rfl⟩ ⟨_, _, _, rfl⟩)
        rw [hXD] at H_D
        have L_D := By.set (i := 3) (u := .slice qW nW cW) L_C W_C (nb8 ⟨_, _, _, rfl⟩ ⟨_, _, _, rfl⟩ ⟨_, _, _, rfl⟩ ⟨_, _, _, rfl⟩ ⟨_, _, _, rfl⟩)
        rw [hXD] at L_D
        have GP_D := By.set (i := 3) (u := .slice qW nW cW) GP_C W_C (nb8 ⟨_, _, _, rfl⟩ ⟨_, _, _, rfl⟩ ⟨_, _, _, rfl⟩ ⟨_, _, _, rfl⟩ ⟨_, _, _, rfl⟩)
        rw [hXD] at GP_D
        have W_D : UB b18 #[.slice qL k cL, .slice qH nH cH, .int .i64 own, .slice qW nW cW, .slice none 0 0, .slice none 0 0, .bool true, .bool bf] XD := by rw [← hXD]; exact (W_C.set8 (.slice qW nW cW)).2.1
        clear GP_C W_C L_C H_C Q_C F_C U_C B_C
        clear hXD
        have con := Pct.Canon_any qQ nQ cQ (atSnd 63 (atFst 35 r)) 2 XD Q_D.at.1 (by omega) Q_D.at.2.2.2.2
        refine con.mono ?_
        rintro e XE ⟨vY, eq, rfl, heq, hr, hb⟩
        have HEQ : Hid (eq = if (formL 2 (atSnd 63 (atFst 35 r))).isSome then 0 else 2) := heq
        replace hr : XE.ownsRow XD.heap.size 5 1 vY ((formL 2 (atSnd 63 (atFst 35 r))).getD []).length (byV ((formL 2 (atSnd 63 (atFst 35 r))).getD [])) := hr
        obtain ⟨nY, hnY⟩ : ∃ n, ((formL 2 (atSnd 63 (atFst 35 r))).getD []).length = n := ⟨_, rfl⟩
        rw [hnY] at hr
        obtain ⟨qY, cY, rfl, _, _, _, _, _⟩ := row_open hr
        have GQ_E := By.row hr
        clear con hr hnY heq
        have B_E := B_D.trans (hb.mono B_D.size)
        have U_E := U_D.on hb
        have F_E := F_D.on hb
        have Q_E := Q_D.on hb
        have H_E := H_D.on hb
        have L_E := L_D.on hb
        have W_E := W_D.on hb
        have GP_E := GP_D.on hb
        clear GP_D W_D L_D H_D Q_D F_D U_D B_D hb
        clear Q_E
        cases bf with
        | false =>
          clear F_E
          have yb := W_E.box
          have yc0 := yb 0 _ rfl
          have yf0 := W_E.frozen 0
          have yc1 := yb 1 _ rfl
          have yf1 := W_E.frozen 1
          have yc2 := yb 2 _ rfl
          have yf2 := W_E.frozen 2
          have yc3 := yb 3 _ rfl
          have yf3 := W_E.frozen 3
          have yc4 := yb 4 _ rfl
          have yf4 := W_E.frozen 4
          have yc5 := yb 5 _ rfl
          have yf5 := W_E.frozen 5
          have yc6 := yb 6 _ rfl
          have yf6 := W_E.frozen 6
          have yc7 := yb 7 _ rfl
          have yf7 := W_E.frozen 7
          clear yb
          have zb := U_E.box
          have zc0 := zb 0 _ rfl
          have zf0 := U_E.frozen 0
          have zc1 := zb 1 _ rfl
          have zf1 := U_E.frozen 1
          have zc2 := zb 2 _ rfl
          have zf2 := U_E.frozen 2
          have zc3 := zb 3 _ rfl
          have zf3 := U_E.frozen 3
          have zc4 := zb 4 _ rfl
          have zf4 := U_E.frozen 4
          have zc5 := zb 5 _ rfl
          have zf5 := U_E.frozen 5
          have zc6 := zb 6 _ rfl
          have zf6 := U_E.frozen 6
          have zc7 := zb 7 _ rfl
          have zf7 := U_E.frozen 7
          clear zb
          obtain ⟨XZ, hXZ⟩ : ∃ Z, XE.setCell ⟨b18, 4, none⟩ (.slice qY nY cY) = Z := ⟨_, rfl⟩
          have B_Z : Below w.heap.size w XZ := by rw [← hXZ]; exact B_E.setCell (p := ⟨b18, 4, none⟩) hle _
          have U_Z : UB w.heap.size zeroU XZ := by rw [← hXZ]; exact U_E.other hne _
          have H_Z := By.set (i := 4) (u := .slice qY nY cY) H_E W_E (nb8 ⟨_, _, _, rfl⟩ ⟨_, _, _, rfl⟩ ⟨_, _, _, rfl⟩ ⟨_, _, _, rfl⟩ ⟨_, _, _, rfl⟩)
          rw [hXZ] at H_Z
          have L_Z := By.set (i := 4) (u := .slice qY nY cY) L_E W_E (nb8 ⟨_, _, _, rfl⟩ ⟨_, _, _, rfl⟩ ⟨_, _, _, rfl⟩ ⟨_, _, _, rfl⟩ ⟨_, _, _, rfl⟩)
          rw [hXZ] at L_Z
          have GP_Z := By.set (i := 4) (u := .slice qY nY cY) GP_E W_E (nb8 ⟨_, _, _, rfl⟩ ⟨_, _, _, rfl⟩ ⟨_, _, _, rfl⟩ ⟨_, _, _, rfl⟩ ⟨_, _, _, rfl⟩)
          rw [hXZ] at GP_Z
          have GQ_Z := By.set (i := 4) (u := .slice qY nY cY) GQ_E W_E (nb8 ⟨_, _, _, rfl⟩ ⟨_, _, _, rfl⟩ ⟨_, _, _, rfl⟩ ⟨_, _, _, rfl⟩ ⟨_, _, _, rfl⟩)
          rw [hXZ] at GQ_Z
          have W_Z : UB b18 #[.slice qL k cL, .slice qH nH cH, .int .i64 own, .slice qW nW cW, .slice qY nY cY, .slice none 0 0, .bool true, .bool false] XZ := by rw [← hXZ]; exact (W_E.set8 (.slice qY nY cY)).2.2.1
          clear GQ_E GP_E W_E L_E H_E U_E B_E
          have HXZ := Lib.hid hXZ
          clear hXZ
          by_cases hp0 : (own : Int) = 0
          case pos =>
            have e0 : (((own : Int)) == 0) = true := by rw [beq_iff_eq]; exact hp0
            have hpo := HPO.out
            rw [hp0] at hpo
            clear hp0
            have HE := Lib.hid (show canonU t = .inl 2 by rw [HC.out]; exact rest_port _ r HS.out HPE.out hpo)
            go_wp2
            rw [HXZ.out]
            obtain ⟨Y, hY, hU, hkY, hbY⟩ := UB.put (show UB w.heap.size #[.slice none 0 0, .slice none 0 0, .int .i64 0, .slice none 0 0, .slice none 0 0, .slice none 0 0, .bool false, .bool false] _ from U_Z) (.slice none 0 0) (.slice none 0 0) (.int .i64 0) (.slice none 0 0) (.slice none 0 0) (.slice none 0 0) (.bool false) (.bool false)
            rw [hY]
            (try simp only [Exit.inBlock, Exit.then])
            refine bodyPost_ret (ret_url2 rfl _ _ w.heap.size _ rfl hU rfl) rfl ?_
            rw [HE.out]
            exact ⟨by decide, rfl, B_Z.trans (hbY _ (Nat.le_refl _))⟩
          have e0 : (((own : Int)) == 0) = false := by rw [beq_eq_false_iff_ne]; exact hp0
          have hpo : portC (Ref.lowL s) (atSnd 58 (srvL r)) (atOk 58 (srvL r)) ≠ 0 := by rw [HPO.out]; exact hp0
          cases hpp : pathL (pthL r) with
          | none =>
            obtain rfl : ep = 2 := by have := HEP.out; rw [hpp] at this; exact this
            have hpp2 := Lib.hid hpp
            clear hpp
            have HE := Lib.hid (show canonU t = .inl 2 by rw [HC.out]; exact rest_path _ r HS.out HPE.out hpp2.out)
            go_wp2
            rw [HXZ.out]
            obtain ⟨Y, hY, hU, hkY, hbY⟩ := UB.put (show UB w.heap.size #[.slice none 0 0, .slice none 0 0, .int .i64 0, .slice none 0 0, .slice none 0 0, .slice none 0 0, .bool false, .bool false] _ from U_Z) (.slice none 0 0) (.slice none 0 0) (.int .i64 0) (.slice none 0 0) (.slice none 0 0) (.slice none 0 0) (.bool false) (.bool false)
            rw [hY]
            (try simp only [Exit.inBlock, Exit.then])
            refine bodyPost_ret (ret_url2 rfl _ _ w.heap.size _ rfl hU rfl) rfl ?_
            rw [HE.out]
            exact ⟨by decide, rfl, B_Z.trans (hbY _ (Nat.le_refl _))⟩
          | some pp =>
            obtain rfl : ep = 0 := by have := HEP.out; rw [hpp] at this; exact this
            cases hqq : formL 2 (atSnd 63 (atFst 35 r)) with
            | none =>
              obtain rfl : eq = 2 := by have := HEQ.out; rw [hqq] at this; exact this
              have h3 := Lib.hid (show optC (atOk 63 (atFst 35 r)) (atSnd 63 (atFst 35 r)) = none by rw [Hbq.out]; exact hqq)
              clear hqq hpp
              have HE := Lib.hid (show canonU t = .inl 2 by rw [HC.out]; exact rest_query _ r HS.out HPE.out h3.out)
              go_wp2
              rw [HXZ.out]
              obtain ⟨Y, hY, hU, hkY, hbY⟩ := UB.put (show UB w.heap.size #[.slice none 0 0, .slice none 0 0, .int .i64 0, .slice none 0 0, .slice none 0 0, .slice none 0 0, .bool false, .bool false] _ from U_Z) (.slice none 0 0) (.slice none 0 0) (.int .i64 0) (.slice none 0 0) (.slice none 0 0) (.slice none 0 0) (.bool false) (.bool false)
              rw [hY]
              (try simp only [Exit.inBlock, Exit.then])
              refine bodyPost_ret (ret_url2 rfl _ _ w.heap.size _ rfl hU rfl) rfl ?_
              rw [HE.out]
              exact ⟨by decide, rfl, B_Z.trans (hbY _ (Nat.le_refl _))⟩
            | some qq =>
              obtain rfl : eq = 0 := by have := HEQ.out; rw [hqq] at this; exact this
              have h3 : optC (atOk 63 (atFst 35 r)) (atSnd 63 (atFst 35 r)) = some qq := by rw [Hbq.out]; exact hqq
              have h4 : optC (atOk 35 r) (atSnd 35 r) = some [] := by rw [Hbf.out]; rfl
              obtain ⟨pn, hpn, hrg⟩ := rest_good _ r HS.out HPE.out pp qq [] hpo hpp h3 h4
              rw [Hbq.out, Hbf.out] at hrg
              have hpn2 : (own : Int) = (pn : Int) := by rw [← HPO.out]; exact hpn
              have HE := Lib.hid (HC.out.trans hrg)
              have HPN := Lib.hid hpn2
              rw [hpp] at GP_Z
              rw [hqq] at GQ_Z
              clear hpo hrg hpn hpn2 h3 h4 hpp hqq  hp0
              go_wp2
              rw [HXZ.out]
              obtain ⟨Y, hY, hU, hkY, hbY⟩ := UB.put (show UB w.heap.size #[.slice none 0 0, .slice none 0 0, .int .i64 0, .slice none 0 0, .slice none 0 0, .slice none 0 0, .bool false, .bool false] _ from U_Z) (.slice qL k cL) (.slice qH nH cH) (.int .i64 own) (.slice qW nW cW) (.slice qY nY cY) (.slice none 0 0) (.bool true) (.bool false)
              rw [hY]
              (try simp only [Exit.inBlock, Exit.then])
              refine bodyPost_ret (ret_url2 rfl _ _ w.heap.size _ rfl hU rfl) rfl ?_
              rw [HE.out]
              refine ⟨_, rfl, ⟨qL, k, cL, qH, nH, cH, qW, nW, cW, qY, nY, cY, none, 0, 0, by rw [HPN.out], L_Z.away U_Z nbz hkY, H_Z.away U_Z nbz hkY, GP_Z.away U_Z nbz hkY, GQ_Z.away U_Z nbz hkY, by_nil _⟩, B_Z.trans (hbY _ (Nat.le_refl _))⟩
        | true =>
          have yb := W_E.box
          have yc4 := yb 4 _ rfl
          have yf4 := W_E.frozen 4
          clear yb
          go_wp2_with fail
          clear yc4 yf4
          obtain ⟨XF, hXF⟩ : ∃ Z, XE.setCell ⟨b18, 4, none⟩ (.slice qY nY cY) = Z := ⟨_, rfl⟩
          rw [hXF]
          have B_F : Below w.heap.size w XF := by rw [← hXF]; exact B_E.setCell (p := ⟨b18, 4, none⟩) hle _
          have U_F : UB w.heap.size zeroU XF := by rw [← hXF]; exact U_E.other hne _
          have F_F := By.set (i := 4) (u := .slice qY nY cY) F_E W_E (nb8 ⟨_, _, _, rfl⟩ ⟨_, _, _, rfl⟩ ⟨_, _, _, rfl⟩ ⟨_, _, _, rfl⟩ ⟨_, _, _, rfl⟩)
          rw [hXF] at F_F
          have H_F := By.set (i := 4) (u := .slice qY nY cY) H_E W_E (nb8 ⟨_, _, _, rfl⟩ ⟨_, _, _, rfl⟩ ⟨_, _, _, rfl⟩ ⟨_, _, _, rfl⟩ ⟨_, _, _, rfl⟩)
          rw [hXF] at H_F
          have L_F := By.set (i := 4) (u := .slice qY nY cY) L_E W_E (nb8 ⟨_, _, _, rfl⟩ ⟨_, _, _, rfl⟩ ⟨_, _, _, rfl⟩ ⟨_, _, _, rfl⟩ ⟨_, _, _, rfl⟩)
          rw [hXF] at L_F
          have GP_F := By.set (i := 4) (u := .slice qY nY cY) GP_E W_E (nb8 ⟨_, _, _, rfl⟩ ⟨_, _, _, rfl⟩ ⟨_, _, _, rfl⟩ ⟨_, _, _, rfl⟩ ⟨_, _, _, rfl⟩)
          rw [hXF] at GP_F
          have GQ_F := By.set (i := 4) (u := .slice qY nY cY) GQ_E W_E (nb8 ⟨_, _, _, rfl⟩ ⟨_, _, _, rfl⟩ ⟨_, _, _, rfl⟩ ⟨_, _, _, rfl⟩ ⟨_, _, _, rfl⟩)
          rw [hXF] at GQ_F
          have W_F : UB b18 #[.slice qL k cL, .slice qH nH cH, .int .i64 own, .slice qW nW cW, .slice qY nY cY, .slice none 0 0, .bool true, .bool true] XF := by rw [← hXF]; exact (W_E.set8 (.slice qY nY cY)).2.2.1
          clear GQ_E GP_E W_E L_E H_E F_E U_E B_E
          clear hXF
          have con := Pct.Canon_any qF nF cF (atSnd 35 r) 2 XF F_F.at.1 (by omega) F_F.at.2.2.2.2
          refine con.mono ?_
          rintro e XG ⟨vZ, ef, rfl, hef, hr, hb⟩
          have HEF : Hid (ef = if (formL 2 (atSnd 35 r)).isSome then 0 else 2) := hef
          replace hr : XG.ownsRow XF.heap.size 5 1 vZ ((formL 2 (atSnd 35 r)).getD []).length (byV ((formL 2 (atSnd 35 r)).getD [])) := hr
          obtain ⟨nZ, hnZ⟩ : ∃ n, ((formL 2 (atSnd 35 r)).getD []).length = n := ⟨_, rfl⟩
          rw [hnZ] at hr
          obtain ⟨qZ, cZ, rfl, _, _, _, _, _⟩ := row_open hr
          have GF_G := By.row hr
          clear con hr hnZ hef
          have B_G := B_F.trans (hb.mono B_F.size)
          have U_G := U_F.on hb
          have F_G := F_F.on hb
          have H_G := H_F.on hb
          have L_G := L_F.on hb
          have W_G := W_F.on hb
          have GP_G := GP_F.on hb
          have GQ_G := GQ_F.on hb
          clear GQ_F GP_F W_F L_F H_F F_F U_F B_F hb
          clear F_G
          have yb := W_G.box
          have yc0 := yb 0 _ rfl
          have yf0 := W_G.frozen 0
          have yc1 := yb 1 _ rfl
          have yf1 := W_G.frozen 1
          have yc2 := yb 2 _ rfl
          have yf2 := W_G.frozen 2
          have yc3 := yb 3 _ rfl
          have yf3 := W_G.frozen 3
          have yc4 := yb 4 _ rfl
          have yf4 := W_G.frozen 4
          have yc5 := yb 5 _ rfl
          have yf5 := W_G.frozen 5
          have yc6 := yb 6 _ rfl
          have yf6 := W_G.frozen 6
          have yc7 := yb 7 _ rfl
          have yf7 := W_G.frozen 7
          clear yb
          have zb := U_G.box
          have zc0 := zb 0 _ rfl
          have zf0 := U_G.frozen 0
          have zc1 := zb 1 _ rfl
          have zf1 := U_G.frozen 1
          have zc2 := zb 2 _ rfl
          have zf2 := U_G.frozen 2
          have zc3 := zb 3 _ rfl
          have zf3 := U_G.frozen 3
          have zc4 := zb 4 _ rfl
          have zf4 := U_G.frozen 4
          have zc5 := zb 5 _ rfl
          have zf5 := U_G.frozen 5
          have zc6 := zb 6 _ rfl
          have zf6 := U_G.frozen 6
          have zc7 := zb 7 _ rfl
          have zf7 := U_G.frozen 7
          clear zb
          obtain ⟨XZ, hXZ⟩ : ∃ Z, XG.setCell ⟨b18, 5, none⟩ (.slice qZ nZ cZ) = Z := ⟨_, rfl⟩
          have B_Z : Below w.heap.size w XZ := by rw [← hXZ]; exact B_G.setCell (p := ⟨b18, 5, none⟩) hle _
          have U_Z : UB w.heap.size zeroU XZ := by rw [← hXZ]; exact U_G.other hne _
          have H_Z := By.set (i := 5) (u := .slice qZ nZ cZ) H_G W_G (nb8 ⟨_, _, _, rfl⟩ ⟨_, _, _, rfl⟩ ⟨_, _, _, rfl⟩ ⟨_, _, _, rfl⟩ ⟨_, _, _, rfl⟩)
          rw [hXZ] at H_Z
          have L_Z := By.set (i := 5) (u := .slice qZ nZ cZ) L_G W_G (nb8 ⟨_, _, _, rfl⟩ ⟨_, _, _, rfl⟩ ⟨_, _, _, rfl⟩ ⟨_, _, _, rfl⟩ ⟨_, _, _, rfl⟩)
          rw [hXZ] at L_Z
          have GP_Z := By.set (i := 5) (u := .slice qZ nZ cZ) GP_G W_G (nb8 ⟨_, _, _, rfl⟩ ⟨_, _, _, rfl⟩ ⟨_, _, _, rfl⟩ ⟨_, _, _, rfl⟩ ⟨_, _, _, rfl⟩)
          rw [hXZ] at GP_Z
          have GQ_Z := By.set (i := 5) (u := .slice qZ nZ cZ) GQ_G W_G (nb8 ⟨_, _, _, rfl⟩ ⟨_, _, _, rfl⟩ ⟨_, _, _, rfl⟩ ⟨_, _, _, rfl⟩ ⟨_, _, _, rfl⟩)
          rw [hXZ] at GQ_Z
          have GF_Z := By.set (i := 5) (u := .slice qZ nZ cZ) GF_G W_G (nb8 ⟨_, _, _, rfl⟩ ⟨_, _, _, rfl⟩ ⟨_, _, _, rfl⟩ ⟨_, _, _, rfl⟩ ⟨_, _, _, rfl⟩)
          rw [hXZ] at GF_Z
          have W_Z : UB b18 #[.slice qL k cL, .slice qH nH cH, .int .i64 own, .slice qW nW cW, .slice qY nY cY, .slice qZ nZ cZ, .bool true, .bool true] XZ := by rw [← hXZ]; exact (W_G.set8 (.slice qZ nZ cZ)).2.2.2
          clear GF_G GQ_G GP_G W_G L_G H_G U_G B_G
          have HXZ := Lib.hid hXZ
          clear hXZ
          by_cases hp0 : (own : Int) = 0
          case pos =>
            have e0 : (((own : Int)) == 0) = true := by rw [beq_iff_eq]; exact hp0
            have hpo := HPO.out
            rw [hp0] at hpo
            clear hp0
            have HE := Lib.hid (show canonU t = .inl 2 by rw [HC.out]; exact rest_port _ r HS.out HPE.out hpo)
            go_wp2
            rw [HXZ.out]
            obtain ⟨Y, hY, hU, hkY, hbY⟩ := UB.put (show UB w.heap.size #[.slice none 0 0, .slice none 0 0, .int .i64 0, .slice none 0 0, .slice none 0 0, .slice none 0 0, .bool false, .bool false] _ from U_Z) (.slice none 0 0) (.slice none 0 0) (.int .i64 0) (.slice none 0 0) (.slice none 0 0) (.slice none 0 0) (.bool false) (.bool false)
            rw [hY]
            (try simp only [Exit.inBlock, Exit.then])
            refine bodyPost_ret (ret_url2 rfl _ _ w.heap.size _ rfl hU rfl) rfl ?_
            rw [HE.out]
            exact ⟨by decide, rfl, B_Z.trans (hbY _ (Nat.le_refl _))⟩
          have e0 : (((own : Int)) == 0) = false := by rw [beq_eq_false_iff_ne]; exact hp0
          have hpo : portC (Ref.lowL s) (atSnd 58 (srvL r)) (atOk 58 (srvL r)) ≠ 0 := by rw [HPO.out]; exact hp0
          cases hpp : pathL (pthL r) with
          | none =>
            obtain rfl : ep = 2 := by have := HEP.out; rw [hpp] at this; exact this
            have hpp2 := Lib.hid hpp
            clear hpp
            have HE := Lib.hid (show canonU t = .inl 2 by rw [HC.out]; exact rest_path _ r HS.out HPE.out hpp2.out)
            go_wp2
            rw [HXZ.out]
            obtain ⟨Y, hY, hU, hkY, hbY⟩ := UB.put (show UB w.heap.size #[.slice none 0 0, .slice none 0 0, .int .i64 0, .slice none 0 0, .slice none 0 0, .slice none 0 0, .bool false, .bool false] _ from U_Z) (.slice none 0 0) (.slice none 0 0) (.int .i64 0) (.slice none 0 0) (.slice none 0 0) (.slice none 0 0) (.bool false) (.bool false)
            rw [hY]
            (try simp only [Exit.inBlock, Exit.then])
            refine bodyPost_ret (ret_url2 rfl _ _ w.heap.size _ rfl hU rfl) rfl ?_
            rw [HE.out]
            exact ⟨by decide, rfl, B_Z.trans (hbY _ (Nat.le_refl _))⟩
          | some pp =>
            obtain rfl : ep = 0 := by have := HEP.out; rw [hpp] at this; exact this
            cases hqq : formL 2 (atSnd 63 (atFst 35 r)) with
            | none =>
              obtain rfl : eq = 2 := by have := HEQ.out; rw [hqq] at this; exact this
              have h3 := Lib.hid (show optC (atOk 63 (atFst 35 r)) (atSnd 63 (atFst 35 r)) = none by rw [Hbq.out]; exact hqq)
              clear hqq hpp
              have HE := Lib.hid (show canonU t = .inl 2 by rw [HC.out]; exact rest_query _ r HS.out HPE.out h3.out)
              go_wp2
              rw [HXZ.out]
              obtain ⟨Y, hY, hU, hkY, hbY⟩ := UB.put (show UB w.heap.size #[.slice none 0 0, .slice none 0 0, .int .i64 0, .slice none 0 0, .slice none 0 0, .slice none 0 0, .bool false, .bool false] _ from U_Z) (.slice none 0 0) (.slice none 0 0) (.int .i64 0) (.slice none 0 0) (.slice none 0 0) (.slice none 0 0) (.bool false) (.bool false)
              rw [hY]
              (try simp only [Exit.inBlock, Exit.then])
              refine bodyPost_ret (ret_url2 rfl _ _ w.heap.size _ rfl hU rfl) rfl ?_
              rw [HE.out]
              exact ⟨by decide, rfl, B_Z.trans (hbY _ (Nat.le_refl _))⟩
            | some qq =>
              obtain rfl : eq = 0 := by have := HEQ.out; rw [hqq] at this; exact this
              cases hff : formL 2 (atSnd 35 r) with
              | none =>
                obtain rfl : ef = 2 := by have := HEF.out; rw [hff] at this; exact this
                have h4 := Lib.hid (show optC (atOk 35 r) (atSnd 35 r) = none by rw [Hbf.out]; exact hff)
                clear hff hpp
                have HE := Lib.hid (show canonU t = .inl 2 by rw [HC.out]; exact rest_frag _ r HS.out HPE.out h4.out)
                go_wp2
                rw [HXZ.out]
                obtain ⟨Y, hY, hU, hkY, hbY⟩ := UB.put (show UB w.heap.size #[.slice none 0 0, .slice none 0 0, .int .i64 0, .slice none 0 0, .slice none 0 0, .slice none 0 0, .bool false, .bool false] _ from U_Z) (.slice none 0 0) (.slice none 0 0) (.int .i64 0) (.slice none 0 0) (.slice none 0 0) (.slice none 0 0) (.bool false) (.bool false)
                rw [hY]
                (try simp only [Exit.inBlock, Exit.then])
                refine bodyPost_ret (ret_url2 rfl _ _ w.heap.size _ rfl hU rfl) rfl ?_
                rw [HE.out]
                exact ⟨by decide, rfl, B_Z.trans (hbY _ (Nat.le_refl _))⟩
              | some ff =>
                obtain rfl : ef = 0 := by have := HEF.out; rw [hff] at this; exact this
                have h3 : optC (atOk 63 (atFst 35 r)) (atSnd 63 (atFst 35 r)) = some qq := by rw [Hbq.out]; exact hqq
                have h4 : optC (atOk 35 r) (atSnd 35 r) = some ff := by rw [Hbf.out]; exact hff
                obtain ⟨pn, hpn, hrg⟩ := rest_good _ r HS.out HPE.out pp qq ff hpo hpp h3 h4
                rw [Hbq.out, Hbf.out] at hrg
                have hpn2 : (own : Int) = (pn : Int) := by rw [← HPO.out]; exact hpn
                have HE := Lib.hid (HC.out.trans hrg)
                have HPN := Lib.hid hpn2
                rw [hpp] at GP_Z
                rw [hqq] at GQ_Z
                rw [hff] at GF_Z
                clear hpo hrg hpn hpn2 h3 h4 hpp hqq hff hp0
                go_wp2
                rw [HXZ.out]
                obtain ⟨Y, hY, hU, hkY, hbY⟩ := UB.put (show UB w.heap.size #[.slice none 0 0, .slice none 0 0, .int .i64 0, .slice none 0 0, .slice none 0 0, .slice none 0 0, .bool false, .bool false] _ from U_Z) (.slice qL k cL) (.slice qH nH cH) (.int .i64 own) (.slice qW nW cW) (.slice qY nY cY) (.slice qZ nZ cZ) (.bool true) (.bool true)
                rw [hY]
                (try simp only [Exit.inBlock, Exit.then])
                refine bodyPost_ret (ret_url2 rfl _ _ w.heap.size _ rfl hU rfl) rfl ?_
                rw [HE.out]
                refine ⟨_, rfl, ⟨qL, k, cL, qH, nH, cH, qW, nW, cW, qY, nY, cY, qZ, nZ, cZ, by rw [HPN.out], L_Z.away U_Z nbz hkY, H_Z.away U_Z nbz hkY, GP_Z.away U_Z nbz hkY, GQ_Z.away U_Z nbz hkY, GF_Z.away U_Z nbz hkY⟩, B_Z.trans (hbY _ (Nat.le_refl _))⟩
    | true =>
      have con := Number_any qD nD cD (atSnd 58 (srvL r)) 65535 XA D_A.at.1 (by omega) D_A.at.2.2.2.2 (by decide) (by decide)
      obtain ⟨pv, hpv⟩ : ∃ p, (numOf 65535 (atSnd 58 (srvL r))).getD 0 = p := ⟨_, rfl⟩
      have HPO := Lib.hid (show portC (Ref.lowL s) (atSnd 58 (srvL r)) (atOk 58 (srvL r)) = pv by rw [Hbp.out, ← hpv]; rfl)
      unfold numV at con
      rw [hpv] at con
      generalize (numOf 65535 (atSnd 58 (srvL r))).isSome = ps at con
      clear hpv
      go_wp2_with fail
      rw [HB18.out, HXA.out]
      refine con.mono ?_
      rintro e XB ⟨rfl, rfl⟩
      clear con
      clear D_A
      have yb := W_A.box
      have yc2 := yb 2 _ rfl
      have yf2 := W_A.frozen 2
      clear yb
      go_wp2_with fail
      clear yc2 yf2
      obtain ⟨XB, hXB⟩ : ∃ Z, XA.setCell ⟨b18, 2, none⟩ (.int .i64 pv) = Z := ⟨_, rfl⟩
      rw [hXB]
      have B_B : Below w.heap.size w XB := by rw [← hXB]; exact B_A.setCell (p := ⟨b18, 2, none⟩) hle _
      have U_B : UB w.heap.size zeroU XB := by rw [← hXB]; exact U_A.other hne _
      have F_B := By.set (i := 2) (u := .int .i64 pv) F_A W_A (nb8 ⟨_, _, _, rfl⟩ ⟨_, _, _, rfl⟩ ⟨_, _, _, rfl⟩ ⟨_, _, _, rfl⟩ ⟨_, _, _, rfl⟩)
      rw [hXB] at F_B
      have Q_B := By.set (i := 2) (u := .int .i64 pv) Q_A W_A (nb8 ⟨_, _, _, rfl⟩ ⟨_, _, _, rfl⟩ ⟨_, _, _, rfl⟩ ⟨_, _, _, rfl⟩ ⟨_, _, _, rfl⟩)
      rw [hXB] at Q_B
      have P_B := By.set (i := 2) (u := .int .i64 pv) P_A W_A (nb8 ⟨_, _, _, rfl⟩ ⟨_, _, _, rfl⟩ ⟨_, _, _, rfl⟩ ⟨_, _, _, rfl⟩ ⟨_, _, _, rfl⟩)
      rw [hXB] at P_B
      have H_B := By.set (i := 2) (u := .int .i64 pv) H_A W_A (nb8 ⟨_, _, _, rfl⟩ ⟨_, _, _, rfl⟩ ⟨_, _, _, rfl⟩ ⟨_, _, _, rfl⟩ ⟨_, _, _, rfl⟩)
      rw [hXB] at H_B
      have L_B := By.set (i := 2) (u := .int .i64 pv) L_A W_A (nb8 ⟨_, _, _, rfl⟩ ⟨_, _, _, rfl⟩ ⟨_, _, _, rfl⟩ ⟨_, _, _, rfl⟩ ⟨_, _, _, rfl⟩)
      rw [hXB] at L_B
      have W_B : UB b18 #[.slice qL k cL, .slice qH nH cH, .int .i64 pv, .slice none 0 0, .slice none 0 0, .slice none 0 0, .bool bq, .bool bf] XB := by rw [← hXB]; exact (W_A.set8 (.int .i64 pv)).1
      clear W_A L_A H_A P_A Q_A F_A U_A B_A
      clear hXB
      have con := canonOfPath_any qP nP cP (pthL r) XB P_B (by omega) HPF.out
      refine con.mono ?_
      rintro e XC ⟨vW, ep, rfl, hep, hr, hb⟩
      have HEP : Hid (ep = if (pathL (pthL r)).isSome then 0 else 2) := hep
      replace hr : XC.ownsRow XB.heap.size 5 1 vW ((pathL (pthL r)).getD []).length (byV ((pathL (pthL r)).getD [])) := hr
      obtain ⟨nW, hnW⟩ : ∃ n, ((pathL (pthL r)).getD []).length = n := ⟨_, rfl⟩
      rw [hnW] at hr
      obtain ⟨qW, cW, rfl, _, _, _, _, _⟩ := row_open hr
      have GP_C := By.row hr
      clear con hr hnW hep
      have B_C := B_B.trans (hb.mono B_B.size)
      have U_C := U_B.on hb
      have F_C := F_B.on hb
      have Q_C := Q_B.on hb
      have P_C := P_B.on hb
      have H_C := H_B.on hb
      have L_C := L_B.on hb
      have W_C := W_B.on hb
      clear W_B L_B H_B P_B Q_B F_B U_B B_B hb
      clear P_C
      cases bq with
      | false =>
        clear Q_C
        cases bf with
        | false =>
          clear F_C
          have yb := W_C.box
          have yc0 := yb 0 _ rfl
          have yf0 := W_C.frozen 0
          have yc1 := yb 1 _ rfl
          have yf1 := W_C.frozen 1
          have yc2 := yb 2 _ rfl
          have yf2 := W_C.frozen 2
          have yc3 := yb 3 _ rfl
          have yf3 := W_C.frozen 3
          have yc4 := yb 4 _ rfl
          have yf4 := W_C.frozen 4
          have yc5 := yb 5 _ rfl
          have yf5 := W_C.frozen 5
          have yc6 := yb 6 _ rfl
          have yf6 := W_C.frozen 6
          have yc7 := yb 7 _ rfl
          have yf7 := W_C.frozen 7
          clear yb
          have zb := U_C.box
          have zc0 := zb 0 _ rfl
          have zf0 := U_C.frozen 0
          have zc1 := zb 1 _ rfl
          have zf1 := U_C.frozen 1
          have zc2 := zb 2 _ rfl
          have zf2 := U_C.frozen 2
          have zc3 := zb 3 _ rfl
          have zf3 := U_C.frozen 3
          have zc4 := zb 4 _ rfl
          have zf4 := U_C.frozen 4
          have zc5 := zb 5 _ rfl
          have zf5 := U_C.frozen 5
          have zc6 := zb 6 _ rfl
          have zf6 := U_C.frozen 6
          have zc7 := zb 7 _ rfl
          have zf7 := U_C.frozen 7
          clear zb
          obtain ⟨XZ, hXZ⟩ : ∃ Z, XC.setCell ⟨b18, 3, none⟩ (.slice qW nW cW) = Z := ⟨_, rfl⟩
          have B_Z : Below w.heap.size w XZ := by rw [← hXZ]; exact B_C.setCell (p := ⟨b18, 3, none⟩) hle _
          have U_Z : UB w.heap.size zeroU XZ := by rw [← hXZ]; exact U_C.other hne _
          have H_Z := By.set (i := 3) (u := .slice qW nW cW) H_C W_C (nb8 ⟨_, _, _, rfl⟩ ⟨_, _, _, rfl⟩ ⟨_, _, _, rfl⟩ ⟨_, _, _, rfl⟩ ⟨_, _, _, rfl⟩)
          rw [hXZ] at H_Z
          have L_Z := By.set (i := 3) (u := .slice qW nW cW) L_C W_C (nb8 ⟨_, _, _, rfl⟩ ⟨_, _, _, rfl⟩ ⟨_, _, _, rfl⟩ ⟨_, _, _, rfl⟩ ⟨_, _, _, rfl⟩)
          rw [hXZ] at L_Z
          have GP_Z := By.set (i := 3) (u := .slice qW nW cW) GP_C W_C (nb8 ⟨_, _, _, rfl⟩ ⟨_, _, _, rfl⟩ ⟨_, _, _, rfl⟩ ⟨_, _, _, rfl⟩ ⟨_, _, _, rfl⟩)
          rw [hXZ] at GP_Z
          have W_Z : UB b18 #[.slice qL k cL, .slice qH nH cH, .int .i64 pv, .slice qW nW cW, .slice none 0 0, .slice none 0 0, .bool false, .bool false] XZ := by rw [← hXZ]; exact (W_C.set8 (.slice qW nW cW)).2.1
          clear GP_C W_C L_C H_C U_C B_C
          have HXZ := Lib.hid hXZ
          clear hXZ
          by_cases hp0 : (pv : Int) = 0
          case pos =>
            have e0 : (((pv : Int)) == 0) = true := by rw [beq_iff_eq]; exact hp0
            have hpo := HPO.out
            rw [hp0] at hpo
            clear hp0
            have HE := Lib.hid (show canonU t = .inl 2 by rw [HC.out]; exact rest_port _ r HS.out HPE.out hpo)
            go_wp2
            rw [HXZ.out]
            obtain ⟨Y, hY, hU, hkY, hbY⟩ := UB.put (show UB w.heap.size #[.slice none 0 0, .slice none 0 0, .int .i64 0, .slice none 0 0, .slice none 0 0, .slice none 0 0, .bool false, .bool false] _ from U_Z) (.slice none 0 0) (.slice none 0 0) (.int .i64 0) (.slice none 0 0) (.slice none 0 0) (.slice none 0 0) (.bool false) (.bool false)
            rw [hY]
            (try simp only [Exit.inBlock, Exit.then])
            refine bodyPost_ret (ret_url2 rfl _ _ w.heap.size _ rfl hU rfl) rfl ?_
            rw [HE.out]
            exact ⟨by decide, rfl, B_Z.trans (hbY _ (Nat.le_refl _))⟩
          have e0 : (((pv : Int)) == 0) = false := by rw [beq_eq_false_iff_ne]; exact hp0
          have hpo : portC (Ref.lowL s) (atSnd 58 (srvL r)) (atOk 58 (srvL r)) ≠ 0 := by rw [HPO.out]; exact hp0
          cases hpp : pathL (pthL r) with
          | none =>
            obtain rfl : ep = 2 := by have := HEP.out; rw [hpp] at this; exact this
            have hpp2 := Lib.hid hpp
            clear hpp
            have HE := Lib.hid (show canonU t = .inl 2 by rw [HC.out]; exact rest_path _ r HS.out HPE.out hpp2.out)
            go_wp2
            rw [HXZ.out]
            obtain ⟨Y, hY, hU, hkY, hbY⟩ := UB.put (show UB w.heap.size #[.slice none 0 0, .slice none 0 0, .int .i64 0, .slice none 0 0, .slice none 0 0, .slice none 0 0, .bool false, .bool false] _ from U_Z) (.slice none 0 0) (.slice none 0 0) (.int .i64 0) (.slice none 0 0) (.slice none 0 0) (.slice none 0 0) (.bool false) (.bool false)
            rw [hY]
            (try simp only [Exit.inBlock, Exit.then])
            refine bodyPost_ret (ret_url2 rfl _ _ w.heap.size _ rfl hU rfl) rfl ?_
            rw [HE.out]
            exact ⟨by decide, rfl, B_Z.trans (hbY _ (Nat.le_refl _))⟩
          | some pp =>
            obtain rfl : ep = 0 := by have := HEP.out; rw [hpp] at this; exact this
            have h3 : optC (atOk 63 (atFst 35 r)) (atSnd 63 (atFst 35 r)) = some [] := by rw [Hbq.out]; rfl
            have h4 : optC (atOk 35 r) (atSnd 35 r) = some [] := by rw [Hbf.out]; rfl
            obtain ⟨pn, hpn, hrg⟩ := rest_good _ r HS.out HPE.out pp [] [] hpo hpp h3 h4
            rw [Hbq.out, Hbf.out] at hrg
            have hpn2 : (pv : Int) = (pn : Int) := by rw [← HPO.out]; exact hpn
            have HE := Lib.hid (HC.out.trans hrg)
            have HPN := Lib.hid hpn2
            rw [hpp] at GP_Z
            clear hpo hrg hpn hpn2 h3 h4 hpp  hp0
            go_wp2
            rw [HXZ.out]
            obtain ⟨Y, hY, hU, hkY, hbY⟩ := UB.put (show UB w.heap.size #[.slice none 0 0, .slice none 0 0, .int .i64 0, .slice none 0 0, .slice none 0 0, .slice none 0 0, .bool false, .bool false] _ from U_Z) (.slice qL k cL) (.slice qH nH cH) (.int .i64 pv) (.slice qW nW cW) (.slice none 0 0) (.slice none 0 0) (.bool false) (.bool false)
            rw [hY]
            (try simp only [Exit.inBlock, Exit.then])
            refine bodyPost_ret (ret_url2 rfl _ _ w.heap.size _ rfl hU rfl) rfl ?_
            rw [HE.out]
            refine ⟨_, rfl, ⟨qL, k, cL, qH, nH, cH, qW, nW, cW, none, 0, 0, none, 0, 0, by rw [HPN.out], L_Z.away U_Z nbz hkY, H_Z.away U_Z nbz hkY, GP_Z.away U_Z nbz hkY, by_nil _, by_nil _⟩, B_Z.trans (hbY _ (Nat.le_refl _))⟩
        | true =>
          have yb := W_C.box
          have yc3 := yb 3 _ rfl
          have yf3 := W_C.frozen 3
          clear yb
          go_wp2_with fail
          clear yc3 yf3
          obtain ⟨XF, hXF⟩ : ∃ Z, XC.setCell ⟨b18, 3, none⟩ (.slice qW nW cW) = Z := ⟨_, rfl⟩
          rw [hXF]
          have B_F : Below w.heap.size w XF := by rw [← hXF]; exact B_C.setCell (p := ⟨b18, 3, none⟩) hle _
          have U_F : UB w.heap.size zeroU XF := by rw [← hXF]; exact U_C.other hne _
          have F_F := By.set (i := 3) (u := .slice qW nW cW) F_C W_C (nb8 ⟨_, _, _, rfl⟩ ⟨_, _, _, rfl⟩ ⟨_, _, _, rfl⟩ ⟨_, _, _, rfl⟩ ⟨_, _, _, rfl⟩)
          rw [hXF] at F_F
          have H_F := By.set (i := 3) (u := .slice qW nW cW) H_C W_C (nb8 ⟨_, _, _, rfl⟩ ⟨_, _, _, rfl⟩ ⟨_, _, _, rfl⟩ ⟨_, _, _, rfl⟩ ⟨_, _, _, rfl⟩)
          rw [hXF] at H_F
          have L_F := By.set (i := 3) (u := .slice qW nW cW) L_C W_C (nb8 ⟨_, _, _, rfl⟩ ⟨_, _, _, rfl⟩ ⟨_, _, _, rfl⟩ ⟨_, _, _, rfl⟩ ⟨_, _, _, rfl⟩)
          rw [hXF] at L_F
          have GP_F := By.set (i := 3) (u := .slice qW nW cW) GP_C W_C (nb8 ⟨_, _, _, rfl⟩ ⟨_, _, _, rfl⟩ ⟨_, _, _, rfl⟩ ⟨_, _, _, rfl⟩ ⟨_, _, _, rfl⟩)
          rw [hXF] at GP_F
          have W_F : UB b18 #[.slice qL k cL, .slice qH nH cH, .int .i64 pv, .slice qW nW cW, .slice none 0 0, .slice none 0 0, .bool false, .bool true] XF := by rw [← hXF]; exact (W_C.set8 (.slice qW nW cW)).2.1
          clear GP_C W_C L_C H_C F_C U_C B_C
          clear hXF
          have con := Pct.Canon_any qF nF cF (atSnd 35 r) 2 XF F_F.at.1 (by omega) F_F.at.2.2.2.2
          refine con.mono ?_
          rintro e XG ⟨vZ, ef, rfl, hef, hr, hb⟩
          have HEF : Hid (ef = if (formL 2 (atSnd 35 r)).isSome then 0 else 2) := hef
          replace hr : XG.ownsRow XF.heap.size 5 1 vZ ((formL 2 (atSnd 35 r)).getD []).length (byV ((formL 2 (atSnd 35 r)).getD [])) := hr
          obtain ⟨nZ, hnZ⟩ : ∃ n, ((formL 2 (atSnd 35 r)).getD []).length = n := ⟨_, rfl⟩
          rw [hnZ] at hr
          obtain ⟨qZ, cZ, rfl, _, _, _, _, _⟩ := row_open hr
          have GF_G := By.row hr
          clear con hr hnZ hef
          have B_G := B_F.trans (hb.mono B_F.size)
          have U_G := U_F.on hb
          have F_G := F_F.on hb
          have H_G := H_F.on hb
          have L_G := L_F.on hb
          have W_G := W_F.on hb
          have GP_G := GP_F.on hb
          clear GP_F W_F L_F H_F F_F U_F B_F hb
          clear F_G
          have yb := W_G.box
          have yc0 := yb 0 _ rfl
          have yf0 := W_G.frozen 0
          have yc1 := yb 1 _ rfl
          have yf1 := W_G.frozen 1
          have yc2 := yb 2 _ rfl
          have yf2 := W_G.frozen 2
          have yc3 := yb 3 _ rfl
          have yf3 := W_G.frozen 3
          have yc4 := yb 4 _ rfl
          have yf4 := W_G.frozen 4
          have yc5 := yb 5 _ rfl
          have yf5 := W_G.frozen 5
          have yc6 := yb 6 _ rfl
          have yf6 := W_G.frozen 6
          have yc7 := yb 7 _ rfl
          have yf7 := W_G.frozen 7
          clear yb
          have zb := U_G.box
          have zc0 := zb 0 _ rfl
          have zf0 := U_G.frozen 0
          have zc1 := zb 1 _ rfl
          have zf1 := U_G.frozen 1
          have zc2 := zb 2 _ rfl
          have zf2 := U_G.frozen 2
          have zc3 := zb 3 _ rfl
          have zf3 := U_G.frozen 3
          have zc4 := zb 4 _ rfl
          have zf4 := U_G.frozen 4
          have zc5 := zb 5 _ rfl
          have zf5 := U_G.frozen 5
          have zc6 := zb 6 _ rfl
          have zf6 := U_G.frozen 6
          have zc7 := zb 7 _ rfl
          have zf7 := U_G.frozen 7
          clear zb
          obtain ⟨XZ, hXZ⟩ : ∃ Z, XG.setCell ⟨b18, 5, none⟩ (.slice qZ nZ cZ) = Z := ⟨_, rfl⟩
          have B_Z : Below w.heap.size w XZ := by rw [← hXZ]; exact B_G.setCell (p := ⟨b18, 5, none⟩) hle _
          have U_Z : UB w.heap.size zeroU XZ := by rw [← hXZ]; exact U_G.other hne _
          have H_Z := By.set (i := 5) (u := .slice qZ nZ cZ) H_G W_G (nb8 ⟨_, _, _, rfl⟩ ⟨_, _, _, rfl⟩ ⟨_, _, _, rfl⟩ ⟨_, _, _, rfl⟩ ⟨_, _, _, rfl⟩)
          rw [hXZ] at H_Z
          have L_Z := By.set (i := 5) (u := .slice qZ nZ cZ) L_G W_G (nb8 ⟨_, _, _, rfl⟩ ⟨_, _, _, rfl⟩ ⟨_, _, _, rfl⟩ ⟨_, _, _, rfl⟩ ⟨_, _, _, rfl⟩)
          rw [hXZ] at L_Z
          have GP_Z := By.set (i := 5) (u := .slice qZ nZ cZ) GP_G W_G (nb8 ⟨_, _, _, rfl⟩ ⟨_, _, _, rfl⟩ ⟨_, _, _, rfl⟩ ⟨_, _, _, rfl⟩ ⟨_, _, _, rfl⟩)
          rw [hXZ] at GP_Z
          have GF_Z := By.set (i := 5) (u := .slice qZ nZ cZ) GF_G W_G (nb8 ⟨_, _, _, rfl⟩ ⟨_, _, _, rfl⟩ ⟨_, _, _, rfl⟩ ⟨_, _, _, rfl⟩ ⟨_, _, _, rfl⟩)
          rw [hXZ] at GF_Z
          have W_Z : UB b18 #[.slice qL k cL, .slice qH nH cH, .int .i64 pv, .slice qW nW cW, .slice none 0 0, .slice qZ nZ cZ, .bool false, .bool true] XZ := by rw [← hXZ]; exact (W_G.set8 (.slice qZ nZ cZ)).2.2.2
          clear GF_G GP_G W_G L_G H_G U_G B_G
          have HXZ := Lib.hid hXZ
          clear hXZ
          by_cases hp0 : (pv : Int) = 0
          case pos =>
            have e0 : (((pv : Int)) == 0) = true := by rw [beq_iff_eq]; exact hp0
            have hpo := HPO.out
            rw [hp0] at hpo
            clear hp0
            have HE := Lib.hid (show canonU t = .inl 2 by rw [HC.out]; exact rest_port _ r HS.out HPE.out hpo)
            go_wp2
            rw [HXZ.out]
            obtain ⟨Y, hY, hU, hkY, hbY⟩ := UB.put (show UB w.heap.size #[.slice none 0 0, .slice none 0 0, .int .i64 0, .slice none 0 0, .slice none 0 0, .slice none 0 0, .bool false, .bool false] _ from U_Z) (.slice none 0 0) (.slice none 0 0) (.int .i64 0) (.slice none 0 0) (.slice none 0 0) (.slice none 0 0) (.bool false) (.bool false)
            rw [hY]
            (try simp only [Exit.inBlock, Exit.then])
            refine bodyPost_ret (ret_url2 rfl _ _ w.heap.size _ rfl hU rfl) rfl ?_
            rw [HE.out]
            exact ⟨by decide, rfl, B_Z.trans (hbY _ (Nat.le_refl _))⟩
          have e0 : (((pv : Int)) == 0) = false := by rw [beq_eq_false_iff_ne]; exact hp0
          have hpo : portC (Ref.lowL s) (atSnd 58 (srvL r)) (atOk 58 (srvL r)) ≠ 0 := by rw [HPO.out]; exact hp0
          cases hpp : pathL (pthL r) with
          | none =>
            obtain rfl : ep = 2 := by have := HEP.out; rw [hpp] at this; exact this
            have hpp2 := Lib.hid hpp
            clear hpp
            have HE := Lib.hid (show canonU t = .inl 2 by rw [HC.out]; exact rest_path _ r HS.out HPE.out hpp2.out)
            go_wp2
            rw [HXZ.out]
            obtain ⟨Y, hY, hU, hkY, hbY⟩ := UB.put (show UB w.heap.size #[.slice none 0 0, .slice none 0 0, .int .i64 0, .slice none 0 0, .slice none 0 0, .slice none 0 0, .bool false, .bool false] _ from U_Z) (.slice none 0 0) (.slice none 0 0) (.int .i64 0) (.slice none 0 0) (.slice none 0 0) (.slice none 0 0) (.bool false) (.bool false)
            rw [hY]
            (try simp only [Exit.inBlock, Exit.then])
            refine bodyPost_ret (ret_url2 rfl _ _ w.heap.size _ rfl hU rfl) rfl ?_
            rw [HE.out]
            exact ⟨by decide, rfl, B_Z.trans (hbY _ (Nat.le_refl _))⟩
          | some pp =>
            obtain rfl : ep = 0 := by have := HEP.out; rw [hpp] at this; exact this
            cases hff : formL 2 (atSnd 35 r) with
            | none =>
              obtain rfl : ef = 2 := by have := HEF.out; rw [hff] at this; exact this
              have h4 := Lib.hid (show optC (atOk 35 r) (atSnd 35 r) = none by rw [Hbf.out]; exact hff)
              clear hff hpp
              have HE := Lib.hid (show canonU t = .inl 2 by rw [HC.out]; exact rest_frag _ r HS.out HPE.out h4.out)
              go_wp2
              rw [HXZ.out]
              obtain ⟨Y, hY, hU, hkY, hbY⟩ := UB.put (show UB w.heap.size #[.slice none 0 0, .slice none 0 0, .int .i64 0, .slice none 0 0, .slice none 0 0, .slice none 0 0, .bool false, .bool false] _ from U_Z) (.slice none 0 0) (.slice none 0 0) (.int .i64 0) (.slice none 0 0) (.slice none 0 0) (.slice none 0 0) (.bool false) (.bool false)
              rw [hY]
              (try simp only [Exit.inBlock, Exit.then])
              refine bodyPost_ret (ret_url2 rfl _ _ w.heap.size _ rfl hU rfl) rfl ?_
              rw [HE.out]
              exact ⟨by decide, rfl, B_Z.trans (hbY _ (Nat.le_refl _))⟩
            | some ff =>
              obtain rfl : ef = 0 := by have := HEF.out; rw [hff] at this; exact this
              have h3 : optC (atOk 63 (atFst 35 r)) (atSnd 63 (atFst 35 r)) = some [] := by rw [Hbq.out]; rfl
              have h4 : optC (atOk 35 r) (atSnd 35 r) = some ff := by rw [Hbf.out]; exact hff
              obtain ⟨pn, hpn, hrg⟩ := rest_good _ r HS.out HPE.out pp [] ff hpo hpp h3 h4
              rw [Hbq.out, Hbf.out] at hrg
              have hpn2 : (pv : Int) = (pn : Int) := by rw [← HPO.out]; exact hpn
              have HE := Lib.hid (HC.out.trans hrg)
              have HPN := Lib.hid hpn2
              rw [hpp] at GP_Z
              rw [hff] at GF_Z
              clear hpo hrg hpn hpn2 h3 h4 hpp hff hp0
              go_wp2
              rw [HXZ.out]
              obtain ⟨Y, hY, hU, hkY, hbY⟩ := UB.put (show UB w.heap.size #[.slice none 0 0, .slice none 0 0, .int .i64 0, .slice none 0 0, .slice none 0 0, .slice none 0 0, .bool false, .bool false] _ from U_Z) (.slice qL k cL) (.slice qH nH cH) (.int .i64 pv) (.slice qW nW cW) (.slice none 0 0) (.slice qZ nZ cZ) (.bool false) (.bool true)
              rw [hY]
              (try simp only [Exit.inBlock, Exit.then])
              refine bodyPost_ret (ret_url2 rfl _ _ w.heap.size _ rfl hU rfl) rfl ?_
              rw [HE.out]
              refine ⟨_, rfl, ⟨qL, k, cL, qH, nH, cH, qW, nW, cW, none, 0, 0, qZ, nZ, cZ, by rw [HPN.out], L_Z.away U_Z nbz hkY, H_Z.away U_Z nbz hkY, GP_Z.away U_Z nbz hkY, by_nil _, GF_Z.away U_Z nbz hkY⟩, B_Z.trans (hbY _ (Nat.le_refl _))⟩
      | true =>
        have yb := W_C.box
        have yc3 := yb 3 _ rfl
        have yf3 := W_C.frozen 3
        clear yb
        go_wp2_with fail
        clear yc3 yf3
        obtain ⟨XD, hXD⟩ : ∃ Z, XC.setCell ⟨b18, 3, none⟩ (.slice qW nW cW) = Z := ⟨_, rfl⟩
        rw [hXD]
        have B_D : Below w.heap.size w XD := by rw [← hXD]; exact B_C.setCell (p := ⟨b18, 3, none⟩) hle _
        have U_D : UB w.heap.size zeroU XD := by rw [← hXD]; exact U_C.other hne _
        have F_D := By.set (i := 3) (u := .slice qW nW cW) F_C W_C (nb8 ⟨_, _, _, rfl⟩ ⟨_, _, _, rfl⟩ ⟨_, _, _, rfl⟩ ⟨_, _, _, rfl⟩ ⟨_, _, _, rfl⟩)
        rw [hXD] at F_D
        have Q_D := By.set (i := 3) (u := .slice qW nW cW) Q_C W_C (nb8 ⟨_, _, _, rfl⟩ ⟨_, _, _, rfl⟩ ⟨_, _, _, rfl⟩ ⟨_, _, _, rfl⟩ ⟨_, _, _, rfl⟩)
        rw [hXD] at Q_D
        have H_D := By.set (i := 3) (u := .slice qW nW cW) H_C W_C (nb8 ⟨_, _, _, rfl⟩ ⟨_, _, _, rfl⟩ ⟨_, _, _, rfl⟩ ⟨_, _, _, rfl⟩ ⟨_, _, _, rfl⟩)
        rw [hXD] at H_D
        have L_D := By.set (i := 3) (u := .slice qW nW cW) L_C W_C (nb8 ⟨_, _, _, rfl⟩ ⟨_, _, _, rfl⟩ ⟨_, _, _, rfl⟩ ⟨_, _, _, rfl⟩ ⟨_, _, _, rfl⟩)
        rw [hXD] at L_D
        have GP_D := By.set (i := 3) (u := .slice qW nW cW) GP_C W_C (nb8 ⟨_, _, _, rfl⟩ ⟨_, _, _, rfl⟩ ⟨_, _, _, rfl⟩ ⟨_, _, _, rfl⟩ ⟨_, _, _, rfl⟩)
        rw [hXD] at GP_D
        have W_D : UB b18 #[.slice qL k cL, .slice qH nH cH, .int .i64 pv, .slice qW nW cW, .slice none 0 0, .slice none 0 0, .bool true, .bool bf] XD := by rw [← hXD]; exact (W_C.set8 (.slice qW nW cW)).2.1
        clear GP_C W_C L_C H_C Q_C F_C U_C B_C
        clear hXD
        have con := Pct.Canon_any qQ nQ cQ (atSnd 63 (atFst 35 r)) 2 XD Q_D.at.1 (by omega) Q_D.at.2.2.2.2
        refine con.mono ?_
        rintro e XE ⟨vY, eq, rfl, heq, hr, hb⟩
        have HEQ : Hid (eq = if (formL 2 (atSnd 63 (atFst 35 r))).isSome then 0 else 2) := heq
        replace hr : XE.ownsRow XD.heap.size 5 1 vY ((formL 2 (atSnd 63 (atFst 35 r))).getD []).length (byV ((formL 2 (atSnd 63 (atFst 35 r))).getD [])) := hr
        obtain ⟨nY, hnY⟩ : ∃ n, ((formL 2 (atSnd 63 (atFst 35 r))).getD []).length = n := ⟨_, rfl⟩
        rw [hnY] at hr
        obtain ⟨qY, cY, rfl, _, _, _, _, _⟩ := row_open hr
        have GQ_E := By.row hr
        clear con hr hnY heq
        have B_E := B_D.trans (hb.mono B_D.size)
        have U_E := U_D.on hb
        have F_E := F_D.on hb
        have Q_E := Q_D.on hb
        have H_E := H_D.on hb
        have L_E := L_D.on hb
        have W_E := W_D.on hb
        have GP_E := GP_D.on hb
        clear GP_D W_D L_D H_D Q_D F_D U_D B_D hb
        clear Q_E
        cases bf with
        | false =>
          clear F_E
          have yb := W_E.box
          have yc0 := yb 0 _ rfl
          have yf0 := W_E.frozen 0
          have yc1 := yb 1 _ rfl
          have yf1 := W_E.frozen 1
          have yc2 := yb 2 _ rfl
          have yf2 := W_E.frozen 2
          have yc3 := yb 3 _ rfl
          have yf3 := W_E.frozen 3
          have yc4 := yb 4 _ rfl
          have yf4 := W_E.frozen 4
          have yc5 := yb 5 _ rfl
          have yf5 := W_E.frozen 5
          have yc6 := yb 6 _ rfl
          have yf6 := W_E.frozen 6
          have yc7 := yb 7 _ rfl
          have yf7 := W_E.frozen 7
          clear yb
          have zb := U_E.box
          have zc0 := zb 0 _ rfl
          have zf0 := U_E.frozen 0
          have zc1 := zb 1 _ rfl
          have zf1 := U_E.frozen 1
          have zc2 := zb 2 _ rfl
          have zf2 := U_E.frozen 2
          have zc3 := zb 3 _ rfl
          have zf3 := U_E.frozen 3
          have zc4 := zb 4 _ rfl
          have zf4 := U_E.frozen 4
          have zc5 := zb 5 _ rfl
          have zf5 := U_E.frozen 5
          have zc6 := zb 6 _ rfl
          have zf6 := U_E.frozen 6
          have zc7 := zb 7 _ rfl
          have zf7 := U_E.frozen 7
          clear zb
          obtain ⟨XZ, hXZ⟩ : ∃ Z, XE.setCell ⟨b18, 4, none⟩ (.slice qY nY cY) = Z := ⟨_, rfl⟩
          have B_Z : Below w.heap.size w XZ := by rw [← hXZ]; exact B_E.setCell (p := ⟨b18, 4, none⟩) hle _
          have U_Z : UB w.heap.size zeroU XZ := by rw [← hXZ]; exact U_E.other hne _
          have H_Z := By.set (i := 4) (u := .slice qY nY cY) H_E W_E (nb8 ⟨_, _, _, rfl⟩ ⟨_, _, _, rfl⟩ ⟨_, _, _, rfl⟩ ⟨_, _, _, rfl⟩ ⟨_, _, _, rfl⟩)
          rw [hXZ] at H_Z
          have L_Z := By.set (i := 4) (u := .slice qY nY cY) L_E W_E (nb8 ⟨_, _, _, rfl⟩ ⟨_, _, _, rfl⟩ ⟨_, _, _, rfl⟩ ⟨_, _, _, rfl⟩ ⟨_, _, _, rfl⟩)
          rw [hXZ] at L_Z
          have GP_Z := By.set (i := 4) (u := .slice qY nY cY) GP_E W_E (nb8 ⟨_, _, _, rfl⟩ ⟨_, _, _, rfl⟩ ⟨_, _, _, rfl⟩ ⟨_, _, _, rfl⟩ ⟨_, _, _, rfl⟩)
          rw [hXZ] at GP_Z
          have GQ_Z := By.set (i := 4) (u := .slice qY nY cY) GQ_E W_E (nb8 ⟨_, _, _, rfl⟩ ⟨_, _, _, rfl⟩ ⟨_, _, _, rfl⟩ ⟨_, _, _, rfl⟩ ⟨_, _, _, rfl⟩)
          rw [hXZ] at GQ_Z
          have W_Z : UB b18 #[.slice qL k cL, .slice qH nH cH, .int .i64 pv, .slice qW nW cW, .slice qY nY cY, .slice none 0 0, .bool true, .bool false] XZ := by rw [← hXZ]; exact (W_E.set8 (.slice qY nY cY)).2.2.1
          clear GQ_E GP_E W_E L_E H_E U_E B_E
          have HXZ := Lib.hid hXZ
          clear hXZ
          by_cases hp0 : (pv : Int) = 0
          case pos =>
            have e0 : (((pv : Int)) == 0) = true := by rw [beq_iff_eq]; exact hp0
            have hpo := HPO.out
            rw [hp0] at hpo
            clear hp0
            have HE := Lib.hid (show canonU t = .inl 2 by rw [HC.out]; exact rest_port _ r HS.out HPE.out hpo)
            go_wp2
            rw [HXZ.out]
            obtain ⟨Y, hY, hU, hkY, hbY⟩ := UB.put (show UB w.heap.size #[.slice none 0 0, .slice none 0 0, .int .i64 0, .slice none 0 0, .slice none 0 0, .slice none 0 0, .bool false, .bool false] _ from U_Z) (.slice none 0 0) (.slice none 0 0) (.int .i64 0) (.slice none 0 0) (.slice none 0 0) (.slice none 0 0) (.bool false) (.bool false)
            rw [hY]
            (try simp only [Exit.inBlock, Exit.then])
            refine bodyPost_ret (ret_url2 rfl _ _ w.heap.size _ rfl hU rfl) rfl ?_
            rw [HE.out]
            exact ⟨by decide, rfl, B_Z.trans (hbY _ (Nat.le_refl _))⟩
          have e0 : (((pv : Int)) == 0) = false := by rw [beq_eq_false_iff_ne]; exact hp0
          have hpo : portC (Ref.lowL s) (atSnd 58 (srvL r)) (atOk 58 (srvL r)) ≠ 0 := by rw [HPO.out]; exact hp0
          cases hpp : pathL (pthL r) with
          | none =>
            obtain rfl : ep = 2 := by have := HEP.out; rw [hpp] at this; exact this
            have hpp2 := Lib.hid hpp
            clear hpp
            have HE := Lib.hid (show canonU t = .inl 2 by rw [HC.out]; exact rest_path _ r HS.out HPE.out hpp2.out)
            go_wp2
            rw [HXZ.out]
            obtain ⟨Y, hY, hU, hkY, hbY⟩ := UB.put (show UB w.heap.size #[.slice none 0 0, .slice none 0 0, .int .i64 0, .slice none 0 0, .slice none 0 0, .slice none 0 0, .bool false, .bool false] _ from U_Z) (.slice none 0 0) (.slice none 0 0) (.int .i64 0) (.slice none 0 0) (.slice none 0 0) (.slice none 0 0) (.bool false) (.bool false)
            rw [hY]
            (try simp only [Exit.inBlock, Exit.then])
            refine bodyPost_ret (ret_url2 rfl _ _ w.heap.size _ rfl hU rfl) rfl ?_
            rw [HE.out]
            exact ⟨by decide, rfl, B_Z.trans (hbY _ (Nat.le_refl _))⟩
          | some pp =>
            obtain rfl : ep = 0 := by have := HEP.out; rw [hpp] at this; exact this
            cases hqq : formL 2 (atSnd 63 (atFst 35 r)) with
            | none =>
              obtain rfl : eq = 2 := by have := HEQ.out; rw [hqq] at this; exact this
              have h3 := Lib.hid (show optC (atOk 63 (atFst 35 r)) (atSnd 63 (atFst 35 r)) = none by rw [Hbq.out]; exact hqq)
              clear hqq hpp
              have HE := Lib.hid (show canonU t = .inl 2 by rw [HC.out]; exact rest_query _ r HS.out HPE.out h3.out)
              go_wp2
              rw [HXZ.out]
              obtain ⟨Y, hY, hU, hkY, hbY⟩ := UB.put (show UB w.heap.size #[.slice none 0 0, .slice none 0 0, .int .i64 0, .slice none 0 0, .slice none 0 0, .slice none 0 0, .bool false, .bool false] _ from U_Z) (.slice none 0 0) (.slice none 0 0) (.int .i64 0) (.slice none 0 0) (.slice none 0 0) (.slice none 0 0) (.bool false) (.bool false)
              rw [hY]
              (try simp only [Exit.inBlock, Exit.then])
              refine bodyPost_ret (ret_url2 rfl _ _ w.heap.size _ rfl hU rfl) rfl ?_
              rw [HE.out]
              exact ⟨by decide, rfl, B_Z.trans (hbY _ (Nat.le_refl _))⟩
            | some qq =>
              obtain rfl : eq = 0 := by have := HEQ.out; rw [hqq] at this; exact this
              have h3 : optC (atOk 63 (atFst 35 r)) (atSnd 63 (atFst 35 r)) = some qq := by rw [Hbq.out]; exact hqq
              have h4 : optC (atOk 35 r) (atSnd 35 r) = some [] := by rw [Hbf.out]; rfl
              obtain ⟨pn, hpn, hrg⟩ := rest_good _ r HS.out HPE.out pp qq [] hpo hpp h3 h4
              rw [Hbq.out, Hbf.out] at hrg
              have hpn2 : (pv : Int) = (pn : Int) := by rw [← HPO.out]; exact hpn
              have HE := Lib.hid (HC.out.trans hrg)
              have HPN := Lib.hid hpn2
              rw [hpp] at GP_Z
              rw [hqq] at GQ_Z
              clear hpo hrg hpn hpn2 h3 h4 hpp hqq  hp0
              go_wp2
              rw [HXZ.out]
              obtain ⟨Y, hY, hU, hkY, hbY⟩ := UB.put (show UB w.heap.size #[.slice none 0 0, .slice none 0 0, .int .i64 0, .slice none 0 0, .slice none 0 0, .slice none 0 0, .bool false, .bool false] _ from U_Z) (.slice qL k cL) (.slice qH nH cH) (.int .i64 pv) (.slice qW nW cW) (.slice qY nY cY) (.slice none 0 0) (.bool true) (.bool false)
              rw [hY]
              (try simp only [Exit.inBlock, Exit.then])
              refine bodyPost_ret (ret_url2 rfl _ _ w.heap.size _ rfl hU rfl) rfl ?_
              rw [HE.out]
              refine ⟨_, rfl, ⟨qL, k, cL, qH, nH, cH, qW, nW, cW, qY, nY, cY, none, 0, 0, by rw [HPN.out], L_Z.away U_Z nbz hkY, H_Z.away U_Z nbz hkY, GP_Z.away U_Z nbz hkY, GQ_Z.away U_Z nbz hkY, by_nil _⟩, B_Z.trans (hbY _ (Nat.le_refl _))⟩
        | true =>
          have yb := W_E.box
          have yc4 := yb 4 _ rfl
          have yf4 := W_E.frozen 4
          clear yb
          go_wp2_with fail
          clear yc4 yf4
          obtain ⟨XF, hXF⟩ : ∃ Z, XE.setCell ⟨b18, 4, none⟩ (.slice qY nY cY) = Z := ⟨_, rfl⟩
          rw [hXF]
          have B_F : Below w.heap.size w XF := by rw [← hXF]; exact B_E.setCell (p := ⟨b18, 4, none⟩) hle _
          have U_F : UB w.heap.size zeroU XF := by rw [← hXF]; exact U_E.other hne _
          have F_F := By.set (i := 4) (u := .slice qY nY cY) F_E W_E (nb8 ⟨_, _, _, rfl⟩ ⟨_, _, _, rfl⟩ ⟨_, _, _, rfl⟩ ⟨_, _, _, rfl⟩ ⟨_, _, _, rfl⟩)
          rw [hXF] at F_F
          have H_F := By.set (i := 4) (u := .slice qY nY cY) H_E W_E (nb8 ⟨_, _, _, rfl⟩ ⟨_, _, _, rfl⟩ ⟨_, _, _, rfl⟩ ⟨_, _, _, rfl⟩ ⟨_, _, _, rfl⟩)
          rw [hXF] at H_F
          have L_F := By.set (i := 4) (u := .slice qY nY cY) L_E W_E (nb8 ⟨_, _, _, rfl⟩ ⟨_, _, _, rfl⟩ ⟨_, _, _, rfl⟩ ⟨_, _, _, rfl⟩ ⟨_, _, _, rfl⟩)
          rw [hXF] at L_F
          have GP_F := By.set (i := 4) (u := .slice qY nY cY) GP_E W_E (nb8 ⟨_, _, _, rfl⟩ ⟨_, _, _, rfl⟩ ⟨_, _, _, rfl⟩ ⟨_, _, _, rfl⟩ ⟨_, _, _, rfl⟩)
          rw [hXF] at GP_F
          have GQ_F := By.set (i := 4) (u := .slice qY nY cY) GQ_E W_E (nb8 ⟨_, _, _, rfl⟩ ⟨_, _, _, rfl⟩ ⟨_, _, _, rfl⟩ ⟨_, _, _, rfl⟩ ⟨_, _, _, rfl⟩)
          rw [hXF] at GQ_F
          have W_F : UB b18 #[.slice qL k cL, .slice qH nH cH, .int .i64 pv, .slice qW nW cW, .slice qY nY cY, .slice none 0 0, .bool true, .bool true] XF := by rw [← hXF]; exact (W_E.set8 (.slice qY nY cY)).2.2.1
          clear GQ_E GP_E W_E L_E H_E F_E U_E B_E
          clear hXF
          have con := Pct.Canon_any qF nF cF (atSnd 35 r) 2 XF F_F.at.1 (by omega) F_F.at.2.2.2.2
          refine con.mono ?_
          rintro e XG ⟨vZ, ef, rfl, hef, hr, hb⟩
          have HEF : Hid (ef = if (formL 2 (atSnd 35 r)).isSome then 0 else 2) := hef
          replace hr : XG.ownsRow XF.heap.size 5 1 vZ ((formL 2 (atSnd 35 r)).getD []).length (byV ((formL 2 (atSnd 35 r)).getD [])) := hr
          obtain ⟨nZ, hnZ⟩ : ∃ n, ((formL 2 (atSnd 35 r)).getD []).length = n := ⟨_, rfl⟩
          rw [hnZ] at hr
          obtain ⟨qZ, cZ, rfl, _, _, _, _, _⟩ := row_open hr
          have GF_G := By.row hr
          clear con hr hnZ hef
          have B_G := B_F.trans (hb.mono B_F.size)
          have U_G := U_F.on hb
          have F_G := F_F.on hb
          have H_G := H_F.on hb
          have L_G := L_F.on hb
          have W_G := W_F.on hb
          have GP_G := GP_F.on hb
          have GQ_G := GQ_F.on hb
          clear GQ_F GP_F W_F L_F H_F F_F U_F B_F hb
          clear F_G
          have yb := W_G.box
          have yc0 := yb 0 _ rfl
          have yf0 := W_G.frozen 0
          have yc1 := yb 1 _ rfl
          have yf1 := W_G.frozen 1
          have yc2 := yb 2 _ rfl
          have yf2 := W_G.frozen 2
          have yc3 := yb 3 _ rfl
          have yf3 := W_G.frozen 3
          have yc4 := yb 4 _ rfl
          have yf4 := W_G.frozen 4
          have yc5 := yb 5 _ rfl
          have yf5 := W_G.frozen 5
          have yc6 := yb 6 _ rfl
          have yf6 := W_G.frozen 6
          have yc7 := yb 7 _ rfl
          have yf7 := W_G.frozen 7
          clear yb
          have zb := U_G.box
          have zc0 := zb 0 _ rfl
          have zf0 := U_G.frozen 0
          have zc1 := zb 1 _ rfl
          have zf1 := U_G.frozen 1
          have zc2 := zb 2 _ rfl
          have zf2 := U_G.frozen 2
          have zc3 := zb 3 _ rfl
          have zf3 := U_G.frozen 3
          have zc4 := zb 4 _ rfl
          have zf4 := U_G.frozen 4
          have zc5 := zb 5 _ rfl
          have zf5 := U_G.frozen 5
          have zc6 := zb 6 _ rfl
          have zf6 := U_G.frozen 6
          have zc7 := zb 7 _ rfl
          have zf7 := U_G.frozen 7
          clear zb
          obtain ⟨XZ, hXZ⟩ : ∃ Z, XG.setCell ⟨b18, 5, none⟩ (.slice qZ nZ cZ) = Z := ⟨_, rfl⟩
          have B_Z : Below w.heap.size w XZ := by rw [← hXZ]; exact B_G.setCell (p := ⟨b18, 5, none⟩) hle _
          have U_Z : UB w.heap.size zeroU XZ := by rw [← hXZ]; exact U_G.other hne _
          have H_Z := By.set (i := 5) (u := .slice qZ nZ cZ) H_G W_G (nb8 ⟨_, _, _, rfl⟩ ⟨_, _, _, rfl⟩ ⟨_, _, _, rfl⟩ ⟨_, _, _, rfl⟩ ⟨_, _, _, rfl⟩)
          rw [hXZ] at H_Z
          have L_Z := By.set (i := 5) (u := .slice qZ nZ cZ) L_G W_G (nb8 ⟨_, _, _, rfl⟩ ⟨_, _, _, rfl⟩ ⟨_, _, _, rfl⟩ ⟨_, _, _, rfl⟩ ⟨_, _, _, rfl⟩)
          rw [hXZ] at L_Z
          have GP_Z := By.set (i := 5) (u := .slice qZ nZ cZ) GP_G W_G (nb8 ⟨_, _, _, rfl⟩ ⟨_, _, _, rfl⟩ ⟨_, _, _, rfl⟩ ⟨_, _, _, rfl⟩ ⟨_, _, _, rfl⟩)
          rw [hXZ] at GP_Z
          have GQ_Z := By.set (i := 5) (u := .slice qZ nZ cZ) GQ_G W_G (nb8 ⟨_, _, _, rfl⟩ ⟨_, _, _, rfl⟩ ⟨_, _, _, rfl⟩ ⟨_, _, _, rfl⟩ ⟨_, _, _, rfl⟩)
          rw [hXZ] at GQ_Z
          have GF_Z := By.set (i := 5) (u := .slice qZ nZ cZ) GF_G W_G (nb8 ⟨_, _, _, rfl⟩ ⟨_, _, _, rfl⟩ ⟨_, _, _, rfl⟩ ⟨_, _, _, rfl⟩ ⟨_, _, _, rfl⟩)
          rw [hXZ] at GF_Z
          have W_Z : UB b18 #[.slice qL k cL, .slice qH nH cH, .int .i64 pv, .slice qW nW cW, .slice qY nY cY, .slice qZ nZ cZ, .bool true, .bool true] XZ := by rw [← hXZ]; exact (W_G.set8 (.slice qZ nZ cZ)).2.2.2
          clear GF_G GQ_G GP_G W_G L_G H_G U_G B_G
          have HXZ := Lib.hid hXZ
          clear hXZ
          by_cases hp0 : (pv : Int) = 0
          case pos =>
            have e0 : (((pv : Int)) == 0) = true := by rw [beq_iff_eq]; exact hp0
            have hpo := HPO.out
            rw [hp0] at hpo
            clear hp0
            have HE := Lib.hid (show canonU t = .inl 2 by rw [HC.out]; exact rest_port _ r HS.out HPE.out hpo)
            go_wp2
            rw [HXZ.out]
            obtain ⟨Y, hY, hU, hkY, hbY⟩ := UB.put (show UB w.heap.size #[.slice none 0 0, .slice none 0 0, .int .i64 0, .slice none 0 0, .slice none 0 0, .slice none 0 0, .bool false, .bool false] _ from U_Z) (.slice none 0 0) (.slice none 0 0) (.int .i64 0) (.slice none 0 0) (.slice none 0 0) (.slice none 0 0) (.bool false) (.bool false)
            rw [hY]
            (try simp only [Exit.inBlock, Exit.then])
            refine bodyPost_ret (ret_url2 rfl _ _ w.heap.size _ rfl hU rfl) rfl ?_
            rw [HE.out]
            exact ⟨by decide, rfl, B_Z.trans (hbY _ (Nat.le_refl _))⟩
          have e0 : (((pv : Int)) == 0) = false := by rw [beq_eq_false_iff_ne]; exact hp0
          have hpo : portC (Ref.lowL s) (atSnd 58 (srvL r)) (atOk 58 (srvL r)) ≠ 0 := by rw [HPO.out]; exact hp0
          cases hpp : pathL (pthL r) with
          | none =>
            obtain rfl : ep = 2 := by have := HEP.out; rw [hpp] at this; exact this
            have hpp2 := Lib.hid hpp
            clear hpp
            have HE := Lib.hid (show canonU t = .inl 2 by rw [HC.out]; exact rest_path _ r HS.out HPE.out hpp2.out)
            go_wp2
            rw [HXZ.out]
            obtain ⟨Y, hY, hU, hkY, hbY⟩ := UB.put (show UB w.heap.size #[.slice none 0 0, .slice none 0 0, .int .i64 0, .slice none 0 0, .slice none 0 0, .slice none 0 0, .bool false, .bool false] _ from U_Z) (.slice none 0 0) (.slice none 0 0) (.int .i64 0) (.slice none 0 0) (.slice none 0 0) (.slice none 0 0) (.bool false) (.bool false)
            rw [hY]
            (try simp only [Exit.inBlock, Exit.then])
            refine bodyPost_ret (ret_url2 rfl _ _ w.heap.size _ rfl hU rfl) rfl ?_
            rw [HE.out]
            exact ⟨by decide, rfl, B_Z.trans (hbY _ (Nat.le_refl _))⟩
          | some pp =>
            obtain rfl : ep = 0 := by have := HEP.out; rw [hpp] at this; exact this
            cases hqq : formL 2 (atSnd 63 (atFst 35 r)) with
            | none =>
              obtain rfl : eq = 2 := by have := HEQ.out; rw [hqq] at this; exact this
              have h3 := Lib.hid (show optC (atOk 63 (atFst 35 r)) (atSnd 63 (atFst 35 r)) = none by rw [Hbq.out]; exact hqq)
              clear hqq hpp
              have HE := Lib.hid (show canonU t = .inl 2 by rw [HC.out]; exact rest_query _ r HS.out HPE.out h3.out)
              go_wp2
              rw [HXZ.out]
              obtain ⟨Y, hY, hU, hkY, hbY⟩ := UB.put (show UB w.heap.size #[.slice none 0 0, .slice none 0 0, .int .i64 0, .slice none 0 0, .slice none 0 0, .slice none 0 0, .bool false, .bool false] _ from U_Z) (.slice none 0 0) (.slice none 0 0) (.int .i64 0) (.slice none 0 0) (.slice none 0 0) (.slice none 0 0) (.bool false) (.bool false)
              rw [hY]
              (try simp only [Exit.inBlock, Exit.then])
              refine bodyPost_ret (ret_url2 rfl _ _ w.heap.size _ rfl hU rfl) rfl ?_
              rw [HE.out]
              exact ⟨by decide, rfl, B_Z.trans (hbY _ (Nat.le_refl _))⟩
            | some qq =>
              obtain rfl : eq = 0 := by have := HEQ.out; rw [hqq] at this; exact this
              cases hff : formL 2 (atSnd 35 r) with
              | none =>
                obtain rfl : ef = 2 := by have := HEF.out; rw [hff] at this; exact this
                have h4 := Lib.hid (show optC (atOk 35 r) (atSnd 35 r) = none by rw [Hbf.out]; exact hff)
                clear hff hpp
                have HE := Lib.hid (show canonU t = .inl 2 by rw [HC.out]; exact rest_frag _ r HS.out HPE.out h4.out)
                go_wp2
                rw [HXZ.out]
                obtain ⟨Y, hY, hU, hkY, hbY⟩ := UB.put (show UB w.heap.size #[.slice none 0 0, .slice none 0 0, .int .i64 0, .slice none 0 0, .slice none 0 0, .slice none 0 0, .bool false, .bool false] _ from U_Z) (.slice none 0 0) (.slice none 0 0) (.int .i64 0) (.slice none 0 0) (.slice none 0 0) (.slice none 0 0) (.bool false) (.bool false)
                rw [hY]
                (try simp only [Exit.inBlock, Exit.then])
                refine bodyPost_ret (ret_url2 rfl _ _ w.heap.size _ rfl hU rfl) rfl ?_
                rw [HE.out]
                exact ⟨by decide, rfl, B_Z.trans (hbY _ (Nat.le_refl _))⟩
              | some ff =>
                obtain rfl : ef = 0 := by have := HEF.out; rw [hff] at this; exact this
                have h3 : optC (atOk 63 (atFst 35 r)) (atSnd 63 (atFst 35 r)) = some qq := by rw [Hbq.out]; exact hqq
                have h4 : optC (atOk 35 r) (atSnd 35 r) = some ff := by rw [Hbf.out]; exact hff
                obtain ⟨pn, hpn, hrg⟩ := rest_good _ r HS.out HPE.out pp qq ff hpo hpp h3 h4
                rw [Hbq.out, Hbf.out] at hrg
                have hpn2 : (pv : Int) = (pn : Int) := by rw [← HPO.out]; exact hpn
                have HE := Lib.hid (HC.out.trans hrg)
                have HPN := Lib.hid hpn2
                rw [hpp] at GP_Z
                rw [hqq] at GQ_Z
                rw [hff] at GF_Z
                clear hpo hrg hpn hpn2 h3 h4 hpp hqq hff hp0
                go_wp2
                rw [HXZ.out]
                obtain ⟨Y, hY, hU, hkY, hbY⟩ := UB.put (show UB w.heap.size #[.slice none 0 0, .slice none 0 0, .int .i64 0, .slice none 0 0, .slice none 0 0, .slice none 0 0, .bool false, .bool false] _ from U_Z) (.slice qL k cL) (.slice qH nH cH) (.int .i64 pv) (.slice qW nW cW) (.slice qY nY cY) (.slice qZ nZ cZ) (.bool true) (.bool true)
                rw [hY]
                (try simp only [Exit.inBlock, Exit.then])
                refine bodyPost_ret (ret_url2 rfl _ _ w.heap.size _ rfl hU rfl) rfl ?_
                rw [HE.out]
                refine ⟨_, rfl, ⟨qL, k, cL, qH, nH, cH, qW, nW, cW, qY, nY, cY, qZ, nZ, cZ, by rw [HPN.out], L_Z.away U_Z nbz hkY, H_Z.away U_Z nbz hkY, GP_Z.away U_Z nbz hkY, GQ_Z.away U_Z nbz hkY, GF_Z.away U_Z nbz hkY⟩, B_Z.trans (hbY _ (Nat.le_refl _))⟩
end Go.Proofs.YtedglpfdibamdaaGreatDoor.Url
namespace Go.Proofs.YtedglpfdibamdaaGreatDoor.Url
open Go.RowKit Go.Shelf
attribute [local go_sem] Oper.semAt_some
theorem nbzL : ∀ (j : Nat) (x : Value), zeroU[j]? = some x → ∀ z : Int, x ≠ .int .u8 z := nb8 ⟨_, _, _, rfl⟩ ⟨_, _, _, rfl⟩ ⟨_, _, _, rfl⟩ ⟨_, _, _, rfl⟩ ⟨_, _, _, rfl⟩
theorem By.awayL {B : Nat} {cs : Array Value} {X Y : World} {v : Value} {l : List UInt8} (h : By X v l) (hU : UB B cs X) (hcs : ∀ (j : Nat) (x : Value), cs[j]? = some x → ∀ z : Int, x ≠ .int .u8 z) (hk : ∀ S : Nat → Prop, ¬ S B → Keep S X Y) : By Y v l := by
  obtain ⟨q, c, rfl, h2, h3, h4, h5⟩ := h
  refine ⟨q, c, rfl, h2, h3, h4, fun h0 => ?_⟩
  obtain ⟨b, o, he, hc⟩ := h5 h0
  refine ⟨b, o, he, fun j hj => ?_⟩
  have hne : b ≠ B := fun e => by
    subst e
    have h1 := hc j hj
    simp only [World.cell?, show X.heap[b]? = _ from hU] at h1
    exact hcs _ _ h1 _ rfl
  exact (World.cell?_of_block ((hk (fun k => k ≠ B) (fun h => h rfl)).block b (World.block_lt_of_cell? X _ (hc j hj)) hne)).trans (hc j hj)
def CanonOk : Prop := ∀ (q : Option Addr) (n c : Nat) (t : List UInt8) (w : World), By w (.slice q n c) t → n ≤ 4096 → Gl w → Calls Tryz.prog 114 #[.slice q n c] w fun e w' => CanonOut (canonU t) w e w'
set_option maxRecDepth 100000 in
set_option maxHeartbeats 8000000 in
theorem Parse_of (hcan : CanonOk) (q : Option Addr) (n c : Nat) (t : List UInt8) (w : World) (hby : By w (.slice q n c) t) (hn : n ≤ 4096) (hG : Gl w) (hT : ∀ u, canonU t = .inr u → (textU u).length ≤ 4096) :
    Calls Tryz.prog 76 #[.slice q n c] w fun e w' => CanonOut (canonU t) w e w' := by
  have d0 : decide ((4096 : Int) < (n : Int)) = false := by simp; omega
  obtain ⟨X0, hX0⟩ : ∃ X0, w.alloc (.cells #[.slice none 0 0, .slice none 0 0, .int .i64 0, .slice none 0 0, .slice none 0 0, .slice none 0 0, .bool false, .bool false] 100) = X0 := ⟨_, rfl⟩
  have B_0 : Below w.heap.size w X0 := by rw [← hX0]; exact (Below.refl _ w).alloc (Nat.le_refl _) _
  have U_0 : UB w.heap.size zeroU X0 := by rw [← hX0]; exact UB.new w zeroU
  have con := hcan q n c t X0 (hby.on B_0) hn (hG.on B_0)
  have hok : ∀ u, canonU t = .inr u → Ok u := fun u h => parse_ok t u (by rw [parse_canon t (by rw [hby.at.1]; exact hn)]; exact h)
  have HX0 := Lib.hid hX0
  have HG := Lib.hid hG
  clear hX0 hby hG
  cases hc : canonU t with
  | inl m =>
    rw [hc] at con
    clear hc hok hT
    go_enter Tryz.func76, Tryz.ntmps76
    go_wp2_with fail
    rw [HX0.out]
    refine con.mono ?_
    rintro e X1 ⟨hm, rfl, hb⟩
    have U_1 := U_0.on hb
    have B_1 := B_0.trans (hb.mono B_0.size)
    clear con hb U_0 B_0 HX0
    have e1 : ((m : Int) != 0) = true := by rw [bne_iff_ne]; exact hm
    have HM := Lib.hid hm
    clear hm
    unfold zeroU
    have zc : ∀ o, UB w.heap.size zeroU (X1.alloc o) := fun o => U_1.on ((Below.refl _ _).alloc (Nat.le_refl _) _)
    have zc0 := fun o => (zc o).box 0 _ rfl
    have zc1 := fun o => (zc o).box 1 _ rfl
    have zc2 := fun o => (zc o).box 2 _ rfl
    have zc3 := fun o => (zc o).box 3 _ rfl
    have zc4 := fun o => (zc o).box 4 _ rfl
    have zc5 := fun o => (zc o).box 5 _ rfl
    have zc6 := fun o => (zc o).box 6 _ rfl
    have zc7 := fun o => (zc o).box 7 _ rfl
    have zf0 := fun o => (zc o).frozen 0
    have zf1 := fun o => (zc o).frozen 1
    have zf2 := fun o => (zc o).frozen 2
    have zf3 := fun o => (zc o).frozen 3
    have zf4 := fun o => (zc o).frozen 4
    have zf5 := fun o => (zc o).frozen 5
    have zf6 := fun o => (zc o).frozen 6
    have zf7 := fun o => (zc o).frozen 7
    clear zc
    go_wp2
    have U_2 := U_1.on ((Below.refl X1.heap.size X1).alloc (Nat.le_refl _) (.cells #[.slice none 0 0, .slice none 0 0, .int .i64 0, .slice none 0 0, .slice none 0 0, .slice none 0 0, .bool false, .bool false] 100))
    have B_2 := B_1.alloc B_1.size (.cells #[.slice none 0 0, .slice none 0 0, .int .i64 0, .slice none 0 0, .slice none 0 0, .slice none 0 0, .bool false, .bool false] 100)
    obtain ⟨Y, hY, hU, hkY, hbY⟩ := UB.put (show UB w.heap.size #[.slice none 0 0, .slice none 0 0, .int .i64 0, .slice none 0 0, .slice none 0 0, .slice none 0 0, .bool false, .bool false] _ from U_2) (.slice none 0 0) (.slice none 0 0) (.int .i64 0) (.slice none 0 0) (.slice none 0 0) (.slice none 0 0) (.bool false) (.bool false)
    rw [hY]
    (try simp only [Exit.inBlock, Exit.then])
    refine bodyPost_ret (ret_url2 rfl _ _ w.heap.size _ rfl hU rfl) rfl ?_
    exact ⟨HM.out, rfl, B_2.trans (hbY _ (Nat.le_refl _))⟩
  | inr u =>
    rw [hc] at con
    have HO := Lib.hid (hok u hc)
    have HT := Lib.hid (hT u hc)
    clear hc hok hT
    go_enter Tryz.func76, Tryz.ntmps76
    go_wp2_with fail
    rw [HX0.out]
    refine con.mono ?_
    rintro e X1 ⟨v, rfl, hin, hb⟩
    have U_1 := U_0.on hb
    have B_1 := B_0.trans (hb.mono B_0.size)
    clear con hb U_0 B_0 HX0
    obtain ⟨q0, n0, c0, q1, n1, c1, q3, n3, c3, q4, n4, c4, q5, n5, c5, rfl, i0, i1, i3, i4, i5⟩ := id hin
    obtain ⟨X2, hX2⟩ : ∃ X2, X1.alloc (.cells #[.slice q0 n0 c0, .slice q1 n1 c1, .int .i64 u.port, .slice q3 n3 c3, .slice q4 n4 c4, .slice q5 n5 c5, .bool u.hq, .bool u.hf] 100) = X2 := ⟨_, rfl⟩
    have hb : Below X1.heap.size X1 X2 := by rw [← hX2]; exact (Below.refl _ _).alloc (Nat.le_refl _) _
    obtain ⟨b4, hb4⟩ : ∃ b, X1.heap.size = b := ⟨_, rfl⟩
    have W_2 : UB b4 #[.slice q0 n0 c0, .slice q1 n1 c1, .int .i64 u.port, .slice q3 n3 c3, .slice q4 n4 c4, .slice q5 n5 c5, .bool u.hq, .bool u.hf] X2 := by rw [← hX2, ← hb4]; exact UB.new X1 _
    have hne : ¬ w.heap.size = b4 := by have := U_1.lt; omega
    have hne' : ¬ b4 = w.heap.size := fun h => hne h.symm
    have U_2 := U_1.on hb
    have B_2 := B_1.trans (hb.mono B_1.size)
    have HX2 := Lib.hid hX2
    have HB4 := Lib.hid hb4
    have con := Text_any u _ X2 (hin.on hb) HO.out (HG.out.on B_2) (by have := HT.out; omega)
    have j0 := i0.on hb
    have j1 := i1.on hb
    have j3 := i3.on hb
    have j4 := i4.on hb
    have j5 := i5.on hb
    obtain ⟨L, hL⟩ : ∃ L, (textU u).length = L := ⟨_, rfl⟩
    have d1 : decide ((4096 : Int) < (L : Int)) = false := by have := HT.out; simp; omega
    rw [hL] at con
    clear hX2 hb4 U_1 B_1 hin i0 i1 i3 i4 i5 hb hL
    go_wp2_with fail
    rw [HB4.out, HX2.out]
    refine con.mono ?_
    rintro e X3 ⟨v3, rfl, hr, hb⟩
    obtain ⟨qt, ct, rfl, _, _, _, _, _⟩ := row_open hr
    have U_3 := U_2.on hb
    have W_3 := W_2.on hb
    have B_3 := B_2.trans (hb.mono B_2.size)
    have k0 := j0.on hb
    have k1 := j1.on hb
    have k3 := j3.on hb
    have k4 := j4.on hb
    have k5 := j5.on hb
    clear con hr hb U_2 W_2 B_2 j0 j1 j3 j4 j5 HX2 HB4
    have yb := W_3.box
    have yc0 := yb 0 _ rfl
    have yf0 := W_3.frozen 0
    have yc1 := yb 1 _ rfl
    have yf1 := W_3.frozen 1
    have yc2 := yb 2 _ rfl
    have yf2 := W_3.frozen 2
    have yc3 := yb 3 _ rfl
    have yf3 := W_3.frozen 3
    have yc4 := yb 4 _ rfl
    have yf4 := W_3.frozen 4
    have yc5 := yb 5 _ rfl
    have yf5 := W_3.frozen 5
    have yc6 := yb 6 _ rfl
    have yf6 := W_3.frozen 6
    have yc7 := yb 7 _ rfl
    have yf7 := W_3.frozen 7
    clear yb
    have zb := U_3.box
    have zc0 := zb 0 _ rfl
    have zf0 := U_3.frozen 0
    have zc1 := zb 1 _ rfl
    have zf1 := U_3.frozen 1
    have zc2 := zb 2 _ rfl
    have zf2 := U_3.frozen 2
    have zc3 := zb 3 _ rfl
    have zf3 := U_3.frozen 3
    have zc4 := zb 4 _ rfl
    have zf4 := U_3.frozen 4
    have zc5 := zb 5 _ rfl
    have zf5 := U_3.frozen 5
    have zc6 := zb 6 _ rfl
    have zf6 := U_3.frozen 6
    have zc7 := zb 7 _ rfl
    have zf7 := U_3.frozen 7
    clear zb
    go_wp2
    obtain ⟨Y, hY, hU, hkY, hbY⟩ := UB.put (show UB w.heap.size #[.slice none 0 0, .slice none 0 0, .int .i64 0, .slice none 0 0, .slice none 0 0, .slice none 0 0, .bool false, .bool false] _ from U_3) (.slice q0 n0 c0) (.slice q1 n1 c1) (.int .i64 u.port) (.slice q3 n3 c3) (.slice q4 n4 c4) (.slice q5 n5 c5) (.bool u.hq) (.bool u.hf)
    rw [hY]
    (try simp only [Exit.inBlock, Exit.then])
    refine bodyPost_ret (ret_url2 rfl _ _ w.heap.size _ rfl hU rfl) rfl ?_
    exact ⟨_, rfl, ⟨q0, n0, c0, q1, n1, c1, q3, n3, c3, q4, n4, c4, q5, n5, c5, rfl, k0.awayL U_3 nbzL hkY, k1.awayL U_3 nbzL hkY, k3.awayL U_3 nbzL hkY, k4.awayL U_3 nbzL hkY, k5.awayL U_3 nbzL hkY⟩, B_3.trans (hbY _ (Nat.le_refl _))⟩
end Go.Proofs.YtedglpfdibamdaaGreatDoor.Url
namespace Go.Proofs.YtedglpfdibamdaaGreatDoor.Org
open Go.RowKit Go.Shelf Url
attribute [local go_sem] Oper.semAt_some
theorem canonOk : CanonOk := fun q n c t w h1 h2 h3 => canonOf_any q n c t w h1 h2 h3
end Go.Proofs.YtedglpfdibamdaaGreatDoor.Org
namespace Go.Proofs.YtedglpfdibamdaaGreatDoor.Org
open Go.RowKit Go.Shelf Url
attribute [local go_sem] Oper.semAt_some
def ParseIs (t : List UInt8) (w : World) (e : Ending) (w' : World) : Prop := ∃ q0 n0 c0 q1 n1 c1 p q3 n3 c3 q4 n4 c4 q5 n5 c5 hq hf m,
  e = .returned (.tuple #[.agg #[.slice q0 n0 c0, .slice q1 n1 c1, .int .i64 p, .slice q3 n3 c3, .slice q4 n4 c4, .slice q5 n5 c5, .bool hq, .bool hf], .int .i64 m]) ∧
  (m ≠ 0 ∨ ∃ u : U, m = 0 ∧ parseU t = .inr u ∧ (u.port : Int) = p ∧ u.hq = hq ∧ u.hf = hf ∧ UrlIn w' (.agg #[.slice q0 n0 c0, .slice q1 n1 c1, .int .i64 p, .slice q3 n3 c3, .slice q4 n4 c4, .slice q5 n5 c5, .bool hq, .bool hf]) u) ∧ Below w.heap.size w w'
theorem Parse_is (q : Option Addr) (n c : Nat) (t : List UInt8) (w : World) (hby : By w (.slice q n c) t) (hn : n ≤ 400) (hG : Gl w) :
    Calls Tryz.prog 76 #[.slice q n c] w fun e w' => ParseIs t w e w' := by
  have hl := hby.at.1
  have hp := parse_canon t (by omega)
  refine (Parse_of canonOk q n c t w hby (by omega) hG (fun u hu => by have := text_len t u (hp.trans hu); omega)).mono ?_
  intro e w' h
  cases hc : canonU t with
  | inl m =>
    rw [hc] at h
    obtain ⟨hm, rfl, hb⟩ := h
    exact ⟨_, _, _, _, _, _, _, _, _, _, _, _, _, _, _, _, _, _, m, rfl, .inl hm, hb⟩
  | inr u =>
    rw [hc] at h
    obtain ⟨v, rfl, hin, hb⟩ := h
    obtain ⟨q0, n0, c0, q1, n1, c1, q3, n3, c3, q4, n4, c4, q5, n5, c5, rfl, i⟩ := id hin
    exact ⟨_, _, _, _, _, _, _, _, _, _, _, _, _, _, _, _, _, _, 0, rfl, .inr ⟨u, rfl, hp.trans hc, rfl, rfl, rfl, hin⟩, hb⟩
theorem url_facts (t : List UInt8) (u : U) (h : parseU t = .inr u) (hl : t.length ≤ 400) : Ok u ∧ (textU u).length ≤ 1218 ∧ (placeU u).length ≤ 1218 := by
  have h1 := text_len t u h
  have h2 := parse_ok t u h
  have h3 := root_len u h2
  rw [root_text, List.length_append] at h3
  simp only [List.length_cons, List.length_nil] at h3
  exact ⟨h2, by omega, by omega⟩
end Go.Proofs.YtedglpfdibamdaaGreatDoor.Org
namespace Go.Proofs.YtedglpfdibamdaaGreatDoor.Org
open Go.RowKit Go.Shelf Url
attribute [local go_sem] Oper.semAt_some
set_option linter.unusedVariables false
theorem UB.drewN {B : Nat} {cs : Array Value} {X : World} (h : UB B cs X) (q : Nat) : UB B cs (X.drewN q) := h
set_option maxRecDepth 100000 in
set_option maxHeartbeats 8000000 in
theorem URL_bad (a0 a1 : ByteArray) (a2 a3 : Int) (T : List UInt8) (w : World) (hG : Gl w) (hT : T.length ≤ 400) (hp : ∀ u, parseU T ≠ .inr u)
    (htext : ∀ W, Gl W → Calls Tryz.prog 11 #[.agg #[.string a0, .string a1, .int .i64 a2, .int .i64 a3]] W fun e w' => e = .returned (.string ⟨T.toArray⟩) ∧ Below W.heap.size W w') :
    Calls Tryz.prog 48 #[.agg #[.string a0, .string a1, .int .i64 a2, .int .i64 a3]] w fun e w' => e = .returned (.tuple #[.agg zeroU, .bool false]) ∧ Below w.heap.size w w' := by
  obtain ⟨X1, hX1⟩ : ∃ X1, (w.alloc (.cells #[.string a0, .string a1, .int .i64 a2, .int .i64 a3] 25)).alloc (.cells #[.slice none 0 0, .slice none 0 0, .int .i64 0, .slice none 0 0, .slice none 0 0, .slice none 0 0, .bool false, .bool false] 100) = X1 := ⟨_, rfl⟩
  have B_1 : Below w.heap.size w X1 := by rw [← hX1]; exact ((Below.refl _ w).alloc (Nat.le_refl _) _).alloc (by rw [World.size_alloc]; omega) _
  have O_1 : OB w.heap.size #[.string a0, .string a1, .int .i64 a2, .int .i64 a3] X1 := by rw [← hX1]; exact (OB.new w _).on ((Below.refl _ _).alloc (Nat.le_refl _) _)
  have U_1 : UB (w.heap.size + 1) #[.slice none 0 0, .slice none 0 0, .int .i64 0, .slice none 0 0, .slice none 0 0, .slice none 0 0, .bool false, .bool false] X1 := by
    have := UB.new (w.alloc (.cells #[.string a0, .string a1, .int .i64 a2, .int .i64 a3] 25)) #[.slice none 0 0, .slice none 0 0, .int .i64 0, .slice none 0 0, .slice none 0 0, .slice none 0 0, .bool false, .bool false]
    rw [World.size_alloc] at this
    rw [← hX1]; exact this
  have y0 := O_1.box 0 _ rfl
  have y1 := O_1.box 1 _ rfl
  have y2 := O_1.box 2 _ rfl
  have y3 := O_1.box 3 _ rfl
  have con := htext X1 (hG.on B_1)
  have HX1 := Lib.hid hX1
  have HG := Lib.hid hG
  clear hX1 hG htext
  go_enter Tryz.func48, Tryz.ntmps48
  go_wp2_with fail
  rw [HX1.out]
  go_wp2_with fail
  refine con.mono ?_
  rintro e X2 ⟨rfl, hb⟩
  have B_2 := B_1.trans (hb.mono B_1.size)
  have O_2 := O_1.on hb
  have U_2 := U_1.on hb
  clear con hb B_1 O_1 U_1 HX1 y0 y1 y2 y3
  obtain ⟨c, X3, k0, hby, hb, -⟩ := conv_new X2 T (by omega)
  have B_3 := B_2.trans (hb.mono B_2.size)
  have O_3 := O_2.on hb
  have U_3 := U_2.on hb
  have con := Parse_is (some ⟨X2.heap.size, 0, none⟩) T.length c T X3 hby hT (HG.out.on B_3)
  clear hby hb B_2 O_2 U_2
  go_wp2_with fail
  (try rw [k0])
  go_wp2_with fail
  refine con.mono ?_
  rintro e X4 ⟨q0, n0, c0, q1, n1, c1, p, q3, n3, c3, q4, n4, c4, q5, n5, c5, hq, hf, m, rfl, hm, hb⟩
  have hm : m ≠ 0 := by
    rcases hm with h | ⟨u, _, h, _⟩
    · exact h
    · exact absurd h (hp u)
  have e5 : ((m : Int) != 0) = true := by rw [bne_iff_ne]; exact hm
  have hb2 := (Below.refl _ X4).alloc (Nat.le_refl _) (.cells #[.slice q0 n0 c0, .slice q1 n1 c1, .int .i64 p, .slice q3 n3 c3, .slice q4 n4 c4, .slice q5 n5 c5, .bool hq, .bool hf] 100)
  have B_5 := (B_3.trans (hb.mono B_3.size)).trans (hb2.mono (Nat.le_trans B_3.size hb.size))
  have U_5 := (U_3.on hb).on hb2
  clear con hb hb2 hm B_3 O_3 U_3 hp k0
  have x0 := U_5.box 0 _ rfl
  have x1 := U_5.box 1 _ rfl
  have x2 := U_5.box 2 _ rfl
  have x3 := U_5.box 3 _ rfl
  have x4 := U_5.box 4 _ rfl
  have x5 := U_5.box 5 _ rfl
  have x6 := U_5.box 6 _ rfl
  have x7 := U_5.box 7 _ rfl
  have f0 := U_5.frozen 0
  have f1 := U_5.frozen 1
  have f2 := U_5.frozen 2
  have f3 := U_5.frozen 3
  have f4 := U_5.frozen 4
  have f5 := U_5.frozen 5
  have f6 := U_5.frozen 6
  have f7 := U_5.frozen 7
  go_wp2_with (go_quiet (fail))
  obtain ⟨Y, hY, hU, hkY, hbY⟩ := UB.put (UB.drewN U_5 _) (.slice none 0 0) (.slice none 0 0) (.int .i64 0) (.slice none 0 0) (.slice none 0 0) (.slice none 0 0) (.bool false) (.bool false)
  rw [hY]
  (try simp only [Exit.inBlock, Exit.then])
  refine bodyPost_ret (ret_url2 rfl _ _ (w.heap.size + 1) _ rfl hU rfl) rfl ?_
  exact ⟨rfl, (B_5.trans ((Url.below_drewN _ _).mono B_5.size)).trans (hbY _ (Nat.le_succ _))⟩
set_option maxRecDepth 100000 in
set_option maxHeartbeats 8000000 in
theorem URL_server (u : U) (hok : Ok u) (w : World) (hG : Gl w) (hl : (textU u).length ≤ 4096) :
    Calls Tryz.prog 48 #[orgV u.scheme u.host u.port 0] w fun e w' => ∃ v, e = .returned (.tuple #[v, .bool true]) ∧ UrlIn w' v (rootU u) ∧ Below w.heap.size w w' := by
  have htext := fun W (h : Gl W) => Text_server u hok W h
  have hlr := root_len u hok
  have hpl : (placeU u).length ≤ 4096 := by rw [root_text, List.length_append] at hlr; simp only [List.length_cons, List.length_nil] at hlr; omega
  have hp := place_parse u hok hpl
  rw [parse_canon _ hpl] at hp
  have hlr2 : (textU (rootU u)).length ≤ 4096 := by omega
  generalize placeU u = T at *
  unfold orgV at htext ⊢
  obtain ⟨a0, ha0⟩ : ∃ a0 : ByteArray, (⟨u.scheme.toArray⟩ : ByteArray) = a0 := ⟨_, rfl⟩
  obtain ⟨a1, ha1⟩ : ∃ a1 : ByteArray, (⟨u.host.toArray⟩ : ByteArray) = a1 := ⟨_, rfl⟩
  obtain ⟨a2, ha2⟩ : ∃ a2 : Int, (u.port : Int) = a2 := ⟨_, rfl⟩
  obtain ⟨a3, ha3⟩ : ∃ a3 : Int, a3 = 0 := ⟨_, rfl⟩
  rw [ha0, ha1, ha2, ← ha3] at htext ⊢
  have HA := Lib.hid (show orgV (rootU u).scheme (rootU u).host (rootU u).port 0 = .agg #[.string a0, .string a1, .int .i64 a2, .int .i64 a3] by rw [← ha0, ← ha1, ← ha2, ha3]; rfl)
  clear ha0 ha1 ha2 ha3 hok hl hlr
  generalize rootU u = u at *
  obtain ⟨X1, hX1⟩ : ∃ X1, (w.alloc (.cells #[.string a0, .string a1, .int .i64 a2, .int .i64 a3] 25)).alloc (.cells #[.slice none 0 0, .slice none 0 0, .int .i64 0, .slice none 0 0, .slice none 0 0, .slice none 0 0, .bool false, .bool false] 100) = X1 := ⟨_, rfl⟩
  have B_1 : Below w.heap.size w X1 := by rw [← hX1]; exact ((Below.refl _ w).alloc (Nat.le_refl _) _).alloc (by rw [World.size_alloc]; omega) _
  have O_1 : OB w.heap.size #[.string a0, .string a1, .int .i64 a2, .int .i64 a3] X1 := by rw [← hX1]; exact (OB.new w _).on ((Below.refl _ _).alloc (Nat.le_refl _) _)
  have U_1 : UB (w.heap.size + 1) #[.slice none 0 0, .slice none 0 0, .int .i64 0, .slice none 0 0, .slice none 0 0, .slice none 0 0, .bool false, .bool false] X1 := by
    have := UB.new (w.alloc (.cells #[.string a0, .string a1, .int .i64 a2, .int .i64 a3] 25)) #[.slice none 0 0, .slice none 0 0, .int .i64 0, .slice none 0 0, .slice none 0 0, .slice none 0 0, .bool false, .bool false]
    rw [World.size_alloc] at this
    rw [← hX1]; exact this
  have y0 := O_1.box 0 _ rfl
  have y1 := O_1.box 1 _ rfl
  have y2 := O_1.box 2 _ rfl
  have y3 := O_1.box 3 _ rfl
  have con := htext X1 (hG.on B_1)
  have HX1 := Lib.hid hX1
  have HG := Lib.hid hG
  clear hX1 hG htext
  go_enter Tryz.func48, Tryz.ntmps48
  go_wp2_with fail
  rw [HX1.out]
  go_wp2_with fail
  refine con.mono ?_
  rintro e X2 ⟨rfl, hb⟩
  have B_2 := B_1.trans (hb.mono B_1.size)
  have O_2 := O_1.on hb
  have U_2 := U_1.on hb
  clear con hb B_1 O_1 U_1 HX1 y0 y1 y2 y3
  obtain ⟨c, X3, k0, hby, hb, -⟩ := conv_new X2 T (by omega)
  have B_3 := B_2.trans (hb.mono B_2.size)
  have O_3 := O_2.on hb
  have U_3 := U_2.on hb
  have con := Parse_of canonOk (some ⟨X2.heap.size, 0, none⟩) T.length c T X3 hby hpl (HG.out.on B_3) (fun u' hu' => by rw [hp] at hu'; cases hu'; exact hlr2)
  rw [hp] at con
  clear hby hb B_2 O_2 U_2
  go_wp2_with fail
  (try rw [k0])
  go_wp2_with fail
  refine con.mono ?_
  rintro e X4 ⟨v, rfl, hin, hb⟩
  obtain ⟨q0, n0, c0, q1, n1, c1, q3, n3, c3, q4, n4, c4, q5, n5, c5, rfl, _⟩ := id hin
  obtain ⟨X5, hX5⟩ : ∃ Z, X4.alloc (.cells #[.slice q0 n0 c0, .slice q1 n1 c1, .int .i64 u.port, .slice q3 n3 c3, .slice q4 n4 c4, .slice q5 n5 c5, .bool u.hq, .bool u.hf] 100) = Z := ⟨_, rfl⟩
  obtain ⟨b5, hb5⟩ : ∃ b, X4.heap.size = b := ⟨_, rfl⟩
  have V_5 : UB b5 #[.slice q0 n0 c0, .slice q1 n1 c1, .int .i64 u.port, .slice q3 n3 c3, .slice q4 n4 c4, .slice q5 n5 c5, .bool u.hq, .bool u.hf] X5 := by rw [← hX5, ← hb5]; exact UB.new X4 _
  have hb2 : Below X4.heap.size X4 X5 := by rw [← hX5]; exact (Below.refl _ _).alloc (Nat.le_refl _) _
  have B_5 := (B_3.trans (hb.mono B_3.size)).trans (hb2.mono (Nat.le_trans B_3.size hb.size))
  have O_5 := (O_3.on hb).on hb2
  have U_5 := (U_3.on hb).on hb2
  have I_5 := hin.on hb2
  have hne : w.heap.size + 1 < b5 := by rw [← hb5]; exact (U_3.on hb).lt
  have HX5 := Lib.hid hX5
  have HB5 := Lib.hid hb5
  clear con hb hb2 B_3 O_3 U_3 k0 hX5 hb5 hin hp hpl hlr2
  go_wp2_with fail
  rw [HB5.out, HX5.out]
  refine pregion_any (fun X => Box b5 #[.slice q0 n0 c0, .slice q1 n1 c1, .int .i64 u.port, .slice q3 n3 c3, .slice q4 n4 c4, .slice q5 n5 c5, .bool u.hq, .bool u.hf] X ∧ Box w.heap.size #[.string a0, .string a1, .int .i64 a2, .int .i64 a3] X) (by kernel_rfl) ?_
  have hb : Below X5.heap.size X5 X5.drew := (Below.refl _ _).drew
  have B_6 := B_5.trans (hb.mono B_5.size)
  have I_6 := I_5.on hb
  have V_6 := V_5.on hb
  have O_6 := O_5.on hb
  have U_6 := U_5.on hb
  clear hb B_5 I_5 V_5 O_5 U_5 HX5 HB5
  generalize X5.drew = X6 at *
  have hS0 := And.intro V_6.box O_6.box
  refine wpAnyH_take (i := 0) (v := (.int .i64 0)) rfl (by kernel_rfl) (by kernel_rfl) (by kernel_rfl) (fun _ _ _ h => h) (.inl ⟨by kernel_rfl, ?_⟩) hS0 ?_
  · rintro w ⟨h, k⟩; go_simp <;> omega
  refine plist #[true, false, false, false, false, false, false, false] (by kernel_rfl) ?_
  refine wpAnyH_take (i := 1) (v := (.bool false)) rfl (by kernel_rfl) (by kernel_rfl) (by kernel_rfl) (fun _ _ _ h => h) (.inl ⟨by kernel_rfl, ?_⟩) hS0 ?_
  · rintro w ⟨h, k⟩; go_simp <;> omega
  refine plist #[true, true, false, false, false, false, false, false] (by kernel_rfl) ?_
  refine wpAnyH_take (i := 2) (v := (.bool false)) rfl (by kernel_rfl) (by kernel_rfl) (by kernel_rfl) (fun _ _ _ h => h) (.inl ⟨by kernel_rfl, ?_⟩) hS0 ?_
  · rintro w ⟨h, k⟩; go_simp <;> omega
  refine plist #[true, true, true, false, false, false, false, false] (by kernel_rfl) ?_
  refine wpAnyH_take (i := 5) (v := (.agg #[.string a0, .string a1, .int .i64 a2, .int .i64 a3])) rfl (by kernel_rfl) (by kernel_rfl) (by kernel_rfl) (fun _ _ _ h => h) (.inl ⟨by kernel_rfl, ?_⟩) hS0 ?_
  · rintro w ⟨h, k⟩; have k0 := k 0 _ rfl; have k1 := k 1 _ rfl; have k2 := k 2 _ rfl; have k3 := k 3 _ rfl; go_simp <;> omega
  refine plist #[true, true, true, false, false, true, false, false] (by kernel_rfl) ?_
  refine pone 3 (by kernel_rfl) rfl fun K hK => ?_
  have x0 := V_6.box 0 _ rfl
  have x1 := V_6.box 1 _ rfl
  have x2 := V_6.box 2 _ rfl
  have x3 := V_6.box 3 _ rfl
  have x4 := V_6.box 4 _ rfl
  have x5 := V_6.box 5 _ rfl
  have x6 := V_6.box 6 _ rfl
  have x7 := V_6.box 7 _ rfl
  go_simp
  refine hK _ _ hS0 ?_
  clear hK K
  refine plist #[true, true, true, true, false, true, false, false] (by kernel_rfl) ?_
  have con := Of_any u _ X6 I_6
  rw [HA.out] at con
  refine pone 4 (by kernel_rfl) rfl fun K hK => ?_
  go_simp
  refine con.mono ?_
  rintro e X7 ⟨rfl, hb⟩
  have B_7 := B_6.trans (hb.mono B_6.size)
  have I_7 := I_6.on hb
  have V_7 := V_6.on hb
  have O_7 := O_6.on hb
  have U_7 := U_6.on hb
  clear con hb B_6 I_6 V_6 O_6 U_6 hS0 x0 x1 x2 x3 x4 x5 x6 x7
  have hS0 := And.intro V_7.box O_7.box
  refine hK _ _ hS0 ?_
  clear hK K
  refine plist #[true, true, true, true, true, true, false, false] (by kernel_rfl) ?_
  refine pone 6 (by kernel_rfl) rfl fun K hK => ?_
  go_simp
  refine hK _ _ hS0 ?_
  clear hK K
  refine plist #[true, true, true, true, true, true, true, false] (by kernel_rfl) ?_
  refine pone 7 (by kernel_rfl) rfl fun K hK => ?_
  go_simp
  refine hK _ _ hS0 ?_
  clear hK K
  refine pdone (by kernel_rfl) ?_ _
  clear hS0 HA HG
  have x0 := V_7.box 0 _ rfl
  have x1 := V_7.box 1 _ rfl
  have x2 := V_7.box 2 _ rfl
  have x3 := V_7.box 3 _ rfl
  have x4 := V_7.box 4 _ rfl
  have x5 := V_7.box 5 _ rfl
  have x6 := V_7.box 6 _ rfl
  have x7 := V_7.box 7 _ rfl
  have z0 := U_7.box 0 _ rfl
  have z1 := U_7.box 1 _ rfl
  have z2 := U_7.box 2 _ rfl
  have z3 := U_7.box 3 _ rfl
  have z4 := U_7.box 4 _ rfl
  have z5 := U_7.box 5 _ rfl
  have z6 := U_7.box 6 _ rfl
  have z7 := U_7.box 7 _ rfl
  have f0 := U_7.frozen 0
  have f1 := U_7.frozen 1
  have f2 := U_7.frozen 2
  have f3 := U_7.frozen 3
  have f4 := U_7.frozen 4
  have f5 := U_7.frozen 5
  have f6 := U_7.frozen 6
  have f7 := U_7.frozen 7
  go_wp2
  obtain ⟨Y, hY, hU, hkY, hbY⟩ := UB.put U_7 (.slice q0 n0 c0) (.slice q1 n1 c1) (.int .i64 u.port) (.slice q3 n3 c3) (.slice q4 n4 c4) (.slice q5 n5 c5) (.bool u.hq) (.bool u.hf)
  rw [hY]
  (try simp only [Exit.inBlock, Exit.then])
  refine bodyPost_ret (ret_url2 rfl _ _ (w.heap.size + 1) _ rfl hU rfl) rfl ?_
  refine ⟨_, rfl, ?_, B_7.trans (hbY _ (Nat.le_succ _))⟩
  obtain ⟨_, _, _, _, _, _, _, _, _, _, _, _, _, _, _, he, i0, i1, i3, i4, i5⟩ := id I_7
  cases he
  exact ⟨_, _, _, _, _, _, _, _, _, _, _, _, _, _, _, rfl, i0.awayL U_7 nbzL hkY, i1.awayL U_7 nbzL hkY, i3.awayL U_7 nbzL hkY, i4.awayL U_7 nbzL hkY, i5.awayL U_7 nbzL hkY⟩
end Go.Proofs.YtedglpfdibamdaaGreatDoor.Org
namespace Go.Proofs.YtedglpfdibamdaaGreatDoor.Org
open Go.RowKit Go.Shelf Url
attribute [local go_sem] Oper.semAt_some
theorem trim_eq {q : Option Addr} {n c : Nat} {t : List UInt8} {w : World} (hby : By w (.slice q n c) t) (h : Lib.hasPrefix t closedS = true) :
    7 ≤ n ∧ Lib.trimPrefixV q n c (Lib.numsL t) (Lib.numsL closedS) = .slice (subA q c 7) (n - 7) (c - 7) := by
  obtain ⟨h1, h2, h3, h4, h5⟩ := hby.at
  have h7 : 7 ≤ n := by
    have := (List.isPrefixOf_iff_prefix.1 h).length_le
    rw [h1] at this; exact this
  refine ⟨h7, ?_⟩
  obtain ⟨b, o, rfl, _⟩ := h5.at (by omega)
  show Lib.bytesTrimPrefix b o n c (Lib.numsL t) (Lib.numsL closedS) = _
  unfold Lib.bytesTrimPrefix Lib.sliceFrom subA
  rw [bytesOf_numsL, bytesOf_numsL, h, if_pos rfl]
  show Value.slice (if c = 7 then _ else _) _ _ = _
  split <;> rfl
theorem trim_no {q : Option Addr} {n c : Nat} {t : List UInt8} {w : World} (hby : By w (.slice q n c) t) (h : Lib.hasPrefix t closedS = false) :
    Lib.trimPrefixV q n c (Lib.numsL t) (Lib.numsL closedS) = .slice q n c := by
  obtain ⟨h1, h2, h3, h4, h5⟩ := hby.at
  unfold Lib.trimPrefixV
  split
  · unfold Lib.bytesTrimPrefix
    rw [bytesOf_numsL, bytesOf_numsL, h, if_neg (by simp)]
  · rfl
theorem Cut_pre (q : Option Addr) (n c : Nat) (t : List UInt8) (X : World) (a : Option Addr) (hby : By X (.slice q n c) t) (hs : By X (.slice a 7 7) closedS) :
    Calls Tryz.prog 67 #[.slice q n c, .slice a 7 7] X fun e w' => e = .returned (.tuple #[if closedS.isPrefixOf t = true then .slice (subA q c 7) (n - 7) (c - 7) else .slice q n c, .bool (closedS.isPrefixOf t)]) ∧ w' = X := by
  obtain ⟨h1, h2, h3, h4, h5⟩ := hby.at
  refine (Tryz.bytes_CutPrefix_all q a n c 7 7 (Lib.numsL t) (Lib.numsL closedS) X (by rw [Lib.numsL_length, h1]) rfl h2 h5 hs.at.2.2.2.2).mono ?_
  rintro e w' ⟨rfl, rfl⟩
  rw [bytesOf_numsL, bytesOf_numsL]
  have e : Lib.hasPrefix t closedS = closedS.isPrefixOf t := rfl
  refine ⟨?_, rfl⟩
  cases hp : closedS.isPrefixOf t with
  | true => rw [(trim_eq hby (e.trans hp)).2, e, hp, if_pos rfl]
  | false => rw [trim_no hby (e.trans hp), e, hp, if_neg (by simp)]
theorem stop_sep (r : List UInt8) : (∀ j, j < (stopL r).length → r.getD j 0 ∉ sepC) ∧ ((stopL r).length = r.length ∨ ((stopL r).length < r.length ∧ r.getD (stopL r).length 0 ∈ sepC)) := by
  have hm : ∀ b : UInt8, stopB b = true ↔ b ∈ sepC := fun b => by unfold stopB sepC; simp [or_assoc]
  obtain ⟨_, h2, h3⟩ := stop_at r
  refine ⟨fun j hj h => ?_, ?_⟩
  · have := stop_mem r _ (h2 j hj)
    rw [(hm _).2 h] at this; cases this
  · rcases h3 with h3 | ⟨h3, h4⟩
    · exact .inl h3
    · exact .inr ⟨h3, (hm _).1 h4⟩
theorem closed_pos (most : Nat) (t : List UInt8) (h : closedS.isPrefixOf t = true) : parseQ most t = closedQ most (t.drop 7) := by unfold parseQ; rw [if_pos h]
theorem closed_neg (most : Nat) (t : List UInt8) (h : closedS.isPrefixOf t = false) : parseQ most t = match parseU t with
  | .inl e => .inl e
  | .inr u => if moreB t = true then .inl 2 else .inr (.inr u) := by
  unfold parseQ; rw [if_neg (by rw [h]; simp)]; rfl
def moreQ (mo : Bool) (u : U) : Sum Int (Sum Nat U) := if mo = true then .inl 2 else .inr (.inr u)
theorem retQ_form (x : Sum Int (Sum Nat U)) : ∃ a0 a1 a2 a3 m, retQ x = .tuple #[.agg #[.string a0, .string a1, .int .i64 a2, .int .i64 a3], .int .i64 m] := by
  rcases x with m | n | u
  · exact ⟨_, _, _, _, _, rfl⟩
  · exact ⟨_, _, _, _, _, rfl⟩
  · exact ⟨_, _, _, _, _, rfl⟩
set_option maxRecDepth 100000 in
set_option maxHeartbeats 8000000 in
theorem parse_any (q : Option Addr) (n c : Nat) (t : List UInt8) (most : Nat) (w : World) (hby : By w (.slice q n c) t) (hn : n ≤ 4096) (hm : most ≤ 9223372036854775807) (hG : Gl w) (hT : ∀ u, parseU t = .inr u → (textU u).length ≤ 4096) :
    Calls Tryz.prog 47 #[.slice q n c, .int .i64 (most : Int)] w fun e w' => e = .returned (retQ (parseQ most t)) ∧ Below w.heap.size w w' := by
  have kc := fun (w : World) (C : Array Value) (n c : Nat) => Lib.run_convert_bytes_const (P := Tryz.prog) w 22 5 C n c Tryz.underlying22 Tryz.underlying5
  obtain ⟨X0, hX0⟩ : ∃ Z, w.alloc (.cells #[.string ⟨#[]⟩, .string ⟨#[]⟩, .int .i64 0, .int .i64 0] 25) = Z := ⟨_, rfl⟩
  have A_0 : Below w.heap.size w X0 := by rw [← hX0]; exact (Below.refl _ w).alloc (Nat.le_refl _) _
  have hO_0 : OB w.heap.size #[.string ⟨#[]⟩, .string ⟨#[]⟩, .int .i64 0, .int .i64 0] X0 := by rw [← hX0]; exact OB.new w _
  have hs0 : X0.heap.size = w.heap.size + 1 := by rw [← hX0, World.size_alloc]
  obtain ⟨X1, hX1⟩ : ∃ Z, X0.alloc (.cells #[.int .u8 99, .int .u8 108, .int .u8 111, .int .u8 115, .int .u8 101, .int .u8 100, .int .u8 58] 5 (7, 8)) = Z := ⟨_, rfl⟩
  have hb : Below X0.heap.size X0 X1 := by rw [← hX1]; exact (Below.refl _ _).alloc (Nat.le_refl _) _
  have B_1 := A_0.trans (hb.mono A_0.size)
  have hO_1 := hO_0.on hb
  have hlit := by_lit X0 #[.int .u8 99, .int .u8 108, .int .u8 111, .int .u8 115, .int .u8 101, .int .u8 100, .int .u8 58] closedS (7, 8) 7 rfl rfl (by decide)
  rw [hX1, hs0] at hlit
  have T_1 := hby.on B_1
  have con := Cut_pre q n c t X1 _ T_1 hlit
  have kc1 := kc (w.alloc (.cells #[.string ⟨#[]⟩, .string ⟨#[]⟩, .int .i64 0, .int .i64 0] 25)) #[.int .u8 99, .int .u8 108, .int .u8 111, .int .u8 115, .int .u8 101, .int .u8 100, .int .u8 58] 7 7
  rw [World.size_alloc] at kc1
  have HX0 := Lib.hid hX0
  have HX1 := Lib.hid hX1
  have HG := Lib.hid hG
  have HS0 := Lib.hid hs0
  have hTl := hby.at.1
  clear hX0 hX1 hlit hby hG A_0 hO_0 hb hs0
  cases hp : closedS.isPrefixOf t with
  | true =>
    rw [hp, if_pos rfl] at con
    have h7 : 7 ≤ n := (trim_eq T_1 hp).1
    have con2 := parseClosed_any (subA q c 7) (n - 7) (c - 7) (t.drop 7) most X1 (T_1.drop h7) (by omega) hm
    rw [closed_pos most t hp]
    obtain ⟨a0, a1, a2, a3, m, hr⟩ := retQ_form (closedQ most (t.drop 7))
    rw [hr] at con2
    have HR := Lib.hid hr
    clear hr hp T_1 hTl
    go_enter Tryz.func47, Tryz.ntmps47
    go_wp2_with fail
    rw [HX0.out, HX1.out]
    refine con.mono ?_
    rintro e w1 ⟨rfl, rfl⟩
    clear con
    go_wp2_with fail
    refine con2.mono ?_
    rintro e w2 ⟨rfl, hb⟩
    have B_2 := B_1.trans (hb.mono B_1.size)
    have hO_2 := hO_1.on hb
    clear con2 hb hO_1 B_1 HX0 HX1
    have z0 := hO_2.box 0 _ rfl
    have z1 := hO_2.box 1 _ rfl
    have z2 := hO_2.box 2 _ rfl
    have z3 := hO_2.box 3 _ rfl
    have f0 := hO_2.frozen 0
    have f1 := hO_2.frozen 1
    have f2 := hO_2.frozen 2
    have f3 := hO_2.frozen 3
    go_wp2
    obtain ⟨Y, hY, hU, hkY, hbY⟩ := OB.put hO_2 (.string a0) (.string a1) (.int .i64 a2) (.int .i64 a3)
    rw [hY]
    (try simp only [Exit.inBlock, Exit.then])
    refine bodyPost_ret (ret_org2 rfl _ _ w.heap.size _ rfl hU rfl) rfl ?_
    exact ⟨by rw [HR.out]; rfl, B_2.trans (hbY _ (Nat.le_refl _))⟩
  | false =>
    rw [hp, if_neg (by simp)] at con
    rw [closed_neg most t hp]
    have hpc := parse_canon t (by omega)
    have con2 := Parse_of canonOk q n c t X1 T_1 hn (HG.out.on B_1) (fun u hu => hT u (hpc.trans hu))
    cases hc : canonU t with
    | inl m =>
      rw [hpc, hc]
      rw [hc] at con2
      clear hc hpc hp hT T_1 hTl
      go_enter Tryz.func47, Tryz.ntmps47
      go_wp2_with fail
      rw [HX0.out, HX1.out]
      refine con.mono ?_
      rintro e w1 ⟨rfl, rfl⟩
      clear con
      go_wp2_with fail
      refine con2.mono ?_
      rintro e w2 ⟨hm0, rfl, hb⟩
      have e1 : ((m : Int) != 0) = true := by rw [bne_iff_ne]; exact hm0
      have B_2 := B_1.trans (hb.mono B_1.size)
      have hO_2 := hO_1.on hb
      have A_3 := (Below.refl _ w2).alloc (Nat.le_refl _) (.cells zeroU 100)
      have B_3 := B_2.trans (A_3.mono B_2.size)
      have hO_3 := hO_2.on A_3
      unfold zeroU at *
      clear con2 hb hO_1 B_1 HX0 HX1 hm0
      have z0 := hO_3.box 0 _ rfl
      have z1 := hO_3.box 1 _ rfl
      have z2 := hO_3.box 2 _ rfl
      have z3 := hO_3.box 3 _ rfl
      have f0 := hO_3.frozen 0
      have f1 := hO_3.frozen 1
      have f2 := hO_3.frozen 2
      have f3 := hO_3.frozen 3
      go_wp2
      obtain ⟨Y, hY, hU, hkY, hbY⟩ := OB.put hO_3 (.string ⟨#[]⟩) (.string ⟨#[]⟩) (.int .i64 0) (.int .i64 0)
      rw [hY]
      (try simp only [Exit.inBlock, Exit.then])
      refine bodyPost_ret (ret_org2 rfl _ _ w.heap.size _ rfl hU rfl) rfl ?_
      exact ⟨rfl, B_3.trans (hbY _ (Nat.le_refl _))⟩
    | inr u =>
      rw [hpc, hc]
      rw [hc] at con2
      obtain ⟨s, r, hsep, hsm⟩ := parse_sep t u (hpc.trans hc)
      rcases sep_cases t with ⟨hk, hsp⟩ | ⟨k, hk, hkl, hsp⟩
      · rw [hsep] at hsp; cases hsp
      rw [hsep] at hsp
      obtain ⟨rfl, rfl⟩ := Prod.mk.inj (Option.some.inj hsp)
      have hmore : moreB t = decide ((stopL (t.drop (k + 3))).length < (t.drop (k + 3)).length) := by unfold moreB; rw [hsep]
      simp only
      rw [hmore]
      have hdl : (t.drop (k + 3)).length = n - (k + 3) := by rw [List.length_drop]; omega
      obtain ⟨hst1, hst2⟩ := stop_sep (t.drop (k + 3))
      have hst3 := (stop_at (t.drop (k + 3))).2.1
      have conK := fun X (hX : By X (.slice q n c) t) => ContainsAny_sep (subA q c (k + 3)) (n - (k + 3)) (c - (k + 3)) (stopL (t.drop (k + 3))).length (t.drop (k + 3)) X (hX.drop (by omega)) (by omega) (fun j hj => ⟨hsm _ (hst3 j hj), hst1 j hj⟩) (by rw [← hdl]; exact hst2)
      have hcs := cut_some (q := q) (n := n) (c := c) hk
      rw [hdl]
      clear hc hpc hp hT hsep hsp hmore hst1 hst2 hst3 hsm hk
      generalize (stopL (t.drop (k + 3))).length = K at *
      generalize decide (K < n - (k + 3)) = mo at *
      show Calls _ _ _ _ fun e w' => e = .returned (retQ (moreQ mo u)) ∧ _
      have HK := Lib.hid conK
      have HCS := Lib.hid hcs
      clear conK hcs hdl
      go_enter Tryz.func47, Tryz.ntmps47
      go_wp2_with fail
      rw [HX0.out, HX1.out]
      refine con.mono ?_
      rintro e w1 ⟨rfl, rfl⟩
      clear con
      go_wp2_with fail
      refine con2.mono ?_
      rintro e X2 ⟨v, rfl, hin, hb⟩
      have B_2 := B_1.trans (hb.mono B_1.size)
      have hO_2 := hO_1.on hb
      have T_2 := T_1.on hb
      clear con2 hb hO_1 B_1 HX0 HX1 T_1
      obtain ⟨q0, n0, c0, q1, n1, c1, q3, n3, c3, q4, n4, c4, q5, n5, c5, rfl, _⟩ := id hin
      obtain ⟨X3, hX3⟩ : ∃ Z, X2.alloc (.cells #[.slice q0 n0 c0, .slice q1 n1 c1, .int .i64 u.port, .slice q3 n3 c3, .slice q4 n4 c4, .slice q5 n5 c5, .bool u.hq, .bool u.hf] 100) = Z := ⟨_, rfl⟩
      obtain ⟨b8, hb8⟩ : ∃ b, X2.heap.size = b := ⟨_, rfl⟩
      have U_3 : UB b8 #[.slice q0 n0 c0, .slice q1 n1 c1, .int .i64 u.port, .slice q3 n3 c3, .slice q4 n4 c4, .slice q5 n5 c5, .bool u.hq, .bool u.hf] X3 := by rw [← hX3, ← hb8]; exact UB.new X2 _
      have hb : Below X2.heap.size X2 X3 := by rw [← hX3]; exact (Below.refl _ _).alloc (Nat.le_refl _) _
      have B_3 := B_2.trans (hb.mono B_2.size)
      have hO_3 := hO_2.on hb
      have T_3 := T_2.on hb
      have I_3 := hin.on hb
      have hs3 : X3.heap.size = b8 + 1 := by rw [← hX3, ← hb8, World.size_alloc]
      have HX3 := Lib.hid hX3
      have HB8 := Lib.hid hb8
      clear hX3 hb8 hb hO_2 B_2 T_2 hin
      obtain ⟨X4, hX4⟩ : ∃ Z, X3.alloc (.cells #[.int .u8 58, .int .u8 47, .int .u8 47] 5 (3, 4)) = Z := ⟨_, rfl⟩
      have hb : Below X3.heap.size X3 X4 := by rw [← hX4]; exact (Below.refl _ _).alloc (Nat.le_refl _) _
      have hlit := bytes_lit (w := X3) #[.int .u8 58, .int .u8 47, .int .u8 47] sepS (3, 4) rfl
      rw [hX4, hs3] at hlit
      have B_4 := B_3.trans (hb.mono B_3.size)
      have hO_4 := hO_3.on hb
      have T_4 := T_3.on hb
      have I_4 := I_3.on hb
      have U_4 := U_3.on hb
      have con := Cut_any q (some ⟨b8 + 1, 0, none⟩) n c 3 t X4 T_4 (by omega) (HG.out.on B_4) hlit
      rw [HCS.out] at con
      have kc3 := kc (X2.alloc (.cells #[.slice q0 n0 c0, .slice q1 n1 c1, .int .i64 u.port, .slice q3 n3 c3, .slice q4 n4 c4, .slice q5 n5 c5, .bool u.hq, .bool u.hf] 100)) #[.int .u8 58, .int .u8 47, .int .u8 47] 3 3
      rw [World.size_alloc] at kc3
      have HX4 := Lib.hid hX4
      clear hX4 hs3 hb hO_3 B_3 T_3 I_3 U_3 hlit
      go_wp2_with fail
      rw [HB8.out, HX3.out, HX4.out]
      refine con.mono ?_
      rintro e X5 ⟨rfl, m, hX5⟩
      have hb : Below X4.heap.size X4 X5 := by rw [hX5]; exact Url.below_drewN _ _
      have B_5 := B_4.trans (hb.mono B_4.size)
      have hO_5 := hO_4.on hb
      have T_5 := T_4.on hb
      have I_5 := I_4.on hb
      have U_5 := U_4.on hb
      clear con hX5 hb hO_4 B_4 T_4 I_4 U_4 HX3 HX4 kc3
      have con := HK.out X5 T_5
      go_wp2_with fail
      refine con.mono ?_
      rintro e X6 ⟨rfl, hb⟩
      have B_6 := B_5.trans (hb.mono B_5.size)
      have hO_6 := hO_5.on hb
      have I_6 := I_5.on hb
      have U_6 := U_5.on hb
      clear con hb hO_5 B_5 T_5 I_5 U_5 HK
      cases mo with
      | true =>
        have z0 := hO_6.box 0 _ rfl
        have z1 := hO_6.box 1 _ rfl
        have z2 := hO_6.box 2 _ rfl
        have z3 := hO_6.box 3 _ rfl
        have f0 := hO_6.frozen 0
        have f1 := hO_6.frozen 1
        have f2 := hO_6.frozen 2
        have f3 := hO_6.frozen 3
        go_wp2
        obtain ⟨Y, hY, hU, hkY, hbY⟩ := OB.put hO_6 (.string ⟨#[]⟩) (.string ⟨#[]⟩) (.int .i64 0) (.int .i64 0)
        rw [hY]
        (try simp only [Exit.inBlock, Exit.then])
        refine bodyPost_ret (ret_org2 rfl _ _ w.heap.size _ rfl hU rfl) rfl ?_
        exact ⟨rfl, B_6.trans (hbY _ (Nat.le_refl _))⟩
      | false =>
        have con := Of_any u _ X6 I_6
        unfold orgV at con
        have x0 := U_6.box 0 _ rfl
        have x1 := U_6.box 1 _ rfl
        have x2 := U_6.box 2 _ rfl
        have x3 := U_6.box 3 _ rfl
        have x4 := U_6.box 4 _ rfl
        have x5 := U_6.box 5 _ rfl
        have x6 := U_6.box 6 _ rfl
        have x7 := U_6.box 7 _ rfl
        go_wp2_with fail
        refine con.mono ?_
        rintro e X7 ⟨rfl, hb⟩
        have B_7 := B_6.trans (hb.mono B_6.size)
        have hO_7 := hO_6.on hb
        clear con hb hO_6 B_6 I_6 U_6 x0 x1 x2 x3 x4 x5 x6 x7
        have z0 := hO_7.box 0 _ rfl
        have z1 := hO_7.box 1 _ rfl
        have z2 := hO_7.box 2 _ rfl
        have z3 := hO_7.box 3 _ rfl
        have f0 := hO_7.frozen 0
        have f1 := hO_7.frozen 1
        have f2 := hO_7.frozen 2
        have f3 := hO_7.frozen 3
        go_wp2
        obtain ⟨Y, hY, hU, hkY, hbY⟩ := OB.put hO_7 (.string ⟨u.scheme.toArray⟩) (.string ⟨u.host.toArray⟩) (.int .i64 u.port) (.int .i64 0)
        rw [hY]
        (try simp only [Exit.inBlock, Exit.then])
        refine bodyPost_ret (ret_org2 rfl _ _ w.heap.size _ rfl hU rfl) rfl ?_
        exact ⟨rfl, B_7.trans (hbY _ (Nat.le_refl _))⟩
end Go.Proofs.YtedglpfdibamdaaGreatDoor.Org
namespace Go.Proofs.YtedglpfdibamdaaGreatDoor.Org
open Go.RowKit Go.Shelf Url
attribute [local go_sem] Oper.semAt_some
set_option maxRecDepth 100000 in
set_option maxHeartbeats 8000000 in
theorem Parse_any (q : Option Addr) (n c : Nat) (t : List UInt8) (w : World) (hby : By w (.slice q n c) t) (hn : n ≤ 4096) (hG : Gl w) (hT : ∀ u, parseU t = .inr u → (textU u).length ≤ 4096) :
    Calls Tryz.prog 23 #[.slice q n c] w fun e w' => e = .returned (retQ (parseQ 1099511627776 t)) ∧ Below w.heap.size w w' := by
  obtain ⟨X, hX⟩ : ∃ X, w.alloc (.cells #[.string ⟨#[]⟩, .string ⟨#[]⟩, .int .i64 0, .int .i64 0] 25) = X := ⟨_, rfl⟩
  have B1 : Below w.heap.size w X := by rw [← hX]; exact (Below.refl _ w).alloc (Nat.le_refl _) _
  have hO : OB w.heap.size #[.string ⟨#[]⟩, .string ⟨#[]⟩, .int .i64 0, .int .i64 0] X := by rw [← hX]; exact OB.new w _
  have con := parse_any q n c t 1099511627776 X (hby.on B1) hn (by omega) (hG.on B1) hT
  have HX := Lib.hid hX
  obtain ⟨a0, a1, a2, a3, m, hr⟩ := retQ_form (parseQ 1099511627776 t)
  rw [hr] at con ⊢
  clear hX hr hby hG hT
  go_enter Tryz.func23, Tryz.ntmps23
  go_wp2_with fail
  rw [HX.out]
  refine con.mono ?_
  rintro e w2 ⟨rfl, hb⟩
  have B2 := B1.trans (hb.mono B1.size)
  have hO2 := hO.on hb
  clear con hb hO B1 HX
  have z0 := hO2.box 0 _ rfl
  have z1 := hO2.box 1 _ rfl
  have z2 := hO2.box 2 _ rfl
  have z3 := hO2.box 3 _ rfl
  have f0 := hO2.frozen 0
  have f1 := hO2.frozen 1
  have f2 := hO2.frozen 2
  have f3 := hO2.frozen 3
  go_wp2
  obtain ⟨Y, hY, hU, hkY, hbY⟩ := OB.put hO2 (.string a0) (.string a1) (.int .i64 a2) (.int .i64 a3)
  rw [hY]
  (try simp only [Exit.inBlock, Exit.then])
  refine bodyPost_ret (ret_org2 rfl _ _ w.heap.size _ rfl hU rfl) rfl ?_
  exact ⟨rfl, B2.trans (hbY _ (Nat.le_refl _))⟩
def valQ : Sum Nat U → Value
  | .inl n => orgV [] [] 0 (n : Int)
  | .inr u => orgV u.scheme u.host u.port 0
theorem retQ_inr (x : Sum Nat U) : retQ (.inr x) = .tuple #[valQ x, .int .i64 0] := by cases x <;> rfl
def QOk : Sum Nat U → Prop
  | .inl n => 1 ≤ n ∧ n ≤ 9223372036854775807
  | .inr u => Ok u
theorem Text_val (x : Sum Nat U) (h : QOk x) (w : World) (hG : Gl w) :
    Calls Tryz.prog 11 #[valQ x] w fun e w' => e = .returned (.string ⟨(textO x).toArray⟩) ∧ Below w.heap.size w w' := by
  cases x with
  | inl n => exact Text_closed n h.1 h.2 w hG
  | inr u => exact Text_server u h w hG
theorem val_form (x : Sum Nat U) : ∃ a0 a1 a2 a3, valQ x = .agg #[.string a0, .string a1, .int .i64 a2, .int .i64 a3] := by
  cases x <;> exact ⟨_, _, _, _, rfl⟩
end Go.Proofs.YtedglpfdibamdaaGreatDoor.Org
namespace Go.Proofs.YtedglpfdibamdaaGreatDoor.Org
open Go.RowKit Go.Shelf Url
set_option linter.unusedVariables false
theorem rest_err (s r : List UInt8) (n : Int) (h : restU s r = .inl n) : n ≠ 0 := by
  unfold restU at h
  simp only at h
  split at h
  · rename_i hh
    cases h; exact hh
  · split at h
    · cases h
    · cases h; decide
theorem parse_err (t : List UInt8) (n : Int) (h : parseU t = .inl n) : n ≠ 0 := by
  unfold parseU at h
  split at h
  · cases h; decide
  · split at h
    · cases h; decide
    · split at h
      · exact rest_err _ _ _ h
      · cases h; decide
theorem Q_err (most : Nat) (t : List UInt8) (n : Int) (h : parseQ most t = .inl n) : n ≠ 0 := by
  unfold parseQ at h
  split at h
  · unfold closedQ at h
    split at h
    · split at h
      · cases h
      · cases h; decide
    · cases h; decide
  · split at h
    · rename_i e he
      cases h; exact parse_err t _ he
    · split at h
      · cases h; decide
      · cases h
theorem no_url (l : List UInt8) (h : (47 : UInt8) ∉ l) : ∀ u, parseU l ≠ .inr u := fun u hu => by
  unfold parseU at hu
  split at hu
  · cases hu
  · rw [sep_no47 l h] at hu
    cases hu
theorem closed_text (n : Nat) (h : n ≤ 9223372036854775807) : (textO (.inl n)).length ≤ 26 ∧ ∀ u, parseU (textO (.inl n)) ≠ .inr u := by
  refine ⟨?_, no_url _ (closed_no47 n)⟩
  have := dig_le 19 n (by decide) (by omega)
  show (closedS ++ digL n).length ≤ 26
  rw [List.length_append]
  show 7 + _ ≤ _
  omega
theorem Q_round (t : List UInt8) (ht : t.length ≤ 400) (x : Sum Nat U) (h : parseQ 1099511627776 t = .inr x) :
    QOk x ∧ (textO x).length ≤ 1218 ∧ (∀ u, parseU (textO x) = .inr u → (textU u).length ≤ 4096) ∧ ∃ y, (∀ most, 1099511627776 ≤ most → parseQ most (textO x) = .inr y) ∧ valQ y = valQ x ∧ QOk y ∧ textO y = textO x := by
  rcases Q_in _ t x h with ⟨n, rfl, h1, h2⟩ | ⟨u, rfl, hu⟩
  · have hc := closed_text n (by omega)
    refine ⟨⟨h1, by omega⟩, by omega, fun u hu => absurd hu (hc.2 u), .inl n, fun most hm => Q_closed most n h1 (by omega), rfl, ⟨h1, by omega⟩, rfl⟩
  · obtain ⟨hok, hl1, hl2⟩ := url_facts t u hu ht
    have hr := root_ok u hok
    have hpp := place_parse u hok (by omega)
    have hrl := root_len u hok
    refine ⟨hok, hl2, fun v hv => ?_, .inr (rootU u), fun most _ => Q_server most u hok (by omega), rfl, hr, rfl⟩
    rw [show textO (.inr u) = placeU u from rfl, hpp] at hv
    cases hv
    omega
end Go.Proofs.YtedglpfdibamdaaGreatDoor.Org
namespace Go.Proofs.YtedglpfdibamdaaGreatDoor.Cls
open Go.RowKit Go.Shelf Url Org
attribute [local go_sem] Oper.semAt_some
theorem prin_err (t : List UInt8) (n : Int) (h : parseQ 9223372036854775807 t = .inl n) : prinB t = false := by unfold prinB; rw [h]
theorem prin_is (t : List UInt8) (x : Sum Nat U) (h : parseQ 9223372036854775807 t = .inr x) : prinB t = decide (textO x = t) := by unfold prinB; rw [h]
theorem q_ok (t : List UInt8) (x : Sum Nat U) (h : parseQ 9223372036854775807 t = .inr x) : QOk x := by
  rcases Q_in _ t x h with ⟨n, rfl, h1, h2⟩ | ⟨u, rfl, hu⟩
  · exact ⟨h1, h2⟩
  · exact parse_ok t u hu
set_option maxRecDepth 100000 in
set_option maxHeartbeats 8000000 in
theorem Principal_any (t : List UInt8) (w : World) (hn : t.length ≤ 1300) (hG : Gl w) :
    Calls Tryz.prog 86 #[.string ⟨t.toArray⟩] w fun e w' => e = .returned (.bool (prinB t)) ∧ Below w.heap.size w w' := by
  obtain ⟨c, X, k0, hby, B1, -⟩ := conv_new w t (by omega)
  have con := parse_any (some ⟨w.heap.size, 0, none⟩) t.length c t 9223372036854775807 X hby (by omega) (by omega) (hG.on B1) (fun u hu => by have := text_len t u hu; omega)
  have HG := Lib.hid hG
  cases hq : parseQ 9223372036854775807 t with
  | inl n =>
    have HP := Lib.hid (prin_err t n hq)
    have e1 : ((n : Int) == 0) = false := by rw [beq_eq_false_iff_ne]; exact Q_err _ t n hq
    rw [hq] at con
    unfold retQ orgV at con
    clear hby hG hq
    go_enter Tryz.func86, Tryz.ntmps86
    go_wp2_with fail
    (try rw [k0])
    go_wp2_with fail
    refine con.mono ?_
    rintro e X2 ⟨rfl, hb⟩
    have B2 := B1.trans (hb.mono B1.size)
    have B3 := B2.alloc B2.size (.cells #[.string ⟨#[]⟩, .string ⟨#[]⟩, .int .i64 0, .int .i64 0] 25)
    clear hb B1 B2 k0 con
    go_wp2
    go_ret
    exact ⟨by rw [HP.out]; try rfl, B3⟩
  | inr x =>
    have HP := Lib.hid (prin_is t x hq)
    have con2 := fun Y (hY : Gl Y) => Text_val x (q_ok t x hq) Y hY
    rw [hq, retQ_inr] at con
    obtain ⟨a0, a1, a2, a3, hv⟩ := val_form x
    rw [hv] at con con2
    have e2 := strs_eq (textO x) t
    generalize textO x = T at *
    have HC := Lib.hid con2
    clear hby hG hq hv con2
    obtain ⟨z, hz⟩ : ∃ z, decide (T = t) = z := ⟨_, rfl⟩
    have e3 : (T == t) = z := by rw [← hz, Bool.eq_iff_iff, beq_iff_eq, decide_eq_true_iff]
    rw [hz] at HP e2
    clear hz
    go_enter Tryz.func86, Tryz.ntmps86
    go_wp2_with fail
    (try rw [k0])
    go_wp2_with fail
    refine con.mono ?_
    rintro e X2 ⟨rfl, hb⟩
    have B2 := B1.trans (hb.mono B1.size)
    have A3 := (Below.refl _ X2).alloc (Nat.le_refl _) (.cells #[.string a0, .string a1, .int .i64 a2, .int .i64 a3] 25)
    have hN := OB.new X2 #[.string a0, .string a1, .int .i64 a2, .int .i64 a3]
    have B3 := B2.trans (A3.mono B2.size)
    have n0 := hN.box 0 _ rfl
    have n1 := hN.box 1 _ rfl
    have n2 := hN.box 2 _ rfl
    have n3 := hN.box 3 _ rfl
    have con := HC.out _ (HG.out.on B3)
    clear hb B1 B2 A3 k0 hN
    go_wp2_with fail
    refine con.mono ?_
    rintro e X4 ⟨rfl, hb⟩
    clear con
    go_wp2
    go_ret
    exact ⟨by rw [HP.out, ← e3]; try rfl, B3.trans (hb.mono B3.size)⟩
end Go.Proofs.YtedglpfdibamdaaGreatDoor.Cls
namespace Go.Proofs.YtedglpfdibamdaaGreatDoor.Pol
open Url Org
set_option linter.unusedVariables false
def noneS : List UInt8 := [110, 111, 110, 101]
def selfS : List UInt8 := [115, 101, 108, 102]
def allS : List UInt8 := [42]
def underS : List UInt8 := [42, 46]
def srcL (t : List UInt8) : Option (List UInt8) :=
  if t = selfS ∨ t = allS then some t
  else if underS.isPrefixOf t = true then (if Host.parseE (t.drop 2) = 0 ∧ Host.addressB (Ref.lowL (t.drop 2)) = false then some (underS ++ Ref.lowL (t.drop 2)) else none)
  else match parseQ 1099511627776 t with
    | .inr x => some (textO x)
    | .inl _ => none
def goS : List (List UInt8) → List (List UInt8) → Sum Int (List (List UInt8))
  | out, [] => if out = [] then .inl 2 else .inr out
  | out, p :: r => match srcL p with
    | none => .inl 2
    | some c => if 32 ≤ out.length then .inl 3 else goS (out ++ [c]) r
def parseS (t : List UInt8) : Sum Int (List (List UInt8)) := if Cls.trimB t = noneS then .inr [] else goS [] (fieldsL t)
def joinS : List (List UInt8) → List UInt8
  | [] => []
  | [p] => p
  | p :: q :: r => p ++ 32 :: joinS (q :: r)
def textS : List (List UInt8) → List UInt8
  | [] => noneS
  | p :: r => joinS (p :: r)
theorem low_low (l : List UInt8) : Ref.lowL (Ref.lowL l) = Ref.lowL l := by
  unfold Ref.lowL
  rw [List.map_map]
  apply List.map_congr_left
  intro b _
  exact Ref.all_u8 (p := fun b => Ref.low (Ref.low b) = Ref.low b) (by decide +kernel) b
theorem q_round (t : List UInt8) (ht : t.length ≤ 1300) (x : Sum Nat U) (h : parseQ 1099511627776 t = .inr x) :
    (∃ y, parseQ 1099511627776 (textO x) = .inr y ∧ textO y = textO x) ∧ Cls.prinB (textO x) = true := by
  have key : ∃ y, (∀ most, 1099511627776 ≤ most → parseQ most (textO x) = .inr y) ∧ textO y = textO x := by
    rcases Q_in _ t x h with ⟨n, rfl, h1, h2⟩ | ⟨u, rfl, hu⟩
    · exact ⟨.inl n, fun most hm => Q_closed most n h1 (by omega), rfl⟩
    · have h1 := text_len t u hu
      have hok := parse_ok t u hu
      have h3 := root_len u hok
      rw [root_text, List.length_append] at h3
      simp only [List.length_cons, List.length_nil] at h3
      exact ⟨.inr (rootU u), fun most _ => Q_server most u hok (by omega), rfl⟩
  obtain ⟨y, hy, ht⟩ := key
  refine ⟨⟨y, hy _ (Nat.le_refl _), ht⟩, ?_⟩
  unfold Cls.prinB
  rw [hy _ (by decide)]
  simp [ht]
theorem blank_same (b : UInt8) : blankB b = Cls.blankB b := Ref.all_u8 (p := fun b => blankB b = Cls.blankB b) (by decide +kernel) b
structure SrcOk (c : List UInt8) : Prop where
  src : srcL c = some c
  ne : c ≠ []
  blank : ∀ b ∈ c, blankB b = false
  word : c ≠ noneS
  len : c.length ≤ 4000
  url : ∀ u, parseU c = .inr u → (textU u).length ≤ 4096
theorem part_ne (l : List UInt8) (h : Host.parseE l = 0) : l ≠ [] := fun e => by
  subst e
  revert h; decide +kernel
theorem src_ok (t c : List UInt8) (ht : t.length ≤ 1300) (h : srcL t = some c) : SrcOk c := by
  unfold srcL at h
  split at h
  · rename_i h0
    cases h
    rcases h0 with rfl | rfl
    · exact ⟨by decide +kernel, by decide, by decide, by decide, by decide, fun u hu => absurd hu (no_url selfS (by decide) u)⟩
    · exact ⟨by decide +kernel, by decide, by decide, by decide, by decide, fun u hu => absurd hu (no_url allS (by decide) u)⟩
  · split at h
    · split at h
      · rename_i h2
        cases h
        obtain ⟨e1, e2⟩ := h2
        have e3 : Host.parseE (Ref.lowL (t.drop 2)) = 0 := by rw [Host.parse_low]; exact e1
        have hne := part_ne _ e3
        refine ⟨?_, by simp [underS], fun b hb => ?_, by simp [underS, noneS], ?_, fun u hu => absurd hu (no_url _ (by rw [List.mem_append, not_or]; exact ⟨by decide, host_no _ e3 47 (by decide) (by decide)⟩) u)⟩
        · unfold srcL
          have n1 : ¬ (underS ++ Ref.lowL (t.drop 2) = selfS ∨ underS ++ Ref.lowL (t.drop 2) = allS) := by
            rintro (h | h)
            · simp [underS, selfS] at h
            · simp [underS, allS] at h
          have n2 : underS.isPrefixOf (underS ++ Ref.lowL (t.drop 2)) = true := by simp
          have n3 : (underS ++ Ref.lowL (t.drop 2)).drop 2 = Ref.lowL (t.drop 2) := rfl
          rw [if_neg n1, if_pos n2, n3, low_low, if_pos ⟨e3, e2⟩]
        · rcases List.mem_append.1 hb with hb | hb
          · have h0 : ∀ b ∈ underS, blankB b = false := by decide
            exact h0 b hb
          · rw [blank_same]
            have d1 := host_no _ e3 32 (by decide) (by decide)
            have d2 := host_no _ e3 9 (by decide) (by decide)
            have f1 : b ≠ 32 := fun e => d1 (e ▸ hb)
            have f2 : b ≠ 9 := fun e => d2 (e ▸ hb)
            unfold Cls.blankB; simp [f1, f2]
        · rw [List.length_append]
          have : (Ref.lowL (t.drop 2)).length = (t.drop 2).length := by unfold Ref.lowL; rw [List.length_map]
          rw [this, List.length_drop]
          show 2 + _ ≤ _
          omega
      · cases h
    · split at h
      · rename_i x hx
        cases h
        obtain ⟨⟨y, hy, hyt⟩, hp⟩ := q_round t ht x hx
        have hpart := Cls.prin_part _ hp
        have h42 := Cls.prin_no _ hp 42 (by decide) (by decide) (by decide) (by decide) (by decide) (by decide) (by decide)
        refine ⟨?_, hpart.ne, fun b hb => by rw [blank_same]; exact hpart.blank b hb, fun e => ?_, ?_, fun v hv => ?_⟩
        · unfold srcL
          have n1 : ¬ (textO x = selfS ∨ textO x = allS) := by
            rintro (h | h)
            · have := hpart.colon; rw [h] at this; revert this; decide
            · have := hpart.colon; rw [h] at this; revert this; decide
          have n2 : ¬ underS.isPrefixOf (textO x) = true := fun h => by
            obtain ⟨r, hr⟩ := List.isPrefixOf_iff_prefix.1 h
            apply h42
            rw [← hr]; simp [underS]
          rw [if_neg n1, if_neg n2, hy]
          simp only [hyt]
        · have := hpart.colon; rw [e] at this; revert this; decide
        · rcases Q_in _ t x hx with ⟨n, rfl, h1, h2⟩ | ⟨u, rfl, hu⟩
          · have := closed_text n (by omega); omega
          · have h1 := text_len t u hu
            have h3 := root_len u (parse_ok t u hu)
            rw [root_text, List.length_append] at h3
            simp only [List.length_cons, List.length_nil] at h3
            show (placeU u).length ≤ _
            omega
        · rcases Q_in _ t x hx with ⟨n, rfl, h1, h2⟩ | ⟨u, rfl, hu⟩
          · exact absurd hv ((closed_text n (by omega)).2 v)
          · have hok := parse_ok t u hu
            have h1 := text_len t u hu
            have h3 := root_len u hok
            have h4 := h3
            rw [root_text, List.length_append] at h4
            simp only [List.length_cons, List.length_nil] at h4
            rw [show textO (.inr u) = placeU u from rfl, place_parse u hok (by omega)] at hv
            cases hv
            omega
      · cases h
theorem go_in : ∀ (ps out l : List (List UInt8)), (∀ c ∈ out, SrcOk c) → out.length ≤ 32 → (∀ p ∈ ps, p.length ≤ 1300) → goS out ps = .inr l → (∀ c ∈ l, SrcOk c) ∧ l.length ≤ 32
  | [], out, l, ho, hn, _, h => by
    unfold goS at h
    split at h
    · cases h
    · cases h; exact ⟨ho, hn⟩
  | p :: r, out, l, ho, hn, hp, h => by
    unfold goS at h
    split at h
    · cases h
    · rename_i c hc
      split at h
      · cases h
      · refine go_in r (out ++ [c]) l (fun x hx => ?_) (by simp; omega) (fun x hx => hp x (List.mem_cons_of_mem _ hx)) h
        rcases List.mem_append.1 hx with hx | hx
        · exact ho x hx
        · rw [List.mem_singleton.1 hx]; exact src_ok p c (hp p (by simp)) hc
theorem field_len (l x : List UInt8) (h : x ∈ fieldsL l) : x.length ≤ l.length := by
  unfold fieldsL fieldsOf at h
  obtain ⟨y, _, rfl⟩ := List.mem_map.1 h
  unfold sub
  rw [List.length_take, List.length_drop]
  omega
theorem parse_in (t : List UInt8) (l : List (List UInt8)) (ht : t.length ≤ 1300) (h : parseS t = .inr l) : (∀ c ∈ l, SrcOk c) ∧ l.length ≤ 32 := by
  unfold parseS at h
  split at h
  · cases h
    exact ⟨fun c hc => (by cases hc), Nat.zero_le _⟩
  · exact go_in _ [] l (fun c hc => (by cases hc)) (by simp) (fun p hp => Nat.le_trans (field_len t p hp) ht) h
theorem go_err : ∀ (ps out : List (List UInt8)) (e : Int), goS out ps = .inl e → e ≠ 0
  | [], out, e, h => by
    unfold goS at h
    split at h
    · cases h; decide
    · cases h
  | p :: r, out, e, h => by
    unfold goS at h
    split at h
    · cases h; decide
    · split at h
      · cases h; decide
      · exact go_err r _ e h
theorem parse_errS (t : List UInt8) (e : Int) (h : parseS t = .inl e) : e ≠ 0 := by
  unfold parseS at h
  split at h
  · cases h
  · exact go_err _ _ e h
theorem txt_len (l : List (List UInt8)) (h : ∀ c ∈ l, SrcOk c) (hl : l.length ≤ 32) : (textS l).length ≤ 200000 := by
  have hj : ∀ l : List (List UInt8), (∀ c ∈ l, SrcOk c) → (joinS l).length ≤ l.length * 4001 := fun l => by
    induction l with
    | nil => intro _; simp [joinS]
    | cons p r ih =>
      intro h
      have h1 := (h p (by simp)).len
      have h2 := ih (fun c hc => h c (List.mem_cons_of_mem _ hc))
      cases r with
      | nil => show p.length ≤ _; simp; omega
      | cons q r =>
        show (p ++ 32 :: joinS (q :: r)).length ≤ _
        rw [List.length_append, List.length_cons]
        simp only [List.length_cons] at h2 ⊢
        omega
  cases l with
  | nil => decide
  | cons p r => have := hj (p :: r) h; show (joinS (p :: r)).length ≤ _; omega
def PieceOk (p : List UInt8) : Prop := p.length ≤ 4096 ∧ ∀ u, parseU p = .inr u → (textU u).length ≤ 4096
theorem pieces_short (t : List UInt8) (ht : t.length ≤ 1300) : ∀ p ∈ fieldsL t, PieceOk p := fun p hp => by
  have := field_len t p hp
  exact ⟨by omega, fun u hu => by have := text_len p u hu; omega⟩
end Go.Proofs.YtedglpfdibamdaaGreatDoor.Pol
namespace Go.Proofs.YtedglpfdibamdaaGreatDoor.Pol
open Url Org Frm Cls
set_option linter.unusedVariables false
abbrev QO := Option (Sum Nat U)
def textQ : QO → List UInt8
  | none => []
  | some x => textO x
def partsQ : QO → (List UInt8 × List UInt8) × (Int × Int)
  | none => (([], []), (0, 0))
  | some (.inl n) => (([], []), (0, (n : Int)))
  | some (.inr u) => ((u.scheme, u.host), (u.port, 0))
def ownF : QO → List (List (List UInt8))
  | some (.inr u) => [[placeU u]]
  | _ => []
def OkQ : QO → Prop
  | none => True
  | some x => QOk x ∧ (textO x).length ≤ 1218
def qOf (r : Sum Int (Sum Nat U)) : QO := match r with | .inl _ => none | .inr x => some x
abbrev SP := Int × (QO × List UInt8)
def srcP (t : List UInt8) : SP :=
  if t = selfS then (0, (none, []))
  else if t = allS then (1, (none, []))
  else if underS.isPrefixOf t = true then (3, (none, Ref.lowL (t.drop 2)))
  else (2, (qOf (parseQ 1099511627776 t), []))
def allowP (p : SP) (own o : QO) : Bool :=
  if p.1 = 0 then decide (partsQ o = partsQ own)
  else if p.1 = 1 then decide ((partsQ o).2.2 = 0)
  else if p.1 = 2 then decide (partsQ o = partsQ p.2.1)
  else decide ((partsQ o).2.2 = 0) && (decide ((partsQ o).1.2 ≠ p.2.2) && Host.withinB (partsQ o).1.2 p.2.2)
def allowB (x : List UInt8) (own o : QO) : Bool := allowP (srcP x) own o
def allowsB (l : List (List UInt8)) (own o : QO) : Bool := l.any fun x => allowB x own o
structure PolP where
  data : Lab
  ctx : Lab
  clr : Lab
  prv : List (List (List UInt8))
  con : List (List UInt8)
  frm : List (List UInt8)
def plainP (o : QO) : PolP := ⟨⟨[], []⟩, ⟨[], []⟩, ⟨[[]], []⟩, ownF o, [allS], [allS]⟩
def oneR {α : Type} (l : List Hdr.Fld) (name : List UInt8) (parse : List UInt8 → Sum Int α) (old : α) : Sum Int α := match Hdr.valuesL l name with
  | [] => .inr old
  | [v] => parse v
  | _ => .inl 5
def dataS : List UInt8 := [68, 97, 116, 97, 45, 76, 97, 98, 101, 108]
def ctxS : List UInt8 := [67, 111, 110, 116, 101, 120, 116, 45, 76, 97, 98, 101, 108]
def clrS : List UInt8 := [67, 111, 110, 116, 101, 120, 116, 45, 67, 108, 101, 97, 114, 97, 110, 99, 101]
def prvS : List UInt8 := [67, 111, 110, 116, 101, 120, 116, 45, 80, 114, 105, 118, 105, 108, 101, 103, 101]
def conS : List UInt8 := [67, 111, 110, 110, 101, 99, 116, 45, 83, 111, 117, 114, 99, 101, 115]
def frmS : List UInt8 := [70, 114, 97, 109, 101, 45, 83, 111, 117, 114, 99, 101, 115]
def ofP (l : List Hdr.Fld) (o : QO) : Sum Int PolP :=
  match oneR l dataS parseL (plainP o).data with
  | .inl e => .inl e
  | .inr d => match oneR l ctxS parseL (plainP o).ctx with
    | .inl e => .inl e
    | .inr c => match oneR l clrS parseL (plainP o).clr with
      | .inl e => .inl e
      | .inr r => match oneR l prvS parseF (plainP o).prv with
        | .inl e => .inl e
        | .inr p => match oneR l conS parseS (plainP o).con with
          | .inl e => .inl e
          | .inr k => match oneR l frmS parseS (plainP o).frm with
            | .inl e => .inl e
            | .inr f => if (impB (ownF o) p && flowsB c r) = true then .inr ⟨d, c, r, p, k, f⟩ else .inl 17
theorem own_len (o : QO) : (ownF o).length ≤ 1 := by
  unfold ownF
  split <;> simp
theorem one_in {α : Type} (P : α → Prop) (l : List Hdr.Fld) (name : List UInt8) (parse : List UInt8 → Sum Int α) (old x : α) (h0 : P old) (hp : ∀ v ∈ Hdr.valuesL l name, ∀ y, parse v = .inr y → P y) (h : oneR l name parse old = .inr x) : P x := by
  unfold oneR at h
  split at h
  · cases h; exact h0
  · rename_i v hv
    exact hp v (by rw [hv]; simp) x h
  · cases h
theorem parse_labOk (t : List UInt8) (l : Lab) (h : parseL t = .inr l) : LOk l := by
  have := parse_lab t
  rw [h] at this
  exact this
structure POk (p : PolP) : Prop where
  data : LOk p.data
  ctx : LOk p.ctx
  clr : LOk p.clr
  prv : p.prv.length ≤ 16
  con : (∀ c ∈ p.con, SrcOk c) ∧ p.con.length ≤ 32
  frm : (∀ c ∈ p.frm, SrcOk c) ∧ p.frm.length ≤ 32
theorem all_src : (∀ c ∈ [allS], SrcOk c) ∧ [allS].length ≤ 32 := ⟨fun c hc => by
  rw [List.mem_singleton.1 hc]
  exact src_ok allS allS (by decide) (by decide +kernel), by decide⟩
theorem plain_ok (o : QO) : POk (plainP o) := ⟨open_ok, open_ok, shut_ok, Nat.le_trans (own_len o) (by decide), all_src, all_src⟩
end Go.Proofs.YtedglpfdibamdaaGreatDoor.Pol
namespace Go.Proofs.YtedglpfdibamdaaGreatDoor.Pol
open Go.RowKit Go.Shelf Url Org Frm Cls
set_option linter.unusedVariables false
def cellsP (p : SP) : List Value := [.int .i64 p.1, .string ⟨(partsQ p.2.1).1.1.toArray⟩, .string ⟨(partsQ p.2.1).1.2.toArray⟩, .int .i64 (partsQ p.2.1).2.1, .int .i64 (partsQ p.2.1).2.2, .string ⟨p.2.2.toArray⟩]
def SrcIn (w : World) (q : Option Addr) (n : Nat) (l : List (List UInt8)) : Prop :=
  l.length = n ∧ (0 < n → ∃ g o, q = some ⟨g, o, none⟩ ∧ g < w.heap.size ∧ ∀ i x, l[i]? = some x → ∀ j v, (cellsP (srcP x))[j]? = some v → w.cell? ⟨g, o + i * 6 + j, none⟩ = some v)
theorem SrcIn.nil (w : World) (q : Option Addr) : SrcIn w q 0 [] := ⟨rfl, fun h => absurd h (by omega)⟩
theorem SrcIn.lt {w : World} {q : Option Addr} {n : Nat} {l : List (List UInt8)} (h : SrcIn w q n l) : ∀ a, q = some a → 0 < n → a.block < w.heap.size := by
  rintro a rfl hn
  obtain ⟨b, o, hb, hl, _⟩ := h.2 hn
  cases hb
  exact hl
theorem SrcIn.keep {S : Nat → Prop} {w w' : World} {q : Option Addr} {n : Nat} {l : List (List UInt8)} (h : SrcIn w q n l) (hk : Keep S w w') (hq : ∀ a, q = some a → 0 < n → S a.block) : SrcIn w' q n l := by
  refine ⟨h.1, fun hn => ?_⟩
  obtain ⟨b, o, rfl, hb, hc⟩ := h.2 hn
  have hs := hk.size
  exact ⟨b, o, rfl, by omega, fun i x hx j v hv => (World.cell?_of_block (hk.block b hb (hq _ rfl hn))).trans (hc i x hx j v hv)⟩
theorem SrcIn.below {w w' : World} {q : Option Addr} {n : Nat} {l : List (List UInt8)} (h : SrcIn w q n l) (hb : Below w.heap.size w w') : SrcIn w' q n l := h.keep (Keep.of_below hb) h.lt
def SrcsIs (w : World) (v : Value) (l : List (List UInt8)) : Prop := ∃ q n c, v = .agg #[.slice q n c] ∧ (q = none → c = 0) ∧ n ≤ c ∧ SrcIn w q n l
theorem SrcsIs.below {w w' : World} {v : Value} {l : List (List UInt8)} (h : SrcsIs w v l) (hb : Below w.heap.size w w') : SrcsIs w' v l := by
  obtain ⟨q, n, c, rfl, h1, h2, h3⟩ := h
  exact ⟨q, n, c, rfl, h1, h2, h3.below hb⟩
def SX (b : Nat) (q : Option Addr) (n c : Nat) (l : List (List UInt8)) (X : World) : Prop := Boxed X b 36 (.slice q n c) ∧ SrcsIs X (.agg #[.slice q n c]) l
theorem SX.on {b : Nat} {q : Option Addr} {n c : Nat} {l : List (List UInt8)} {X Y : World} (h : SX b q n c l X) (hb : Below X.heap.size X Y) : SX b q n c l Y := ⟨(Keep.of_below hb).boxed h.1 h.1.lt, h.2.below hb⟩
theorem SX.new {q : Option Addr} {n c : Nat} {l : List (List UInt8)} {X : World} (h : SrcsIs X (.agg #[.slice q n c]) l) : SX X.heap.size q n c l (X.alloc (.cells #[.slice q n c] 36)) := ⟨Boxed.new X _ _, h.below ((Below.refl _ X).alloc (Nat.le_refl _) _)⟩
theorem SX.c0 {b : Nat} {q : Option Addr} {n c : Nat} {l : List (List UInt8)} {X : World} (h : SX b q n c l X) : X.cell? ⟨b, 0, none⟩ = some (.slice q n c) := h.1.cell
def sE (r : Sum Int (List (List UInt8))) : Int := match r with | .inl e => e | .inr _ => 0
def sV (r : Sum Int (List (List UInt8))) : List (List UInt8) := match r with | .inl _ => [] | .inr l => l
def SrcsOut (r : Sum Int (List (List UInt8))) (w : World) (e : Ending) (w' : World) : Prop :=
  ∃ (q : Option Addr) (n c : Nat), e = .returned (.tuple #[.agg #[.slice q n c], .int .i64 (sE r)]) ∧ SrcsIs w' (.agg #[.slice q n c]) (sV r) ∧ Below w.heap.size w w'
def orgQ (o : QO) : Value := orgV (partsQ o).1.1 (partsQ o).1.2 (partsQ o).2.1 (partsQ o).2.2
def cellsQ (o : QO) : Array Value := orgC (partsQ o).1.1 (partsQ o).1.2 (partsQ o).2.1 (partsQ o).2.2
theorem val_orgQ (x : Sum Nat U) : valQ x = orgQ (some x) := by cases x <;> rfl
def qE (r : Sum Int (Sum Nat U)) : Int := match r with | .inl e => e | .inr _ => 0
theorem ret_q (r : Sum Int (Sum Nat U)) : retQ r = .tuple #[orgQ (qOf r), .int .i64 (qE r)] := by
  cases r with
  | inl e => rfl
  | inr x => cases x <;> rfl
def QX (b : Nat) (o : QO) (X : World) : Prop := OB b (cellsQ o) X
theorem QX.on {b : Nat} {o : QO} {X Y : World} (h : QX b o X) (hb : Below X.heap.size X Y) : QX b o Y := OB.on h hb
theorem QX.c0 {b : Nat} {o : QO} {X : World} (h : QX b o X) : X.cell? ⟨b, 0, none⟩ = some (.string ⟨(partsQ o).1.1.toArray⟩) := OB.box h 0 _ rfl
theorem QX.c1 {b : Nat} {o : QO} {X : World} (h : QX b o X) : X.cell? ⟨b, 1, none⟩ = some (.string ⟨(partsQ o).1.2.toArray⟩) := OB.box h 1 _ rfl
theorem QX.c2 {b : Nat} {o : QO} {X : World} (h : QX b o X) : X.cell? ⟨b, 2, none⟩ = some (.int .i64 (partsQ o).2.1) := OB.box h 2 _ rfl
theorem QX.c3 {b : Nat} {o : QO} {X : World} (h : QX b o X) : X.cell? ⟨b, 3, none⟩ = some (.int .i64 (partsQ o).2.2) := OB.box h 3 _ rfl
end Go.Proofs.YtedglpfdibamdaaGreatDoor.Pol
namespace Go.Proofs.YtedglpfdibamdaaGreatDoor.Pol
open Url Org Frm Cls
set_option linter.unusedVariables false
inductive SrcK (c : List UInt8) : Prop where
  | self (h : c = selfS) (hp : srcP c = (0, (none, [])))
  | all (h : c = allS) (hp : srcP c = (1, (none, [])))
  | one (y : Sum Nat U) (h : textO y = c) (hq : parseQ 1099511627776 c = .inr y) (hk : QOk y) (hp : srcP c = (2, (some y, [])))
  | under (d : List UInt8) (h : c = underS ++ d) (hp : srcP c = (3, (none, d)))
theorem srcP_q (c : List UInt8) (h1 : ¬ (c = selfS ∨ c = allS)) (h2 : ¬ underS.isPrefixOf c = true) : srcP c = (2, (qOf (parseQ 1099511627776 c), [])) := by
  unfold srcP
  rw [if_neg (fun h => h1 (.inl h)), if_neg (fun h => h1 (.inr h)), if_neg h2]
theorem srcP_u (c : List UInt8) (h1 : ¬ (c = selfS ∨ c = allS)) (h2 : underS.isPrefixOf c = true) : srcP c = (3, (none, Ref.lowL (c.drop 2))) := by
  unfold srcP
  rw [if_neg (fun h => h1 (.inl h)), if_neg (fun h => h1 (.inr h)), if_pos h2]
theorem src_k (c : List UInt8) (h : srcL c = some c) : SrcK c := by
  unfold srcL at h
  split at h
  · rename_i h1
    rcases h1 with rfl | rfl
    · exact .self rfl rfl
    · exact .all rfl rfl
  · rename_i h1
    split at h
    · rename_i h2
      split at h
      · have e := Option.some.inj h
        exact .under (Ref.lowL (c.drop 2)) e.symm (srcP_u c h1 h2)
      · cases h
    · rename_i h2
      have hp := srcP_q c h1 h2
      split at h
      · rename_i x hx
        have e := Option.some.inj h
        refine .one x e hx ?_ (by rw [hp, hx]; rfl)
        rcases Q_in _ c x hx with ⟨n, rfl, h3, h4⟩ | ⟨u, rfl, hu⟩
        · exact ⟨h3, by omega⟩
        · exact parse_ok c u hu
      · cases h
theorem text_head (y : Sum Nat U) (h : QOk y) : ¬ (textO y = selfS ∨ textO y = allS) ∧ ¬ underS.isPrefixOf (textO y) = true := by
  have key : ∃ b r, textO y = b :: r ∧ (b = 99 ∨ b = 104) := by
    cases y with
    | inl n => exact ⟨99, _, rfl, .inl rfl⟩
    | inr u =>
      rcases (show Ok u from h).scheme with hs | hs
      · exact ⟨104, [116, 116, 112] ++ [58, 47, 47] ++ u.host ++ portT u, by show u.scheme ++ _ ++ _ ++ _ = _; rw [hs]; rfl, .inr rfl⟩
      · exact ⟨104, [116, 116, 112, 115] ++ [58, 47, 47] ++ u.host ++ portT u, by show u.scheme ++ _ ++ _ ++ _ = _; rw [hs]; rfl, .inr rfl⟩
  obtain ⟨b, r, e, hb⟩ := key
  rw [e]
  refine ⟨?_, ?_⟩
  · rintro (h | h)
    · have := (List.cons.inj h).1; subst this; revert hb; decide
    · have := (List.cons.inj h).1; subst this; revert hb; decide
  · intro h
    obtain ⟨z, hz⟩ := List.isPrefixOf_iff_prefix.1 h
    have := (List.cons.inj hz).1; subst this; revert hb; decide
theorem src_same (t c : List UInt8) (hP : PieceOk t) (h : srcL t = some c) : cellsP (srcP t) = cellsP (srcP c) := by
  unfold srcL at h
  split at h
  · cases h; rfl
  · rename_i h1
    split at h
    · rename_i h2
      split at h
      · rename_i h3
        have e := Option.some.inj h
        have n1 : ¬ (c = selfS ∨ c = allS) := by
          rw [← e]
          rintro (h | h)
          · simp [underS, selfS] at h
          · have := congrArg List.length h
            have hne := part_ne _ h3.1
            simp [underS, allS, Ref.lowL] at this
        have n2 : underS.isPrefixOf c = true := by rw [← e]; simp
        have n3 : c.drop 2 = Ref.lowL (t.drop 2) := by rw [← e]; rfl
        rw [srcP_u t h1 h2, srcP_u c n1 n2, n3, low_low]
      · cases h
    · rename_i h2
      split at h
      · rename_i x hx
        have e := Option.some.inj h
        rw [srcP_q t h1 h2, hx]
        have key : QOk x ∧ ∃ y, parseQ 1099511627776 (textO x) = .inr y ∧ partsQ (some y) = partsQ (some x) := by
          rcases Q_in _ t x hx with ⟨n, rfl, h3, h4⟩ | ⟨u, rfl, hu⟩
          · exact ⟨⟨h3, by omega⟩, .inl n, Q_closed _ n h3 h4, rfl⟩
          · have hok := parse_ok t u hu
            have hr := root_len u hok
            rw [root_text, List.length_append] at hr
            have := hP.2 u hu
            exact ⟨hok, .inr (rootU u), Q_server _ u hok (by omega), rfl⟩
        obtain ⟨hk, y, hy, hpy⟩ := key
        obtain ⟨n1, n2⟩ := text_head x hk
        rw [← e, srcP_q _ n1 n2, hy]
        unfold cellsP
        show [_, _, _, _, _, _] = [_, _, _, _, _, _]
        simp only [qOf, hpy]
      · cases h
end Go.Proofs.YtedglpfdibamdaaGreatDoor.Pol
namespace Go.Proofs.YtedglpfdibamdaaGreatDoor.Pol
open Go.RowKit Go.Shelf Url Org Frm Cls
attribute [local go_sem] Oper.semAt_some
set_option linter.unusedVariables false
def SB (B : Nat) (cs : Array Value) (X : World) : Prop := X.heap[B]? = some (.cells cs 82 (0, 0))
theorem SB.box {B : Nat} {cs : Array Value} {X : World} (h : SB B cs X) : Box B cs X := fun i x hx => by
  simp only [World.cell?, show X.heap[B]? = _ from h]; exact hx
theorem SB.frozen {B : Nat} {cs : Array Value} {X : World} (h : SB B cs X) (i : Nat) : X.frozen? ⟨B, i, none⟩ = false := by
  simp [World.frozen?, show X.heap[B]? = _ from h]
theorem SB.on {B : Nat} {cs : Array Value} {X Y : World} (h : SB B cs X) (hk : Below X.heap.size X Y) : SB B cs Y := (hk.block B (Array.getElem?_eq_some_iff.1 h).1).trans h
theorem SB.lt {B : Nat} {cs : Array Value} {X : World} (h : SB B cs X) : B < X.heap.size := (Array.getElem?_eq_some_iff.1 h).1
theorem SB.new (w : World) (cs : Array Value) : SB w.heap.size cs (w.alloc (.cells cs 82)) := World.alloc_heap_new w _
theorem SB.set {B : Nat} {cs : Array Value} {X : World} (h : SB B cs X) (i : Nat) (v : Value) : SB B (cs.setIfInBounds i v) (X.setCell ⟨B, i, none⟩ v) := by
  obtain ⟨hlt, hk⟩ := Array.getElem?_eq_some_iff.1 h
  show (X.heap.modify B _)[B]? = _
  rw [Array.getElem?_eq_getElem (by rw [Array.size_modify]; exact hlt), Array.getElem_modify_self, hk]
  rfl
theorem SB.put {B : Nat} {X : World} {a0 a1 a2 a3 a4 a5 : Value} (h : SB B #[a0, a1, a2, a3, a4, a5] X) (v0 v1 v2 v3 v4 v5 : Value) :
    ∃ Y, (((((X.setCell ⟨B, 0, none⟩ v0).setCell ⟨B, 1, none⟩ v1).setCell ⟨B, 2, none⟩ v2).setCell ⟨B, 3, none⟩ v3).setCell ⟨B, 4, none⟩ v4).setCell ⟨B, 5, none⟩ v5 = Y ∧ SB B #[v0, v1, v2, v3, v4, v5] Y ∧ (∀ S : Nat → Prop, ¬ S B → Keep S X Y) ∧ ∀ M, M ≤ B → Below M X Y := by
  have h8 := (((((h.set 0 v0).set 1 v1).set 2 v2).set 3 v3).set 4 v4).set 5 v5
  simp only [List.setIfInBounds_toArray, List.set_cons_zero, List.set_cons_succ] at h8
  refine ⟨_, rfl, h8, fun S hS => ?_, fun M hM => ?_⟩
  · exact (((((Keep.setCell _ _ _ hS).trans (Keep.setCell _ _ _ hS)).trans (Keep.setCell _ _ _ hS)).trans (Keep.setCell _ _ _ hS)).trans (Keep.setCell _ _ _ hS)).trans (Keep.setCell _ _ _ hS)
  · exact (((((((Below.refl M X).setCell (p := ⟨B, 0, none⟩) hM v0).setCell (p := ⟨B, 1, none⟩) hM v1).setCell (p := ⟨B, 2, none⟩) hM v2).setCell (p := ⟨B, 3, none⟩) hM v3).setCell (p := ⟨B, 4, none⟩) hM v4).setCell (p := ⟨B, 5, none⟩) hM v5)
theorem size_src : (Tryz.prog.info? 82).map (·.size) = some 6 := by kernel_rfl
theorem ret_src2 {fn : Func} {p u : Tmp} (h : fn.results = #[.cell p 82, .tmp u]) (tmps : Array Value) (w : World) (B : Nat) (cs : Array Value) (hp : tmps.getD p undef = .pointer (some ⟨B, 0, none⟩)) (hU : SB B cs w) (hs : cs.size = 6) :
    (results fn tmps).run Tryz.prog w = .ok (.tuple #[.agg cs, tmps.getD u undef]) w := by
  rw [results_cell_tmp h, hp]
  simp [asAddr, Result.andThen, run_loadVar_row w B 82 _ cs (0, 0) _ hU Tryz.underlying82 rfl (by rw [size_src, hs])]
theorem eq_org (a0 b0 a1 b1 : List UInt8) (a2 b2 a3 b3 : Int) (w : World) : (Op.equalIn 10000 25 (.agg #[.string ⟨a0.toArray⟩, .string ⟨a1.toArray⟩, .int .i64 a2, .int .i64 a3]) (.agg #[.string ⟨b0.toArray⟩, .string ⟨b1.toArray⟩, .int .i64 b2, .int .i64 b3])).run Tryz.prog w = .ok (decide (a0 = b0) && decide (a1 = b1) && a2 == b2 && a3 == b3) w := by
  have u3 := Tryz.underlying3
  have a3' := Tryz.isAgg3
  have u9 := Tryz.underlying9
  have a9 := Tryz.isAgg9
  have hS : Tryz.prog.underlying 25 = some (.struct (Tryz.prog.fieldsOf 25)) := by kernel_rfl
  have hp : Tryz.prog.stoodInHeld 25 = false := by kernel_rfl
  rw [show (10000 : Nat) = 9999 + 1 from rfl, run_equalIn_struct w 9999 25 _ _ hS hp]
  simp only [Program.fieldsOf, Tryz.underlying25]
  go_simp
  by_cases h1 : a0 = b0 <;> by_cases h2 : a1 = b1 <;> by_cases h3 : a2 = b2 <;> by_cases h4 : a3 = b3 <;> simp [h1, h2, h3, h4]
def sameP (a b : (List UInt8 × List UInt8) × (Int × Int)) : Bool := decide (a.1.1 = b.1.1) && decide (a.1.2 = b.1.2) && a.2.1 == b.2.1 && a.2.2 == b.2.2
theorem sameP_is (a b : (List UInt8 × List UInt8) × (Int × Int)) : decide (a = b) = sameP a b := by
  obtain ⟨⟨a0, a1⟩, ⟨a2, a3⟩⟩ := a
  obtain ⟨⟨b0, b1⟩, ⟨b2, b3⟩⟩ := b
  unfold sameP
  rw [Bool.eq_iff_iff]
  simp [and_assoc]
set_option maxRecDepth 100000 in
set_option maxHeartbeats 4000000 in
theorem sText_any (c : List UInt8) (hs : SrcOk c) (w : World) (hG : Gl w) :
    Calls Tryz.prog 34 #[.agg (cellsP (srcP c)).toArray] w fun e w' => e = .returned (.string ⟨c.toArray⟩) ∧ Below w.heap.size w w' := by
  have hl := hs.len
  rcases src_k c hs.src with ⟨rfl, hp⟩ | ⟨rfl, hp⟩ | ⟨y, hy, -, hk, hp⟩ | ⟨d, hd, hp⟩
  · rw [hp]
    show Calls _ _ #[.agg #[.int .i64 0, .string ⟨#[]⟩, .string ⟨#[]⟩, .int .i64 0, .int .i64 0, .string ⟨#[]⟩]] _ _
    have A1 := below_alloc (w := w) (.cells #[.int .i64 0, .string ⟨#[]⟩, .string ⟨#[]⟩, .int .i64 0, .int .i64 0, .string ⟨#[]⟩] 82)
    have x0 := (SB.new w #[.int .i64 0, .string ⟨#[]⟩, .string ⟨#[]⟩, .int .i64 0, .int .i64 0, .string ⟨#[]⟩]).box 0 _ rfl
    clear hp hs hG hl
    go_enter Tryz.func34, Tryz.ntmps34
    go_wp2
    go_ret
    exact ⟨rfl, A1⟩
  · rw [hp]
    show Calls _ _ #[.agg #[.int .i64 1, .string ⟨#[]⟩, .string ⟨#[]⟩, .int .i64 0, .int .i64 0, .string ⟨#[]⟩]] _ _
    have A1 := below_alloc (w := w) (.cells #[.int .i64 1, .string ⟨#[]⟩, .string ⟨#[]⟩, .int .i64 0, .int .i64 0, .string ⟨#[]⟩] 82)
    have x0 := (SB.new w #[.int .i64 1, .string ⟨#[]⟩, .string ⟨#[]⟩, .int .i64 0, .int .i64 0, .string ⟨#[]⟩]).box 0 _ rfl
    clear hp hs hG hl
    go_enter Tryz.func34, Tryz.ntmps34
    go_wp2
    go_ret
    exact ⟨rfl, A1⟩
  · rw [hp]
    have hv : valQ y = orgQ (some y) := val_orgQ y
    obtain ⟨⟨⟨s, g⟩, ⟨p, m⟩⟩, h0⟩ : ∃ z, partsQ (some y) = z := ⟨_, rfl⟩
    have e0 : (Value.agg (cellsP (2, (some y, []))).toArray) = .agg #[.int .i64 2, .string ⟨s.toArray⟩, .string ⟨g.toArray⟩, .int .i64 p, .int .i64 m, .string ⟨#[]⟩] := by unfold cellsP; simp only [h0]
    have e1 : valQ y = .agg #[.string ⟨s.toArray⟩, .string ⟨g.toArray⟩, .int .i64 p, .int .i64 m] := by rw [hv]; unfold orgQ orgV; rw [h0]
    obtain ⟨W, hW⟩ : ∃ W, w.alloc (.cells #[.int .i64 2, .string ⟨s.toArray⟩, .string ⟨g.toArray⟩, .int .i64 p, .int .i64 m, .string ⟨#[]⟩] 82) = W := ⟨_, rfl⟩
    have A1 : Below w.heap.size w W := hW ▸ below_alloc _
    have b : SB w.heap.size #[.int .i64 2, .string ⟨s.toArray⟩, .string ⟨g.toArray⟩, .int .i64 p, .int .i64 m, .string ⟨#[]⟩] W := hW ▸ SB.new w _
    have con := Text_val y hk W (hG.on A1)
    rw [hy, e1] at con
    rw [e0]
    have x0 := b.box 0 _ rfl
    have x1 := b.box 1 _ rfl
    have x2 := b.box 2 _ rfl
    have x3 := b.box 3 _ rfl
    have x4 := b.box 4 _ rfl
    have HW := Lib.hid hW
    clear hp hs hG hl hv h0 e0 e1 hW b hy hk
    go_enter Tryz.func34, Tryz.ntmps34
    go_wp2_with fail
    rw [HW.out]
    go_wp2_with fail
    refine con.mono ?_
    rintro e w' ⟨rfl, hb⟩
    go_wp2
    go_ret
    exact ⟨rfl, A1.trans (hb.mono A1.size)⟩
  · rw [hp]
    show Calls _ _ #[.agg #[.int .i64 3, .string ⟨#[]⟩, .string ⟨#[]⟩, .int .i64 0, .int .i64 0, .string ⟨d.toArray⟩]] _ _
    have A1 := below_alloc (w := w) (.cells #[.int .i64 3, .string ⟨#[]⟩, .string ⟨#[]⟩, .int .i64 0, .int .i64 0, .string ⟨d.toArray⟩] 82)
    have x0 := (SB.new w #[.int .i64 3, .string ⟨#[]⟩, .string ⟨#[]⟩, .int .i64 0, .int .i64 0, .string ⟨d.toArray⟩]).box 0 _ rfl
    have x5 := (SB.new w #[.int .i64 3, .string ⟨#[]⟩, .string ⟨#[]⟩, .int .i64 0, .int .i64 0, .string ⟨d.toArray⟩]).box 5 _ rfl
    have hdl : d.length ≤ 4000 := by
      rw [hd, List.length_append] at hl; omega
    have e : (⟨#[42, 46]⟩ ++ ⟨d.toArray⟩ : ByteArray) = ⟨c.toArray⟩ := by rw [hd]; exact str_app underS d
    have hz : (⟨d.toArray⟩ : ByteArray).size = d.length := rfl
    have HE := Lib.hid e
    clear hp hs hG hl hd e
    go_enter Tryz.func34, Tryz.ntmps34
    go_wp2
    go_ret
    exact ⟨by rw [← HE.out]; rfl, A1⟩
set_option maxRecDepth 100000 in
set_option maxHeartbeats 8000000 in
theorem sAllows_any (p : SP) (own o : QO) (w : World) (hk : p.1 = 0 ∨ p.1 = 1 ∨ p.1 = 2 ∨ p.1 = 3) (hh : (partsQ o).1.2.length ≤ 1048576) (hd : p.2.2.length ≤ 1048576) :
    Calls Tryz.prog 38 #[.agg (cellsP p).toArray, orgQ own, orgQ o] w fun e w' => e = .returned (.bool (allowP p own o)) ∧ Below w.heap.size w w' := by
  obtain ⟨k, x, d⟩ := p
  obtain ⟨⟨⟨s0, g0⟩, ⟨p0, m0⟩⟩, h0⟩ : ∃ y, partsQ x = y := ⟨_, rfl⟩
  obtain ⟨⟨⟨s1, g1⟩, ⟨p1, m1⟩⟩, h1⟩ : ∃ y, partsQ own = y := ⟨_, rfl⟩
  obtain ⟨⟨⟨s2, g2⟩, ⟨p2, m2⟩⟩, h2⟩ : ∃ y, partsQ o = y := ⟨_, rfl⟩
  have e0 : (Value.agg (cellsP (k, (x, d))).toArray) = .agg #[.int .i64 k, .string ⟨s0.toArray⟩, .string ⟨g0.toArray⟩, .int .i64 p0, .int .i64 m0, .string ⟨d.toArray⟩] := by unfold cellsP; simp only [h0]
  have e1 : orgQ own = .agg #[.string ⟨s1.toArray⟩, .string ⟨g1.toArray⟩, .int .i64 p1, .int .i64 m1] := by unfold orgQ orgV; rw [h1]
  have e2 : orgQ o = .agg #[.string ⟨s2.toArray⟩, .string ⟨g2.toArray⟩, .int .i64 p2, .int .i64 m2] := by unfold orgQ orgV; rw [h2]
  have ea : allowP (k, (x, d)) own o = if k = 0 then sameP ((s2, g2), (p2, m2)) ((s1, g1), (p1, m1)) else if k = 1 then decide (m2 = 0) else if k = 2 then sameP ((s2, g2), (p2, m2)) ((s0, g0), (p0, m0)) else decide (m2 = 0) && (decide (g2 ≠ d) && Host.withinB g2 d) := by
    unfold allowP
    simp only [h0, h1, h2, sameP_is]
  rw [h2] at hh
  simp only at hh hd hk
  rw [e0, e1, e2, ea]
  clear e0 e1 e2 ea h0 h1 h2 x own o
  obtain ⟨W, hW⟩ : ∃ W, ((w.alloc (.cells #[.int .i64 k, .string ⟨s0.toArray⟩, .string ⟨g0.toArray⟩, .int .i64 p0, .int .i64 m0, .string ⟨d.toArray⟩] 82)).alloc (.cells #[.string ⟨s1.toArray⟩, .string ⟨g1.toArray⟩, .int .i64 p1, .int .i64 m1] 25)).alloc (.cells #[.string ⟨s2.toArray⟩, .string ⟨g2.toArray⟩, .int .i64 p2, .int .i64 m2] 25) = W := ⟨_, rfl⟩
  have A1 : Below w.heap.size w W := hW ▸ (((Below.refl _ w).alloc (Nat.le_refl _) _).alloc (by simp) _).alloc (by simp; omega) _
  have b0 : SB w.heap.size #[.int .i64 k, .string ⟨s0.toArray⟩, .string ⟨g0.toArray⟩, .int .i64 p0, .int .i64 m0, .string ⟨d.toArray⟩] W := hW ▸ (((SB.new w _).on (below_alloc _)).on (below_alloc _))
  have b1 : OB (w.heap.size + 1) #[.string ⟨s1.toArray⟩, .string ⟨g1.toArray⟩, .int .i64 p1, .int .i64 m1] W := by
    have := (OB.new (w.alloc (.cells #[.int .i64 k, .string ⟨s0.toArray⟩, .string ⟨g0.toArray⟩, .int .i64 p0, .int .i64 m0, .string ⟨d.toArray⟩] 82)) #[.string ⟨s1.toArray⟩, .string ⟨g1.toArray⟩, .int .i64 p1, .int .i64 m1]).on (below_alloc (.cells #[.string ⟨s2.toArray⟩, .string ⟨g2.toArray⟩, .int .i64 p2, .int .i64 m2] 25))
    rw [World.size_alloc] at this
    exact hW ▸ this
  have b2 : OB (w.heap.size + 2) #[.string ⟨s2.toArray⟩, .string ⟨g2.toArray⟩, .int .i64 p2, .int .i64 m2] W := by
    have := OB.new ((w.alloc (.cells #[.int .i64 k, .string ⟨s0.toArray⟩, .string ⟨g0.toArray⟩, .int .i64 p0, .int .i64 m0, .string ⟨d.toArray⟩] 82)).alloc (.cells #[.string ⟨s1.toArray⟩, .string ⟨g1.toArray⟩, .int .i64 p1, .int .i64 m1] 25)) #[.string ⟨s2.toArray⟩, .string ⟨g2.toArray⟩, .int .i64 p2, .int .i64 m2]
    rw [World.size_alloc, World.size_alloc] at this
    exact hW ▸ this
  have q1 := fun W => eq_org s2 s1 g2 g1 p2 p1 m2 m1 W
  have q0 := fun W => eq_org s2 s0 g2 g0 p2 p0 m2 m0 W
  have x0 := b0.box 0 _ rfl
  have x1 := b0.box 1 _ rfl
  have x2 := b0.box 2 _ rfl
  have x3 := b0.box 3 _ rfl
  have x4 := b0.box 4 _ rfl
  have x5 := b0.box 5 _ rfl
  have y0 := b1.box 0 _ rfl
  have y1 := b1.box 1 _ rfl
  have y2 := b1.box 2 _ rfl
  have y3 := b1.box 3 _ rfl
  have z0 := b2.box 0 _ rfl
  have z1 := b2.box 1 _ rfl
  have z2 := b2.box 2 _ rfl
  have z3 := b2.box 3 _ rfl
  have HW := Lib.hid hW
  have b5 := Lib.hid (fun W1 (hb : Below W.heap.size W W1) => (b0.on hb).box 5 _ rfl)
  clear hW
  rcases hk with rfl | rfl | rfl | rfl
  · clear b0 b1 b2 q0
    go_enter Tryz.func38, Tryz.ntmps38
    go_wp2_with fail
    rw [HW.out]
    go_wp2
    go_ret
    exact ⟨by unfold sameP; rfl, A1⟩
  · clear b0 b1 b2 q0 q1
    go_enter Tryz.func38, Tryz.ntmps38
    go_wp2_with fail
    rw [HW.out]
    go_wp2
    go_ret
    exact ⟨rfl, A1⟩
  · clear b0 b1 b2 q1
    go_enter Tryz.func38, Tryz.ntmps38
    go_wp2_with fail
    rw [HW.out]
    go_wp2
    go_ret
    exact ⟨by unfold sameP; rfl, A1⟩
  · clear b0 b1 b2 q0 q1 x1 x2 x3 x4 y0 y1 y2 y3 z0 z2
    have kw : ∀ r : Bool, (if (3 : Int) = 0 then sameP ((s2, g2), (p2, m2)) ((s1, g1), (p1, m1)) else if (3 : Int) = 1 then decide (m2 = 0) else if (3 : Int) = 2 then sameP ((s2, g2), (p2, m2)) ((s0, g0), (p0, m0)) else r) = r := fun r => rfl
    rw [kw]
    clear kw
    obtain ⟨R, hR⟩ : ∃ R, (decide (m2 = 0) && (decide (g2 ≠ d) && Host.withinB g2 d)) = R := ⟨_, rfl⟩
    rw [hR]
    by_cases c1 : m2 = 0
    · subst c1
      by_cases c2 : g2 = d
      · subst c2
        have e1 : (g2 != g2) = false := by simp
        have HR := Lib.hid (show R = false by rw [← hR]; simp)
        clear hh hd hR
        go_enter Tryz.func38, Tryz.ntmps38
        go_wp2_with fail
        rw [HW.out]
        go_wp2
        go_ret
        exact ⟨by rw [HR.out]; rfl, A1⟩
      · have e1 : (g2 == d) = false := by rw [beq_eq_false_iff_ne]; exact c2
        have HR := Lib.hid (show R = Host.withinB g2 d by rw [← hR]; simp [c2])
        obtain ⟨ca, W1, k1, hy1, hb1, hz1⟩ := conv_new W g2 (by omega)
        obtain ⟨cb, W2, k2, hy2, hb2, hz2⟩ := conv_new W1 d (by omega)
        have A3 := (A1.trans (hb1.mono A1.size)).trans (hb2.mono (A1.trans (hb1.mono A1.size)).size)
        have hy1' := hy1.on hb2
        have x5' := b5.out W1 hb1
        have con := Host.Within_any (some ⟨W.heap.size, 0, none⟩) (some ⟨W1.heap.size, 0, none⟩) g2.length ca d.length cb g2 d W2 rfl rfl (by omega) hy1'.at.2.2.2.2 hy2.at.2.2.2.2
        generalize Host.withinB g2 d = wb at con HR
        clear hy1 hy2 hy1' hb1 hb2 hz1 hz2 c2 hh hd hR b5
        go_enter Tryz.func38, Tryz.ntmps38
        go_wp2_with fail
        rw [HW.out]
        go_wp2_with fail
        (try rw [k1])
        go_wp2_with fail
        (try rw [k2])
        go_wp2_with fail
        refine con.mono ?_
        rintro e W3 ⟨rfl, hb⟩
        go_wp2
        go_ret
        exact ⟨by rw [HR.out]; rfl, A3.trans (hb.mono A3.size)⟩
    · have e1 : ((m2 : Int) == 0) = false := by rw [beq_eq_false_iff_ne]; exact c1
      have HR := Lib.hid (show R = false by rw [← hR]; simp [c1])
      clear c1 hh hd hR
      go_enter Tryz.func38, Tryz.ntmps38
      go_wp2_with fail
      rw [HW.out]
      go_wp2
      go_ret
      exact ⟨by rw [HR.out]; rfl, A1⟩
end Go.Proofs.YtedglpfdibamdaaGreatDoor.Pol
namespace Go.Proofs.YtedglpfdibamdaaGreatDoor.Cls
open Go.RowKit Go.Shelf Url Org Frm
attribute [local go_sem] Oper.semAt_some
def errC {α : Type} : Sum Int α → Int
  | .inl n => n
  | .inr _ => 0
def valC {α : Type} : Sum Int (List α) → List α
  | .inl _ => []
  | .inr x => x
theorem set_nil (w : World) : SetIs encStr w (.agg #[.slice none 0 0]) [] := ⟨none, 0, 0, rfl, Nat.le_refl _, Nat.zero_le _, SlIn.nil _ _ _, Rises.nil⟩
theorem set_form {w : World} {v : Value} {x : List (List UInt8)} (h : SetIs encStr w v x) : ∃ q n c, v = .agg #[.slice q n c] := by
  obtain ⟨q, n, c, rfl, _⟩ := h
  exact ⟨q, n, c, rfl⟩
theorem set_keep {w w' : World} {v : Value} {x : List (List UInt8)} (h : SetIs encStr w v x) (hk : Keep (· < w.heap.size) w w') : SetIs encStr w' v x := by
  obtain ⟨q, n, c, rfl, h1, h2, h3, h4⟩ := h
  exact ⟨q, n, c, rfl, h1, h2, h3.keep hk h3.lt, h4⟩
theorem ret_cls2 {fn : Func} {p u : Tmp} (h : fn.results = #[.cell p 77, .tmp u]) (tmps : Array Value) (w : World) (B : Nat) (v : Value) (hp : tmps.getD p undef = .pointer (some ⟨B, 0, none⟩)) (hU : Boxed w B 77 v) :
    (results fn tmps).run Tryz.prog w = .ok (.tuple #[.agg #[v], tmps.getD u undef]) w := by
  rw [results_cell_tmp h, hp]
  simp [asAddr, Result.andThen, run_loadVar_row w B 77 _ #[v] (0, 0) _ hU Tryz.underlying77 rfl (by kernel_rfl)]
set_option maxHeartbeats 1000000 in
theorem Implies_any (v1 v2 : Value) (x y : List (List UInt8)) (w : World) (h1 : SetIs encStr w v1 x) (h2 : SetIs encStr w v2 y) (l1 : x.length ≤ 1099511627776) (l2 : y.length ≤ 1099511627776) :
    Calls Tryz.prog 111 #[v1, v2] w fun e w' => e = .returned (.bool (subB x y)) ∧ Below w.heap.size w w' := by
  obtain ⟨q1, n1, c1, rfl⟩ := set_form h1
  obtain ⟨q2, n2, c2, rfl⟩ := set_form h2
  have A1 := below_alloc (w := w) (.cells #[.slice q1 n1 c1] 77)
  have A2 := A1.trans ((below_alloc (w := w.alloc (.cells #[.slice q1 n1 c1] 77)) (.cells #[.slice q2 n2 c2] 77)).mono A1.size)
  have con := S.Sub_any _ _ x y _ (h1.below A2) (h2.below A2) l1 l2
  clear h1 h2
  go_enter Tryz.func111, Tryz.ntmps111
  go_wp2_with fail
  refine con.mono ?_
  rintro e w' ⟨rfl, hb⟩
  go_wp2
  go_ret
  exact ⟨rfl, A2.trans (hb.mono A2.size)⟩
def bndC (x : List (List UInt8)) : Sum Int (List (List UInt8)) := if x.length ≤ 16 then .inr x else .inl 3
theorem ofC_bnd (l : List (List UInt8)) : ofC l = if l.all prinB = true then bndC (setS l) else .inl 2 := by
  unfold ofC bndC; rw [setS_sort]
end Go.Proofs.YtedglpfdibamdaaGreatDoor.Cls
namespace Go.Proofs.YtedglpfdibamdaaGreatDoor.Cls
open Go.RowKit Go.Shelf Url Org Frm
attribute [local go_sem] Oper.semAt_some
def ColI (T e : TypeId) (Bo : Nat) (RB : Nat → Prop) (W0 : World) (pre : List (List UInt8)) (Pv : Nat → Prop) (W : World) : Prop :=
  ∃ v, Boxed W Bo T v ∧ W.ownsRow W0.heap.size e 1 v pre.length (pre.map encStr) ∧ (∀ b, Pv b → W0.heap.size ≤ b) ∧ (∀ b, v.ownBlock = some b → ¬ Pv b) ∧ Keep RB W0 W
theorem ColI_abide (T e : TypeId) (Bo : Nat) (RB : Nat → Prop) (W0 : World) (hBo : Bo < W0.heap.size) (hRB : ∀ b, RB b → b < W0.heap.size) : Abide (ColI T e Bo RB W0) := by
  rintro pre Pv Pv' A B ⟨v, h1, h2, h3, h5, h6⟩ hk hp
  have hs := h6.size
  refine ⟨v, hk.boxed h1 (fun h => by have := h3 _ h; omega), hk.row h2 h5, fun b hb => ?_, fun b hb hp' => ?_, h6.trans (hk.mono fun b _ hb hpb => by have := h3 b hpb; have := hRB b hb; omega)⟩
  · rcases (hp b hb).1 with h | h
    · exact h3 b h
    · omega
  · rcases (hp _ hp').1 with h | h
    · exact h5 b hb h
    · have := (h2.lt b hb).2; omega
theorem strs_data (x : List (List UInt8)) : (x.map fun p => (⟨p.toArray⟩ : ByteArray)).map (·.data.toList) = x := by
  rw [List.map_map]
  exact (List.map_congr_left (g := id) fun p _ => rfl).trans (List.map_id x)
end Go.Proofs.YtedglpfdibamdaaGreatDoor.Cls
namespace Go.Proofs.YtedglpfdibamdaaGreatDoor.Cls
open Go.RowKit Go.Shelf Url Org Frm
attribute [local go_sem] Oper.semAt_some
theorem conv_by {W : World} {q : Option Addr} {n c : Nat} {l : List UInt8} (h : By W (.slice q n c) l) : (convert 22 9 (.slice q n c)).run Tryz.prog W = .ok (.string ⟨l.toArray⟩) W := by
  obtain ⟨h1, _, _, _, h5⟩ := h.at
  have h := h5.convert (P := Tryz.prog) (by rw [Lib.numsL_length, h1]) c 22 5 9 Tryz.underlying22 Tryz.underlying5 Tryz.underlying9
  rwa [strOfNums_numsL] at h
theorem row_nil {W : World} {base : Nat} {e : TypeId} {size n c m : Nat} {xs : List Value} (h : W.ownsRow base e size (.slice none n c) m xs) : n = 0 ∧ c = 0 := by
  rcases h.2 with ⟨he, _⟩ | ⟨g, cap, cur, he, _⟩
  · cases he; exact ⟨rfl, rfl⟩
  · cases he
theorem by_form {w : World} {v : Value} {l : List UInt8} (h : By w v l) : ∃ q c, v = .slice q l.length c := by
  obtain ⟨q, c, rfl, _⟩ := h
  exact ⟨q, c, rfl⟩
theorem trim_len (l : List UInt8) : (trimB l).length ≤ l.length := by
  unfold trimB
  have h1 := (List.dropWhile_sublist blankB (l := (l.dropWhile blankB).reverse)).length_le
  have h2 := (List.dropWhile_sublist blankB (l := l)).length_le
  rw [List.length_reverse] at *
  omega
theorem Trim_by (q : Option Addr) (n c : Nat) (l : List UInt8) (w : World) (h : By w (.slice q n c) l) (hn : n ≤ 1099511627775) :
    Calls Tryz.prog 39 #[.slice q n c] w fun e w' => ∃ q' c', e = .returned (.slice q' (trimB l).length c') ∧ By w' (.slice q' (trimB l).length c') (trimB l) ∧ Below w.heap.size w w' := by
  obtain ⟨h1, h2, h3, h4, h5⟩ := h.at
  obtain ⟨f, e, ht⟩ := trims l
  refine (cutTrim_any q n c f e l w h1 hn h2 h5 ht).mono ?_
  rintro e' w' ⟨v', rfl, hr, hb⟩
  rw [← trim_sub l f e ht] at hr
  have hby := By.row hr
  obtain ⟨q', c', rfl⟩ := by_form hby
  exact ⟨q', c', rfl, hby, hb⟩
theorem sl_put {w : World} {q : Option Addr} {n : Nat} {x : List (List UInt8)} {D : Nat} {d : Option (List Deferred)} {o : Obj} (h : SlIn encStr w q n x) (hD : w.heap[D]? = some (.deferred d)) : SlIn encStr (w.putObj D o) q n x := by
  refine h.keep (Keep.putObj (S := fun b => b ≠ D) w D o (by simp)) fun a ha h0 e => ?_
  obtain ⟨b, o', he, _, hc⟩ := h.at h0
  rw [ha] at he; cases he
  obtain ⟨y, hy⟩ : ∃ y, x[0]? = some y := ⟨_, List.getElem?_eq_getElem (by rw [h.1]; exact h0)⟩
  have := hc 0 y hy
  simp only at e
  subst e
  simp [World.cell?, hD] at this
theorem set_put {w : World} {v : Value} {x : List (List UInt8)} {D : Nat} {d : Option (List Deferred)} {o : Obj} (h : SetIs encStr w v x) (hD : w.heap[D]? = some (.deferred d)) : SetIs encStr (w.putObj D o) v x := by
  obtain ⟨q, n, c, rfl, h1, h2, h3, h4⟩ := h
  exact ⟨q, n, c, rfl, h1, h2, sl_put h3 hD, h4⟩
def trimX (pre : List (Nat × List UInt8)) : List (List UInt8) := pre.map fun p => trimB p.2
theorem trimX_snoc (pre : List (Nat × List UInt8)) (i : Nat) (t : List UInt8) : trimX (pre ++ [(i, t)]) = trimX pre ++ [trimB t] := by unfold trimX; simp
theorem trimX_split (t : List UInt8) : trimX (splitX 124 t) = (Ref.splitL 124 t).map trimB := by
  unfold trimX
  rw [← Host.splitX_snd, List.map_map]; rfl
def SpI (T e : TypeId) (Bo : Nat) (RB : Nat → Prop) (W0 : World) (pre : List (Nat × List UInt8)) (Pv : Nat → Prop) (W : World) : Prop := ColI T e Bo RB W0 (trimX pre) Pv W
theorem parseC_long (t : List UInt8) (h : 4096 < t.length) : parseC t = .inl 3 := by unfold parseC; rw [if_pos h]
theorem parseC_never (t : List UInt8) (h : ¬ 4096 < t.length) (h2 : trimB t = neverS) : parseC t = .inr [] := by unfold parseC; rw [if_neg h, if_pos h2]
theorem parseC_of (t : List UInt8) (h : ¬ 4096 < t.length) (h2 : trimB t ≠ neverS) : parseC t = ofC (trimX (splitX 124 t)) := by unfold parseC; rw [if_neg h, if_neg h2, trimX_split]
end Go.Proofs.YtedglpfdibamdaaGreatDoor.Cls
namespace Go.Proofs.YtedglpfdibamdaaGreatDoor.Frm
open Go.RowKit Go.Shelf Url Org Cls
attribute [local go_sem] Oper.semAt_some
abbrev Cl := (Option Addr × Nat × Nat) × List (List UInt8)
def encC (z : Cl) : Value := .slice z.1.1 z.1.2.1 z.1.2.2
structure ClAt (w : World) (z : Cl) : Prop where
  set : SetIs encStr w (.agg #[encC z]) z.2
  few : z.2.length ≤ 16
theorem ClAt.keep {w w' : World} {z : Cl} (h : ClAt w z) (hk : Keep (· < w.heap.size) w w') : ClAt w' z := ⟨set_keep h.set hk, h.few⟩
theorem ClAt.below {w w' : World} {z : Cl} (h : ClAt w z) (hb : Below w.heap.size w w') : ClAt w' z := h.keep (Keep.of_below hb)
theorem ClAt.rise {w : World} {z : Cl} (h : ClAt w z) : Rises z.2 := by
  obtain ⟨q, n, c, _, _, _, _, h4⟩ := h.set
  exact h4
def ClsIn (w : World) (q : Option Addr) (n : Nat) (xs : List (List (List UInt8))) : Prop := ∃ zs : List Cl, SlIn encC w q n zs ∧ (∀ z ∈ zs, ClAt w z) ∧ xs = zs.map Prod.snd
theorem ClsIn.nil (w : World) (q : Option Addr) : ClsIn w q 0 [] := ⟨[], SlIn.nil _ _ _, fun z hz => (by cases hz), rfl⟩
theorem ClsIn.len {w : World} {q : Option Addr} {n : Nat} {xs : List (List (List UInt8))} (h : ClsIn w q n xs) : xs.length = n := by
  obtain ⟨zs, h1, _, rfl⟩ := h
  rw [List.length_map]; exact h1.1
theorem ClsIn.below {w w' : World} {q : Option Addr} {n : Nat} {xs : List (List (List UInt8))} (h : ClsIn w q n xs) (hb : Below w.heap.size w w') : ClsIn w' q n xs := by
  obtain ⟨zs, h1, h2, rfl⟩ := h
  exact ⟨zs, h1.below hb h1.lt, fun z hz => (h2 z hz).below hb, rfl⟩
theorem ClsIn.lt {w : World} {q : Option Addr} {n : Nat} {xs : List (List (List UInt8))} (h : ClsIn w q n xs) : ∀ a, q = some a → 0 < n → a.block < w.heap.size := by
  obtain ⟨zs, h1, _⟩ := h
  exact h1.lt
theorem ClsIn.at {w : World} {q : Option Addr} {n : Nat} {xs : List (List (List UInt8))} (h : ClsIn w q n xs) (k : Nat) (hk : k < n) :
    ∃ b o q' n' c' x, q = some ⟨b, o, none⟩ ∧ xs[k]? = some x ∧ w.cell? ⟨b, o + k, none⟩ = some (.slice q' n' c') ∧ SetIs encStr w (.agg #[.slice q' n' c']) x ∧ x.length ≤ 16 := by
  obtain ⟨zs, h1, h2, rfl⟩ := h
  obtain ⟨b, o, rfl, _, hc⟩ := h1.at (by omega)
  have hl := h1.1
  have hz : zs[k]? = some zs[k] := List.getElem?_eq_getElem (by omega)
  have hm := h2 _ (List.mem_of_getElem? hz)
  exact ⟨b, o, _, _, _, zs[k].2, rfl, by rw [List.getElem?_map, hz]; rfl, hc k _ hz, hm.set, hm.few⟩
theorem ClsIn.ok {w : World} {q : Option Addr} {n : Nat} {xs : List (List (List UInt8))} (h : ClsIn w q n xs) : ∀ x ∈ xs, Rises x ∧ x.length ≤ 16 := by
  obtain ⟨zs, _, h2, rfl⟩ := h
  intro x hx
  obtain ⟨z, hz, rfl⟩ := List.mem_map.1 hx
  exact ⟨(h2 z hz).rise, (h2 z hz).few⟩
set_option maxRecDepth 100000 in
set_option maxHeartbeats 4000000 in
theorem oneImplies1_any (v1 : Value) (x y : List (List UInt8)) (B : Nat) (q2 : Option Addr) (n2 c2 : Nat) (w : World) (h1 : SetIs encStr w v1 x) (h2 : SetIs encStr w (.agg #[.slice q2 n2 c2]) y) (b : Boxed w B 77 (.slice q2 n2 c2)) (l1 : x.length ≤ 16) (l2 : y.length ≤ 16) :
    Calls Tryz.prog 110 #[v1, .pointer (some ⟨B, 0, none⟩)] w fun e w' => e = .returned (.bool (subB x y)) ∧ Below w.heap.size w w' := by
  obtain ⟨q1, n1, c1, rfl⟩ := set_form h1
  have A1 := below_alloc (w := w) (.cells #[.slice q1 n1 c1] 77)
  have con := Cls.Implies_any _ _ x y _ (h1.below A1) (h2.below A1) (by omega) (by omega)
  have k := (b.alloc (.cells #[.slice q1 n1 c1] 77)).cell
  clear h1 h2 b
  go_enter Tryz.func110, Tryz.ntmps110
  go_wp2_with fail
  refine con.mono ?_
  rintro e w' ⟨rfl, hb⟩
  go_wp2
  go_ret
  exact ⟨rfl, A1.trans (hb.mono A1.size)⟩
theorem one_take (xs : List (List (List UInt8))) (y x : List (List UInt8)) (k : Nat) (h : xs[k]? = some x) (h0 : subB x y = true) : oneB xs y = true :=
  List.any_eq_true.2 ⟨x, List.mem_of_getElem? h, h0⟩
set_option maxRecDepth 100000 in
set_option maxHeartbeats 4000000 in
theorem IndexFunc_any (q : Option Addr) (n c : Nat) (xs : List (List (List UInt8))) (y : List (List UInt8)) (B : Nat) (q2 : Option Addr) (n2 c2 : Nat) (w : World) (h : ClsIn w q n xs) (h2 : SetIs encStr w (.agg #[.slice q2 n2 c2]) y) (b : Boxed w B 77 (.slice q2 n2 c2)) (l2 : y.length ≤ 16) (hn : n ≤ 140737488355328) :
    Calls Tryz.prog 146 #[.slice q n c, .func (.func 110) #[] #[.pointer (some ⟨B, 0, none⟩)]] w fun e w' => ∃ i : Int, e = .returned (.int .i64 i) ∧ decide (0 ≤ i) = oneB xs y ∧ Below w.heap.size w w' := by
  have hl := Lib.hid h.len
  go_enter Tryz.func146, Tryz.ntmps146
  go_wp2
  go_loopw [8] (fun i wr => ∃ k : Nat, k ≤ n ∧ i = .int .i64 k ∧ Hid (∀ j x, j < k → xs[j]? = some x → subB x y = false) ∧ Below w.heap.size w wr) (fun i _ => n - (intOf i).toNat)
  case atStart => exact ⟨0, Nat.zero_le _, rfl, Lib.hid (fun j x h => by omega), Below.refl _ _⟩
  case round =>
    obtain ⟨k, hk, rfl, HJ, hB⟩ := hrel
    by_cases hlt : k < n
    · obtain ⟨bb, o, q', n', c', x, rfl, hx, hc, hs, hf⟩ := (h.below hB).at k hlt
      have con := oneImplies1_any _ x y B q2 n2 c2 wr hs (h2.below hB) ((Keep.of_below hB).boxed b b.lt) hf l2
      cases hp : subB x y with
      | true =>
        rewrite [hp] at con
        have HR := Lib.hid (show decide ((0 : Int) ≤ (k : Int)) = oneB xs y by rw [one_take xs y x k hx hp]; simp)
        clear hx hs h h2 b HJ
        go_wp2_with fail
        refine con.mono ?_
        rintro e w3 ⟨rfl, hb3⟩
        have A3 := hB.trans (hb3.mono hB.size)
        clear con hb3
        go_wp2
        go_ret
        exact ⟨_, rfl, HR.out, A3⟩
      | false =>
        rewrite [hp] at con
        have HJ2 := Lib.hid (show ∀ j z, j < k + 1 → xs[j]? = some z → subB z y = false from fun j z hj hz => by
          by_cases e : j = k
          · subst e; rw [hx] at hz; cases hz; exact hp
          · exact HJ.out j z (by omega) hz)
        clear hx hs h h2 b HJ hp
        go_wp2_with fail
        refine con.mono ?_
        rintro e w3 ⟨rfl, hb3⟩
        have A3 := hB.trans (hb3.mono hB.size)
        clear con hb3
        go_wp2
        go_roundw
        case rel => exact ⟨k + 1, by omega, by go_num, HJ2, A3⟩
        case measure => simp [intOf]; omega
    · obtain rfl : k = n := by omega
      have HR := Lib.hid (show decide ((0 : Int) ≤ -1) = oneB xs y by
        have : oneB xs y = false := by
          unfold oneB
          rw [Bool.eq_false_iff]
          intro ha
          obtain ⟨x, hx, hs⟩ := List.any_eq_true.1 ha
          obtain ⟨j, hj, rfl⟩ := List.getElem_of_mem hx
          have := HJ.out j _ (by have := hl.out; omega) (List.getElem?_eq_getElem hj)
          rw [this] at hs; cases hs
        rw [this]; rfl)
      clear HJ h h2 b
      go_wp2
      go_ret
      exact ⟨_, rfl, HR.out, hB⟩
set_option maxRecDepth 100000 in
set_option maxHeartbeats 4000000 in
theorem ContainsFunc_any (q : Option Addr) (n c : Nat) (xs : List (List (List UInt8))) (y : List (List UInt8)) (B : Nat) (q2 : Option Addr) (n2 c2 : Nat) (w : World) (h : ClsIn w q n xs) (h2 : SetIs encStr w (.agg #[.slice q2 n2 c2]) y) (b : Boxed w B 77 (.slice q2 n2 c2)) (l2 : y.length ≤ 16) (hn : n ≤ 140737488355328) :
    Calls Tryz.prog 109 #[.slice q n c, .func (.func 110) #[] #[.pointer (some ⟨B, 0, none⟩)]] w fun e w' => e = .returned (.bool (oneB xs y)) ∧ Below w.heap.size w w' := by
  have con := IndexFunc_any q n c xs y B q2 n2 c2 w h h2 b l2 hn
  clear h h2 b
  go_enter Tryz.func109, Tryz.ntmps109
  go_wp2_with fail
  refine con.mono ?_
  rintro e w' ⟨i, rfl, hi, hb⟩
  have HI := Lib.hid hi
  clear con hi
  go_wp2
  go_ret
  exact ⟨by rw [← HI.out]; simp, hb⟩
set_option maxRecDepth 100000 in
set_option maxHeartbeats 4000000 in
theorem oneImplies_any (q : Option Addr) (n c : Nat) (xs : List (List (List UInt8))) (v : Value) (y : List (List UInt8)) (w : World) (h : ClsIn w q n xs) (h2 : SetIs encStr w v y) (l2 : y.length ≤ 16) (hn : n ≤ 140737488355328) :
    Calls Tryz.prog 74 #[.slice q n c, v] w fun e w' => e = .returned (.bool (oneB xs y)) ∧ Below w.heap.size w w' := by
  obtain ⟨q2, n2, c2, rfl⟩ := set_form h2
  have A1 := below_alloc (w := w) (.cells #[.slice q2 n2 c2] 77)
  have con := ContainsFunc_any q n c xs y w.heap.size q2 n2 c2 _ (h.below A1) (h2.below A1) (Boxed.new w _ _) l2 hn
  clear h h2
  go_enter Tryz.func74, Tryz.ntmps74
  go_wp2_with fail
  refine con.mono ?_
  rintro e w' ⟨rfl, hb⟩
  go_wp2
  go_ret
  exact ⟨rfl, A1.trans (hb.mono A1.size)⟩
end Go.Proofs.YtedglpfdibamdaaGreatDoor.Frm
namespace Go.Proofs.YtedglpfdibamdaaGreatDoor.S
open Go.RowKit Go.Shelf Go.Sort
attribute [local go_sem] Oper.semAt_some
set_option maxRecDepth 100000 in
set_option maxHeartbeats 1000000 in
theorem Of_new (q : Option Addr) (n c : Nat) (zs : List (List UInt8)) (w : World) (h : SlIn encStr w q n zs) (hq : q = none → c = 0) (hm : n ≤ 1099511627776) :
    Calls Tryz.prog 88 #[.slice q n c] w fun e w' => ∃ q n c, e = .returned (.agg #[.slice q n c]) ∧ SetIs encStr w' (.agg #[.slice q n c]) (setS zs) ∧ (∀ a, q = some a → w.heap.size ≤ a.block) ∧ Below w.heap.size w w' := by
  obtain ⟨i0, hi0, hz0, hz1, hz2⟩ := info_parts info_str
  have b0 := Boxed.new w 75 (.slice none 0 0)
  have h0 := h.alloc (.cells #[.slice none 0 0] 75)
  have hb0 := below_alloc (w := w) (.cells #[.slice none 0 0] 75)
  have hsz : (w.alloc (.cells #[.slice none 0 0] 75)).heap.size = w.heap.size + 1 := by simp
  obtain ⟨W, hW⟩ : ∃ W, w.alloc (.cells #[.slice none 0 0] 75) = W := ⟨_, rfl⟩
  rw [hW] at b0 h0 hb0 hsz
  have hsz' := Lib.hid hsz
  have hl := Lib.hid h.1
  have HW := Lib.hid hW
  clear hsz h hW
  go_enter Tryz.func88, Tryz.ntmps88
  go_wp2_with (at_builtin; refine wpList_append_row (enc := encStr) rfl _ _ 73 9 rfl i0 (.string ByteArray.empty) 16 Tryz.underlying73 hi0 hz0 hz1 hz2 rfl (fun _ => rfl) (by decide) (w.heap.size + 1) (.slice none 0 0) 0 [] rfl (World.ownsRow_nil _ _ _ _) q n c zs rfl hq (by rw [HW.out]; exact h0) (by omega) (by simp) ?_; intro v1 w1 hown hgrow)
  rw [HW.out] at hgrow
  simp only [Nat.zero_add, List.nil_append] at hown
  have hgs := hgrow.size
  rw [hsz'.out] at hgs
  have con := ordered_own (w.heap.size + 1) v1 n zs w1 hown hgs hm
  have hk1 : Keep (fun _ => True) W w1 := Keep.of_grownBy hgrow (fun r hr => by cases hr)
  have b1 := hk1.boxed b0 trivial
  have hb1 : Below w.heap.size w w1 := hb0.trans ((hk1.mono (T := (· < w.heap.size)) fun _ _ _ => trivial).below hb0.size)
  clear hown hgrow hk1
  go_wp2_with fail
  refine con.mono ?_
  rintro e w2 ⟨q2, c2, rfl, hset, hqb, hbel⟩
  have b2 := (Keep.of_below hbel).boxed b1 (by omega)
  have cR := b2.cell
  have fR := b2.frozen
  have hb2 := hb1.trans (hbel.mono (by omega))
  clear con
  obtain ⟨_, _, _, he, hc2, hm2, hsl, hr⟩ := hset
  cases he
  go_wp2
  have hbr2 := (b2.set (.slice q2 (setS zs).length c2)).cell
  refine bodyPost_ret (v := .agg #[.slice q2 (setS zs).length c2]) (by simp [results, Tryz.f88, go_sem, hbr2]) rfl ⟨q2, (setS zs).length, c2, rfl, ⟨q2, (setS zs).length, c2, rfl, hc2, hm2, ?_, hr⟩, (fun a h => by have := (hqb a h).1; omega), hb2.setCell (Nat.le_refl _) _⟩
  exact hsl.keep (Keep.setCell (S := fun b => w.heap.size + 1 ≤ b) w2 ⟨w.heap.size, 0, none⟩ _ (by simp)) fun a h _ => (hqb a h).1
end Go.Proofs.YtedglpfdibamdaaGreatDoor.S
namespace Go.Proofs.YtedglpfdibamdaaGreatDoor.Cls
open Go.RowKit Go.Shelf Url Org Frm
attribute [local go_sem] Oper.semAt_some
def ClsNew (B : Nat) (r : Sum Int (List (List UInt8))) (w : World) (e : Ending) (w' : World) : Prop :=
  ∃ q n c, e = .returned (.tuple #[.agg #[.slice q n c], .int .i64 (errC r)]) ∧ SetIs encStr w' (.agg #[.slice q n c]) (valC r) ∧ (∀ a, q = some a → B ≤ a.block) ∧ Below w.heap.size w w'
set_option maxRecDepth 100000 in
set_option maxHeartbeats 4000000 in
theorem bounded_new (B : Nat) (q : Option Addr) (n c : Nat) (x : List (List UInt8)) (w : World) (h : SetIs encStr w (.agg #[.slice q n c]) x) (hq : ∀ a, q = some a → B ≤ a.block) :
    Calls Tryz.prog 87 #[.agg #[.slice q n c]] w (ClsNew B (bndC x) w) := by
  obtain ⟨W2, hW2⟩ : ∃ W2, (w.alloc (.cells #[.slice q n c] 75)).alloc (.cells #[.slice none 0 0] 77) = W2 := ⟨_, rfl⟩
  have A2 : Below w.heap.size w W2 := hW2 ▸ ((Below.refl _ w).alloc (Nat.le_refl _) _).alloc (by simp) _
  have b1 : Boxed W2 w.heap.size 75 (.slice q n c) := hW2 ▸ (Boxed.new w _ _).alloc _
  have b2 : Boxed W2 (w.heap.size + 1) 77 (.slice none 0 0) := by
    have := Boxed.new (w.alloc (.cells #[.slice q n c] 75)) 77 (.slice none 0 0)
    rw [World.size_alloc] at this
    exact hW2 ▸ this
  have hs2 := h.below A2
  have con := S.Len_any _ x _ hs2
  have c1 := b1.cell
  have HW2 := Lib.hid hW2
  clear h hW2
  have key : ∀ w3, Below W2.heap.size W2 w3 → Boxed w3 (w.heap.size + 1) 77 (.slice none 0 0) ∧ w3.cell? ⟨w.heap.size, 0, none⟩ = some (.slice q n c) ∧ SetIs encStr w3 (.agg #[.slice q n c]) x ∧ Below w.heap.size w w3 := fun w3 hb =>
    ⟨(Keep.of_below hb).boxed b2 b2.lt, ((Keep.of_below hb).boxed b1 b1.lt).cell, hs2.below hb, A2.trans (hb.mono A2.size)⟩
  clear b1 b2 hs2
  unfold bndC
  by_cases hx : x.length ≤ 16
  · rw [if_pos hx]
    have d : decide ((16 : Int) < (x.length : Int)) = false := by simp; omega
    go_enter Tryz.func87, Tryz.ntmps87
    go_wp2_with fail
    rw [HW2.out]
    refine con.mono ?_
    rintro e w3 ⟨rfl, hb⟩
    obtain ⟨k2, k1, k3, k4⟩ := key w3 hb
    have kf := k2.frozen
    have kc := k2.cell
    clear con key hb
    go_wp2
    refine bodyPost_ret (ret_cls2 rfl _ _ (w.heap.size + 1) _ rfl (k2.set _)) rfl ?_
    exact ⟨q, n, c, rfl, k3.set k2 (fun x h => by cases h), hq, k4.setCell (by simp) _⟩
  · rw [if_neg hx]
    have d : decide ((16 : Int) < (x.length : Int)) = true := by simp; omega
    go_enter Tryz.func87, Tryz.ntmps87
    go_wp2_with fail
    rw [HW2.out]
    refine con.mono ?_
    rintro e w3 ⟨rfl, hb⟩
    obtain ⟨k2, k1, k3, k4⟩ := key w3 hb
    have kf := k2.frozen
    have kc := k2.cell
    clear con key hb
    go_wp2
    refine bodyPost_ret (ret_cls2 rfl _ _ (w.heap.size + 1) _ rfl (k2.set _)) rfl ?_
    exact ⟨none, 0, 0, rfl, set_nil _, (fun a h => by cases h), k4.setCell (by simp) _⟩
set_option maxRecDepth 100000 in
set_option maxHeartbeats 8000000 in
theorem Of_new (q : Option Addr) (n c : Nat) (l : List (List UInt8)) (w : World) (h : SlIn encStr w q n l) (hq : q = none → c = 0) (hm : n ≤ 1099511627776) (hlen : ∀ t ∈ l, t.length ≤ 1300) (hG : Gl w) :
    Calls Tryz.prog 54 #[.slice q n c] w (ClsNew w.heap.size (ofC l) w) := by
  have hl := Lib.hid h.1
  obtain ⟨W1, hW1⟩ : ∃ W1, w.alloc (.cells #[.slice none 0 0] 77) = W1 := ⟨_, rfl⟩
  have A1 : Below w.heap.size w W1 := hW1 ▸ (Below.refl _ w).alloc (Nat.le_refl _) _
  have b1 : Boxed W1 w.heap.size 77 (.slice none 0 0) := hW1 ▸ Boxed.new w _ _
  have HW1 := Lib.hid hW1
  have HO := Lib.hid (ofC_bnd l)
  have HL := Lib.hid hlen
  have HG := Lib.hid hG
  clear hW1 hlen hG
  go_enter Tryz.func54, Tryz.ntmps54
  go_wp2_with fail
  rw [HW1.out]
  go_loopw [8] (fun i wr => ∃ k : Nat, k ≤ n ∧ i = .int .i64 k ∧ Hid (∀ j x, j < k → l[j]? = some x → prinB x = true) ∧ Boxed wr w.heap.size 77 (.slice none 0 0) ∧ Below w.heap.size w wr) (fun i _ => n - (intOf i).toNat)
  case atStart => exact ⟨0, Nat.zero_le _, rfl, Lib.hid (fun j x h => by omega), b1, A1⟩
  case round =>
    obtain ⟨k, hk, rfl, HJ, hb, hB⟩ := hrel
    clear b1 A1 HW1
    have kf := hb.frozen
    have hr := h.below hB h.lt
    by_cases hlt : k < n
    · obtain ⟨b, o, rfl, _, hc⟩ := hr.at (by omega)
      obtain ⟨x, hx, _⟩ := drop_getElem l k (by rw [hl.out]; exact hlt)
      have hck : wr.cell? ⟨b, o + k, none⟩ = some (.string ⟨x.toArray⟩) := hc k x hx
      have con := Principal_any x wr (HL.out x (List.mem_of_getElem? hx)) (HG.out.on hB)
      cases hp : prinB x with
      | false =>
        rw [hp] at con
        have HR := Lib.hid (show ofC l = .inl 2 by
          rw [HO.out, if_neg]
          intro ha
          have := List.all_eq_true.1 ha x (List.mem_of_getElem? hx)
          rw [hp] at this; cases this)
        clear hc hx hr h HJ
        go_wp2_with fail
        refine con.mono ?_
        rintro e w3 ⟨rfl, hb3⟩
        replace hb := (Keep.of_below hb3).boxed hb hb.lt
        have kf := hb.frozen
        have kc := hb.cell
        have A3 := hB.trans (hb3.mono hB.size)
        clear con hb3
        go_wp2
        refine bodyPost_ret (ret_cls2 rfl _ _ w.heap.size _ rfl (hb.set _)) rfl ?_
        rw [HR.out]
        exact ⟨none, 0, 0, rfl, set_nil _, (fun a h => by cases h), A3.setCell (Nat.le_refl _) _⟩
      | true =>
        rw [hp] at con
        have HJ2 := Lib.hid (show ∀ j y, j < k + 1 → l[j]? = some y → prinB y = true from fun j y hj hy => by
          by_cases e : j = k
          · subst e; rw [hx] at hy; cases hy; exact hp
          · exact HJ.out j y (by omega) hy)
        clear hc hx hr HJ hp
        go_wp2_with fail
        refine con.mono ?_
        rintro e w3 ⟨rfl, hb3⟩
        replace hb := (Keep.of_below hb3).boxed hb hb.lt
        have A3 := hB.trans (hb3.mono hB.size)
        clear con hb3
        go_wp2
        go_roundw
        case rel => exact ⟨k + 1, by omega, by go_num, HJ2, hb, A3⟩
        case measure => simp [intOf]; omega
    · obtain rfl : k = n := by omega
      have HR := Lib.hid (show ofC l = bndC (setS l) by
        rw [HO.out, if_pos]
        rw [List.all_eq_true]
        intro x hx
        obtain ⟨j, hj, rfl⟩ := List.getElem_of_mem hx
        exact HJ.out j _ (by have := hl.out; omega) (List.getElem?_eq_getElem hj))
      have con := S.Of_new q k c l wr hr hq hm
      clear HJ hr h hlt HL HG HO
      go_wp2_with fail
      refine con.mono ?_
      rintro e w4 ⟨q4, n4, c4, rfl, hs, hqn, hb4⟩
      have con2 := bounded_new w.heap.size q4 n4 c4 (setS l) w4 hs (fun a h => Nat.le_trans hB.size (hqn a h))
      replace hb := (Keep.of_below hb4).boxed hb hb.lt
      have A4 := hB.trans (hb4.mono hB.size)
      clear con hb4 hs kf
      obtain ⟨r, hr⟩ : ∃ r, bndC (setS l) = r := ⟨_, rfl⟩
      rw [hr] at con2 HR
      clear hr
      go_wp2_with fail
      refine con2.mono ?_
      rintro e w5 ⟨q5, n5, c5, rfl, hs, hq5, hb5⟩
      replace hb := (Keep.of_below hb5).boxed hb hb.lt
      have A5 := A4.trans (hb5.mono A4.size)
      have kf := hb.frozen
      have kc := hb.cell
      clear con2 hb5
      go_wp2
      refine bodyPost_ret (ret_cls2 rfl _ _ w.heap.size _ rfl (hb.set _)) rfl ?_
      rw [HR.out]
      exact ⟨q5, n5, c5, rfl, hs.set hb (fun x h => by cases h), hq5, A5.setCell (Nat.le_refl _) _⟩
set_option maxRecDepth 100000 in
set_option maxHeartbeats 8000000 in
theorem Parse_new (q : Option Addr) (n c : Nat) (t : List UInt8) (w : World) (hby : By w (.slice q n c) t) (hn : n ≤ 1300 ∨ 4096 < n ∧ n ≤ 1099511627775) (hG : Gl w) :
    Calls Tryz.prog 84 #[.slice q n c] w (ClsNew w.heap.size (parseC t) w) := by
  obtain ⟨i0, hi0, hz0, hz1, hz2⟩ := info_parts S.info_str
  have hl := hby.at.1
  obtain ⟨W1, hW1⟩ : ∃ W1, w.alloc (.cells #[.slice none 0 0] 77) = W1 := ⟨_, rfl⟩
  have A1 : Below w.heap.size w W1 := hW1 ▸ below_alloc _
  have bR : Boxed W1 w.heap.size 77 (.slice none 0 0) := hW1 ▸ Boxed.new w _ _
  have hs1 : W1.heap.size = w.heap.size + 1 := by rw [← hW1]; simp
  have HW1 := Lib.hid hW1
  clear hW1
  refine (callsIn_wide (n := 1)).1 ?_
  refine callsIn_of_wp_marks Tryz.func84 rfl trivial ?_ rfl
  simp only [Tryz.ntmps84, List.size_toArray, List.length_cons, List.length_nil, Nat.reduceAdd, Nat.reduceSub, Array.replicate_succ, Array.replicate_zero, List.push_toArray, List.append_toArray, List.nil_append, List.cons_append]
  by_cases hbig : 4096 < n
  · have d : decide ((4096 : Int) < (n : Int)) = true := by simp; omega
    have HR := Lib.hid (parseC_long t (by omega))
    have kf := bR.frozen
    have kc := bR.cell
    clear hby hl hn hG
    gi_wp2_with fail
    rw [HW1.out]
    gi_wp2
    refine ⟨_, ret_cls2 rfl _ _ w.heap.size _ rfl bR, ?_⟩
    rw [HR.out]
    exact ⟨none, 0, 0, rfl, set_nil _, (fun a h => by cases h), A1⟩
  have hn2 : n ≤ 1300 := by omega
  have d : decide ((4096 : Int) < (n : Int)) = false := by simp; omega
  have hb1 := hby.on A1
  have con := Trim_by q n c t W1 hb1 (by omega)
  have HT := Lib.hid (trim_len t)
  have HG := Lib.hid hG
  have HL := Lib.hid hl
  have HP1 := Lib.hid (fun h2 => parseC_never t (by omega) h2)
  have HP2 := Lib.hid (fun h2 => parseC_of t (by omega) h2)
  clear hby hn hG
  obtain ⟨T, hT⟩ : ∃ T, trimB t = T := ⟨_, rfl⟩
  rw [hT] at con HP1 HP2 HT
  clear hT hbig
  gi_wp2_with fail
  rw [HW1.out]
  gi_wp2_with fail
  refine ⟨trivial, (callsIn_wide.2 con).mono ?_⟩
  rintro e W2 ⟨q2, c2, rfl, hb2, hbel⟩
  have hcv := conv_by hb2
  have hb0 := hb1.on hbel
  replace bR := (Keep.of_below hbel).boxed bR bR.lt
  have A2 := A1.trans (hbel.mono A1.size)
  have hs2 := hbel.size
  have kf := bR.frozen
  have kc := bR.cell
  have e1 : (T == [110, 101, 118, 101, 114]) = decide (T = neverS) := by
    rw [Bool.eq_iff_iff, beq_iff_eq, decide_eq_true_iff]; rfl
  generalize hlT : T.length = m at *
  clear con hb1 hb2 hbel hlT HW1
  by_cases hnv : T = neverS
  · have HR := Lib.hid (HP1.out hnv)
    rw [decide_eq_true hnv] at e1
    clear hnv HP1 HP2 hb0
    gi_wp2
    refine ⟨_, ret_cls2 rfl _ _ w.heap.size _ rfl (bR.set _), ?_⟩
    rw [HR.out]
    exact ⟨none, 0, 0, rfl, set_nil _, (fun a h => by cases h), A2.setCell (Nat.le_refl _) _⟩
  have HR := Lib.hid (HP2.out hnv)
  rw [decide_eq_false hnv] at e1
  clear hnv HP1 HP2
  obtain ⟨h1, h2, h3, h4, h5⟩ := hb0.at
  obtain ⟨W3, hW3⟩ : ∃ W3, W2.alloc (.cells #[.slice none 0 0] 73) = W3 := ⟨_, rfl⟩
  have b0 : Boxed W3 W2.heap.size 73 (.slice none 0 0) := hW3 ▸ Boxed.new W2 _ _
  have hB3 : Below W2.heap.size W2 W3 := hW3 ▸ below_alloc _
  have hs3 : W3.heap.size = W2.heap.size + 1 := by rw [← hW3]; simp
  have con := Split_any q n c 124 t W3 h1 (by omega) (bytes_keep h5 (Keep.of_below hB3) (fun a h1 h2 => bytes_lt h5 a h1 h2))
  have hsm := Lib.hid (splitX_small 124 t n hl)
  have hlx := Lib.hid (show (splitX 124 t).length ≤ n + 1 by have := splitX_len 124 t; omega)
  have HW3 := Lib.hid hW3
  clear hW3 h1 h2 h3 h4 h5 hb0
  gi_wp2_with fail
  rw [HW3.out]
  refine ⟨trivial, (callsIn_wide.2 con).mono ?_⟩
  rintro e W4 ⟨B, v', rfl, hB, hBc, hrow, hBl, hbel⟩
  have hit := Split_iter (by omega) hB hBc hrow
  obtain ⟨RB, hRB⟩ : ∃ RB : Nat → Prop, RB = fun b => b = B ∨ b = W3.heap.size ∨ v'.ownBlock = some b := ⟨_, rfl⟩
  have hRl : ∀ b, RB b → W2.heap.size + 1 ≤ b ∧ b < W4.heap.size := fun b hb => by
    rw [hRB] at hb
    rcases hb with rfl | rfl | hb
    · exact ⟨by omega, hB.lt⟩
    · exact ⟨by omega, hBc.lt⟩
    · have := hrow.lt b hb; exact ⟨by omega, this.2⟩
  rw [← hRB, hs3] at hit
  have hB4 : Below W2.heap.size W2 W4 := hB3.trans (hbel.mono (by omega))
  replace b0 := (Keep.of_below hbel).boxed b0 (by omega)
  replace bR := (Keep.of_below hB4).boxed bR bR.lt
  have A4 := A2.trans (hB4.mono A2.size)
  have hs4 := hbel.size
  clear con hB hBc hrow hBl hbel HW3 hRB hB3 hB4 kf kc
  generalize splitX 124 t = xs at *
  gi_wp2
  refine rf_law (gf := 119) (lb := #[.pointer (some ⟨B, 0, none⟩), .pointer (some ⟨W2.heap.size + 1, 0, none⟩)]) rfl (enters_of Tryz.func119 (by kernel_rfl) rfl)
    hit (Keep.refl _ _) (fun b hb => (hRl b hb).2) (fun x args G W h => by obtain ⟨v, rfl, _⟩ := h; rfl)
    (SpI 73 9 W2.heap.size (fun b => b < W2.heap.size) W4) (fun _ _ _ _ => False) (fun s Pv Pv' A B h hk hp => ColI_abide _ _ _ _ _ (by omega) (fun b hb => by omega) (trimX s) Pv Pv' A B h hk hp) (fun _ _ _ _ _ _ h _ _ => h)
    ⟨_, b0, World.ownsRow_nil _ _ _ _, (fun _ h => h.elim), (fun _ h => by cases h), Keep.refl _ _⟩ ?round ?done ?stop
  case round =>
    rintro ll pre ⟨xi, x⟩ rest Pv G args Wr hll hxs ⟨v, hbx, hrow, hge, hnv, hKW⟩ hPl hGl hPb hGP ⟨p, rfl, hp, rfl⟩
    have hxl := hsm.out (xi, x) (by rw [hxs]; simp)
    have hpl : pre.length + 1 ≤ n + 1 := by
      have h1 := hlx.out
      rw [hxs, List.length_append, List.length_cons] at h1
      omega
    simp only at hxl hp
    obtain ⟨qx, cx, rfl, _, hnc, hcm, hbs, hblk⟩ := row_open hp
    have hbyx : By Wr (.slice qx x.length cx) x := By.row hp
    clear hxs
    gi_wp2
    refine ⟨Keep.refl _ _, fun W5 hk5 hs5 r hr => ?_⟩
    have hnP : ∀ b, b < W4.heap.size → ¬ Pv b := fun b hb h => by have := hge b h; omega
    have hk5' : Keep (fun b => ¬ Pv b) Wr W5 := hk5.mono fun b _ hb h => hb (h ▸ hPl)
    replace hbx := hk5'.boxed hbx (hnP _ (by omega))
    replace hrow := hk5'.row hrow hnv
    have hK5 : Keep (fun b => b < W2.heap.size) W4 W5 := hKW.trans (hk5'.mono fun b _ hb => hnP b (by omega))
    have hPl5 : ∀ b, Pv b → b < W5.heap.size := fun b hb => by rw [hs5]; exact hPb b hb
    have gx : Keep (fun b => (Value.slice qx x.length cx).ownBlock = some b) Wr W5 := hk5.mono fun b _ hb h => hGl (h ▸ hb)
    have hbs5 : Lib.BytesIn W5 qx x.length (Lib.numsL x) := bytes_keep hbs gx (fun a ha _ => (hblk a ha).2.2)
    have hby5 : By W5 (.slice qx x.length cx) x := by
      obtain ⟨g1, g2, g3, g4, _⟩ := hbyx.at
      exact By.of g1 g2 g3 (fun h => (g4 h).2) hbs5
    have hszW := hK5.size
    have hlen : (trimX pre).length = pre.length := by unfold trimX; simp
    rw [hlen] at hrow
    clear hr hk5 hk5' hs5 hKW hbs hp hbyx hblk gx hbs5
    obtain ⟨Wd, hWd⟩ : ∃ Wd, W5.drew = Wd := ⟨_, rfl⟩
    have hkd : ∀ S, Keep S W5 Wd := fun S => by rw [← hWd]; exact Keep.drew S W5
    replace hbx := (hkd (fun _ => True)).boxed hbx trivial
    replace hrow := (hkd (fun _ => True)).row hrow (fun _ _ => trivial)
    have hbyd : By Wd (.slice qx x.length cx) x := by rw [← hWd]; exact hby5.drew
    have hKd := hK5.trans (hkd _)
    have hszd : Wd.heap.size = W5.heap.size := by rw [← hWd]; rfl
    have con := Trim_by qx x.length cx x Wd hbyd (by omega)
    have HT := Lib.hid (trim_len x)
    have HSN := Lib.hid (trimX_snoc pre xi x)
    generalize trimB x = T at *
    have c0 := hbx.cell
    have HWd := Lib.hid hWd
    clear hWd hby5 hbyd hcv
    gi_wp2_with fail
    refine region_anyO (fun j => decide (j ≠ 6)) (fun X => X.cell? ⟨W2.heap.size, 0, none⟩ = some v) (by kernel_rfl) ?_
    rw [HWd.out]
    refine anyO_take 0 (v := v) rfl (by kernel_rfl) (by kernel_rfl) (by kernel_rfl) (by kernel_rfl) (by kernel_rfl) (fun _ _ _ h => h) ⟨.inl ⟨by rfl, ?_⟩, fun _ => rfl⟩ c0 ?_
    · rintro w h1; go_simp
    refine anyO_one 1 (by kernel_rfl) rfl fun K hK => ?_
    go_simp
    refine hK _ _ (fun _ => c0) ?_
    clear hK K
    refine anyO_one 2 (by kernel_rfl) rfl fun K hK => ?_
    go_simp
    refine ⟨trivial, rfl, (CallsIn.inRound ll (callsIn_wide.2 con)).mono ?_⟩
    rintro e w4 ⟨q4, c4, rfl, hb4, hbel⟩
    have hbx4 := (Keep.of_below hbel).boxed hbx hbx.lt
    have hrow4 := (Keep.of_below hbel).row hrow (fun b hb => (hrow.lt b hb).2)
    have hcv := conv_by hb4
    have hsz4 := hbel.size
    have c4' := hbx4.cell
    refine hK _ _ (fun _ => c4') ?_
    clear hK K con
    refine anyO_one 3 (by kernel_rfl) rfl fun K hK => ?_
    go_simp
    refine hK _ _ (fun _ => c4') ?_
    clear hK K
    refine anyO_one 4 (by kernel_rfl) rfl fun K hK => ?_
    go_simp
    have c5' := (hbx4.alloc (.cells #[.string ⟨T.toArray⟩] 9)).cell
    refine hK _ _ (fun _ => c5') ?_
    clear hK K
    refine anyO_one 5 (by kernel_rfl) rfl fun K hK => ?_
    rw [if_pos (by rfl)]
    refine S.wpIn_append_own _ _ 73 rfl W4.heap.size 9 i0 (.string ByteArray.empty) 1 16 Tryz.underlying73 hi0 hz0 hz1 hz2 rfl (by decide) v pre.length _ rfl (hrow4.alloc _) ⟨w4.heap.size, 0, none⟩ 1 1 [encStr T] rfl rfl (cell_one_new _ _ _) (by simp [encStr, Value.oneCell']) (by unfold maxLen; omega) (by omega) (by simp; omega) ?_
    intro v2 w6 hown' hgrow hat
    obtain ⟨g', cap', rfl⟩ := ownsRow_succ hown'
    obtain ⟨hv1, hv2, hr2, hkk⟩ := appended_keep (S := fun b => RB b ∨ Pv b ∨ b < W2.heap.size) hbx4 (by decide) hrow4 (fun h => by rcases h with h | h | h; (have := hRl _ h; omega); exact hnP W2.heap.size (by omega) h; omega) (fun b hb h => by have h0 := (hrow4.lt b hb).1; rcases h with h | h | h; (have := hRl _ h; omega); exact hnv b hb h; omega) hown' hgrow
    have c6 := hv1.cell
    have f6 := hv1.frozen
    refine hK _ _ (fun _ => c6) ?_
    clear hK K
    refine anyO_one 6 (by kernel_rfl) rfl fun K hK => ?_
    go_simp
    refine hK _ _ (fun h => absurd h (by decide)) ?_
    clear hK K
    refine anyO_done (by kernel_rfl) ?_ _
    clear c6 f6 c5' c4' hcv c0
    gi_wp2
    have hk0 : ∀ S : Nat → Prop, (∀ b, S b → b < Wd.heap.size) → Keep S W5 w4 := fun S hS => (hkd S).trans ((Keep.of_below hbel).mono fun b _ h => hS b h)
    have hRd : ∀ b, RB b ∨ Pv b ∨ b < W2.heap.size → b < Wd.heap.size := fun b hb => by
      rcases hb with h | h | h
      · have := hRl b h; omega
      · rw [hszd]; exact hPl5 b h
      · omega
    have hkk2 := (hk0 _ hRd).trans hkk
    refine ⟨hkk2.mono fun b _ h => h.elim .inl fun h => .inr (.inl h.1), _, hv2, ?_, fun b hb => hge b hb.1, fun b hb hp => ?_, hK5.trans (hkk2.mono fun b _ h => .inr (.inr h))⟩
    · rw [HSN.out, List.length_append, List.length_singleton, hlen]
      simpa using hr2
    · rcases hat with h | h
      · exact hnv b (h ▸ hb) hp.1
      · rw [h] at hb; cases hb; have h5 := hPl5 _ hp.1; simp at h5; omega
  case done =>
    rintro D Pv Wd hD hPD hPl ⟨v, hbx, hrow, hge, hnv, hKW⟩ hK
    obtain ⟨q5, c5, rfl, hc5, _, hs5, _⟩ := slIn_of_owns hrow
    have hA : Keep (fun b => b < W2.heap.size) W4 Wd := hKW
    have bRd := hA.boxed bR (by have := A2.size; omega)
    have hBd : Below w.heap.size w Wd := A4.trans ((hA.mono fun b _ h => by have := A2.size; omega).below A4.size)
    have hxl : ∀ y ∈ trimX xs, y.length ≤ 1300 := fun y hy => by
      obtain ⟨p, hp, rfl⟩ := List.mem_map.1 hy
      have h1 := hsm.out p hp
      have h2 := trim_len p.2
      omega
    have hcnt : (trimX xs).length ≤ 1099511627776 := by
      unfold trimX
      rw [List.length_map]
      have := hlx.out
      omega
    have con := Of_new q5 _ c5 (trimX xs) Wd hs5 (fun h => by subst h; exact (row_nil hrow).2) hcnt hxl (HG.out.on hBd)
    have cB := hbx.cell
    generalize (trimX xs).length = m5 at *
    rw [← HR.out] at con
    have hDl := hPl D hPD
    clear hs5 hrow hbx hnv hge hKW hA hxl hcnt b0 hit
    gi_wp2_with fail
    refine ⟨trivial, (callsIn_wide.2 con).mono ?_⟩
    rintro e w6 ⟨q6, n6, c6, rfl, hs6, hq6, hb6⟩
    have hD6 : w6.heap[D]? = some (.deferred (some [])) := (hb6.block D hDl).trans hK
    have bR6 := (Keep.of_below hb6).boxed bRd bRd.lt
    have A6 := hBd.trans (hb6.mono hBd.size)
    have kf := bR6.frozen
    have kc := bR6.cell
    have hs7 := hs6.set (u' := .slice q6 n6 c6) bR6 (fun x h => by cases h)
    have bR7 := bR6.set (.slice q6 n6 c6)
    have hwD : w.heap.size < D := by have := A2.size; omega
    have hD7 : (w6.setCell ⟨w.heap.size, 0, none⟩ (.slice q6 n6 c6)).heap[D]? = some (.deferred (some [])) := (Keep.setCell (S := fun b => b ≠ w.heap.size) w6 _ _ (by simp)).heap (by omega) hD6
    have A7 : Below w.heap.size w (w6.setCell ⟨w.heap.size, 0, none⟩ (.slice q6 n6 c6)) := A6.setCell (Nat.le_refl _) _
    clear con cB hb6
    gi_wp2
    refine ⟨by simp, .inl ⟨_, _, rfl, run_takeDeferred hD7, ?_⟩⟩
    have hkP : ∀ S : Nat → Prop, ¬ S D → Keep S (w6.setCell ⟨w.heap.size, 0, none⟩ (.slice q6 n6 c6)) ((w6.setCell ⟨w.heap.size, 0, none⟩ (.slice q6 n6 c6)).putObj D (.deferred none)) := fun S hS => Keep.putObj _ D _ hS
    refine ⟨_, ret_cls2 rfl _ _ w.heap.size _ rfl ((hkP (fun b => b ≠ D) (by simp)).boxed bR7 (by omega)), q6, n6, c6, rfl, set_put hs7 hD7, (fun a h => Nat.le_trans hBd.size (hq6 a h)), ?_⟩
    exact ((Keep.of_below A7).trans (hkP _ (by omega))).below (Nat.le_refl _)
  case stop =>
    rintro D c pre rest Pv Wd _ _ _ _ h _
    exact h.elim
end Go.Proofs.YtedglpfdibamdaaGreatDoor.Cls
namespace Go.Proofs.YtedglpfdibamdaaGreatDoor.Cls
open Go.RowKit Go.Shelf Url Org Frm
attribute [local go_sem] Oper.semAt_some
end Go.Proofs.YtedglpfdibamdaaGreatDoor.Cls
namespace Go.Proofs.YtedglpfdibamdaaGreatDoor.Frm
open Go.RowKit Go.Shelf Go.Sort Url Org Cls
attribute [local go_sem] Oper.semAt_some
set_option linter.unusedVariables false
theorem info_cls : (Tryz.prog.info? 77).map (fun i => (i.zero, i.size, i.bytes)) = some (some (.agg #[.slice none 0 0]), 1, 24) := by kernel_rfl
theorem wpList_append_cls {ops : Array Oper} {rest : List Oper} {o : Oper} {a : Act} {w : World} {Q : Exit → Act → World → Prop} (hgd : o.guard = none) (s x : Operand)
    (ho : o.op = .call { callee := .builtin .append, args := #[s, x], argTypes := #[29, 29] })
    (base : Nat) (v : Value) (n : Nat) (xs : List Value) (hs : a.eval s = v) (hown : w.ownsRow base 77 1 v n xs) (q : Option Addr) (m c : Nat) (zs : List Cl) (hx : a.eval x = .slice q m c) (hq : q = none → c = 0)
    (hb : SlIn encC w q m zs) (h47 : n + m ≤ 2199023255552) (hbase : base ≤ w.heap.size)
    (h : ∀ v' w', w'.ownsRow base 77 1 v' (n + m) (xs ++ zs.map encC) → w.grownBy w' v.ownBlock → wpList Tryz.prog ops Q rest (a.put o.dst v') w') : wpList Tryz.prog ops Q (o :: rest) a w := by
  obtain ⟨i0, hi0, hz0, hz1, hz2⟩ := info_parts info_cls
  cases q with
  | none =>
    obtain rfl := hq rfl
    have hm : m = 0 := by
      rcases Nat.eq_zero_or_pos m with h0 | h0
      · exact h0
      · obtain ⟨b, o, he, _⟩ := hb.at h0; cases he
    subst hm
    obtain rfl : zs = [] := List.eq_nil_of_length_eq_zero hb.1
    refine wpList_append_own_none hgd s x _ ho base 77 i0 1 Tryz.underlying29 hi0 v n xs hs hown hx (h v w ?_ ⟨rfl, rfl, rfl, Nat.le_refl _, fun _ _ _ => rfl⟩)
    simpa using hown
  | some ad =>
    refine wpList_append_own w hgd s x _ ho base 77 i0 (.agg #[.slice none 0 0]) 1 24 Tryz.underlying29 hi0 hz0 hz1 hz2 rfl (by decide) v n xs hs hown ad m c (zs.map encC) hx (by simp [hb.1]) (fun j u hj => ?_) (fun u hu => by obtain ⟨y, _, rfl⟩ := List.mem_map.1 hu; rfl) (by unfold maxLen; omega) (by omega) hbase (fun v' w' h1 h2 _ => h v' w' h1 h2)
    rw [List.getElem?_map] at hj
    cases hy : zs[j]? with
    | none => rw [hy] at hj; cases hj
    | some y =>
      rw [hy] at hj
      cases hj
      have hjl : j < zs.length := (List.getElem?_eq_some_iff.1 hy).1
      obtain ⟨b, o, he, _, hcc⟩ := hb.at (by have := hb.1; omega)
      cases he
      rw [Go.WideShapes.add_plain]
      exact hcc j y hy
set_option maxRecDepth 100000 in
set_option maxHeartbeats 4000000 in
theorem Clone_any (q : Option Addr) (n c : Nat) (zs : List Cl) (w : World) (h : SlIn encC w q n zs) (hq : q = none → c = 0) (hn : n ≤ 1099511627776) :
    Calls Tryz.prog 123 #[.slice q n c] w fun e w' => ∃ v, e = .returned v ∧ w'.ownsRow w.heap.size 77 1 v n (zs.map encC) ∧ Below w.heap.size w w' := by
  have q24 : ∀ (w : World) (a : Option Addr) (n c n' c' : Nat), (binOp .eql 29 (.slice a n c) (.slice none n' c')).run Tryz.prog w = .ok (.bool a.isNone) w := fun w a n c n' c' => Lib.run_eql_slice_nil w _ _ a n c n' c' Tryz.underlying29
  cases q with
  | none =>
    obtain rfl := hq rfl
    have hm : n = 0 := by
      rcases Nat.eq_zero_or_pos n with h0 | h0
      · exact h0
      · obtain ⟨b, o, he, _⟩ := h.at h0; cases he
    subst hm
    obtain rfl : zs = [] := List.eq_nil_of_length_eq_zero h.1
    clear h hq
    go_enter Tryz.func123, Tryz.ntmps123
    go_wp2
    go_ret
    exact ⟨_, rfl, World.ownsRow_nil _ _ _ _, Below.refl _ _⟩
  | some ad =>
    have HB := Lib.hid (h.alloc (.cells #[] 77))
    clear h hq
    go_enter Tryz.func123, Tryz.ntmps123
    go_wp2_with (at_builtin; refine wpList_append_cls rfl _ _ rfl w.heap.size _ 0 [] rfl (World.ownsRow_made w #[] 0 (Nat.le_refl _) (Nat.zero_le _) rfl) (some ad) n c zs rfl (fun h => by cases h) HB.out (by omega) (by simp) ?_; intro v1 w1 hown hgrow)
    go_wp2
    go_ret
    refine ⟨_, rfl, by simpa using hown, ((Below.refl _ w).alloc (Nat.le_refl _) _).grown hgrow (by simp) (fun k hk => by have e : some w.heap.size = some k := hk; cases e; exact Nat.le_refl _)⟩
def Grew (w w' : World) : Prop := ∃ q os, w' = grow (w.drewN q) os
theorem Grew.trans {a b c : World} (h : Grew a b) (k : Grew b c) : Grew a c := by
  obtain ⟨n, os, rfl⟩ := h
  obtain ⟨m, os', rfl⟩ := k
  exact ⟨n + m, os ++ os', by show grow (grow ((a.drewN n).drewN m) os) os' = _; rw [grow_grow, World.drewN_drewN]⟩
theorem Grew.alloc (w : World) (o : Obj) : Grew w (w.alloc o) := ⟨0, #[o], by rw [alloc_eq_grow]; rfl⟩
theorem setLen_grew (q : Option Addr) (n c : Nat) (w : World) :
    Calls Tryz.prog 121 #[.agg #[.slice q n c]] w fun e w' => e = .returned (.int .i64 n) ∧ w' = w.alloc (.cells #[.slice q n c] 75) := by
  go_enter Tryz.func121, Tryz.ntmps121
  go_wp2
  go_ret
  exact ⟨rfl, rfl⟩
theorem clsLen_grew (q : Option Addr) (n c : Nat) (w : World) :
    Calls Tryz.prog 126 #[.agg #[.slice q n c]] w fun e w' => e = .returned (.int .i64 n) ∧ ∃ q os, w' = grow (w.drewN q) os := by
  have con := setLen_grew q n c (w.alloc (.cells #[.slice q n c] 77))
  go_enter Tryz.func126, Tryz.ntmps126
  go_wp2_with fail
  refine con.mono ?_
  rintro e w' ⟨rfl, rfl⟩
  go_wp2
  go_ret
  exact ⟨rfl, (Grew.alloc _ _).trans (Grew.alloc _ _)⟩
set_option maxRecDepth 100000 in
set_option maxHeartbeats 8000000 in
theorem short1_any (q1 : Option Addr) (n1 c1 : Nat) (q2 : Option Addr) (n2 c2 : Nat) (w : World) :
    Calls Tryz.prog 124 #[.agg #[.slice q1 n1 c1], .agg #[.slice q2 n2 c2]] w fun e w' => e = .returned (.int .i64 (Lib.compareInt n1 n2)) ∧ ∃ q os, w' = grow (w.drewN q) os := by
  obtain ⟨W, hW⟩ : ∃ W, (w.alloc (.cells #[.slice q1 n1 c1] 77)).alloc (.cells #[.slice q2 n2 c2] 77) = W := ⟨_, rfl⟩
  have k1 : ∀ n os, (grow (W.drewN n) os).cell? ⟨w.heap.size, 0, none⟩ = some (.slice q1 n1 c1) := fun n os => cell_grown (by rw [← hW]; simp; omega) (by rw [← hW]; exact ((Boxed.new w _ _).alloc _).cell) n os
  have k2 : ∀ n os, (grow (W.drewN n) os).cell? ⟨w.heap.size + 1, 0, none⟩ = some (.slice q2 n2 c2) := fun n os => cell_grown (by rw [← hW]; simp) (by
    have := Boxed.new (w.alloc (.cells #[.slice q1 n1 c1] 77)) 77 (.slice q2 n2 c2)
    rw [World.size_alloc] at this
    rw [← hW]; exact this.cell) n os
  have hG : Grew w W := by rw [← hW]; exact (Grew.alloc _ _).trans (Grew.alloc _ _)
  have hcmp := fun W' => cmpInt n1 n2 W'
  have mixed : Tryz.prog.follows .mixedOrders = true := by kernel_rfl
  have HW := Lib.hid hW
  clear hW
  generalize Lib.compareInt n1 n2 = r at hcmp ⊢
  go_enter Tryz.func124, Tryz.ntmps124
  go_wp2_with fail
  rw [HW.out]
  go_quiet_grown (first
    | (go_at_call 126; exact Calls.grown_of (clsLen_grew _ _ _ _))
    | (go_at_call 125; exact Calls.grown_of ((hcmp _).mono fun e w' ⟨he, hw⟩ => ⟨he, 0, #[], by rw [hw, grow_empty]; rfl⟩)))
  go_wp2
  go_ret
  exact ⟨rfl, hG.trans ⟨_, _, rfl⟩⟩
theorem setCmp_grew (q1 : Option Addr) (n1 c1 : Nat) (q2 : Option Addr) (n2 c2 : Nat) (xs ys : List (List UInt8)) (w : World) (h1 : SetIs encStr w (.agg #[.slice q1 n1 c1]) xs) (h2 : SetIs encStr w (.agg #[.slice q2 n2 c2]) ys) :
    Calls Tryz.prog 58 #[.agg #[.slice q1 n1 c1], .agg #[.slice q2 n2 c2]] w fun e w' => e = .returned (.int .i64 (cmpL xs ys)) ∧ ∃ q os, w' = grow (w.drewN q) os := by
  obtain ⟨_, _, _, he1, _, hn1, hs1, _⟩ := h1
  cases he1
  obtain ⟨_, _, _, he2, _, hn2, hs2, _⟩ := h2
  cases he2
  have con := S.Compare_any q1 q2 n1 c1 n2 c2 xs ys _ ((hs1.alloc (.cells #[.slice q1 n1 c1] 75)).alloc (.cells #[.slice q2 n2 c2] 75)) ((hs2.alloc _).alloc _) hn1 hn2
  clear hs1 hs2
  generalize cmpL xs ys = r at con ⊢
  go_enter Tryz.func58, Tryz.ntmps58
  go_wp2_with fail
  refine con.mono ?_
  rintro e w' ⟨rfl, rfl⟩
  go_wp2
  go_ret
  exact ⟨rfl, (Grew.alloc _ _).trans (Grew.alloc _ _)⟩
theorem clsCmp_grew (q1 : Option Addr) (n1 c1 : Nat) (q2 : Option Addr) (n2 c2 : Nat) (xs ys : List (List UInt8)) (w : World) (h1 : SetIs encStr w (.agg #[.slice q1 n1 c1]) xs) (h2 : SetIs encStr w (.agg #[.slice q2 n2 c2]) ys) :
    Calls Tryz.prog 33 #[.agg #[.slice q1 n1 c1], .agg #[.slice q2 n2 c2]] w fun e w' => e = .returned (.int .i64 (cmpL xs ys)) ∧ ∃ q os, w' = grow (w.drewN q) os := by
  have A1 := below_alloc (w := w) (.cells #[.slice q1 n1 c1] 77)
  have A2 := A1.trans ((below_alloc (w := w.alloc (.cells #[.slice q1 n1 c1] 77)) (.cells #[.slice q2 n2 c2] 77)).mono A1.size)
  have con := setCmp_grew q1 n1 c1 q2 n2 c2 xs ys _ (h1.below A2) (h2.below A2)
  clear h1 h2 A1 A2
  generalize cmpL xs ys = r at con ⊢
  go_enter Tryz.func33, Tryz.ntmps33
  go_wp2_with fail
  refine con.mono ?_
  rintro e w' ⟨rfl, hg⟩
  go_wp2
  go_ret
  exact ⟨rfl, ((Grew.alloc _ _).trans (Grew.alloc _ _)).trans hg⟩
end Go.Proofs.YtedglpfdibamdaaGreatDoor.Frm
