/- The texts that these laws rest on, put together, part 3. Conditions: as each says. -/
import Derived.Test.YtpabhppghljipaaGreatDoorBaseB
import Derived.Laws.ResultCell
import Derived.Laws.Rows
import Derived.Lib.Join
import Derived.Lib.ConvBytes

namespace Go.Proofs.YtpabhppghljipaaGreatDoor.Url
open Go.RowKit Go.Shelf
attribute [local go_sem] Oper.semAt_some

/-- The cells of block B. -/
def Box (B : Nat) (cs : Array Value) (X : World) : Prop := ∀ i x, cs[i]? = some x → X.cell? ⟨B, i, none⟩ = some x
theorem Box.on {B : Nat} {cs : Array Value} {X Y : World} (h : Box B cs X) (hk : Below X.heap.size X Y) : Box B cs Y := fun i x hx => cell_on (h i x hx) hk
theorem Box.below {B M : Nat} {cs : Array Value} {X Y : World} (h : Box B cs X) (hk : Below M X Y) (hB : B < M) : Box B cs Y := fun i x hx => cell_below (h i x hx) hk hB
theorem Box.new (w : World) (cs : Array Value) (t : TypeId) : Box w.heap.size cs (w.alloc (.cells cs t)) := fun i x h => box_cell w cs t i x h
set_option maxRecDepth 100000 in
set_option maxHeartbeats 8000000 in
theorem Text_any (u : U) (v : Value) (w : World) (h : UrlIn w v u) (hok : Ok u) (hG : Gl w) (hlen : (textU u).length ≤ 1048576) :
    Calls Tryz.prog 139 #[v] w fun e w' => ∃ v', e = .returned v' ∧ w'.ownsRow w.heap.size 5 1 v' (textU u).length (byV (textU u)) ∧ Below w.heap.size w w' := by
  obtain ⟨q0, n0, c0, q1, n1, c1, q3, n3, c3, q4, n4, c4, q5, n5, c5, rfl, h0, h1, h3, h4, h5⟩ := h
  have hT := text_server u
  have hql : (queryT u).length = if u.hq then u.query.length + 1 else 0 := by unfold queryT; split <;> simp
  have hfl : (fragT u).length = if u.hf then u.frag.length + 1 else 0 := by unfold fragT; split <;> simp
  have hlt : (serverT u).length + u.path.length + (queryT u).length + (fragT u).length ≤ 1048576 := by rw [hT] at hlen; simp only [List.length_append] at hlen; omega
  have HQ := Lib.hid (show queryT u = if u.hq then 63 :: u.query else [] from rfl)
  have HF := Lib.hid (show fragT u = if u.hf then 35 :: u.frag else [] from rfl)
  have HT := Lib.hid hT
  clear hT
  obtain ⟨W1, hW1⟩ : ∃ W1, w.alloc (.cells #[.slice q0 n0 c0, .slice q1 n1 c1, .int .i64 u.port, .slice q3 n3 c3, .slice q4 n4 c4, .slice q5 n5 c5, .bool u.hq, .bool u.hf] 163) = W1 := ⟨_, rfl⟩
  have hs1 : W1.heap.size = w.heap.size + 1 := by rw [← hW1]; simp
  have hB1 : Below w.heap.size w W1 := by rw [← hW1]; exact (Below.refl _ w).alloc (Nat.le_refl _) _
  have hbox : Box w.heap.size #[.slice q0 n0 c0, .slice q1 n1 c1, .int .i64 u.port, .slice q3 n3 c3, .slice q4 n4 c4, .slice q5 n5 c5, .bool u.hq, .bool u.hf] W1 := by rw [← hW1]; exact Box.new w _ _
  have hin : UrlIn W1 (.agg #[.slice q0 n0 c0, .slice q1 n1 c1, .int .i64 u.port, .slice q3 n3 c3, .slice q4 n4 c4, .slice q5 n5 c5, .bool u.hq, .bool u.hf]) u := UrlIn.on ⟨q0, n0, c0, q1, n1, c1, q3, n3, c3, q4, n4, c4, q5, n5, c5, rfl, h0, h1, h3, h4, h5⟩ hB1
  have con := fun X (hX : Below W1.heap.size W1 X) => server_any u _ X (hin.on hX) hok ((hG.on hB1).on hX) hlen
  have HW1 := Lib.hid hW1
  clear hW1 hin hok hG hlen
  generalize u.hq = bq at *
  generalize u.hf = bf at *
  go_enter Tryz.func139, Tryz.ntmps139
  go_wp2_with fail
  rw [HW1.out]
  refine pregion_any (Box w.heap.size #[.slice q0 n0 c0, .slice q1 n1 c1, .int .i64 u.port, .slice q3 n3 c3, .slice q4 n4 c4, .slice q5 n5 c5, .bool bq, .bool bf]) (by kernel_rfl) ?_
  have hS0 : Box w.heap.size #[.slice q0 n0 c0, .slice q1 n1 c1, .int .i64 u.port, .slice q3 n3 c3, .slice q4 n4 c4, .slice q5 n5 c5, .bool bq, .bool bf] W1.drew := hbox
  have con' := con _ ((Below.refl _ _).drew)
  have hBd : Below w.heap.size w W1.drew := hB1.drew
  have hsd : W1.drew.heap.size = w.heap.size + 1 := hs1
  clear con hbox HW1 hB1 hs1
  generalize W1.drew = X at *
  refine wpAnyH_take (i := 0) (v := (.agg #[.slice q0 n0 c0, .slice q1 n1 c1, .int .i64 u.port, .slice q3 n3 c3, .slice q4 n4 c4, .slice q5 n5 c5, .bool bq, .bool bf])) rfl (by kernel_rfl) (by kernel_rfl) (by kernel_rfl) (fun _ _ _ h => h) (.inl ⟨by kernel_rfl, ?_⟩) hS0 ?_
  · rintro w h; have e0 := h 0 _ rfl; have e1 := h 1 _ rfl; have e2 := h 2 _ rfl; have e3 := h 3 _ rfl; have e4 := h 4 _ rfl; have e5 := h 5 _ rfl; have e6 := h 6 _ rfl; have e7 := h 7 _ rfl; go_simp
  refine plist #[true, false, false, false, false, false] (by kernel_rfl) ?_
  refine wpAnyH_take (i := 2) (v := (.pointer (some ⟨w.heap.size, 3, none⟩))) rfl (by kernel_rfl) (by kernel_rfl) (by kernel_rfl) (fun _ _ _ h => h) (.inl ⟨by kernel_rfl, ?_⟩) hS0 ?_
  · rintro w h; go_simp
  refine plist #[true, false, true, false, false, false] (by kernel_rfl) ?_
  refine wpAnyH_take (i := 3) (v := (.slice q3 n3 c3)) rfl (by kernel_rfl) (by kernel_rfl) (by kernel_rfl) (fun _ _ _ h => h) (.inl ⟨by kernel_rfl, ?_⟩) hS0 ?_
  · rintro w h; have h' := h 3 _ rfl; go_simp
  refine plist #[true, false, true, true, false, false] (by kernel_rfl) ?_
  refine pone 1 (by kernel_rfl) rfl fun K hK => ?_
  go_simp
  refine con'.mono ?_
  rintro e X1 ⟨v1, rfl, hr1, hb1⟩
  rw [hsd] at hr1 hb1
  have hS1 := Box.below hS0 hb1 (Nat.lt_succ_self _)
  have hB1 := hBd.trans (hb1.mono (Nat.le_succ _))
  have hgt1 : w.heap.size + 1 ≤ X1.heap.size := by have := hb1.size; omega
  refine hK _ _ hS1 ?_
  clear hK K con' hS0 hBd
  refine plist #[true, true, true, true, false, false] (by kernel_rfl) ?_
  refine pone 4 (by kernel_rfl) rfl fun K hK => ?_
  rw [if_pos (by rfl)]
  refine wp_append_by (Operand.tmp 5) (Operand.tmp 7) rfl (w.heap.size + 1) v1 _ _ rfl hr1 _ u.path rfl (h3.on hB1) (by omega) hgt1 ?_
  intro v2 Y hr hg2
  have hb2 := grown_below hr1 hg2 hgt1
  have hS := Box.below hS1 hb2 (Nat.lt_succ_self _)
  have hB := hB1.trans (hb2.mono (Nat.le_succ _))
  have hgt : w.heap.size + 1 ≤ Y.heap.size := Nat.le_trans hgt1 hb2.size
  refine hK _ _ hS ?_
  clear hK K hb1 hr1 hS1 hB1 hgt1 hg2 hb2
  refine plist #[true, true, true, true, true, false] (by kernel_rfl) ?_
  refine pone 5 (by kernel_rfl) rfl fun K hK => ?_
  go_simp
  refine hK _ _ hS ?_
  clear hK K
  refine pdone (by kernel_rfl) ?_ _
  rw [← byV_app] at hr
  have HLA := Lib.hid (show (serverT u ++ u.path).length = (serverT u).length + u.path.length from List.length_append)
  obtain ⟨q2, c2, rfl, _, _, _, _, _⟩ := row_open hr
  have h6 := hS 6 _ rfl
  cases bq with
  | false =>
    have h7 := hS 7 _ rfl
    cases bf with
    | false =>
      go_wp2
      go_ret
      have HE : textU u = serverT u ++ u.path := by rw [HT.out, HQ.out, HF.out]; simp
      rw [HE]
      have hll : (serverT u ++ u.path).length = (serverT u).length + u.path.length := by simp only [List.length_append]
      rw [hll]
      exact ⟨_, rfl, row_base hr (Nat.le_succ _), hB⟩
    | true =>
      rw [if_pos rfl] at hfl
      go_wp2_with fail
      refine pregion_any (Box w.heap.size #[.slice q0 n0 c0, .slice q1 n1 c1, .int .i64 u.port, .slice q3 n3 c3, .slice q4 n4 c4, .slice q5 n5 c5, .bool false, .bool true]) (by kernel_rfl) ?_
      have hSe : Box w.heap.size #[.slice q0 n0 c0, .slice q1 n1 c1, .int .i64 u.port, .slice q3 n3 c3, .slice q4 n4 c4, .slice q5 n5 c5, .bool false, .bool true] Y.drew := hS
      have hre := (Keep.drew (fun _ => True) Y).row hr (fun _ _ => trivial)
      have hBe : Below w.heap.size w Y.drew := hB.drew
      have hgte : w.heap.size + 1 ≤ Y.drew.heap.size := hgt
      clear hS hr hB hgt
      generalize Y.drew = Ye at *
      refine wpAnyH_take (i := 0) (v := (.slice q2 ((serverT u).length + u.path.length) c2)) rfl (by kernel_rfl) (by kernel_rfl) (by kernel_rfl) (fun _ _ _ h => h) (.inl ⟨by kernel_rfl, ?_⟩) hSe ?_
      · rintro w h; go_simp
      refine plist #[true, false, false, false, false, false, false] (by kernel_rfl) ?_
      refine wpAnyH_take (i := 3) (v := (.pointer (some ⟨w.heap.size, 5, none⟩))) rfl (by kernel_rfl) (by kernel_rfl) (by kernel_rfl) (fun _ _ _ h => h) (.inl ⟨by kernel_rfl, ?_⟩) hSe ?_
      · rintro w h; go_simp
      refine plist #[true, false, false, true, false, false, false] (by kernel_rfl) ?_
      refine wpAnyH_take (i := 4) (v := (.slice q5 n5 c5)) rfl (by kernel_rfl) (by kernel_rfl) (by kernel_rfl) (fun _ _ _ h => h) (.inl ⟨by kernel_rfl, ?_⟩) hSe ?_
      · rintro w h; have h' := h 5 _ rfl; go_simp
      refine plist #[true, false, false, true, true, false, false] (by kernel_rfl) ?_
      refine pone 1 (by kernel_rfl) rfl fun K hK => ?_
      go_simp
      refine hK _ _ (Box.on hSe ((Below.refl _ _).alloc (Nat.le_refl _) _)) ?_
      clear hK K
      refine plist #[true, true, false, true, true, false, false] (by kernel_rfl) ?_
      refine pone 2 (by kernel_rfl) rfl fun K hK => ?_
      rw [if_pos (by rfl)]
      refine wp_append_by (Operand.tmp 19) (Operand.tmp 20) rfl (w.heap.size + 1) _ _ _ rfl (hre.alloc _) _ [35] rfl (by_lit Ye #[.int .u8 35] [35] (0, 0) 1 rfl rfl (by decide)) (by simp; omega) (by simp; omega) ?_
      intro va Za hra hga
      have hba : Below (w.heap.size + 1) Ye Za := (((Below.refl Ye.heap.size Ye).alloc (Nat.le_refl _) (.cells #[.int .u8 35] 5)).mono hgte).trans (grown_below (hre.alloc _) hga (by simp; omega))
      have hSa := Box.below hSe hba (Nat.lt_succ_self _)
      refine hK _ _ hSa ?_
      clear hK K
      refine plist #[true, true, true, true, true, false, false] (by kernel_rfl) ?_
      refine pone 5 (by kernel_rfl) rfl fun K hK => ?_
      rw [if_pos (by rfl)]
      refine wp_append_by (Operand.tmp 21) (Operand.tmp 23) rfl (w.heap.size + 1) va _ _ rfl hra _ u.frag rfl (h5.on (hBe.trans (hba.mono (Nat.le_succ _)))) (by simp; omega) (Nat.le_trans hgte hba.size) ?_
      intro vf Yf hrf hgb
      have hbb : Below (w.heap.size + 1) Ye Yf := hba.trans (grown_below hra hgb (Nat.le_trans hgte hba.size))
      have hSf := Box.below hSe hbb (Nat.lt_succ_self _)
      refine hK _ _ hSf ?_
      clear hK K
      refine plist #[true, true, true, true, true, true, false] (by kernel_rfl) ?_
      refine pone 6 (by kernel_rfl) rfl fun K hK => ?_
      go_simp
      refine hK _ _ hSf ?_
      clear hK K
      refine pdone (by kernel_rfl) ?_ _
      have hBf := hBe.trans (hbb.mono (Nat.le_succ _))
      have hgtf := Nat.le_trans hgte hbb.size
      rw [List.length_singleton, ← byV_app, ← byV_app] at hrf
      obtain ⟨qf, ccf, rfl, _, _, _, _, _⟩ := row_open hrf
      clear hra hga hba hgb hbb hSa hSe hre hBe hgte
      go_wp2
      go_ret
      have HE : textU u = (serverT u ++ u.path) ++ [35] ++ u.frag := by rw [HT.out, HQ.out, HF.out]; simp
      rw [HE]
      have hll : ((serverT u ++ u.path) ++ [35] ++ u.frag).length = (serverT u).length + u.path.length + 1 + u.frag.length := by simp only [List.length_append, List.length_cons, List.length_nil]
      rw [hll]
      exact ⟨_, rfl, row_base hrf (Nat.le_succ _), hBf⟩
  | true =>
    rw [if_pos rfl] at hql
    go_wp2_with fail
    refine pregion_any (Box w.heap.size #[.slice q0 n0 c0, .slice q1 n1 c1, .int .i64 u.port, .slice q3 n3 c3, .slice q4 n4 c4, .slice q5 n5 c5, .bool true, .bool bf]) (by kernel_rfl) ?_
    have hSb : Box w.heap.size #[.slice q0 n0 c0, .slice q1 n1 c1, .int .i64 u.port, .slice q3 n3 c3, .slice q4 n4 c4, .slice q5 n5 c5, .bool true, .bool bf] Y.drew := hS
    have hrb := (Keep.drew (fun _ => True) Y).row hr (fun _ _ => trivial)
    have hBb : Below w.heap.size w Y.drew := hB.drew
    have hgtb : w.heap.size + 1 ≤ Y.drew.heap.size := hgt
    clear hS hr hB hgt
    generalize Y.drew = Yb at *
    refine wpAnyH_take (i := 0) (v := (.slice q2 ((serverT u).length + u.path.length) c2)) rfl (by kernel_rfl) (by kernel_rfl) (by kernel_rfl) (fun _ _ _ h => h) (.inl ⟨by kernel_rfl, ?_⟩) hSb ?_
    · rintro w h; go_simp
    refine plist #[true, false, false, false, false, false, false] (by kernel_rfl) ?_
    refine wpAnyH_take (i := 3) (v := (.pointer (some ⟨w.heap.size, 4, none⟩))) rfl (by kernel_rfl) (by kernel_rfl) (by kernel_rfl) (fun _ _ _ h => h) (.inl ⟨by kernel_rfl, ?_⟩) hSb ?_
    · rintro w h; go_simp
    refine plist #[true, false, false, true, false, false, false] (by kernel_rfl) ?_
    refine wpAnyH_take (i := 4) (v := (.slice q4 n4 c4)) rfl (by kernel_rfl) (by kernel_rfl) (by kernel_rfl) (fun _ _ _ h => h) (.inl ⟨by kernel_rfl, ?_⟩) hSb ?_
    · rintro w h; have h' := h 4 _ rfl; go_simp
    refine plist #[true, false, false, true, true, false, false] (by kernel_rfl) ?_
    refine pone 1 (by kernel_rfl) rfl fun K hK => ?_
    go_simp
    refine hK _ _ (Box.on hSb ((Below.refl _ _).alloc (Nat.le_refl _) _)) ?_
    clear hK K
    refine plist #[true, true, false, true, true, false, false] (by kernel_rfl) ?_
    refine pone 2 (by kernel_rfl) rfl fun K hK => ?_
    rw [if_pos (by rfl)]
    refine wp_append_by (Operand.tmp 11) (Operand.tmp 12) rfl (w.heap.size + 1) _ _ _ rfl (hrb.alloc _) _ [63] rfl (by_lit Yb #[.int .u8 63] [63] (0, 0) 1 rfl rfl (by decide)) (by simp; omega) (by simp; omega) ?_
    intro va Za hra hga
    have hba : Below (w.heap.size + 1) Yb Za := (((Below.refl Yb.heap.size Yb).alloc (Nat.le_refl _) (.cells #[.int .u8 63] 5)).mono hgtb).trans (grown_below (hrb.alloc _) hga (by simp; omega))
    have hSa := Box.below hSb hba (Nat.lt_succ_self _)
    refine hK _ _ hSa ?_
    clear hK K
    refine plist #[true, true, true, true, true, false, false] (by kernel_rfl) ?_
    refine pone 5 (by kernel_rfl) rfl fun K hK => ?_
    rw [if_pos (by rfl)]
    refine wp_append_by (Operand.tmp 13) (Operand.tmp 15) rfl (w.heap.size + 1) va _ _ rfl hra _ u.query rfl (h4.on (hBb.trans (hba.mono (Nat.le_succ _)))) (by simp; omega) (Nat.le_trans hgtb hba.size) ?_
    intro vc Yc hrc hgb
    have hbb : Below (w.heap.size + 1) Yb Yc := hba.trans (grown_below hra hgb (Nat.le_trans hgtb hba.size))
    have hSc := Box.below hSb hbb (Nat.lt_succ_self _)
    refine hK _ _ hSc ?_
    clear hK K
    refine plist #[true, true, true, true, true, true, false] (by kernel_rfl) ?_
    refine pone 6 (by kernel_rfl) rfl fun K hK => ?_
    go_simp
    refine hK _ _ hSc ?_
    clear hK K
    refine pdone (by kernel_rfl) ?_ _
    have hBc := hBb.trans (hbb.mono (Nat.le_succ _))
    have hgtc := Nat.le_trans hgtb hbb.size
    rw [List.length_singleton, ← byV_app, ← byV_app] at hrc
    obtain ⟨qc, ccc, rfl, _, _, _, _, _⟩ := row_open hrc
    clear hra hga hba hgb hbb hSa hSb hrb hBb hgtb
    have h7 := hSc 7 _ rfl
    cases bf with
    | false =>
      go_wp2
      go_ret
      have HE : textU u = (serverT u ++ u.path) ++ [63] ++ u.query := by rw [HT.out, HQ.out, HF.out]; simp
      rw [HE]
      have hll : ((serverT u ++ u.path) ++ [63] ++ u.query).length = (serverT u).length + u.path.length + 1 + u.query.length := by simp only [List.length_append, List.length_cons, List.length_nil]
      rw [hll]
      exact ⟨_, rfl, row_base hrc (Nat.le_succ _), hBc⟩
    | true =>
      rw [if_pos rfl] at hfl
      go_wp2_with fail
      refine pregion_any (Box w.heap.size #[.slice q0 n0 c0, .slice q1 n1 c1, .int .i64 u.port, .slice q3 n3 c3, .slice q4 n4 c4, .slice q5 n5 c5, .bool true, .bool true]) (by kernel_rfl) ?_
      have hSe : Box w.heap.size #[.slice q0 n0 c0, .slice q1 n1 c1, .int .i64 u.port, .slice q3 n3 c3, .slice q4 n4 c4, .slice q5 n5 c5, .bool true, .bool true] Yc.drew := hSc
      have hre := (Keep.drew (fun _ => True) Yc).row hrc (fun _ _ => trivial)
      have hBe : Below w.heap.size w Yc.drew := hBc.drew
      have hgte : w.heap.size + 1 ≤ Yc.drew.heap.size := hgtc
      clear hSc hrc hBc hgtc
      generalize Yc.drew = Ye at *
      refine wpAnyH_take (i := 0) (v := (.slice qc ((serverT u).length + u.path.length + 1 + u.query.length) ccc)) rfl (by kernel_rfl) (by kernel_rfl) (by kernel_rfl) (fun _ _ _ h => h) (.inl ⟨by kernel_rfl, ?_⟩) hSe ?_
      · rintro w h; go_simp
      refine plist #[true, false, false, false, false, false, false] (by kernel_rfl) ?_
      refine wpAnyH_take (i := 3) (v := (.pointer (some ⟨w.heap.size, 5, none⟩))) rfl (by kernel_rfl) (by kernel_rfl) (by kernel_rfl) (fun _ _ _ h => h) (.inl ⟨by kernel_rfl, ?_⟩) hSe ?_
      · rintro w h; go_simp
      refine plist #[true, false, false, true, false, false, false] (by kernel_rfl) ?_
      refine wpAnyH_take (i := 4) (v := (.slice q5 n5 c5)) rfl (by kernel_rfl) (by kernel_rfl) (by kernel_rfl) (fun _ _ _ h => h) (.inl ⟨by kernel_rfl, ?_⟩) hSe ?_
      · rintro w h; have h' := h 5 _ rfl; go_simp
      refine plist #[true, false, false, true, true, false, false] (by kernel_rfl) ?_
      refine pone 1 (by kernel_rfl) rfl fun K hK => ?_
      go_simp
      refine hK _ _ (Box.on hSe ((Below.refl _ _).alloc (Nat.le_refl _) _)) ?_
      clear hK K
      refine plist #[true, true, false, true, true, false, false] (by kernel_rfl) ?_
      refine pone 2 (by kernel_rfl) rfl fun K hK => ?_
      rw [if_pos (by rfl)]
      refine wp_append_by (Operand.tmp 19) (Operand.tmp 20) rfl (w.heap.size + 1) _ _ _ rfl (hre.alloc _) _ [35] rfl (by_lit Ye #[.int .u8 35] [35] (0, 0) 1 rfl rfl (by decide)) (by simp; omega) (by simp; omega) ?_
      intro va Za hra hga
      have hba : Below (w.heap.size + 1) Ye Za := (((Below.refl Ye.heap.size Ye).alloc (Nat.le_refl _) (.cells #[.int .u8 35] 5)).mono hgte).trans (grown_below (hre.alloc _) hga (by simp; omega))
      have hSa := Box.below hSe hba (Nat.lt_succ_self _)
      refine hK _ _ hSa ?_
      clear hK K
      refine plist #[true, true, true, true, true, false, false] (by kernel_rfl) ?_
      refine pone 5 (by kernel_rfl) rfl fun K hK => ?_
      rw [if_pos (by rfl)]
      refine wp_append_by (Operand.tmp 21) (Operand.tmp 23) rfl (w.heap.size + 1) va _ _ rfl hra _ u.frag rfl (h5.on (hBe.trans (hba.mono (Nat.le_succ _)))) (by simp; omega) (Nat.le_trans hgte hba.size) ?_
      intro vf Yf hrf hgb
      have hbb : Below (w.heap.size + 1) Ye Yf := hba.trans (grown_below hra hgb (Nat.le_trans hgte hba.size))
      have hSf := Box.below hSe hbb (Nat.lt_succ_self _)
      refine hK _ _ hSf ?_
      clear hK K
      refine plist #[true, true, true, true, true, true, false] (by kernel_rfl) ?_
      refine pone 6 (by kernel_rfl) rfl fun K hK => ?_
      go_simp
      refine hK _ _ hSf ?_
      clear hK K
      refine pdone (by kernel_rfl) ?_ _
      have hBf := hBe.trans (hbb.mono (Nat.le_succ _))
      have hgtf := Nat.le_trans hgte hbb.size
      rw [List.length_singleton, ← byV_app, ← byV_app] at hrf
      obtain ⟨qf, ccf, rfl, _, _, _, _, _⟩ := row_open hrf
      clear hra hga hba hgb hbb hSa hSe hre hBe hgte
      go_wp2
      go_ret
      have HE : textU u = ((serverT u ++ u.path) ++ [63] ++ u.query) ++ [35] ++ u.frag := by rw [HT.out, HQ.out, HF.out]; simp
      rw [HE]
      have hll : (((serverT u ++ u.path) ++ [63] ++ u.query) ++ [35] ++ u.frag).length = (serverT u).length + u.path.length + 1 + u.query.length + 1 + u.frag.length := by simp only [List.length_append, List.length_cons, List.length_nil]
      rw [hll]
      exact ⟨_, rfl, row_base hrf (Nat.le_succ _), hBf⟩

end Go.Proofs.YtpabhppghljipaaGreatDoor.Url

namespace Go.Proofs.YtpabhppghljipaaGreatDoor.Url
open Go.RowKit Go.Shelf
attribute [local go_sem] Oper.semAt_some

/-- A URL's zero value, cell by cell. -/
def zeroU : Array Value := #[.slice none 0 0, .slice none 0 0, .int .i64 0, .slice none 0 0, .slice none 0 0, .slice none 0 0, .bool false, .bool false]
/-- Block B holds a URL's cells. -/
def UB (B : Nat) (cs : Array Value) (X : World) : Prop := X.heap[B]? = some (.cells cs 163 (0, 0))
theorem UB.box {B : Nat} {cs : Array Value} {X : World} (h : UB B cs X) : Box B cs X := fun i x hx => by
  simp only [World.cell?, show X.heap[B]? = _ from h]; exact hx
theorem UB.frozen {B : Nat} {cs : Array Value} {X : World} (h : UB B cs X) (i : Nat) : X.frozen? ⟨B, i, none⟩ = false := by
  simp [World.frozen?, show X.heap[B]? = _ from h]
theorem UB.on {B : Nat} {cs : Array Value} {X Y : World} (h : UB B cs X) (hk : Below X.heap.size X Y) : UB B cs Y := (hk.block B (Array.getElem?_eq_some_iff.1 h).1).trans h
theorem UB.lt {B : Nat} {cs : Array Value} {X : World} (h : UB B cs X) : B < X.heap.size := (Array.getElem?_eq_some_iff.1 h).1
theorem UB.new (w : World) (cs : Array Value) : UB w.heap.size cs (w.alloc (.cells cs 163)) := World.alloc_heap_new w _
theorem UB.set {B : Nat} {cs : Array Value} {X : World} (h : UB B cs X) (i : Nat) (v : Value) : UB B (cs.setIfInBounds i v) (X.setCell ⟨B, i, none⟩ v) := by
  obtain ⟨hlt, hk⟩ := Array.getElem?_eq_some_iff.1 h
  show (X.heap.modify B _)[B]? = _
  rw [Array.getElem?_eq_getElem (by rw [Array.size_modify]; exact hlt), Array.getElem_modify_self, hk]
  rfl
/-- All eight cells set, one by one. -/
theorem UB.put {B : Nat} {X : World} {a0 a1 a2 a3 a4 a5 a6 a7 : Value} (h : UB B #[a0, a1, a2, a3, a4, a5, a6, a7] X) (v0 v1 v2 v3 v4 v5 v6 v7 : Value) :
    ∃ Y, (((((((X.setCell ⟨B, 0, none⟩ v0).setCell ⟨B, 1, none⟩ v1).setCell ⟨B, 2, none⟩ v2).setCell ⟨B, 3, none⟩ v3).setCell ⟨B, 4, none⟩ v4).setCell ⟨B, 5, none⟩ v5).setCell ⟨B, 6, none⟩ v6).setCell ⟨B, 7, none⟩ v7 = Y ∧
      UB B #[v0, v1, v2, v3, v4, v5, v6, v7] Y ∧ (∀ S : Nat → Prop, ¬ S B → Keep S X Y) ∧ ∀ M, M ≤ B → Below M X Y := by
  have h8 := (((((((h.set 0 v0).set 1 v1).set 2 v2).set 3 v3).set 4 v4).set 5 v5).set 6 v6).set 7 v7
  simp only [List.setIfInBounds_toArray, List.set_cons_zero, List.set_cons_succ] at h8
  refine ⟨_, rfl, h8, fun S hS => ?_, fun M hM => ?_⟩
  · exact (Keep.setCell _ _ _ hS).trans ((Keep.setCell _ _ _ hS).trans ((Keep.setCell _ _ _ hS).trans ((Keep.setCell _ _ _ hS).trans ((Keep.setCell _ _ _ hS).trans ((Keep.setCell _ _ _ hS).trans ((Keep.setCell _ _ _ hS).trans (Keep.setCell _ _ _ hS)))))))
  · exact (((((((((Below.refl M X).setCell (p := ⟨B, 0, none⟩) hM v0).setCell (p := ⟨B, 1, none⟩) hM v1).setCell (p := ⟨B, 2, none⟩) hM v2).setCell (p := ⟨B, 3, none⟩) hM v3).setCell (p := ⟨B, 4, none⟩) hM v4).setCell (p := ⟨B, 5, none⟩) hM v5).setCell (p := ⟨B, 6, none⟩) hM v6).setCell (p := ⟨B, 7, none⟩) hM v7)
theorem size_url : (Tryz.prog.info? 163).map (·.size) = some 8 := by kernel_rfl
theorem ret_url2 {fn : Func} {p u : Tmp} (h : fn.results = #[.cell p 163, .tmp u]) (tmps : Array Value) (w : World) (B : Nat) (cs : Array Value) (hp : tmps.getD p undef = .pointer (some ⟨B, 0, none⟩)) (hU : UB B cs w) (hs : cs.size = 8) :
    (results fn tmps).run Tryz.prog w = .ok (.tuple #[.agg cs, tmps.getD u undef]) w := by
  rw [results_cell_tmp h, hp]
  simp [asAddr, Result.andThen, run_loadVar_row w B 163 _ cs (0, 0) _ hU Tryz.underlying163 rfl (by rw [size_url, hs])]

end Go.Proofs.YtpabhppghljipaaGreatDoor.Url

namespace Go.Proofs.YtpabhppghljipaaGreatDoor.Cls
open Url Org Frm
set_option linter.unusedVariables false

theorem blank_same (b : UInt8) : blankB b = Go.Proofs.YtpabhppghljipaaGreatDoor.blankB b := by
  unfold blankB Go.Proofs.YtpabhppghljipaaGreatDoor.blankB
  rw [Bool.eq_iff_iff, Bool.or_eq_true, beq_iff_eq, beq_iff_eq, decide_eq_true_iff, ← UInt8.toNat_inj, ← UInt8.toNat_inj]
  exact Iff.rfl
theorem dropWhile_drop (l : List UInt8) : ∀ f, f ≤ l.length → (∀ j, j < f → blankB (l.getD j 0) = true) → (f < l.length → blankB (l.getD f 0) = false) → l.dropWhile blankB = l.drop f := by
  induction l with
  | nil => intro f _ _ _; simp
  | cons x r ih =>
    intro f hf h1 h2
    cases f with
    | zero =>
      have := h2 (by simp)
      rw [List.getD_cons_zero] at this
      rw [List.dropWhile_cons, if_neg (by rw [this]; simp), List.drop_zero]
    | succ f =>
      have h0 := h1 0 (by omega)
      rw [List.getD_cons_zero] at h0
      rw [List.dropWhile_cons, if_pos h0, List.drop_succ_cons]
      refine ih f (by simp at hf; omega) (fun j hj => ?_) (fun hj => ?_)
      · have := h1 (j + 1) (by omega); rwa [List.getD_cons_succ] at this
      · have := h2 (by simp; omega); rwa [List.getD_cons_succ] at this
theorem getD_reverse (l : List UInt8) (j : Nat) (h : j < l.length) : l.reverse.getD j 0 = l.getD (l.length - 1 - j) 0 := by
  rw [List.getD, List.getElem?_reverse h, List.getD]
theorem trim_sub (l : List UInt8) (f e : Nat) (h : Trims l f e) : trimB l = sub l f e := by
  unfold trimB sub
  rcases h with ⟨rfl, rfl, h⟩ | ⟨h1, h2, h3, h4, h5, h6⟩
  · rw [dropWhile_drop l l.length (Nat.le_refl _) (fun j hj => by rw [blank_same]; exact h j hj) (fun hh => absurd hh (by omega))]
    simp
  · rw [dropWhile_drop l f (by omega) (fun j hj => by rw [blank_same]; exact h3 j hj) (fun _ => by rw [blank_same]; exact h4)]
    have hlen : (l.drop f).length = l.length - f := List.length_drop
    rw [dropWhile_drop (l.drop f).reverse (l.length - e) (by rw [List.length_reverse]; omega) (fun j hj => ?_) (fun hj => ?_)]
    · rw [List.drop_reverse, List.reverse_reverse, hlen]
      congr 1; omega
    · rw [getD_reverse _ _ (by omega), hlen, List.getD, List.getElem?_drop, ← List.getD, blank_same]
      exact h6 _ (by omega) (by omega)
    · rw [List.length_reverse, hlen] at hj
      rw [getD_reverse _ _ (by omega), hlen, List.getD, List.getElem?_drop, ← List.getD, blank_same]
      rw [show f + (l.length - f - 1 - (l.length - e)) = e - 1 by omega]
      exact h5
theorem setS_sort (l : List (List UInt8)) : setS l = sortR l := rises_ext (setS_rises l) (sort_rises l) fun a => (mem_setS l a).trans (mem_sort a l).symm

end Go.Proofs.YtpabhppghljipaaGreatDoor.Cls

namespace Go.Proofs.YtpabhppghljipaaGreatDoor.Frm
open Cls
set_option linter.unusedVariables false

/-- Does one of these clauses imply another one? -/
def oneB (l : List (List (List UInt8))) (c : List (List UInt8)) : Bool := l.any fun d => subB d c
theorem one_iff (l : List (List (List UInt8))) (c : List (List UInt8)) : oneB l c = true ↔ ∃ d ∈ l, ∀ p ∈ d, p ∈ c := by
  unfold oneB
  rw [List.any_eq_true]
  exact ⟨fun ⟨d, h, k⟩ => ⟨d, h, (subB_iff d c).1 k⟩, fun ⟨d, h, k⟩ => ⟨d, h, (subB_iff d c).2 k⟩⟩
theorem one_no (l : List (List (List UInt8))) (c : List (List UInt8)) (h : oneB l c = false) : ∀ d ∈ l, ¬ ∀ p ∈ d, p ∈ c := fun d hd k => by
  have := (one_iff l c).2 ⟨d, hd, k⟩
  rw [h] at this; cases this
theorem imp_all (f g : List (List (List UInt8))) : impB f g = g.all (oneB f) := rfl

/-- The clauses that are left, as they come: those that no earlier one implies; what was handled stands behind. -/
structure Left (left done rest : List (List (List UInt8))) : Prop where
  nodup : left.Nodup
  mem : ∀ x ∈ left, x ∈ done
  anti : ∀ x ∈ left, ∀ y ∈ left, (∀ p ∈ x, p ∈ y) → x = y
  cover : ∀ c ∈ done, ∃ x ∈ left, ∀ p ∈ x, p ∈ c
  rise : ∀ c ∈ done ++ rest, Rises c
  short : ∀ x ∈ done, ∀ y ∈ rest, x.length ≤ y.length
theorem len_sub (x y : List (List UInt8)) (hx : Rises x) (hy : Rises y) (h : ∀ p ∈ x, p ∈ y) (hl : y.length ≤ x.length) : x = y := by
  have hxd := rises_nodup x hx
  refine rises_ext hx hy fun a => ⟨h a, fun ha => ?_⟩
  refine Decidable.byContradiction fun hn => ?_
  have h1 : x.length ≤ (y.erase a).length := hxd.length_le_of_subset fun q hq => (List.mem_erase_of_ne (fun e => hn (by rw [← e]; exact hq))).2 (h q hq)
  rw [List.length_erase_of_mem ha] at h1
  have := List.length_pos_of_mem ha
  omega
theorem Left.start (l : List (List (List UInt8))) (h : ∀ c ∈ l, Rises c) : Left [] [] l :=
  ⟨List.nodup_nil, fun x hx => (by cases hx), fun x hx => (by cases hx), fun c hc => (by cases hc), h, fun x hx => (by cases hx)⟩
theorem Left.skip {left done rest : List (List (List UInt8))} {c : List (List UInt8)} (h : Left left done (c :: rest)) (hc : oneB left c = true) (hs : ∀ y ∈ rest, c.length ≤ y.length) : Left left (done ++ [c]) rest := by
  refine ⟨h.nodup, fun x hx => List.mem_append.2 (.inl (h.mem x hx)), h.anti, fun d hd => ?_, by simpa using h.rise, fun x hx y hy => ?_⟩
  · rcases List.mem_append.1 hd with hd | hd
    · exact h.cover d hd
    · rw [List.mem_singleton.1 hd]
      obtain ⟨x, hx, k⟩ := (one_iff left c).1 hc
      exact ⟨x, hx, k⟩
  · rcases List.mem_append.1 hx with hx | hx
    · exact h.short x hx y (by simp [hy])
    · rw [List.mem_singleton.1 hx]; exact hs y hy
theorem Left.take {left done rest : List (List (List UInt8))} {c : List (List UInt8)} (h : Left left done (c :: rest)) (hc : oneB left c = false) (hs : ∀ y ∈ rest, c.length ≤ y.length) : Left (left ++ [c]) (done ++ [c]) rest := by
  have hno := one_no left c hc
  have hcr : Rises c := h.rise c (by simp)
  have hne : ∀ x ∈ left, x ≠ c := fun x hx e => hno x hx (by rw [e]; exact fun p hp => hp)
  have hback : ∀ x ∈ left, ¬ ∀ p ∈ c, p ∈ x := fun x hx k =>
    hne x hx (len_sub c x hcr (h.rise x (List.mem_append.2 (.inl (h.mem x hx)))) k (h.short x (h.mem x hx) c (by simp))).symm
  refine ⟨?_, fun x hx => ?_, fun x hx y hy k => ?_, fun d hd => ?_, by simpa using h.rise, fun x hx y hy => ?_⟩
  · rw [List.nodup_append]
    exact ⟨h.nodup, by simp, fun a ha b hb => by rw [List.mem_singleton.1 hb]; exact hne a ha⟩
  · rcases List.mem_append.1 hx with hx | hx
    · exact List.mem_append.2 (.inl (h.mem x hx))
    · exact List.mem_append.2 (.inr hx)
  · rcases List.mem_append.1 hx with hx | hx
    · rcases List.mem_append.1 hy with hy | hy
      · exact h.anti x hx y hy k
      · rw [List.mem_singleton.1 hy] at k ⊢
        exact absurd k (hno x hx)
    · rw [List.mem_singleton.1 hx] at k ⊢
      rcases List.mem_append.1 hy with hy | hy
      · exact absurd k (hback y hy)
      · rw [List.mem_singleton.1 hy]
  · rcases List.mem_append.1 hd with hd | hd
    · obtain ⟨x, hx, k⟩ := h.cover d hd
      exact ⟨x, List.mem_append.2 (.inl hx), k⟩
    · rw [List.mem_singleton.1 hd]
      exact ⟨c, by simp, fun p hp => hp⟩
  · rcases List.mem_append.1 hx with hx | hx
    · exact h.short x hx y (by simp [hy])
    · rw [List.mem_singleton.1 hx]; exact hs y hy
theorem Left.red {left done rest : List (List (List UInt8))} (h : Left left done rest) : ∀ x ∈ left, x ∈ redL (done ++ rest) := fun x hx => by
  rw [mem_red]
  refine ⟨List.mem_append.2 (.inl (h.mem x hx)), fun y hy k => ?_⟩
  rcases List.mem_append.1 hy with hd | hd
  · obtain ⟨z, hz, kz⟩ := h.cover y hd
    have e := h.anti z hz x hx fun p hp => k p (kz p hp)
    subst e
    exact rises_ext (h.rise y hy) (h.rise z (List.mem_append.2 (.inl (h.mem z hz)))) fun a => ⟨k a, kz a⟩
  · exact len_sub y x (h.rise y hy) (h.rise x (List.mem_append.2 (.inl (h.mem x hx)))) k (h.short x (h.mem x hx) y hd)
theorem Left.full {left done : List (List (List UInt8))} (h : Left left done []) : ∀ x, x ∈ left ↔ x ∈ redL done := fun x => by
  constructor
  · intro hx
    have := h.red x hx
    rwa [List.append_nil] at this
  · intro hx
    obtain ⟨h1, h2⟩ := (mem_red done x).1 hx
    obtain ⟨z, hz, k⟩ := h.cover x h1
    rw [← h2 z (h.mem z hz) k]
    exact hz
theorem nodup_sort (l : List (List (List UInt8))) (h : l.Nodup) : (sortR l).length = l.length := by
  have h1 : (sortR l).length ≤ l.length := (rises_nodup _ (sort_rises l)).length_le_of_subset fun x hx => (mem_sort x l).1 hx
  have h2 : l.length ≤ (sortR l).length := h.length_le_of_subset fun x hx => (mem_sort x l).2 hx
  omega
theorem red_perm (l m : List (List (List UInt8))) (h : m.Perm l) : redL m = redL l :=
  rises_ext (sort_rises _) (sort_rises _) fun a => by
    show a ∈ redL m ↔ a ∈ redL l
    rw [mem_red, mem_red]
    exact ⟨fun k => ⟨h.mem_iff.1 k.1, fun y hy => k.2 y (h.mem_iff.2 hy)⟩, fun k => ⟨h.mem_iff.2 k.1, fun y hy => k.2 y (h.mem_iff.1 hy)⟩⟩
theorem left_done (l m left : List (List (List UInt8))) (hp : m.Perm l) (h : Left left m []) : sortR left = redL l ∧ (redL l).length = left.length := by
  have e : sortR left = redL l := by
    rw [← red_perm l m hp]
    exact rises_ext (sort_rises _) (sort_rises _) fun a => (mem_sort a left).trans (h.full a)
  exact ⟨e, by rw [← e]; exact nodup_sort left h.nodup⟩
/-- All are left, and not too many. -/
theorem ofF_left (l m left : List (List (List UInt8))) (hp : m.Perm l) (h : Left left m []) (hl : left.length ≤ 16) : ofF l = .inr (sortR left) := by
  obtain ⟨h1, h2⟩ := left_done l m left hp h
  unfold ofF
  rw [if_pos (by omega), h1]
/-- One too many. -/
theorem ofF_many (l m left done rest : List (List (List UInt8))) (hp : m.Perm l) (e : m = done ++ rest) (h : Left left done rest) (hl : 16 < left.length) : ofF l = .inl 3 := by
  have h1 : left.length ≤ (redL m).length := h.nodup.length_le_of_subset fun x hx => by rw [e]; exact h.red x hx
  rw [red_perm l m hp] at h1
  unfold ofF
  rw [if_neg (by omega)]
/-- What a sort of them leaves. -/
theorem sorted_is (l r : List (List (List UInt8))) (hp : r.Perm l) (hd : l.Nodup) (hs : ∀ i j : Nat, ∀ x y, i < j → r[i]? = some x → r[j]? = some y → ¬ y < x) : r = sortR l := by
  have hr : Rises r := by
    refine List.pairwise_iff_getElem.2 fun i j hi hj hij => ?_
    have hn : r.Nodup := hp.nodup_iff.2 hd
    have h1 := hs i j _ _ hij (List.getElem?_eq_getElem hi) (List.getElem?_eq_getElem hj)
    rcases Lin.tri r[i] r[j] with h | h | h
    · exact h
    · exact absurd h (List.pairwise_iff_getElem.1 hn i j hi hj hij)
    · exact absurd h h1
  exact rises_ext hr (sort_rises l) fun a => (hp.mem_iff).trans (mem_sort a l).symm

end Go.Proofs.YtpabhppghljipaaGreatDoor.Frm

namespace Go.Proofs.YtpabhppghljipaaGreatDoor.Frm
open Cls
set_option linter.unusedVariables false

/-- What a call left: the formula, or always. -/
def frmV (r : Sum Int (List (List (List UInt8)))) : List (List (List UInt8)) := match r with
  | .inl _ => []
  | .inr f => f
/-- Its error's number. -/
def frmE (r : Sum Int (List (List (List UInt8)))) : Int := match r with
  | .inl n => n
  | .inr _ => 0
end Go.Proofs.YtpabhppghljipaaGreatDoor.Frm

namespace Go.Proofs.YtpabhppghljipaaGreatDoor.Frm
open Cls
set_option linter.unusedVariables false

/-- What a call left: the label, or open. -/
def labV (r : Sum Int Lab) : Lab := match r with
  | .inl _ => ⟨[], []⟩
  | .inr l => l
/-- Its error's number. -/
def labE (r : Sum Int Lab) : Int := match r with
  | .inl n => n
  | .inr _ => 0
structure LOk (l : Lab) : Prop where
  s : FOk l.s
  i : FOk l.i
theorem LOk.canon {l : Lab} (h : LOk l) : LabOk l := ⟨h.s.canon, h.i.canon⟩
theorem open_ok : LOk ⟨[], []⟩ := ⟨always_ok, always_ok⟩
/-- The label of a text, piece by piece. -/
theorem parseL_cases (t : List UInt8) (l : Lab) (h : parseL t = .inr l) : t.length ≤ 4096 ∧ ((∃ s, Ref.splitL 59 t = [s] ∧ parseF s = .inr l.s ∧ l.i = []) ∨ ∃ s i, Ref.splitL 59 t = [s, i] ∧ parseF s = .inr l.s ∧ parseF i = .inr l.i) := by
  unfold parseL at h
  split at h
  · cases h
  · rename_i hl
    refine ⟨by omega, ?_⟩
    split at h
    · rename_i s hs
      split at h
      · cases h
      · rename_i f hf
        cases h
        exact .inl ⟨s, hs, hf, rfl⟩
    · rename_i s i hs
      split at h
      · cases h
      · rename_i f hf
        split at h
        · cases h
        · rename_i g hg
          cases h
          exact .inr ⟨s, i, hs, hf, hg⟩
    · cases h
theorem parse_lab (t : List UInt8) : LOk (labV (parseL t)) := by
  cases h : parseL t with
  | inl n => exact open_ok
  | inr l =>
    rcases (parseL_cases t l h).2 with ⟨s, _, h1, h2⟩ | ⟨s, i, _, h1, h2⟩
    · exact ⟨parseF_ok s _ h1, by show FOk l.i; rw [h2]; exact always_ok⟩
    · exact ⟨parseF_ok s _ h1, parseF_ok i _ h2⟩
/-! ### joins and meets, with their errors -/
theorem errF (l : List (List (List UInt8))) (n : Int) (h : ofF l = .inl n) : n = 3 := by
  unfold ofF at h
  split at h
  · cases h
  · cases h; rfl
/-! ### flowing, set by set -/
/-! ### one principal -/
end Go.Proofs.YtpabhppghljipaaGreatDoor.Frm

namespace Go.Proofs.YtpabhppghljipaaGreatDoor.Frm
open Cls Url
set_option linter.unusedVariables false

theorem split_aheadC (c : UInt8) : ∀ (x y : List UInt8), c ∉ x → Ref.splitL c (x ++ c :: y) = x :: Ref.splitL c y
  | [], y, _ => Ref.split_is c y
  | b :: x, y, h => by
    have hb : b ≠ c := fun e => h (by simp [e])
    rw [List.cons_append, Ref.split_not c b _ hb, split_aheadC c x y (fun e => h (by simp [e]))]
    rfl
theorem split_noC (c : UInt8) : ∀ x : List UInt8, c ∉ x → Ref.splitL c x = [x]
  | [], _ => rfl
  | b :: x, h => by
    have hb : b ≠ c := fun e => h (by simp [e])
    rw [Ref.split_not c b _ hb, split_noC c x (fun e => h (by simp [e]))]
    rfl
theorem split_at (c : UInt8) (l : List UInt8) : Ref.splitL c l = if atOk c l = true then atFst c l :: Ref.splitL c (atSnd c l) else [atFst c l] := by
  by_cases h : c ∈ l
  · obtain ⟨x, y, rfl, hx⟩ := List.eq_append_cons_of_mem h
    have hi : Lib.indexByte (x ++ c :: y) c = (x.length : Int) := index_at _ _ _ (by simp) (by simp [List.getD]) fun j hj => by
      intro e
      apply hx
      rw [← e, List.getD, List.getElem?_append_left hj, List.getElem?_eq_getElem hj]
      exact List.getElem_mem hj
    obtain ⟨h1, h2, h3⟩ := at_found c _ _ hi
    rw [h1, h2, h3, if_pos rfl, split_aheadC c x y hx]
    simp
  · have hi : Lib.indexByte l c = -1 := index_no _ _ fun j hj e => h (by
      rw [← e, List.getD, List.getElem?_eq_getElem hj]
      exact List.getElem_mem hj)
    obtain ⟨h1, h2, h3⟩ := at_none c l hi
    rw [h1, h3, split_noC c l h]
    rfl
theorem at_len (c : UInt8) (l : List UInt8) : (atFst c l).length ≤ l.length ∧ (atSnd c l).length ≤ l.length := by
  unfold atFst atSnd
  split
  · rw [List.length_take, List.length_drop]; omega
  · simp
theorem parseC_err2 (t : List UInt8) (n : Int) (h : parseC t = .inl n) : n = 2 ∨ n = 3 := by
  unfold parseC at h
  split at h
  · cases h; exact .inr rfl
  · split at h
    · cases h
    · unfold ofC at h
      split at h
      · split at h
        · cases h
        · cases h; exact .inr rfl
      · cases h; exact .inl rfl
theorem clausesL_no : ∀ (l : List (List UInt8)) (n : Int), clausesL l = .inl n → n = 2 ∨ n = 3
  | [], n, h => by cases h
  | p :: l, n, h => by
    unfold clausesL at h
    split at h
    · rename_i e he; cases h; exact parseC_err2 p _ he
    · split at h
      · rename_i e he; cases h; exact clausesL_no l _ he
      · cases h
theorem parseF_no (t : List UInt8) (n : Int) (h : parseF t = .inl n) : n = 2 ∨ n = 3 := by
  unfold parseF at h
  split at h
  · cases h; exact .inr rfl
  · split at h
    · cases h
    · split at h
      · rename_i e he; cases h; exact clausesL_no _ _ he
      · exact .inr (errF _ _ h)
theorem at_no_snd (c : UInt8) (l : List UInt8) (h : atOk c l = false) : atSnd c l = [] := (at_ahead c l).2.2 h
theorem at_nil (c : UInt8) : atOk c [] = false := by
  obtain ⟨_, _, h3⟩ := at_none c [] (index_no _ _ fun j hj => by simp at hj)
  exact h3
/-- Two signs. -/
theorem parseL_two (t : List UInt8) (hl : ¬ 4096 < t.length) (h : atOk 59 (atSnd 59 t) = true) : parseL t = .inl 2 := by
  have h0 : atOk 59 t = true := by
    cases e : atOk 59 t with
    | true => rfl
    | false => rw [at_no_snd _ _ e, at_nil] at h; cases h
  unfold parseL
  rw [if_neg hl, split_at, if_pos h0, split_at 59 (atSnd 59 t), if_pos h]
  obtain ⟨p, r, hr⟩ := List.exists_cons_of_ne_nil (Ref.split_ne 59 (atSnd 59 (atSnd 59 t)))
  rw [hr]
theorem parseL_one (t : List UInt8) (hl : ¬ 4096 < t.length) (h : atOk 59 t = false) : parseL t = match parseF (atFst 59 t) with
    | .inl e => .inl e
    | .inr f => .inr ⟨f, []⟩ := by
  unfold parseL
  rw [if_neg hl, split_at, if_neg (by rw [h]; simp)]
  rfl
theorem parseL_both (t : List UInt8) (hl : ¬ 4096 < t.length) (h : atOk 59 t = true) (h2 : atOk 59 (atSnd 59 t) = false) : parseL t = match parseF (atFst 59 t) with
    | .inl e => .inl e
    | .inr f => match parseF (atSnd 59 t) with
      | .inl e => .inl e
      | .inr g => .inr ⟨f, g⟩ := by
  have h3 : atFst 59 (atSnd 59 t) = atSnd 59 t := by
    have := split_at 59 (atSnd 59 t)
    rw [if_neg (by rw [h2]; simp)] at this
    unfold atOk at h2
    unfold atFst
    rw [if_neg (of_decide_eq_false h2)]
  unfold parseL
  rw [if_neg hl, split_at, if_pos h, split_at 59 (atSnd 59 t), if_neg (by rw [h2]; simp), h3]
  rfl
end Go.Proofs.YtpabhppghljipaaGreatDoor.Frm

namespace Go.Proofs.YtpabhppghljipaaGreatDoor.Url
open Go.RowKit Go.Shelf

/-- v is a row of the slices vs, each a row of one's own that reads as the word of ks at its place. -/
def RowsOf (W : World) (base : Nat) (v : Value) (vs : List Value) (ks : List (List UInt8)) : Prop :=
  W.ownsRow base 22 1 v ks.length vs ∧ ∀ (i : Nat) (x : Value) (k : List UInt8), vs[i]? = some x → ks[i]? = some k → W.ownsRow base 5 1 x k.length (byV k)
/-- The blocks of a row of rows. -/
def KB (v : Value) (vs : List Value) (b : Nat) : Prop := v.ownBlock = some b ∨ ∃ x ∈ vs, x.ownBlock = some b
theorem RowsOf.len {W : World} {base : Nat} {v : Value} {vs : List Value} {ks : List (List UInt8)} (h : RowsOf W base v vs ks) : vs.length = ks.length := by
  have := h.1.1; omega
theorem RowsOf.nil (W : World) (base : Nat) : RowsOf W base (.slice none 0 0) [] [] := ⟨World.ownsRow_nil _ _ _ _, fun i x k h => by simp at h⟩
theorem RowsOf.lt {W : World} {base : Nat} {v : Value} {vs : List Value} {ks : List (List UInt8)} (h : RowsOf W base v vs ks) : ∀ b, KB v vs b → base ≤ b ∧ b < W.heap.size := by
  rintro b (hb | ⟨x, hx, hb⟩)
  · exact h.1.lt b hb
  · obtain ⟨i, hi, rfl⟩ := List.mem_iff_getElem.1 hx
    have hk : i < ks.length := by rw [← h.len]; exact hi
    exact (h.2 i _ _ (List.getElem?_eq_getElem hi) (List.getElem?_eq_getElem hk)).lt b hb
theorem RowsOf.keep {S : Nat → Prop} {W W' : World} {base : Nat} {v : Value} {vs : List Value} {ks : List (List UInt8)} (h : RowsOf W base v vs ks) (hk : Keep S W W') (hS : ∀ b, KB v vs b → S b) : RowsOf W' base v vs ks :=
  ⟨hk.row h.1 fun b hb => hS b (.inl hb), fun i x k hi hj => hk.row (h.2 i x k hi hj) fun b hb => hS b (.inr ⟨x, List.mem_of_getElem? hi, hb⟩)⟩
/-- A box of another type is none of the blocks. -/
theorem RowsOf.not_box {W : World} {base B : Nat} {t : TypeId} {u v : Value} {vs : List Value} {ks : List (List UInt8)} (h : RowsOf W base v vs ks) (hB : Boxed W B t u) (h1 : t ≠ 22) (h2 : t ≠ 5) : ¬ KB v vs B := by
  rintro (hb | ⟨x, hx, hb⟩)
  · exact hB.not_row h1 h.1 hb.symm
  · obtain ⟨i, hi, rfl⟩ := List.mem_iff_getElem.1 hx
    have hk : i < ks.length := by rw [← h.len]; exact hi
    exact hB.not_row h2 (h.2 i _ _ (List.getElem?_eq_getElem hi) (List.getElem?_eq_getElem hk)) hb.symm
theorem byte_row_ne {W : World} {base base' g m n : Nat} {v x : Value} {xs ys : List Value} (h : W.ownsRow base 22 1 v n xs) (h' : W.ownsRow base' 5 1 x m ys) (hb : v.ownBlock = some g) : x.ownBlock ≠ some g := fun he => by
  rcases h.2 with ⟨rfl, _⟩ | ⟨g1, cap1, cur1, rfl, _, hg1, _⟩
  · simp [Value.ownBlock] at hb
  · rcases h'.2 with ⟨rfl, _⟩ | ⟨g2, cap2, cur2, rfl, _, hg2, _⟩
    · simp [Value.ownBlock] at he
    · obtain rfl : g1 = g := by simpa [Value.ownBlock] using hb
      obtain rfl : g2 = g1 := by simpa [Value.ownBlock] using he
      rw [hg1] at hg2
      injection hg2 with hg2
      injection hg2 with _ hg2
      exact absurd hg2 (by decide)
/-- One slice less. -/
theorem RowsOf.dropLast {W : World} {base n c : Nat} {q : Option Addr} {vs : List Value} {ks : List (List UInt8)} (h : RowsOf W base (.slice q n c) vs ks) : n = ks.length ∧ RowsOf W base (.slice q (n - 1) c) vs.dropLast ks.dropLast := by
  have hl := h.len
  have hn : n = ks.length := by
    rcases h.1.2 with ⟨he, hz⟩ | ⟨g, cap, cur, he, _⟩
    · cases he; omega
    · cases he; rfl
  refine ⟨hn, ?_, fun i x k hi hj => ?_⟩
  · refine ⟨by rw [List.length_dropLast, List.length_dropLast]; omega, ?_⟩
    rcases h.1.2 with ⟨he, hz⟩ | ⟨g, cap, cur, he, hb, hg, h1, h2, h3, h4⟩
    · cases he
      exact .inl ⟨by simp, by rw [List.length_dropLast]; omega⟩
    · cases he
      refine .inr ⟨g, c, cur, by rw [List.length_dropLast], hb, hg, by rw [List.length_dropLast]; omega, h2, h3, ?_⟩
      rw [List.length_dropLast, ← h4, List.dropLast_eq_take]
      simp only [Nat.mul_one, List.take_take, List.length_take]
      have hm : ks.length ≤ cur.size := by omega
      have hcs : cur.toList.length = cur.size := rfl
      congr 1; omega
  · rw [List.getElem?_dropLast] at hi hj
    split at hi
    · split at hj
      · exact h.2 i x k hi hj
      · cases hj
    · cases hi

theorem join_lib (c : UInt8) : ∀ R : List (List UInt8), Lib.join R [c] = Ref.joinL c R
  | [] => rfl
  | [p] => Lib.join_one p [c]
  | p :: q :: r => by
    have ih := join_lib c (q :: r)
    rw [Lib.join_cons] at ih ⊢
    show p ++ Lib.joinTail [c] (q :: r) = p ++ c :: Ref.joinL c (q :: r)
    rw [← ih]
    simp [Lib.joinTail]
theorem lens_weight : ∀ R : List (List UInt8), Lib.lens R + R.length = weightL R
  | [] => rfl
  | p :: r => by
    have ih := lens_weight r
    simp only [Lib.lens, List.map_cons, List.sum_cons, List.length_cons, weightL] at ih ⊢
    omega
theorem By.holds {w : World} {v : Value} {l : List UInt8} (h : By w v l) : Lib.HoldsBytes w v l := by
  obtain ⟨q, c, rfl, h1, h2, h3, h4⟩ := h
  refine ⟨q, c, rfl, fun hq => List.eq_nil_of_length_eq_zero (by have := h3 hq; omega), fun a ha i x hx => ?_⟩
  subst ha
  have hi : i < l.length := (List.getElem?_eq_some_iff.1 hx).1
  obtain ⟨b, o, he, hc⟩ := h4.at (by omega)
  cases he
  rw [Go.WideShapes.add_plain, hc i hi, numsL_getD _ _ hi, List.getD, hx]; rfl
theorem By.fresh {B : Nat} {w : World} {v : Value} {l : List UInt8} (h : Lib.FreshBytes B w v l) : By w v l := by
  obtain ⟨g, cap, zs, rfl, _, h1, h2, h3, h4, h5, h6, _⟩ := h
  refine ⟨_, cap, rfl, h1, h2, (fun h => by cases h), fun _ => ⟨g, 0, rfl, fun i hi => ?_⟩⟩
  rw [Nat.zero_add, h6 i (by omega), numsL_getD _ _ hi, ← h5]
  have hz : i < zs.length := by omega
  have hr := h4 _ (List.getElem_mem hz)
  have hi' : i < (Lib.bytesOf (zs.take l.length)).length := by rw [Lib.bytesOf_length, List.length_take]; omega
  rw [List.getD, List.getElem?_eq_getElem hz, List.getD, List.getElem?_eq_getElem hi']
  simp only [Option.getD_some, Lib.bytesOf, List.getElem_map, List.getElem_take, UInt8.toNat_ofNat']
  congr 2; omega

set_option maxHeartbeats 1000000 in
theorem Join_any (base c n : Nat) (q : Option Addr) (vs : List Value) (ks : List (List UInt8)) (sv : Value) (w : World) (h : RowsOf w base (.slice q n c) vs ks) (hs : By w sv [47]) (hw : weightL ks ≤ 1099511627776) :
    Calls Tryz.prog 178 #[.slice q n c, sv] w fun e w' => ∃ v, e = .returned v ∧ By w' v (Ref.joinL 47 ks) ∧ Below w.heap.size w w' := by
  have hlen := h.len
  have hwt := lens_weight ks
  have key : ks ≠ [] → ∃ g, q = some ⟨g, 0, none⟩ ∧ n = ks.length ∧ n ≤ c ∧ ∀ (i : Nat) x, vs[i]? = some x → w.cell? ⟨g, i, none⟩ = some x := by
    intro hne
    have hpos : 0 < ks.length := List.length_pos_iff.2 hne
    rcases h.1.2 with ⟨he, hz⟩ | ⟨g, cap, cur, he, hb, hg, h1, h2, h3, h4⟩
    · omega
    · cases he
      refine ⟨g, rfl, rfl, h1, fun i x hx => ?_⟩
      have hi : i < vs.length := (List.getElem?_eq_some_iff.1 hx).1
      have : (cur.toList.take (ks.length * 1))[i]? = some x := by rw [h4]; exact hx
      rw [List.getElem?_take, if_pos (by omega)] at this
      simp only [World.cell?, hg]
      simpa using this
  rcases Nat.lt_or_ge 1 ks.length with h2 | h2
  · obtain ⟨g, rfl, hn, hnc, hc⟩ := key (by intro e; rw [e] at h2; simp at h2)
    have hP : Lib.PartsAt w ⟨g, 0, none⟩ vs ks := ⟨hlen, fun i x hx => by rw [Go.WideShapes.add_plain, Nat.zero_add]; exact hc i x hx, fun i x k hx hk => (By.row (h.2 i x k hx hk)).holds⟩
    refine (Tryz.bytes_Join_many g 0 n c vs ks sv [47] w hn.symm (by omega) hP hnc hs.holds (by omega) (by simp; omega)).mono ?_
    rintro e w' ⟨v, he, hf, hb⟩
    rw [join_lib] at hf
    exact ⟨v, he, By.fresh hf, hb⟩
  · match ks, h2 with
    | [], _ =>
      have hn : n = 0 := by
        rcases h.1.2 with ⟨he, _⟩ | ⟨g, cap, cur, he, _⟩
        · cases he; rfl
        · cases he; rfl
      subst hn
      refine (Tryz.bytes_Join_none q c sv w).mono ?_
      rintro e w' ⟨rfl, rfl⟩
      exact ⟨_, rfl, By.of rfl (Nat.le_refl _) (Nat.zero_le _) (fun _ => rfl) (Lib.BytesIn.nil _ _ _), (Below.refl _ _).alloc (Nat.le_refl _) _⟩
    | [k], _ =>
      obtain ⟨g, rfl, hn, hnc, hc⟩ := key (by simp)
      obtain rfl : n = 1 := hn
      obtain ⟨x, rfl⟩ : ∃ x, vs = [x] := by
        match vs, hlen with
        | [x], _ => exact ⟨x, rfl⟩
      have hb := By.row (h.2 0 x k rfl rfl)
      have hcell := hc 0 x rfl
      obtain ⟨p0, c0, rfl, h5, h6, h7, h8⟩ := hb.holds |> fun _ => hb
      rcases Nat.eq_zero_or_pos k.length with hk | hk
      · have hk' : k = [] := List.eq_nil_of_length_eq_zero hk
        subst hk'
        refine (Tryz.bytes_Join_one_empty g 0 c p0 c0 sv w hcell).mono ?_
        rintro e w' ⟨rfl, rfl⟩
        exact ⟨_, rfl, by_nil _, Below.refl _ _⟩
      · obtain ⟨b, o, rfl, hcc⟩ := h8.at hk
        refine (Tryz.bytes_Join_one g 0 c ⟨b, o, none⟩ c0 k sv w hcell (fun i y hy => by
          have hi : i < k.length := (List.getElem?_eq_some_iff.1 hy).1
          rw [Go.WideShapes.add_plain, hcc i hi, numsL_getD _ _ hi, List.getD, hy]; rfl) hk (by simp [weightL] at hw; omega)).mono ?_
        rintro e w' ⟨v, he, hf, hb'⟩
        exact ⟨v, he, By.fresh hf, hb'⟩

/-- The pieces behind the first one. -/
def tailsX (pre : List (Nat × List UInt8)) : List (List UInt8) := (pre.map Prod.snd).tail
theorem tails_snoc (pre : List (Nat × List UInt8)) (x : Nat × List UInt8) (h : pre ≠ []) : tailsX (pre ++ [x]) = tailsX pre ++ [x.2] := by
  unfold tailsX
  rw [List.map_append, List.map_singleton, List.tail_append_of_ne_nil (by simpa using h)]
theorem tails_one (x : Nat × List UInt8) : tailsX ([] ++ [x]) = [] := rfl
theorem forms_snoc : ∀ (l : List (List UInt8)) (p : List UInt8) (cs : List (List UInt8)) (c : List UInt8), formsL l = some cs → formL 1 p = some c → formsL (l ++ [p]) = some (cs ++ [c])
  | [], p, cs, c, h, hp => by
    rw [formsL] at h; cases h
    rw [List.nil_append, formsL, hp]; rfl
  | a :: r, p, cs, c, h, hp => by
    rw [formsL] at h
    obtain ⟨d, hd, h⟩ := Option.bind_eq_some_iff.1 h
    obtain ⟨ds, hds, rfl⟩ := Option.map_eq_some_iff.1 h
    rw [List.cons_append, formsL, hd, Option.bind_some, forms_snoc r p ds c hds hp]; rfl
theorem forms_bad : ∀ (l r : List (List UInt8)) (p : List UInt8), formL 1 p = none → formsL (l ++ p :: r) = none
  | [], r, p, hp => by rw [List.nil_append, formsL, hp]; rfl
  | a :: t, r, p, hp => by
    rw [List.cons_append, formsL, forms_bad t r p hp]
    cases formL 1 a <;> rfl
theorem stack_snoc (cs : List (List UInt8)) (c : List UInt8) : stackL [] (cs ++ [c]) = if c = [46] then stackL [] cs else if c = [46, 46] then (stackL [] cs).dropLast else stackL [] cs ++ [c] := by
  rw [stack_app, stackL, stackL]
theorem last_snoc (cs : List (List UInt8)) (c : List UInt8) : (cs ++ [c]).getLastD [] = c := by simp
theorem path_split (l : List UInt8) (h : l = [] ∨ ∃ r, l = 47 :: r) : pathL l = (formsL (Ref.splitL 47 l).tail).map fun cs => 47 :: Ref.joinL 47 (dotsL cs) := by
  rcases h with rfl | ⟨r, rfl⟩
  · rfl
  · rw [Ref.split_is]; rfl
theorem tails_split (l : List UInt8) : tailsX (splitX 47 l) = (Ref.splitL 47 l).tail := by
  unfold tailsX; rw [Host.splitX_snd]

end Go.Proofs.YtpabhppghljipaaGreatDoor.Url

namespace Go.Proofs.YtpabhppghljipaaGreatDoor.Url
open Go.RowKit Go.Shelf
attribute [local go_sem] Oper.semAt_some

theorem info_sl : (Tryz.prog.info? 22).map (fun i => (i.zero, i.size, i.bytes)) = some (some (.slice none 0 0), 1, 24) := by kernel_rfl
/-- A path and an error's number, out of their cells. -/
theorem results_path {fn : Func} {p r : Tmp} (h : fn.results = #[.cell p 22, .cell r 42]) (tmps : Array Value) (w : World) (B C : Nat) (v u : Value) (hp : tmps.getD p undef = .pointer (some ⟨B, 0, none⟩)) (hr : tmps.getD r undef = .pointer (some ⟨C, 0, none⟩)) (hb : w.cell? ⟨B, 0, none⟩ = some v) (hc : w.cell? ⟨C, 0, none⟩ = some u) :
    (results fn tmps).run Tryz.prog w = .ok (.tuple #[v, u]) w := by
  have hp' : tmps[p]?.getD undef = .pointer (some ⟨B, 0, none⟩) := by simpa using hp
  have hr' : tmps[r]?.getD undef = .pointer (some ⟨C, 0, none⟩) := by simpa using hr
  have ha : ∀ w', (isAgg 22).run Tryz.prog w' = .ok false w' := Tryz.isAgg22
  have hd : ∀ w', (isAgg 42).run Tryz.prog w' = .ok false w' := Tryz.isAgg42
  have hl : (load ⟨B, 0, none⟩).run Tryz.prog w = .ok v w := by simp [go_sem, hb]
  have hm : (load ⟨C, 0, none⟩).run Tryz.prog w = .ok u w := by simp [go_sem, hc]
  simp [results, h, hp', hr', asAddr, loadVar, ha, hd, hl, hm, Result.andThen]

theorem own_len (q : Option Addr) (n m c d : Nat) : (Value.slice q n c).ownBlock = (Value.slice q m d).ownBlock := by cases q <;> rfl
theorem rows_slice {W : World} {base : Nat} {v : Value} {vs : List Value} {ks : List (List UInt8)} (h : RowsOf W base v vs ks) : ∃ q c, v = .slice q ks.length c ∧ ks.length ≤ c ∧ c ≤ maxLen := by
  rcases h.1.2 with ⟨rfl, hz⟩ | ⟨g, cap, cur, rfl, _, _, h1, h2, _⟩
  · exact ⟨none, 0, by rw [hz], by omega, Nat.zero_le _⟩
  · exact ⟨_, cap, rfl, h1, h2⟩
theorem strs_eq (l m : List UInt8) : ((⟨l.toArray⟩ : ByteArray).toList == (⟨m.toArray⟩ : ByteArray).toList) = decide (l = m) := by
  rw [Lib.toList_data, Lib.toList_data, Bool.eq_iff_iff, beq_iff_eq, decide_eq_true_iff]
theorem conv_bytes {W : World} {q : Option Addr} {n c : Nat} {l : List UInt8} (h : Lib.BytesIn W q n (Lib.numsL l)) (hl : l.length = n) : (convert 22 9 (.slice q n c)).run Tryz.prog W = .ok (.string ⟨l.toArray⟩) W := by
  have h := h.convert (P := Tryz.prog) (by rw [Lib.numsL_length, hl]) c 22 5 9 Tryz.underlying22 Tryz.underlying5 Tryz.underlying9
  rwa [strOfNums_numsL] at h
theorem stack_len : ∀ (ps st : List (List UInt8)), (stackL st ps).length ≤ st.length + ps.length
  | [], st => by simp [stackL]
  | p :: r, st => by
    rw [stackL]
    have ih := stack_len r (if p = [46] then st else if p = [46, 46] then st.dropLast else st ++ [p])
    have hs : (if p = [46] then st else if p = [46, 46] then st.dropLast else st ++ [p]).length ≤ st.length + 1 := by
      split
      · omega
      · split
        · rw [List.length_dropLast]; omega
        · simp
    rw [List.length_cons]; omega

theorem wpListIn_append_by {F : Fence} {nF : Nat} {ops : Array Oper} {rest : List Oper} {o : Oper} {a : Act} {w : World} {Q : Exit → Act → World → Prop} (hgd : o.guard = none) (s x : Operand)
    (ho : o.op = .call { callee := .builtin .append, args := #[s, x], argTypes := #[22, 22] })
    (base : Nat) (v : Value) (n : Nat) (xs : List Value) (hs : a.eval s = v) (hown : w.ownsRow base 5 1 v n xs) (vx : Value) (bs : List UInt8) (hx : a.eval x = vx) (hb : By w vx bs) (h47 : n + bs.length ≤ 140737488355328) (hbase : base ≤ w.heap.size)
    (h : ∀ v' w', w'.ownsRow base 5 1 v' (n + bs.length) (xs ++ byV bs) → w.grownBy w' v.ownBlock → wpListIn F nF Tryz.prog ops Q rest (a.put o.dst v') w') : wpListIn F nF Tryz.prog ops Q (o :: rest) a w := by
  refine wpListIn_plain hgd fun K hK => ?_
  obtain ⟨v', w', hr, h1, h2⟩ := run_append_by o.type base v n xs w hown vx bs hb h47 hbase
  unfold Oper.wpIn
  refine ⟨by simp [Oper.about, ho, resolve, Target.leads, Sem.run_pure], ?_⟩
  rw [Oper.semAt_plain F _ _ (by rw [ho]; intro c hc'; cases hc')]
  simp [execOp, ho, resolve, invoke, builtin, hs, hx, hr, Result.andThen]
  exact hK _ _ (h v' w' h1 h2)
/-- A new row of one byte is one's own. -/
theorem own_lit (w : World) (b : UInt8) : (w.alloc (.cells #[.int .u8 (b.toNat : Int)] 5)).ownsRow w.heap.size 5 1 (.slice (some ⟨w.heap.size, 0, none⟩) 1 1) 1 (byV [b]) :=
  ⟨rfl, .inr ⟨w.heap.size, 1, #[.int .u8 (b.toNat : Int)], rfl, Nat.le_refl _, World.alloc_heap_new w _, Nat.le_refl _, by decide, rfl, rfl⟩⟩

/-- What lies while the pieces are gone through. -/
def PthI (w W1 : World) (pre : List (Nat × List UInt8)) (Pv : Nat → Prop) (W : World) : Prop :=
  ∃ cs v vs, Boxed W w.heap.size 22 (.slice none 0 0) ∧ Boxed W (w.heap.size + 1) 42 (.int .i64 0) ∧ Boxed W (w.heap.size + 1 + 1) 216 v ∧ Boxed W (w.heap.size + 1 + 1 + 1) 4 (.bool (dotB (cs.getLastD []))) ∧
    RowsOf W W1.heap.size v vs (stackL [] cs) ∧ (∀ b, KB v vs b → ¬ Pv b) ∧ (∀ b, Pv b → W1.heap.size ≤ b) ∧ Keep (fun _ => False) W1 W ∧ Hid (formsL (tailsX pre) = some cs) ∧ cs.length ≤ pre.length ∧ Below w.heap.size w W
theorem PthI_abide {w W1 : World} (h : w.heap.size + 4 ≤ W1.heap.size) : Abide (PthI w W1) := by
  rintro pre Pv Pv' A B ⟨cs, v, vs, h1, h2, h3, h4, h5, h6, h7, h8, h9, h10, h11⟩ hk hp
  have kk : ∀ b, b < W1.heap.size → ¬ Pv b := fun b hb hn => by have := h7 b hn; omega
  have hs := h8.size
  refine ⟨cs, v, vs, hk.boxed h1 (kk _ (by omega)), hk.boxed h2 (kk _ (by omega)), hk.boxed h3 (kk _ (by omega)), hk.boxed h4 (kk _ (by omega)), h5.keep hk h6, fun b hb hp' => ?_, fun b hb => ?_, h8.trans (hk.mono fun _ _ h => h.elim), h9, h10, h11.trans ((hk.mono fun b _ hb => kk b (by omega)).below h11.size)⟩
  · rcases (hp b hp').1 with h' | h'
    · exact h6 b hb h'
    · have := (h5.lt b hb).2; omega
  · rcases (hp b hb).1 with h' | h'
    · exact h7 b h'
    · omega
/-- What lies behind a piece that has no form. -/
def PthE (w : World) (l : List UInt8) (_ : List (Nat × List UInt8)) (W : World) : Prop :=
  Boxed W w.heap.size 22 (.slice none 0 0) ∧ Boxed W (w.heap.size + 1) 42 (.int .i64 2) ∧ Hid (pathL l = none) ∧ Below w.heap.size w W

set_option maxRecDepth 100000 in
set_option maxHeartbeats 8000000 in
theorem canonOfPath_any (q : Option Addr) (n c : Nat) (l : List UInt8) (w : World) (hby : By w (.slice q n c) l) (hn : n ≤ 1048576) (hform : l = [] ∨ ∃ r, l = 47 :: r) :
    Calls Tryz.prog 151 #[.slice q n c] w fun e w' => Pct.TextPost (pathL l) w e w' := by
  obtain ⟨i1, hi1, hz0, hz1, hz2⟩ := info_parts info_sl
  refine (callsIn_wide (n := 1)).1 ?_
  refine callsIn_of_wp_marks Tryz.func151 rfl trivial ?_ rfl
  simp only [Tryz.ntmps151, List.size_toArray, List.length_cons, List.length_nil, Nat.reduceAdd, Nat.reduceSub, Array.replicate_succ, Array.replicate_zero, List.push_toArray, List.append_toArray, List.nil_append, List.cons_append]
  obtain ⟨W0', hW0', b0, b1, b2, b3, hs0', hk0⟩ := four_boxes w 22 42 216 4 (.slice none 0 0) (.int .i64 0) (.slice none 0 0) (.bool false)
  clear hW0' b0 b1 b2 b3 hs0' hk0
  obtain ⟨W0, hW0⟩ : ∃ W0, (((w.alloc (.cells #[.slice none 0 0] 22)).alloc (.cells #[.int .i64 0] 42)).alloc (.cells #[.slice none 0 0] 216)).alloc (.cells #[.bool false] 4) = W0 := ⟨_, rfl⟩
  have b0 : Boxed W0 w.heap.size 22 (.slice none 0 0) := hW0 ▸ (((Boxed.new w _ _).alloc _).alloc _).alloc _
  have b1 : Boxed W0 (w.heap.size + 1) 42 (.int .i64 0) := by
    have := ((Boxed.new (w.alloc (.cells #[.slice none 0 0] 22)) 42 (.int .i64 0)).alloc (.cells #[.slice none 0 0] 216)).alloc (.cells #[.bool false] 4)
    rw [World.size_alloc] at this
    exact hW0 ▸ this
  have b2 : Boxed W0 (w.heap.size + 1 + 1) 216 (.slice none 0 0) := by
    have := (Boxed.new ((w.alloc (.cells #[.slice none 0 0] 22)).alloc (.cells #[.int .i64 0] 42)) 216 (.slice none 0 0)).alloc (.cells #[.bool false] 4)
    rw [World.size_alloc, World.size_alloc] at this
    exact hW0 ▸ this
  have b3 : Boxed W0 (w.heap.size + 1 + 1 + 1) 4 (.bool false) := by
    have := Boxed.new (((w.alloc (.cells #[.slice none 0 0] 22)).alloc (.cells #[.int .i64 0] 42)).alloc (.cells #[.slice none 0 0] 216)) 4 (.bool false)
    rw [World.size_alloc, World.size_alloc, World.size_alloc] at this
    exact hW0 ▸ this
  have hB0 : Below w.heap.size w W0 := hW0 ▸ ((((Below.refl _ w).alloc (Nat.le_refl _) _).alloc (by simp) _).alloc (by simp only [World.size_alloc]; omega) _).alloc (by simp only [World.size_alloc]; omega) _
  have hs0 : W0.heap.size = w.heap.size + 1 + 1 + 1 + 1 := by rw [← hW0]; simp
  obtain ⟨hl, hnc0, hcm0, hnil0, h⟩ := hby.at
  have hb0 := bytes_on h hB0
  have con := Split_any q n c 47 l W0 hl (by omega) hb0
  have hsmall := splitX_small 47 l n hl
  have hlenX := splitX_len 47 l
  have hnum := splitX_num 47 l
  rw [hl] at hlenX
  have HW0 := Lib.hid hW0
  have HPS := Lib.hid (path_split l hform)
  have HTS := Lib.hid (tails_split l)
  have HWT := Lib.hid (weight_split 47 l)
  have HL := Lib.hid hl
  clear hW0 hb0 hl hby h hform
  gi_wp2_with fail
  rw [HW0.out]
  refine ⟨trivial, (callsIn_wide.2 con).mono ?_⟩
  rintro e W1 ⟨B, v', rfl, hB, hBc, hrow, hBl, hbel⟩
  have hit := Split_iter (by omega) hB hBc hrow
  have hRl0 : ∀ b, (b = B ∨ b = W0.heap.size ∨ v'.ownBlock = some b) → w.heap.size + 4 ≤ b ∧ b < W1.heap.size := fun b hb => by
    rcases hb with rfl | rfl | hb
    · exact ⟨by omega, hB.lt⟩
    · exact ⟨by omega, hBc.lt⟩
    · have := hrow.lt b hb; exact ⟨by omega, this.2⟩
  obtain ⟨RB, hRB⟩ : ∃ RB : Nat → Prop, RB = fun b => b = B ∨ b = W0.heap.size ∨ v'.ownBlock = some b := ⟨_, rfl⟩
  rw [← hRB, hs0] at hit
  have hRl : ∀ b, RB b → w.heap.size + 4 ≤ b ∧ b < W1.heap.size := fun b hb => hRl0 b (by rw [hRB] at hb; exact hb)
  clear hRB hRl0
  replace b0 := (Keep.of_below hbel).boxed b0 (by omega)
  replace b1 := (Keep.of_below hbel).boxed b1 (by omega)
  replace b2 := (Keep.of_below hbel).boxed b2 (by omega)
  replace b3 := (Keep.of_below hbel).boxed b3 (by omega)
  have hB1 := hB0.trans (hbel.mono hB0.size)
  have hs1 := hbel.size
  clear con hB hBc hrow hBl hbel HW0 hB0
  generalize splitX 47 l = xs at *
  gi_wp2
  rw [hs0] at hs1
  clear hs0
  refine rf_law (gf := 67) (lb := #[.pointer (some ⟨B, 0, none⟩), .pointer (some ⟨w.heap.size + 1 + 1 + 1 + 1, 0, none⟩)]) rfl (enters_of Tryz.func67 (by kernel_rfl) rfl)
    hit (Keep.refl _ _) (fun b hb => (hRl b hb).2) (fun x args G W h => by obtain ⟨v, rfl, _⟩ := h; rfl)
    (PthI w W1) (Host.EvX W1 (PthE w l)) (PthI_abide hs1) (Host.EvX_abide ?e2)
    ⟨[], .slice none 0 0, [], b0, b1, b2, b3, RowsOf.nil _ _, (fun _ _ h => h), (fun _ h => h.elim), Keep.refl _ _, Lib.hid rfl, Nat.zero_le _, hB1⟩ ?round ?done ?stop
  case e2 =>
    rintro pre A B hk ⟨h1, h2, h3, h4⟩
    exact ⟨hk.boxed h1 (by omega), hk.boxed h2 (by omega), h3, h4.trans ((hk.mono fun b _ hb => by omega).below h4.size)⟩
  case round =>
    rintro ll pre ⟨xi, x⟩ rest Pv G args Wr hll hxs ⟨cs, v, vs, hE0, hE1, hE2, hE3, hR, hnk, hge, hK1, HF, hcl, hE8⟩ hPl hGl hPb hGP ⟨p, rfl, hp, rfl⟩
    have hxm : (xi, x) ∈ xs := by rw [hxs]; simp
    have hxl := hsmall _ hxm
    have hxi := hnum pre (xi, x) rest hxs
    simp only at hxl hp hxi
    subst hxi
    obtain ⟨qx, cx, rfl, _, hnc, hcm, hbs, hblk⟩ := row_open hp
    have hlen : pre.length + rest.length + 1 = xs.length := by rw [hxs]; simp; omega
    gi_wp2
    refine ⟨Keep.refl _ _, fun W2 hk2 hs2 r hr => ?_⟩
    have k2 : Keep (fun b => b < W1.heap.size) Wr W2 := hk2.mono fun b _ hb h => by omega
    have kP : Keep (fun b => ¬ Pv b) Wr W2 := hk2.mono fun b _ hb h => hb (h ▸ hPl)
    have f0 := k2.boxed hE0 (by omega)
    have f1 := k2.boxed hE1 (by omega)
    have f2 := k2.boxed hE2 (by omega)
    have f3 := k2.boxed hE3 (by omega)
    have hR2 := hR.keep kP hnk
    have gx : Keep (fun b => (Value.slice qx x.length cx).ownBlock = some b) Wr W2 := hk2.mono fun b _ hb h => hGl (h ▸ hb)
    have hbs2 : Lib.BytesIn W2 qx x.length (Lib.numsL x) := bytes_keep hbs gx (fun a ha _ => (hblk a ha).2.2)
    have hW2 := hE8.trans ((k2.mono fun b _ h => by omega).below hE8.size)
    have hs2' := hE8.size
    have hK2 := hK1.trans (hk2.mono fun _ _ h => h.elim)
    have hPl2 : ∀ b, Pv b → b < W2.heap.size := fun b hb => by rw [hs2]; exact hPb b hb
    have con2 := Pct.Canon_any qx x.length cx x 1 W2 rfl (by omega) hbs2
    have hszW := hW2.size
    have hs12 := hK2.size
    clear hbs hp hbs2 hblk hk2 gx hE0 hE1 hE2 hE3 hR kP k2 hK1 hE8
    by_cases hp0 : pre = []
    · have e0 : ((pre.length : Int) == 0) = true := by rw [beq_iff_eq, hp0]; rfl
      have HF2 := Lib.hid (show formsL (tailsX (pre ++ [(pre.length, x)])) = some cs by rw [hp0, tails_one]; have := HF.out; rw [hp0] at this; exact this)
      have hcl2 : cs.length ≤ (pre ++ [(pre.length, x)]).length := by rw [List.length_append]; omega
      clear con2 hxs
      gi_wp2
      exact ⟨Keep.refl _ _, cs, v, vs, f0, f1, f2, f3, hR2, fun b hb h => hnk b hb h.1, fun b hb => hge b hb.1, hK2, HF2, hcl2, hW2⟩
    · have e0 : ((pre.length : Int) == 0) = false := by
        rw [beq_eq_false_iff_ne]
        have := List.length_pos_iff.2 hp0
        omega
      have HXS := Lib.hid (show tailsX xs = tailsX pre ++ x :: rest.map Prod.snd by
        rw [hxs]; unfold tailsX
        rw [List.map_append, List.tail_append_of_ne_nil (by simpa using hp0)]; rfl)
      have HTS1 := Lib.hid (tails_snoc pre (pre.length, x) hp0)
      clear hxs hp0
      cases hf : formL 1 x with
      | none =>
        have HPN := Lib.hid (show pathL l = none by rw [HPS.out, ← HTS.out, HXS.out, forms_bad _ _ _ hf]; rfl)
        have hf' : (Pct.itemsL x).map (Pct.canL 1) = none := hf
        rw [hf'] at con2
        clear hf hf' HXS HTS1
        gi_wp2_with fail
        refine ⟨trivial, rfl, (CallsIn.inRound ll (callsIn_wide.2 con2)).mono ?_⟩
        rintro e W3 ⟨v3, n3, rfl, hn3, hr3, hb3⟩
        obtain rfl : n3 = 2 := hn3.out
        obtain ⟨q3, c3, rfl, _, _, _, _, _⟩ := row_open hr3
        have g0 := (Keep.of_below hb3).boxed f0 f0.lt
        have g1 := (Keep.of_below hb3).boxed f1 f1.lt
        have x0 := g0.cell
        have x1 := g1.cell
        have z0 := g0.frozen
        have z1 := g1.frozen
        have hW3 := hW2.trans (hb3.mono hszW)
        clear con2 hr3 hn3 f2 f3 hR2
        gi_wp2
        have kst : ∀ S : Nat → Prop, ¬ S w.heap.size → ¬ S (w.heap.size + 1) → Keep S W3 ((W3.setCell ⟨w.heap.size, 0, none⟩ (.slice none 0 0)).setCell ⟨w.heap.size + 1, 0, none⟩ (.int .i64 2)) := fun S h h' => (Keep.setCell _ _ _ h).trans (Keep.setCell _ _ _ h')
        refine ⟨((Keep.of_below hb3).mono fun b hb _ => hb).trans (kst _ (fun h => ?_) (fun h => ?_)), rfl, fun b hb => hge b hb.1, (hK2.trans ((Keep.of_below hb3).mono fun _ _ h => h.elim)).trans (kst _ (fun h => h) (fun h => h)), ?_, ?_, HPN.out, ?_⟩
        · rcases h with h | h
          · have := (hRl _ h).1; omega
          · have := hge _ h.1; omega
        · rcases h with h | h
          · have := (hRl _ h).1; omega
          · have := hge _ h.1; omega
        · exact (Keep.setCell (S := fun b => b = w.heap.size) _ ⟨w.heap.size + 1, 0, none⟩ _ (by simp)).boxed (g0.set _) rfl
        · exact ((Keep.setCell (S := fun b => b = w.heap.size + 1) W3 ⟨w.heap.size, 0, none⟩ _ (by simp)).boxed g1 rfl).set _
        · exact (hW3.setCell (p := ⟨w.heap.size, 0, none⟩) (Nat.le_refl _) _).setCell (p := ⟨w.heap.size + 1, 0, none⟩) (Nat.le_succ _) _
      | some cc =>
        have hf' : (Pct.itemsL x).map (Pct.canL 1) = some cc := hf
        rw [hf'] at con2
        have HF2 := Lib.hid (show formsL (tailsX (pre ++ [(pre.length, x)])) = some (cs ++ [cc]) by rw [HTS1.out]; exact forms_snoc _ _ _ _ HF.out hf)
        have hcl2 : (cs ++ [cc]).length ≤ (pre ++ [(pre.length, x)]).length := by rw [List.length_append, List.length_append]; simp; omega
        have hkl := stack_len cs []
        clear hf hf' HXS HTS1 HF
        obtain ⟨qv, cv, rfl, hv1, hv2⟩ := rows_slice hR2
        obtain ⟨ks, hks⟩ : ∃ ks, stackL [] cs = ks := ⟨_, rfl⟩
        rw [hks] at hR2 hv1 hkl hnk f2
        have HKS := Lib.hid hks
        have HSN := Lib.hid (stack_snoc cs cc)
        rw [hks] at HSN
        have HLN := Lib.hid (last_snoc cs cc)
        obtain ⟨m, hm⟩ : ∃ m, ks.length = m := ⟨_, rfl⟩
        rw [hm] at hv1 hkl hnk f2 hR2
        have HM := Lib.hid hm
        simp only [List.length_nil, Nat.zero_add] at hkl
        clear hks
        gi_wp2_with fail
        refine ⟨trivial, rfl, (CallsIn.inRound ll (callsIn_wide.2 con2)).mono ?_⟩
        rintro e W3 ⟨v3, n3, rfl, hn3, hr3, hb3⟩
        obtain rfl : n3 = 0 := hn3.out
        replace hr3 : W3.ownsRow W2.heap.size 5 1 v3 cc.length (byV cc) := hr3
        obtain ⟨q3, c3, rfl, _, _, _, hbb, hblk3⟩ := row_open hr3
        have hcv := conv_bytes (c := c3) hbb rfl
        have g0 := (Keep.of_below hb3).boxed f0 f0.lt
        have g1 := (Keep.of_below hb3).boxed f1 f1.lt
        have g2 := (Keep.of_below hb3).boxed f2 f2.lt
        have g3 := (Keep.of_below hb3).boxed f3 f3.lt
        have hR3 := hR2.keep (Keep.of_below hb3) (fun b hb => (hR2.lt b hb).2)
        have x2 := g2.cell
        have x3 := g3.cell
        have z2 := g2.frozen
        have z3 := g3.frozen
        have hW3 := hW2.trans (hb3.mono hszW)
        have hs23 := hb3.size
        have hK3 : Keep (fun _ => False) W1 W3 := hK2.trans ((Keep.of_below hb3).mono fun _ _ h => h.elim)
        have hkk : Keep (fun b => RB b ∨ Pv b ∧ ¬(Value.slice qx x.length cx).ownBlock = some b) W2 W3 := (Keep.of_below hb3).mono fun b hb _ => hb
        have hPl3 : ∀ b, Pv b → b < W2.heap.size := hPl2
        have hnb : ∀ b, b < w.heap.size + 4 → ¬ (RB b ∨ Pv b ∧ ¬(Value.slice qx x.length cx).ownBlock = some b) := fun b hb h => by
          rcases h with h | h
          · have := (hRl _ h).1; omega
          · have := hge _ h.1; omega
        clear con2 hn3 f0 f1 f2 f3 hR2 hbb hblk3
        by_cases h1 : cc = [46]
        · have e1 : (cc == ([46] : List UInt8)) = true := by rw [beq_iff_eq]; exact h1
          have HSK := Lib.hid (show stackL [] (cs ++ [cc]) = ks by rw [HSN.out, if_pos h1])
          have HDT := Lib.hid (show dotB ((cs ++ [cc]).getLastD []) = true by rw [HLN.out, h1]; decide)
          clear h1 HSN HLN
          gi_wp2
          have kst : ∀ S : Nat → Prop, ¬ S (w.heap.size + 1 + 1 + 1) → Keep S W3 (W3.setCell ⟨w.heap.size + 1 + 1 + 1, 0, none⟩ (.bool true)) := fun S h => Keep.setCell _ _ _ h
          refine ⟨hkk.trans (kst _ (hnb _ (by omega))), cs ++ [cc], _, vs, (kst (fun b => b = w.heap.size) (by omega)).boxed g0 rfl, (kst (fun b => b = w.heap.size + 1) (by omega)).boxed g1 rfl, (kst (fun b => b = w.heap.size + 1 + 1) (by omega)).boxed g2 rfl, ?_, ?_, fun b hb h => hnk b hb h.1, fun b hb => hge b hb.1, hK3.trans (kst _ (fun h => h)), HF2, hcl2, hW3.setCell (p := ⟨w.heap.size + 1 + 1 + 1, 0, none⟩) (show w.heap.size ≤ w.heap.size + 1 + 1 + 1 by omega) _⟩
          · rw [HDT.out]; exact g3.set _
          · rw [HSK.out]; exact hR3.keep (kst (fun b => b ≠ w.heap.size + 1 + 1 + 1) (fun h => h rfl)) (fun b hb => by have := (hR3.lt b hb).1; omega)
        · have e1 : (cc == ([46] : List UInt8)) = false := by rw [beq_eq_false_iff_ne]; exact h1
          by_cases h2 : cc = [46, 46]
          · have e2 : (cc == ([46, 46] : List UInt8)) = true := by rw [beq_iff_eq]; exact h2
            have HSK := Lib.hid (show stackL [] (cs ++ [cc]) = ks.dropLast by rw [HSN.out, if_neg h1, if_pos h2])
            have HDT := Lib.hid (show dotB ((cs ++ [cc]).getLastD []) = true by rw [HLN.out, h2]; decide)
            have hmx : (max ((m : Int) - 1) 0).toNat = m - 1 := by omega
            have HMX := Lib.hid hmx
            clear h1 h2 HSN HLN hmx
            gi_wp2
            rw [HMX.out]
            have kst : ∀ S : Nat → Prop, ¬ S (w.heap.size + 1 + 1) → ¬ S (w.heap.size + 1 + 1 + 1) → Keep S W3 ((W3.setCell ⟨w.heap.size + 1 + 1, 0, none⟩ (.slice qv (m - 1) cv)).setCell ⟨w.heap.size + 1 + 1 + 1, 0, none⟩ (.bool true)) := fun S h h' => (Keep.setCell _ _ _ h).trans (Keep.setCell _ _ _ h')
            have hRd := (hR3.dropLast).2
            refine ⟨hkk.trans (kst _ (hnb _ (by omega)) (hnb _ (by omega))), cs ++ [cc], _, vs.dropLast, (kst (fun b => b = w.heap.size) (by omega) (by omega)).boxed g0 rfl, (kst (fun b => b = w.heap.size + 1) (by omega) (by omega)).boxed g1 rfl,
              (Keep.setCell (S := fun b => b = w.heap.size + 1 + 1) _ ⟨w.heap.size + 1 + 1 + 1, 0, none⟩ _ (by simp)).boxed (g2.set _) rfl, ?_, ?_, fun b hb h => hnk b ?_ h.1, fun b hb => hge b hb.1, hK3.trans (kst _ (fun h => h) (fun h => h)), HF2, hcl2,
              (hW3.setCell (p := ⟨w.heap.size + 1 + 1, 0, none⟩) (show w.heap.size ≤ w.heap.size + 1 + 1 by omega) _).setCell (p := ⟨w.heap.size + 1 + 1 + 1, 0, none⟩) (show w.heap.size ≤ w.heap.size + 1 + 1 + 1 by omega) _⟩
            · rw [HDT.out]; exact ((Keep.setCell (S := fun b => b = w.heap.size + 1 + 1 + 1) W3 ⟨w.heap.size + 1 + 1, 0, none⟩ _ (by simp)).boxed g3 rfl).set _
            · rw [HSK.out]; exact hRd.keep (kst (fun b => b ≠ w.heap.size + 1 + 1 ∧ b ≠ w.heap.size + 1 + 1 + 1) (fun h => h.1 rfl) (fun h => h.2 rfl)) (fun b hb => by have := (hRd.lt b hb).1; omega)
            · rcases hb with hb | ⟨y, hy, hb⟩
              · exact .inl ((own_len qv _ _ _ _).symm.trans hb)
              · exact .inr ⟨y, List.dropLast_subset _ hy, hb⟩
          · have e2 : (cc == ([46, 46] : List UInt8)) = false := by rw [beq_eq_false_iff_ne]; exact h2
            have HSK := Lib.hid (show stackL [] (cs ++ [cc]) = ks ++ [cc] by rw [HSN.out, if_neg h1, if_neg h2])
            have HDT := Lib.hid (show dotB ((cs ++ [cc]).getLastD []) = false by rw [HLN.out]; unfold dotB; simp [h1, h2])
            clear h1 h2 HSN HLN
            gi_wp2_with (gi_at_builtin; go_must (refine wpListIn_append_own_at _ rfl _ _ 216 rfl W1.heap.size 22 i1 (.slice none 0 0) 1 24 Tryz.underlying216 hi1 hz0 hz1 hz2 rfl (by decide) _ _ _ rfl (hR3.1.alloc _) ⟨W3.heap.size, 0, none⟩ 1 1 [.slice q3 cc.length c3] rfl rfl (cell_one_new _ _ _) (by simp [Value.oneCell']) (by rw [HM.out]; unfold maxLen; omega) (by rw [HM.out]; omega) (by simp; omega) ?_); intro v' w4 hown' hgrow _ hat; obtain ⟨g', cap', rfl⟩ := ownsRow_succ hown'; obtain ⟨hv1', hv2', hr2', hkk'⟩ := Pct.appended_keep (S := fun b => b ≠ w.heap.size + 1 + 1 ∧ ¬ (Value.slice qv m cv).ownBlock = some b) g2 (by decide) hR3.1 (fun h => h.1 rfl) (fun b hb h => h.2 hb) hown' hgrow; have hc1 := hv1'.cell; have hf1 := hv1'.frozen; have hx4 := (g3.alloc (.cells #[.slice q3 cc.length c3] 22)).kept hgrow (g3.not_row (by decide) hR3.1); have hx4c := hx4.cell; have hx4f := hx4.frozen)
            rw [hm] at hkk' hv2' hr2' hat
            have hol : ∀ b, (Value.slice qv m cv).ownBlock = some b → W1.heap.size ≤ b := fun b hb => (hR3.1.lt b hb).1
            have hx5 := (Keep.setCell (S := fun b => b = w.heap.size + 1 + 1 + 1) w4 ⟨w.heap.size + 1 + 1, 0, none⟩ (.slice (some ⟨g', 0, none⟩) (m + 1) cap') (by simp)).boxed hx4 rfl
            have k35 : ∀ S : Nat → Prop, (∀ b, S b → b ≠ w.heap.size + 1 + 1 ∧ b ≠ w.heap.size + 1 + 1 + 1 ∧ ¬ (Value.slice qv m cv).ownBlock = some b) → Keep S W3 ((w4.setCell ⟨w.heap.size + 1 + 1, 0, none⟩ (.slice (some ⟨g', 0, none⟩) (m + 1) cap')).setCell ⟨w.heap.size + 1 + 1 + 1, 0, none⟩ (.bool false)) := fun S hS =>
              (hkk'.mono fun b _ hb => ⟨(hS b hb).1, (hS b hb).2.2⟩).trans (Keep.setCell _ _ _ fun h => (hS _ h).2.1 rfl)
            have hs14 : w.heap.size + 4 ≤ W1.heap.size := hs1
            have hlt2 : (vs ++ [Value.slice q3 cc.length c3]).length = (ks ++ [cc]).length := by rw [List.length_append, List.length_append, hR3.len]; rfl
            have hvl := hR3.len
            refine ⟨hkk.trans (k35 _ fun b hb => ?_), cs ++ [cc], _, vs ++ [.slice q3 cc.length c3], (k35 (fun b => b = w.heap.size) (fun b hb => ⟨by omega, by omega, fun h => by have := hol b h; omega⟩)).boxed g0 rfl, (k35 (fun b => b = w.heap.size + 1) (fun b hb => ⟨by omega, by omega, fun h => by have := hol b h; omega⟩)).boxed g1 rfl,
              (Keep.setCell (S := fun b => b = w.heap.size + 1 + 1) _ ⟨w.heap.size + 1 + 1 + 1, 0, none⟩ _ (by simp)).boxed hv2' rfl, ?_, ?_, ?_, fun b hb => hge b hb.1, hK3.trans (k35 _ fun b hb => hb.elim), HF2, hcl2, hW3.trans ((k35 (fun b => b < w.heap.size) (fun b hb => ⟨by omega, by omega, fun h => by have := hol b h; omega⟩)).below hW3.size)⟩
            · refine ⟨fun h => hnb b (by omega) hb, fun h => hnb b (by omega) hb, fun h => ?_⟩
              rcases hb with hb | hb
              · have := (hRl b hb).2; have := hol b h; omega
              · exact hnk b (.inl h) hb.1
            · rw [HDT.out]; exact hx5.set _
            · rw [HSK.out]
              refine ⟨?_, fun i y k hi hk => ?_⟩
              · rw [List.length_append, HM.out]
                exact (Keep.setCell (S := fun b => b ≠ w.heap.size + 1 + 1 + 1) _ ⟨w.heap.size + 1 + 1 + 1, 0, none⟩ _ (fun h => h rfl)).row hr2' (fun b hb => by have := (hr2'.lt b hb).1; omega)
              · have keepRow : ∀ (z : Value) (kz : List UInt8), W3.ownsRow W1.heap.size 5 1 z kz.length (byV kz) → ((w4.setCell ⟨w.heap.size + 1 + 1, 0, none⟩ (.slice (some ⟨g', 0, none⟩) (m + 1) cap')).setCell ⟨w.heap.size + 1 + 1 + 1, 0, none⟩ (.bool false)).ownsRow W1.heap.size 5 1 z kz.length (byV kz) := fun z kz hz =>
                  (k35 (fun b => z.ownBlock = some b) fun b hb => ⟨by have := (hz.lt b hb).1; omega, by have := (hz.lt b hb).1; omega, fun h => byte_row_ne hR3.1 hz h hb⟩).row hz (fun b hb => hb)
                rcases Nat.lt_or_ge i vs.length with hlt | hlt
                · rw [List.getElem?_append_left hlt] at hi
                  rw [List.getElem?_append_left (by omega)] at hk
                  exact keepRow y k (hR3.2 i y k hi hk)
                · rw [List.getElem?_append_right hlt] at hi
                  rw [List.getElem?_append_right (by omega)] at hk
                  have hi0 : i - vs.length = 0 := by
                    have := (List.getElem?_eq_some_iff.1 hi).1
                    simpa using this
                  rw [hi0] at hi
                  rw [show i - ks.length = 0 by omega] at hk
                  cases hi
                  cases hk
                  exact keepRow _ _ (row_base hr3 hs12)
            · rintro b (hb | ⟨y, hy, hb⟩) h
              · rcases hat with h' | h'
                · exact hnk b (.inl (h' ▸ hb)) h.1
                · rw [h'] at hb
                  cases hb
                  have := hPl3 _ h.1
                  simp at this
                  omega
              · rcases List.mem_append.1 hy with hy | hy
                · exact hnk b (.inr ⟨y, hy, hb⟩) h.1
                · rw [List.mem_singleton.1 hy] at hb
                  have h5 := (hr3.lt b hb).1
                  have h6 := hPl3 b h.1
                  omega
  case done =>
    rintro D Pv Wd hD hPD hPl ⟨cs, v, vs, hE0, hE1, hE2, hE3, hR, hnk, hge, hK1, HF, hcl, hE8⟩ hK
    have hF := HF.out
    rw [HTS.out] at hF
    have HP := Lib.hid (show pathL l = some (47 :: Ref.joinL 47 (dotsL cs)) by rw [HPS.out, hF]; rfl)
    have hw1 := weight_forms _ _ hF
    have hw2 : weightL (Ref.splitL 47 l).tail ≤ weightL (Ref.splitL 47 l) := by
      cases Ref.splitL 47 l with
      | nil => exact Nat.le_refl _
      | cons p r => rw [List.tail_cons, weightL]; omega
    have hw3 := weight_dots cs
    have hwd : weightL (dotsL cs) ≤ 4194304 := by have := HWT.out; have := HL.out; omega
    have hwj := weight_join 47 (dotsL cs)
    obtain ⟨qv, cv, rfl, hv1, hv2⟩ := rows_slice hR
    have HDL := Lib.hid (show dotsL cs = stackL [] cs ++ (if dotB (cs.getLastD []) = true then [[]] else []) from rfl)
    have hkl := stack_len cs []
    have hcx : cs.length ≤ n + 1 := Nat.le_trans hcl hlenX
    obtain ⟨ks, hks⟩ : ∃ ks, stackL [] cs = ks := ⟨_, rfl⟩
    rw [hks] at hR hv1 hkl hnk hE2
    have HKS := Lib.hid hks
    simp only [List.length_nil, Nat.zero_add] at hkl
    have hDl := hPl D hPD
    have hszd := hE8.size
    have hs1d := hK1.size
    have hgD := hge D hPD
    have y0 := hE0.cell
    have y1 := hE1.cell
    have y2 := hE2.cell
    have y3 := hE3.cell
    have u0 := hE0.frozen
    have u1 := hE1.frozen
    have u2 := hE2.frozen
    clear hks hF hw1 hw2 hw3 HF HTS HPS HWT hcl hlenX
    generalize dotB (cs.getLastD []) = dt at *
    cases dt with
    | false =>
      have HDK := Lib.hid (show dotsL cs = ks by rw [HDL.out, HKS.out]; simp)
      rw [HDK.out] at hwd hwj
      rw [HDK.out] at HP
      clear HDK HDL HKS
      have z2 : ∀ o, (Wd.alloc o).cell? ⟨w.heap.size + 1 + 1, 0, none⟩ = some (.slice qv ks.length cv) := fun o => (hE2.alloc o).cell
      have hlit := by_lit Wd #[.int .u8 47] [47] (0, 0) 1 rfl rfl (by decide)
      have hown := own_lit Wd 47
      have hBl := (Below.refl Wd.heap.size Wd).alloc (Nat.le_refl _) (.cells #[.int .u8 47] 5)
      have conJ := Join_any W1.heap.size cv (ks.length) qv (vs) (ks) (.slice (some ⟨Wd.heap.size, 0, none⟩) 1 1) (Wd.alloc (.cells #[.int .u8 47] 5)) (hR.keep (Keep.alloc (fun _ => True) _ _) (fun _ _ => trivial)) hlit (by omega)
      have hWs : (Wd.alloc (.cells #[.int .u8 47] 5)).heap.size = Wd.heap.size + 1 := by simp
      gi_wp2_with fail
      refine ⟨trivial, (callsIn_wide.2 conJ).mono ?_⟩
      rintro e V ⟨v5, rfl, hJ, hb5⟩
      have hownV := (Keep.of_below hb5).row hown (fun k hk => (hown.lt k hk).2)
      have hbV := hBl.trans (hb5.mono hBl.size)
      have hVs := hb5.size
      have r0 := (Keep.of_below hbV).boxed hE0 hE0.lt
      have r1 := (Keep.of_below hbV).boxed hE1 hE1.lt
      have rD := (hbV.block D (Array.getElem?_eq_some_iff.1 hK).1).trans hK
      have hE8V := hE8.trans (hbV.mono hE8.size)
      have l0 := (Array.getElem?_eq_some_iff.1 hK).1
      clear conJ hown hlit hb5 z2 hBl
      gi_wp2_with (gi_at_builtin; go_must (refine wpListIn_append_by rfl _ _ rfl Wd.heap.size _ 1 _ rfl hownV _ _ rfl hJ (by omega) hbV.size ?_); intro v6 X hr6 hg6; rw [← byV_app] at hr6; obtain ⟨q6, c6, rfl, _⟩ := row_open hr6; have k6 : ∀ S : Nat → Prop, (∀ b, S b → b < Wd.heap.size) → Keep S V X := (fun S hS => Keep.of_grownBy hg6 fun b hb h => (by have h1 := (hownV.lt b hb).1; have h2 := hS b h; omega)); have s0 := (k6 (fun b => b = w.heap.size) (fun b hb => by have := hE0.lt; omega)).boxed r0 rfl; have s1 := (k6 (fun b => b = w.heap.size + 1) (fun b hb => by have := hE1.lt; omega)).boxed r1 rfl; have sc0 := s0.cell; have sc1 := s1.cell; have sf0 := s0.frozen; have sf1 := s1.frozen)
      have k7 : ∀ S : Nat → Prop, ¬ S w.heap.size → ¬ S (w.heap.size + 1) → Keep S X ((X.setCell ⟨w.heap.size, 0, none⟩ (.slice q6 (1 + (Ref.joinL 47 (ks)).length) c6)).setCell ⟨w.heap.size + 1, 0, none⟩ (.int .i64 0)) := fun S h h' => (Keep.setCell _ _ _ h).trans (Keep.setCell _ _ _ h')
      have k8 : ∀ (S : Nat → Prop) (Y : World), ¬ S D → Keep S Y (Y.putObj D (.deferred none)) := fun S Y h => Keep.putObj _ _ _ h
      have hKd : ((X.setCell ⟨w.heap.size, 0, none⟩ (.slice q6 (1 + (Ref.joinL 47 (ks)).length) c6)).setCell ⟨w.heap.size + 1, 0, none⟩ (.int .i64 0)).heap[D]? = some (.deferred (some [])) := ((k6 (fun b => b = D) (fun b hb => by rw [hb]; exact l0)).trans (k7 (fun b => b = D) (by omega) (by omega))).heap rfl rD
      have q0 : Boxed ((X.setCell ⟨w.heap.size, 0, none⟩ (.slice q6 (1 + (Ref.joinL 47 (ks)).length) c6)).setCell ⟨w.heap.size + 1, 0, none⟩ (.int .i64 0)) w.heap.size 22 (.slice q6 (1 + (Ref.joinL 47 (ks)).length) c6) := (Keep.setCell (S := fun b => b = w.heap.size) _ ⟨w.heap.size + 1, 0, none⟩ _ (by simp)).boxed (s0.set _) rfl
      have q1 : Boxed ((X.setCell ⟨w.heap.size, 0, none⟩ (.slice q6 (1 + (Ref.joinL 47 (ks)).length) c6)).setCell ⟨w.heap.size + 1, 0, none⟩ (.int .i64 0)) (w.heap.size + 1) 42 (.int .i64 0) := ((Keep.setCell (S := fun b => b = w.heap.size + 1) X ⟨w.heap.size, 0, none⟩ _ (by simp)).boxed s1 rfl).set _
      refine ⟨by simp, .inl ⟨_, _, rfl, run_takeDeferred hKd, ?_⟩⟩
      refine ⟨_, results_path rfl _ _ w.heap.size (w.heap.size + 1) _ _ rfl rfl ((k8 (fun b => b = w.heap.size) _ (by omega)).boxed q0 rfl).cell ((k8 (fun b => b = w.heap.size + 1) _ (by omega)).boxed q1 rfl).cell, ?_⟩
      rw [HP.out]
      have hk9 : ∀ S : Nat → Prop, ¬ S w.heap.size → ¬ S (w.heap.size + 1) → ¬ S D → Keep S X (((X.setCell ⟨w.heap.size, 0, none⟩ (.slice q6 (1 + (Ref.joinL 47 (ks)).length) c6)).setCell ⟨w.heap.size + 1, 0, none⟩ (.int .i64 0)).putObj D (.deferred none)) := fun S h h' h'' => (k7 S h h').trans (k8 S _ h'')
      refine ⟨_, 0, rfl, Lib.hid rfl, ?_, ?_⟩
      · have hfin : (47 :: Ref.joinL 47 (ks)).length = 1 + (Ref.joinL 47 (ks)).length := by rw [List.length_cons]; omega
        show World.ownsRow _ w.heap.size 5 1 (.slice q6 (1 + (Ref.joinL 47 (ks)).length) c6) (47 :: Ref.joinL 47 (ks)).length (byV (47 :: Ref.joinL 47 (ks)))
        rw [hfin]
        exact row_base ((hk9 (fun b => Wd.heap.size ≤ b) (by have := hE0.lt; omega) (by have := hE1.lt; omega) (by omega)).row hr6 (fun b hb => (hr6.lt b hb).1)) (by have := hE0.lt; omega)
      · exact hE8V.trans (((k6 (fun b => b < w.heap.size) (fun b hb => by have := hE0.lt; omega)).trans (hk9 (fun b => b < w.heap.size) (by omega) (by omega) (by omega))).below hE8V.size)
    | true =>
      have HDK := Lib.hid (show dotsL cs = ks ++ [[]] by rw [HDL.out, HKS.out]; simp)
      rw [HDK.out] at hwd hwj
      rw [HDK.out] at HP
      clear HDK HDL HKS
      have hnb2 := hR.not_box hE2 (by decide) (by decide)
      gi_wp2_with (gi_at_builtin; go_must (refine wpListIn_append_own_at _ rfl _ _ 216 rfl W1.heap.size 22 i1 (.slice none 0 0) 1 24 Tryz.underlying216 hi1 hz0 hz1 hz2 rfl (by decide) _ _ _ rfl (hR.1.alloc _) ⟨Wd.heap.size, 0, none⟩ 1 1 [.slice none 0 0] rfl rfl (cell_one_new _ _ _) (by simp [Value.oneCell']) (by unfold maxLen; omega) (by omega) (by simp; omega) ?_); intro v' w4 hown' hgrow _ hat; obtain ⟨g', cap', rfl⟩ := ownsRow_succ hown'; obtain ⟨hv1', hv2', hr2', hkk'⟩ := Pct.appended_keep (S := fun b => b ≠ w.heap.size + 1 + 1 ∧ ¬ (Value.slice qv ks.length cv).ownBlock = some b) hE2 (by decide) hR.1 (fun h => h.1 rfl) (fun b hb h => h.2 hb) hown' hgrow; have hc1 := hv1'.cell; have hf1 := hv1'.frozen; have z4 : ∀ o, ((w4.setCell ⟨w.heap.size + 1 + 1, 0, none⟩ (.slice (some ⟨g', 0, none⟩) (ks.length + 1) cap')).alloc o).cell? ⟨w.heap.size + 1 + 1, 0, none⟩ = some (.slice (some ⟨g', 0, none⟩) (ks.length + 1) cap') := fun o => (hv2'.alloc o).cell)
      obtain ⟨Wc, hWc⟩ : ∃ Wc, w4.setCell ⟨w.heap.size + 1 + 1, 0, none⟩ (.slice (some ⟨g', 0, none⟩) (ks.length + 1) cap') = Wc := ⟨_, rfl⟩
      have hWcs : Wc.heap.size = w4.heap.size := by rw [← hWc]; simp [World.setCell]
      rw [hWc, ← hWcs]
      rw [hWc] at hv2' hr2' hkk' z4
      clear hWc hWcs hc1 hf1 z4 hv1' hown' hgrow
      have hol : ∀ b, (Value.slice qv ks.length cv).ownBlock = some b → W1.heap.size ≤ b := fun b hb => (hR.1.lt b hb).1
      have hC0 := hkk'.boxed hE0 ⟨by omega, fun h => by have := hol _ h; omega⟩
      have hC1 := hkk'.boxed hE1 ⟨by omega, fun h => by have := hol _ h; omega⟩
      have hC2 := hv2'
      have hCK := hkk'.heap ⟨by omega, fun h => hnk D (.inl h) hPD⟩ hK
      have hCE := hE8.trans ((hkk'.mono fun b _ hb => show b ≠ w.heap.size + 1 + 1 ∧ ¬ (Value.slice qv ks.length cv).ownBlock = some b from ⟨by omega, fun h => by have := hol _ h; omega⟩).below hE8.size)
      have hCl := hkk'.size
      have hvl := hR.len
      have hCR : RowsOf Wc W1.heap.size (.slice (some ⟨g', 0, none⟩) (ks.length + 1) cap') (vs ++ [Value.slice none 0 0]) (ks ++ [[]]) := by
        refine ⟨by rw [List.length_append]; exact hr2', fun i y k hi hk => ?_⟩
        rcases Nat.lt_or_ge i vs.length with hlt | hlt
        · rw [List.getElem?_append_left hlt] at hi
          rw [List.getElem?_append_left (by omega)] at hk
          have hz := hR.2 i y k hi hk
          exact (hkk'.mono fun b _ hb => show b ≠ w.heap.size + 1 + 1 ∧ ¬ (Value.slice qv ks.length cv).ownBlock = some b from ⟨by have := (hz.lt b hb).1; omega, fun h => byte_row_ne hR.1 hz h hb⟩).row hz (fun b hb => hb)
        · rw [List.getElem?_append_right hlt] at hi
          rw [List.getElem?_append_right (by omega)] at hk
          have hi0 : i - vs.length = 0 := by
            have := (List.getElem?_eq_some_iff.1 hi).1
            simpa using this
          rw [hi0] at hi
          rw [show i - ks.length = 0 by omega] at hk
          cases hi
          cases hk
          exact World.ownsRow_nil _ _ _ _
      have hszd' := Nat.le_trans hszd hCl
      clear hkk' hr2' hv2' hat hR hol hvl
      have z2 : ∀ o, (Wc.alloc o).cell? ⟨w.heap.size + 1 + 1, 0, none⟩ = some (.slice (some ⟨g', 0, none⟩) (ks.length + 1) cap') := fun o => (hC2.alloc o).cell
      have hlit := by_lit Wc #[.int .u8 47] [47] (0, 0) 1 rfl rfl (by decide)
      have hown := own_lit Wc 47
      have hBl := (Below.refl Wc.heap.size Wc).alloc (Nat.le_refl _) (.cells #[.int .u8 47] 5)
      have conJ := Join_any W1.heap.size cap' (ks.length + 1) (some ⟨g', 0, none⟩) (vs ++ [Value.slice none 0 0]) (ks ++ [[]]) (.slice (some ⟨Wc.heap.size, 0, none⟩) 1 1) (Wc.alloc (.cells #[.int .u8 47] 5)) (hCR.keep (Keep.alloc (fun _ => True) _ _) (fun _ _ => trivial)) hlit (by omega)
      have hWs : (Wc.alloc (.cells #[.int .u8 47] 5)).heap.size = Wc.heap.size + 1 := by simp
      refine ⟨trivial, (callsIn_wide.2 conJ).mono ?_⟩
      rintro e V ⟨v5, rfl, hJ, hb5⟩
      have hownV := (Keep.of_below hb5).row hown (fun k hk => (hown.lt k hk).2)
      have hbV := hBl.trans (hb5.mono hBl.size)
      have hVs := hb5.size
      have r0 := (Keep.of_below hbV).boxed hC0 hC0.lt
      have r1 := (Keep.of_below hbV).boxed hC1 hC1.lt
      have rD := (hbV.block D (Array.getElem?_eq_some_iff.1 hCK).1).trans hCK
      have hE8V := hCE.trans (hbV.mono hCE.size)
      have l0 := (Array.getElem?_eq_some_iff.1 hCK).1
      clear conJ hown hlit hb5 z2 hBl
      gi_wp2_with (gi_at_builtin; go_must (refine wpListIn_append_by rfl _ _ rfl Wc.heap.size _ 1 _ rfl hownV _ _ rfl hJ (by omega) hbV.size ?_); intro v6 X hr6 hg6; rw [← byV_app] at hr6; obtain ⟨q6, c6, rfl, _⟩ := row_open hr6; have k6 : ∀ S : Nat → Prop, (∀ b, S b → b < Wc.heap.size) → Keep S V X := (fun S hS => Keep.of_grownBy hg6 fun b hb h => (by have h1 := (hownV.lt b hb).1; have h2 := hS b h; omega)); have s0 := (k6 (fun b => b = w.heap.size) (fun b hb => by have := hC0.lt; omega)).boxed r0 rfl; have s1 := (k6 (fun b => b = w.heap.size + 1) (fun b hb => by have := hC1.lt; omega)).boxed r1 rfl; have sc0 := s0.cell; have sc1 := s1.cell; have sf0 := s0.frozen; have sf1 := s1.frozen)
      have k7 : ∀ S : Nat → Prop, ¬ S w.heap.size → ¬ S (w.heap.size + 1) → Keep S X ((X.setCell ⟨w.heap.size, 0, none⟩ (.slice q6 (1 + (Ref.joinL 47 (ks ++ [[]])).length) c6)).setCell ⟨w.heap.size + 1, 0, none⟩ (.int .i64 0)) := fun S h h' => (Keep.setCell _ _ _ h).trans (Keep.setCell _ _ _ h')
      have k8 : ∀ (S : Nat → Prop) (Y : World), ¬ S D → Keep S Y (Y.putObj D (.deferred none)) := fun S Y h => Keep.putObj _ _ _ h
      have hKd : ((X.setCell ⟨w.heap.size, 0, none⟩ (.slice q6 (1 + (Ref.joinL 47 (ks ++ [[]])).length) c6)).setCell ⟨w.heap.size + 1, 0, none⟩ (.int .i64 0)).heap[D]? = some (.deferred (some [])) := ((k6 (fun b => b = D) (fun b hb => by rw [hb]; exact l0)).trans (k7 (fun b => b = D) (by omega) (by omega))).heap rfl rD
      have q0 : Boxed ((X.setCell ⟨w.heap.size, 0, none⟩ (.slice q6 (1 + (Ref.joinL 47 (ks ++ [[]])).length) c6)).setCell ⟨w.heap.size + 1, 0, none⟩ (.int .i64 0)) w.heap.size 22 (.slice q6 (1 + (Ref.joinL 47 (ks ++ [[]])).length) c6) := (Keep.setCell (S := fun b => b = w.heap.size) _ ⟨w.heap.size + 1, 0, none⟩ _ (by simp)).boxed (s0.set _) rfl
      have q1 : Boxed ((X.setCell ⟨w.heap.size, 0, none⟩ (.slice q6 (1 + (Ref.joinL 47 (ks ++ [[]])).length) c6)).setCell ⟨w.heap.size + 1, 0, none⟩ (.int .i64 0)) (w.heap.size + 1) 42 (.int .i64 0) := ((Keep.setCell (S := fun b => b = w.heap.size + 1) X ⟨w.heap.size, 0, none⟩ _ (by simp)).boxed s1 rfl).set _
      refine ⟨by simp, .inl ⟨_, _, rfl, run_takeDeferred hKd, ?_⟩⟩
      refine ⟨_, results_path rfl _ _ w.heap.size (w.heap.size + 1) _ _ rfl rfl ((k8 (fun b => b = w.heap.size) _ (by omega)).boxed q0 rfl).cell ((k8 (fun b => b = w.heap.size + 1) _ (by omega)).boxed q1 rfl).cell, ?_⟩
      rw [HP.out]
      have hk9 : ∀ S : Nat → Prop, ¬ S w.heap.size → ¬ S (w.heap.size + 1) → ¬ S D → Keep S X (((X.setCell ⟨w.heap.size, 0, none⟩ (.slice q6 (1 + (Ref.joinL 47 (ks ++ [[]])).length) c6)).setCell ⟨w.heap.size + 1, 0, none⟩ (.int .i64 0)).putObj D (.deferred none)) := fun S h h' h'' => (k7 S h h').trans (k8 S _ h'')
      refine ⟨_, 0, rfl, Lib.hid rfl, ?_, ?_⟩
      · have hfin : (47 :: Ref.joinL 47 (ks ++ [[]])).length = 1 + (Ref.joinL 47 (ks ++ [[]])).length := by rw [List.length_cons]; omega
        show World.ownsRow _ w.heap.size 5 1 (.slice q6 (1 + (Ref.joinL 47 (ks ++ [[]])).length) c6) (47 :: Ref.joinL 47 (ks ++ [[]])).length (byV (47 :: Ref.joinL 47 (ks ++ [[]])))
        rw [hfin]
        exact row_base ((hk9 (fun b => Wc.heap.size ≤ b) (by have := hC0.lt; omega) (by have := hC1.lt; omega) (by omega)).row hr6 (fun b hb => (hr6.lt b hb).1)) (by have := hC0.lt; omega)
      · exact hE8V.trans (((k6 (fun b => b < w.heap.size) (fun b hb => by have := hC0.lt; omega)).trans (hk9 (fun b => b < w.heap.size) (by omega) (by omega) (by omega))).below hE8V.size)
  case stop =>
    rintro D cc pre rest Pv Wd hD hPD hPl hxs ⟨rfl, hge, hK1, hE0, hE1, HPN, hE4⟩ hK
    have kp : ∀ (S : Nat → Prop) (W : World), ¬ S D → Keep S W (W.putObj D (.deferred none)) := fun S W h => Keep.putObj _ _ _ h
    clear hxs
    have hgD := hge D hPD
    have hs1d := hK1.size
    gi_wp2
    refine ⟨by simp, .inl ⟨_, _, rfl, run_takeDeferred hK, ?_⟩⟩
    refine ⟨_, results_path rfl _ _ w.heap.size (w.heap.size + 1) _ _ rfl rfl ((kp (fun b => b = w.heap.size) _ (by omega)).boxed hE0 rfl).cell ((kp (fun b => b = w.heap.size + 1) _ (by omega)).boxed hE1 rfl).cell, ?_⟩
    rw [HPN.out]
    exact ⟨_, 2, rfl, Lib.hid rfl, World.ownsRow_nil _ _ _ _, hE4.trans ((kp (fun b => b < w.heap.size) _ (by omega)).below hE4.size)⟩

end Go.Proofs.YtpabhppghljipaaGreatDoor.Url

namespace Go.Proofs.YtpabhppghljipaaGreatDoor.Org
open Go.RowKit Go.Shelf Url
attribute [local go_sem] Oper.semAt_some

/-- An origin as a value. -/
def orgV (s h : List UInt8) (p c : Int) : Value := .agg #[.string ⟨s.toArray⟩, .string ⟨h.toArray⟩, .int .i64 p, .int .i64 c]
/-- Block B holds an origin's cells. -/
def OB (B : Nat) (cs : Array Value) (X : World) : Prop := X.heap[B]? = some (.cells cs 136 (0, 0))
theorem OB.box {B : Nat} {cs : Array Value} {X : World} (h : OB B cs X) : Box B cs X := fun i x hx => by
  simp only [World.cell?, show X.heap[B]? = _ from h]; exact hx
theorem OB.frozen {B : Nat} {cs : Array Value} {X : World} (h : OB B cs X) (i : Nat) : X.frozen? ⟨B, i, none⟩ = false := by
  simp [World.frozen?, show X.heap[B]? = _ from h]
theorem OB.on {B : Nat} {cs : Array Value} {X Y : World} (h : OB B cs X) (hk : Below X.heap.size X Y) : OB B cs Y := (hk.block B (Array.getElem?_eq_some_iff.1 h).1).trans h
theorem OB.new (w : World) (cs : Array Value) : OB w.heap.size cs (w.alloc (.cells cs 136)) := World.alloc_heap_new w _
theorem OB.set {B : Nat} {cs : Array Value} {X : World} (h : OB B cs X) (i : Nat) (v : Value) : OB B (cs.setIfInBounds i v) (X.setCell ⟨B, i, none⟩ v) := by
  obtain ⟨hlt, hk⟩ := Array.getElem?_eq_some_iff.1 h
  show (X.heap.modify B _)[B]? = _
  rw [Array.getElem?_eq_getElem (by rw [Array.size_modify]; exact hlt), Array.getElem_modify_self, hk]
  rfl
/-- All four cells set, one by one. -/
theorem OB.put {B : Nat} {X : World} {a0 a1 a2 a3 : Value} (h : OB B #[a0, a1, a2, a3] X) (v0 v1 v2 v3 : Value) :
    ∃ Y, (((X.setCell ⟨B, 0, none⟩ v0).setCell ⟨B, 1, none⟩ v1).setCell ⟨B, 2, none⟩ v2).setCell ⟨B, 3, none⟩ v3 = Y ∧
      OB B #[v0, v1, v2, v3] Y ∧ (∀ S : Nat → Prop, ¬ S B → Keep S X Y) ∧ ∀ M, M ≤ B → Below M X Y := by
  have h8 := (((h.set 0 v0).set 1 v1).set 2 v2).set 3 v3
  simp only [List.setIfInBounds_toArray, List.set_cons_zero, List.set_cons_succ] at h8
  refine ⟨_, rfl, h8, fun S hS => ?_, fun M hM => ?_⟩
  · exact (Keep.setCell _ _ _ hS).trans ((Keep.setCell _ _ _ hS).trans ((Keep.setCell _ _ _ hS).trans (Keep.setCell _ _ _ hS)))
  · exact ((((Below.refl M X).setCell (p := ⟨B, 0, none⟩) hM v0).setCell (p := ⟨B, 1, none⟩) hM v1).setCell (p := ⟨B, 2, none⟩) hM v2).setCell (p := ⟨B, 3, none⟩) hM v3
theorem size_org : (Tryz.prog.info? 136).map (·.size) = some 4 := by kernel_rfl
/-- An origin that lies in the result's cell is handed over. -/
theorem ret_org {fn : Func} {p : Tmp} (h : fn.results = #[.cell p 136]) (tmps : Array Value) (w : World) (B : Nat) (cs : Array Value) (hp : tmps.getD p undef = .pointer (some ⟨B, 0, none⟩)) (hU : OB B cs w) (hs : cs.size = 4) :
    (results fn tmps).run Tryz.prog w = .ok (.agg cs) w :=
  results_cell_row h tmps w B _ cs (0, 0) _ hp hU Tryz.underlying136 rfl (by rw [size_org, hs])
theorem ret_org2 {fn : Func} {p u : Tmp} (h : fn.results = #[.cell p 136, .tmp u]) (tmps : Array Value) (w : World) (B : Nat) (cs : Array Value) (hp : tmps.getD p undef = .pointer (some ⟨B, 0, none⟩)) (hU : OB B cs w) (hs : cs.size = 4) :
    (results fn tmps).run Tryz.prog w = .ok (.tuple #[.agg cs, tmps.getD u undef]) w := by
  rw [results_cell_tmp h, hp]
  simp [asAddr, Result.andThen, run_loadVar_row w B 136 _ cs (0, 0) _ hU Tryz.underlying136 rfl (by rw [size_org, hs])]

/-- '[]byte(s)' of a string: its bytes in new memory. -/
theorem conv_back (w : World) (s : ByteArray) : (convert 9 22 (.string s)).run Tryz.prog w = .ok (.slice (some ⟨w.heap.size, 0, none⟩) s.size (grownCap w s.size 0 5)) (Lib.bytesWorld w 5 s) :=
  Lib.run_convert_string_bytes w 9 22 5 s Tryz.underlying9 Tryz.underlying22 Tryz.underlying5
theorem conv_new (w : World) (l : List UInt8) (hl : l.length ≤ 1099511627776) : ∃ c W, (convert 9 22 (.string ⟨l.toArray⟩)).run Tryz.prog w = .ok (.slice (some ⟨w.heap.size, 0, none⟩) l.length c) W ∧
    By W (.slice (some ⟨w.heap.size, 0, none⟩) l.length c) l ∧ Below w.heap.size w W ∧ W.heap.size = w.heap.size + 1 := by
  refine ⟨_, _, conv_back w ⟨l.toArray⟩, ?_, ⟨rfl, rfl, rfl, by rw [Lib.bytesWorld_size]; omega, fun k hk => Lib.bytesWorld_at_old w _ _ k hk⟩, Lib.bytesWorld_size w _ _⟩
  refine By.of rfl (grownCap_ge w _ _ _) (grownCap_le_maxLen w _ 0 _ (by unfold maxLen; show l.length ≤ _; omega)) (fun h => by cases h) ?_
  exact fun _ => ⟨w.heap.size, 0, rfl, fun i hi => by
    rw [numsL_getD _ i hi, Nat.zero_add]
    exact Lib.bytesWorld_cell w _ ⟨l.toArray⟩ i hi⟩

set_option maxRecDepth 100000 in
set_option maxHeartbeats 8000000 in
/-- A URL's origin. -/
theorem Of_any (u : U) (v : Value) (w : World) (h : UrlIn w v u) :
    Calls Tryz.prog 122 #[v] w fun e w' => e = .returned (orgV u.scheme u.host u.port 0) ∧ Below w.heap.size w w' := by
  obtain ⟨q0, n0, c0, q1, n1, c1, q3, n3, c3, q4, n4, c4, q5, n5, c5, rfl, h0, h1, -, -, -⟩ := h
  obtain ⟨X, hX⟩ : ∃ X, (w.alloc (.cells #[.slice q0 n0 c0, .slice q1 n1 c1, .int .i64 u.port, .slice q3 n3 c3, .slice q4 n4 c4, .slice q5 n5 c5, .bool u.hq, .bool u.hf] 163)).alloc (.cells #[.string ⟨#[]⟩, .string ⟨#[]⟩, .int .i64 0, .int .i64 0] 136) = X := ⟨_, rfl⟩
  have B1 := (Below.refl _ w).alloc (Nat.le_refl _) (.cells #[.slice q0 n0 c0, .slice q1 n1 c1, .int .i64 u.port, .slice q3 n3 c3, .slice q4 n4 c4, .slice q5 n5 c5, .bool u.hq, .bool u.hf] 163)
  have B2 : Below w.heap.size w X := by rw [← hX]; exact B1.alloc B1.size _
  have hb : Box w.heap.size #[.slice q0 n0 c0, .slice q1 n1 c1, .int .i64 u.port, .slice q3 n3 c3, .slice q4 n4 c4, .slice q5 n5 c5, .bool u.hq, .bool u.hf] X := by rw [← hX]; exact (Box.new w _ _).on ((Below.refl _ _).alloc (Nat.le_refl _) _)
  have hO : OB (w.heap.size + 1) #[.string ⟨#[]⟩, .string ⟨#[]⟩, .int .i64 0, .int .i64 0] X := by
    have := OB.new (w.alloc (.cells #[.slice q0 n0 c0, .slice q1 n1 c1, .int .i64 u.port, .slice q3 n3 c3, .slice q4 n4 c4, .slice q5 n5 c5, .bool u.hq, .bool u.hf] 163)) #[.string ⟨#[]⟩, .string ⟨#[]⟩, .int .i64 0, .int .i64 0]
    rw [World.size_alloc] at this
    rw [← hX]; exact this
  have k0 := conv_bytes (c := c0) (h0.on B2).at.2.2.2.2 (h0.on B2).at.1
  have k1 := conv_bytes (c := c1) (h1.on B2).at.2.2.2.2 (h1.on B2).at.1
  have b0 := hb 0 _ rfl
  have b1 := hb 1 _ rfl
  have b2 := hb 2 _ rfl
  have z0 := hO.box 0 _ rfl
  have z1 := hO.box 1 _ rfl
  have z2 := hO.box 2 _ rfl
  have z3 := hO.box 3 _ rfl
  have f0 := hO.frozen 0
  have f1 := hO.frozen 1
  have f2 := hO.frozen 2
  have f3 := hO.frozen 3
  clear h0 h1 B1 hb
  have HX := Lib.hid hX
  clear hX
  go_enter Tryz.func122, Tryz.ntmps122
  go_wp2_with fail
  rw [HX.out]
  go_wp2
  rw [k0]
  go_wp2
  obtain ⟨Y, hY, hU, hkY, hbY⟩ := OB.put hO (.string ⟨u.scheme.toArray⟩) (.string ⟨u.host.toArray⟩) (.int .i64 u.port) (.int .i64 0)
  rw [hY]
  (try simp only [Exit.inBlock, Exit.then])
  refine bodyPost_ret (ret_org rfl _ _ (w.heap.size + 1) _ rfl hU rfl) rfl ?_
  exact ⟨rfl, B2.trans (hbY _ (Nat.le_succ _))⟩

set_option maxRecDepth 100000 in
set_option maxHeartbeats 8000000 in
/-- A closed origin. -/
theorem Closed_any (n : Int) (w : World) :
    Calls Tryz.prog 137 #[.int .i64 n] w fun e w' => e = .returned (if n < 1 then .tuple #[orgV [] [] 0 0, .int .i64 13] else .tuple #[orgV [] [] 0 n, .int .i64 0]) ∧ Below w.heap.size w w' := by
  have B1 := fun cs => (Below.refl _ w).alloc (Nat.le_refl _) (.cells cs 136)
  by_cases hn : n < 1
  · have d1 : decide (n < 1) = true := by simp; omega
    rw [if_pos hn]
    clear hn
    go_enter Tryz.func137, Tryz.ntmps137
    go_wp2
    refine bodyPost_ret (ret_org2 rfl _ _ w.heap.size _ rfl (OB.new w _) rfl) rfl ?_
    exact ⟨rfl, B1 _⟩
  · have d1 : decide (n < 1) = false := by simp; omega
    rw [if_neg hn]
    clear hn
    go_enter Tryz.func137, Tryz.ntmps137
    go_wp2
    refine bodyPost_ret (ret_org2 rfl _ _ w.heap.size _ rfl (OB.new w _) rfl) rfl ?_
    exact ⟨rfl, B1 _⟩

theorem str_app (a b : List UInt8) : (⟨a.toArray⟩ ++ ⟨b.toArray⟩ : ByteArray) = ⟨(a ++ b).toArray⟩ := by
  apply ByteArray.ext; simp
/-- strconv.Itoa at what is not below 0. -/
theorem Itoa_any (n : Nat) (w : World) (hn : n ≤ 9223372036854775807) (hG : Gl w) :
    Calls Tryz.prog 123 #[.int .i64 (n : Int)] w fun e w' => e = .returned (.string ⟨(digL n).toArray⟩) ∧ Below w.heap.size w w' := by
  refine (Tryz.strconv_Itoa (n : Int) (by omega) (by omega) w hG.2).mono ?_
  rintro e w' ⟨rfl, k, os, rfl⟩
  refine ⟨by rw [Lib.itoa_nonneg, dig_dec10], ?_⟩
  have h := Url.below_drewN w k
  refine ⟨h.os, h.tape, h.output, ?_, fun j hj => ?_⟩
  · have := h.size; unfold Sort.grow; simp only [Array.size_append]; omega
  · unfold Sort.grow
    show ((w.drewN k).heap ++ os)[j]? = _
    have hlt : j < (w.drewN k).heap.size := Nat.lt_of_lt_of_le hj h.size
    rw [Array.getElem?_append_left hlt]
    exact h.block j hj

set_option maxRecDepth 100000 in
set_option maxHeartbeats 8000000 in
/-- A server's text. -/
theorem Text_server (u : U) (hok : Ok u) (w : World) (hG : Gl w) :
    Calls Tryz.prog 100 #[orgV u.scheme u.host u.port 0] w fun e w' => e = .returned (.string ⟨(placeU u).toArray⟩) ∧ Below w.heap.size w w' := by
  unfold orgV
  obtain ⟨X, hX⟩ : ∃ X, w.alloc (.cells #[.string ⟨u.scheme.toArray⟩, .string ⟨u.host.toArray⟩, .int .i64 u.port, .int .i64 0] 136) = X := ⟨_, rfl⟩
  have B1 : Below w.heap.size w X := by rw [← hX]; exact (Below.refl _ w).alloc (Nat.le_refl _) _
  have hO : OB w.heap.size #[.string ⟨u.scheme.toArray⟩, .string ⟨u.host.toArray⟩, .int .i64 u.port, .int .i64 0] X := by rw [← hX]; exact OB.new w _
  have hsne : ¬ u.scheme = [] := by rcases hok.scheme with h | h <;> (rw [h]; decide)
  have HLS := Lib.hid (low_scheme u hok)
  have hsl : u.scheme.length ≤ 5 := by rcases hok.scheme with h | h <;> (rw [h]; decide)
  have hp2 := hok.port2
  have hhl : u.host.length ≤ 253 := by
    have h := hok.host
    unfold Host.parseE at h
    split at h
    · cases h
    · omega
  have hdl := dig_len u.port hp2
  have l1 : u.scheme.length ≤ 9223372036854775804 := by omega
  have l2 : u.scheme.length + 3 + u.host.length ≤ 9223372036854775807 := by omega
  have l3 : u.scheme.length + 3 + u.host.length ≤ 9223372036854775806 := by omega
  have l4 : u.scheme.length + 3 + u.host.length + 1 + (digL u.port).length ≤ 9223372036854775807 := by omega
  have HPT := Lib.hid (show placeU u = u.scheme ++ [58, 47, 47] ++ u.host ++ (if u.port = ownP u.scheme then [] else 58 :: digL u.port) from rfl)
  have HX := Lib.hid hX
  have HG := Lib.hid hG
  clear hX hok hG
  generalize placeU u = PL at *
  generalize u.scheme = S at *
  generalize u.host = H at *
  generalize u.port = p at *
  go_enter Tryz.func100, Tryz.ntmps100
  go_wp2_with fail
  rw [HX.out]
  refine pregion_any (Box w.heap.size #[.string ⟨S.toArray⟩, .string ⟨H.toArray⟩, .int .i64 p, .int .i64 0]) (by kernel_rfl) ?_
  have hS0 : Box w.heap.size #[.string ⟨S.toArray⟩, .string ⟨H.toArray⟩, .int .i64 p, .int .i64 0] X.drew := hO.box
  have hBd : Below w.heap.size w X.drew := B1.drew
  clear hO B1 HX
  generalize X.drew = Y at *
  refine wpAnyH_take (i := 0) (v := (.pointer (some ⟨w.heap.size, 2, none⟩))) rfl (by kernel_rfl) (by kernel_rfl) (by kernel_rfl) (fun _ _ _ h => h) (.inl ⟨by kernel_rfl, ?_⟩) hS0 ?_
  · rintro w h; go_simp <;> omega
  refine plist #[true, false, false, false, false, false, false, false] (by kernel_rfl) ?_
  refine wpAnyH_take (i := 1) (v := (.int .i64 p)) rfl (by kernel_rfl) (by kernel_rfl) (by kernel_rfl) (fun _ _ _ h => h) (.inl ⟨by kernel_rfl, ?_⟩) hS0 ?_
  · rintro w h; have h' := h 2 _ rfl; go_simp <;> omega
  refine plist #[true, true, false, false, false, false, false, false] (by kernel_rfl) ?_
  refine wpAnyH_take (i := 2) (v := (.pointer (some ⟨w.heap.size, 0, none⟩))) rfl (by kernel_rfl) (by kernel_rfl) (by kernel_rfl) (fun _ _ _ h => h) (.inl ⟨by kernel_rfl, ?_⟩) hS0 ?_
  · rintro w h; go_simp <;> omega
  refine plist #[true, true, true, false, false, false, false, false] (by kernel_rfl) ?_
  refine wpAnyH_take (i := 3) (v := (.string ⟨S.toArray⟩)) rfl (by kernel_rfl) (by kernel_rfl) (by kernel_rfl) (fun _ _ _ h => h) (.inl ⟨by kernel_rfl, ?_⟩) hS0 ?_
  · rintro w h; have h' := h 0 _ rfl; go_simp <;> omega
  refine plist #[true, true, true, true, false, false, false, false] (by kernel_rfl) ?_
  obtain ⟨c, Z, hrun, hby, hbel, -⟩ := conv_new Y S (by omega)
  refine pone 4 (by kernel_rfl) rfl fun K hK => ?_
  go_simp
  have hS1 := hS0.on hbel
  have hB1 := hBd.trans (hbel.mono hBd.size)
  refine hK _ _ hS1 ?_
  clear hK K
  refine plist #[true, true, true, true, true, false, false, false] (by kernel_rfl) ?_
  have con := Own_any (some ⟨Y.heap.size, 0, none⟩) S.length c S Z rfl (by omega) hby.at.2.2.2.2
  rw [HLS.out] at con
  refine pone 5 (by kernel_rfl) rfl fun K hK => ?_
  go_simp
  refine con.mono ?_
  rintro e V ⟨rfl, hb⟩
  have hS2 := hS1.on hb
  have hB2 := hB1.trans (hb.mono hB1.size)
  clear con hS0 hS1 hbel hby hrun hb hBd hB1
  refine hK _ _ hS2 ?_
  clear hK K
  refine plist #[true, true, true, true, true, true, false, false] (by kernel_rfl) ?_
  by_cases hpo : p = ownP S
  · have e5 : ((p : Int) == (ownP S : Int)) = true := by rw [beq_iff_eq]; omega
    have HR := Lib.hid (show PL = S ++ [58, 47, 47] ++ H by rw [HPT.out, if_pos hpo, List.append_nil])
    refine pone 6 (by kernel_rfl) rfl fun K hK => ?_
    go_simp
    refine hK _ _ hS2 ?_
    clear hK K
    refine plist #[true, true, true, true, true, true, true, false] (by kernel_rfl) ?_
    refine pone 7 (by kernel_rfl) rfl fun K hK => ?_
    go_simp
    refine hK _ _ hS2 ?_
    clear hK K
    refine pdone (by kernel_rfl) ?_ _
    have c0 := hS2 0 _ rfl
    have c1 := hS2 1 _ rfl
    clear hpo
    go_wp2
    go_ret
    exact ⟨congrArg (fun s => Ending.returned (Value.string s)) (by rw [HR.out, ← str_app, ← str_app]), hB2⟩
  · have e5 : ((p : Int) == (ownP S : Int)) = false := by rw [beq_eq_false_iff_ne]; omega
    have HR := Lib.hid (show PL = S ++ [58, 47, 47] ++ H ++ [58] ++ digL p by rw [HPT.out, if_neg hpo]; simp)
    refine pone 6 (by kernel_rfl) rfl fun K hK => ?_
    go_simp
    refine hK _ _ hS2 ?_
    clear hK K
    refine plist #[true, true, true, true, true, true, true, false] (by kernel_rfl) ?_
    refine pone 7 (by kernel_rfl) rfl fun K hK => ?_
    go_simp
    refine hK _ _ hS2 ?_
    clear hK K
    refine pdone (by kernel_rfl) ?_ _
    clear hpo
    go_wp2_with fail
    refine pregion_any (Box w.heap.size #[.string ⟨S.toArray⟩, .string ⟨H.toArray⟩, .int .i64 p, .int .i64 0]) (by kernel_rfl) ?_
    have hS3 : Box w.heap.size #[.string ⟨S.toArray⟩, .string ⟨H.toArray⟩, .int .i64 p, .int .i64 0] V.drew := hS2
    have hB3 : Below w.heap.size w V.drew := hB2.drew
    clear hS2 hB2 e5
    generalize V.drew = T at *
    refine wpAnyH_take (i := 0) (v := (.pointer (some ⟨w.heap.size, 0, none⟩))) rfl (by kernel_rfl) (by kernel_rfl) (by kernel_rfl) (fun _ _ _ h => h) (.inl ⟨by kernel_rfl, ?_⟩) hS3 ?_
    · rintro w h; go_simp <;> omega
    refine plist #[true, false, false, false, false, false, false, false, false, false, false, false] (by kernel_rfl) ?_
    refine wpAnyH_take (i := 1) (v := (.string ⟨S.toArray⟩)) rfl (by kernel_rfl) (by kernel_rfl) (by kernel_rfl) (fun _ _ _ h => h) (.inl ⟨by kernel_rfl, ?_⟩) hS3 ?_
    · rintro w h; have h' := h 0 _ rfl; go_simp <;> omega
    refine plist #[true, true, false, false, false, false, false, false, false, false, false, false] (by kernel_rfl) ?_
    refine wpAnyH_take (i := 2) (v := (.string (⟨S.toArray⟩ ++ ⟨#[58, 47, 47]⟩))) rfl (by kernel_rfl) (by kernel_rfl) (by kernel_rfl) (fun _ _ _ h => h) (.inl ⟨by kernel_rfl, ?_⟩) hS3 ?_
    · rintro w h; go_simp <;> omega
    refine plist #[true, true, true, false, false, false, false, false, false, false, false, false] (by kernel_rfl) ?_
    refine wpAnyH_take (i := 3) (v := (.pointer (some ⟨w.heap.size, 1, none⟩))) rfl (by kernel_rfl) (by kernel_rfl) (by kernel_rfl) (fun _ _ _ h => h) (.inl ⟨by kernel_rfl, ?_⟩) hS3 ?_
    · rintro w h; go_simp <;> omega
    refine plist #[true, true, true, true, false, false, false, false, false, false, false, false] (by kernel_rfl) ?_
    refine wpAnyH_take (i := 4) (v := (.string ⟨H.toArray⟩)) rfl (by kernel_rfl) (by kernel_rfl) (by kernel_rfl) (fun _ _ _ h => h) (.inl ⟨by kernel_rfl, ?_⟩) hS3 ?_
    · rintro w h; have h' := h 1 _ rfl; go_simp <;> omega
    refine plist #[true, true, true, true, true, false, false, false, false, false, false, false] (by kernel_rfl) ?_
    refine wpAnyH_take (i := 5) (v := (.string (⟨S.toArray⟩ ++ ⟨#[58, 47, 47]⟩ ++ ⟨H.toArray⟩))) rfl (by kernel_rfl) (by kernel_rfl) (by kernel_rfl) (fun _ _ _ h => h) (.inl ⟨by kernel_rfl, ?_⟩) hS3 ?_
    · rintro w h; go_simp <;> omega
    refine plist #[true, true, true, true, true, true, false, false, false, false, false, false] (by kernel_rfl) ?_
    refine wpAnyH_take (i := 6) (v := (.string (⟨S.toArray⟩ ++ ⟨#[58, 47, 47]⟩ ++ ⟨H.toArray⟩ ++ ⟨#[58]⟩))) rfl (by kernel_rfl) (by kernel_rfl) (by kernel_rfl) (fun _ _ _ h => h) (.inl ⟨by kernel_rfl, ?_⟩) hS3 ?_
    · rintro w h; go_simp <;> omega
    refine plist #[true, true, true, true, true, true, true, false, false, false, false, false] (by kernel_rfl) ?_
    refine wpAnyH_take (i := 7) (v := (.pointer (some ⟨w.heap.size, 2, none⟩))) rfl (by kernel_rfl) (by kernel_rfl) (by kernel_rfl) (fun _ _ _ h => h) (.inl ⟨by kernel_rfl, ?_⟩) hS3 ?_
    · rintro w h; go_simp <;> omega
    refine plist #[true, true, true, true, true, true, true, true, false, false, false, false] (by kernel_rfl) ?_
    refine wpAnyH_take (i := 8) (v := (.int .i64 p)) rfl (by kernel_rfl) (by kernel_rfl) (by kernel_rfl) (fun _ _ _ h => h) (.inl ⟨by kernel_rfl, ?_⟩) hS3 ?_
    · rintro w h; have h' := h 2 _ rfl; go_simp <;> omega
    refine plist #[true, true, true, true, true, true, true, true, true, false, false, false] (by kernel_rfl) ?_
    have con := Itoa_any p T (by omega) (HG.out.on hB3)
    refine pone 9 (by kernel_rfl) rfl fun K hK => ?_
    go_simp
    refine con.mono ?_
    rintro e V' ⟨rfl, hb⟩
    have hS4 := hS3.on hb
    have hB4 := hB3.trans (hb.mono hB3.size)
    clear con hS3 hb hB3
    refine hK _ _ hS4 ?_
    clear hK K
    refine plist #[true, true, true, true, true, true, true, true, true, true, false, false] (by kernel_rfl) ?_
    refine pone 10 (by kernel_rfl) rfl fun K hK => ?_
    go_simp
    rw [if_neg (by omega), Oper.upon_value]
    refine hK _ _ hS4 ?_
    clear hK K
    refine plist #[true, true, true, true, true, true, true, true, true, true, true, false] (by kernel_rfl) ?_
    refine pone 11 (by kernel_rfl) rfl fun K hK => ?_
    go_simp
    refine hK _ _ hS4 ?_
    clear hK K
    refine pdone (by kernel_rfl) ?_ _
    clear hS4
    go_wp2
    go_ret
    exact ⟨congrArg (fun s => Ending.returned (Value.string s)) (by rw [HR.out, ← str_app, ← str_app, ← str_app, ← str_app]), hB4⟩

end Go.Proofs.YtpabhppghljipaaGreatDoor.Org

namespace Go.Proofs.YtpabhppghljipaaGreatDoor.Org
open Go.RowKit Go.Shelf Url
attribute [local go_sem] Oper.semAt_some

theorem dig_le : ∀ k n : Nat, 1 ≤ k → n < 10 ^ k → (digL n).length ≤ k
  | 0, n, h, _ => absurd h (by omega)
  | k + 1, n, _, h => by
    by_cases h1 : n < 10
    · rw [dig_small n h1]; simp
    · rw [dig_big n h1, List.length_append]
      have : n / 10 < 10 ^ k := by rw [Nat.pow_succ] at h; omega
      rcases Nat.eq_zero_or_pos k with hk | hk
      · subst hk; omega
      · have := dig_le k (n / 10) hk this
        simp only [List.length_cons, List.length_nil]; omega
set_option maxRecDepth 100000 in
set_option maxHeartbeats 8000000 in
/-- A closed one's text. -/
theorem Text_closed (n : Nat) (h1 : 1 ≤ n) (h2 : n ≤ 9223372036854775807) (w : World) (hG : Gl w) :
    Calls Tryz.prog 100 #[orgV [] [] 0 (n : Int)] w fun e w' => e = .returned (.string ⟨(closedS ++ digL n).toArray⟩) ∧ Below w.heap.size w w' := by
  unfold orgV
  obtain ⟨X, hX⟩ : ∃ X, w.alloc (.cells #[.string ⟨#[]⟩, .string ⟨#[]⟩, .int .i64 0, .int .i64 (n : Int)] 136) = X := ⟨_, rfl⟩
  have B1 : Below w.heap.size w X := by rw [← hX]; exact (Below.refl _ w).alloc (Nat.le_refl _) _
  have hO : OB w.heap.size #[.string ⟨#[]⟩, .string ⟨#[]⟩, .int .i64 0, .int .i64 (n : Int)] X := by rw [← hX]; exact OB.new w _
  have hdl : (digL n).length ≤ 19 := dig_le 19 n (by decide) (by omega)
  have c3 := hO.box 3 _ rfl
  have con := Itoa_any n X h2 (hG.on B1)
  have HX := Lib.hid hX
  have e0 : ((n : Int) == 0) = false := by rw [beq_eq_false_iff_ne]; omega
  have e1 : ((n : Int) != 0) = true := by rw [bne_iff_ne]; omega
  have l1 : 7 + (digL n).length ≤ 9223372036854775807 := by omega
  clear hX hG h1 h2 hdl
  generalize digL n = D at *
  go_enter Tryz.func100, Tryz.ntmps100
  go_wp2_with fail
  rw [HX.out]
  refine con.mono ?_
  rintro e w' ⟨rfl, hb⟩
  have B2 := B1.trans (hb.mono B1.size)
  clear con hb B1 c3 hO HX
  go_wp2
  go_ret
  exact ⟨congrArg (fun s => Ending.returned (Value.string s)) (by rw [← str_app]; rfl), B2⟩

/-- What parse tells. -/
def retQ : Sum Int (Sum Nat U) → Value
  | .inl m => .tuple #[orgV [] [] 0 0, .int .i64 m]
  | .inr (.inl n) => .tuple #[orgV [] [] 0 (n : Int), .int .i64 0]
  | .inr (.inr u) => .tuple #[orgV u.scheme u.host u.port 0, .int .i64 0]
theorem closed_num (most : Nat) (l : List UInt8) : closedQ most l = if (numOf most l).getD 0 < 1 then .inl 2 else .inr (.inl ((numOf most l).getD 0).toNat) := by
  unfold closedQ
  rw [numOf_ref]
  cases h : Ref.numOf most l with
  | none => rfl
  | some n =>
    simp only [Option.getD_some]
    by_cases hn : n < 1
    · rw [if_neg (by omega), if_pos hn]
    · rw [if_pos (by omega), if_neg hn]

set_option maxRecDepth 100000 in
set_option maxHeartbeats 8000000 in
theorem parseClosed_any (q : Option Addr) (n c : Nat) (l : List UInt8) (most : Nat) (w : World) (hby : By w (.slice q n c) l) (hn : n ≤ 4096) (hm : most ≤ 9223372036854775807) :
    Calls Tryz.prog 118 #[.slice q n c, .int .i64 (most : Int)] w fun e w' => e = .returned (retQ (closedQ most l)) ∧ Below w.heap.size w w' := by
  obtain ⟨X, hX⟩ : ∃ X, w.alloc (.cells #[.string ⟨#[]⟩, .string ⟨#[]⟩, .int .i64 0, .int .i64 0] 136) = X := ⟨_, rfl⟩
  have B1 : Below w.heap.size w X := by rw [← hX]; exact (Below.refl _ w).alloc (Nat.le_refl _) _
  have hO : OB w.heap.size #[.string ⟨#[]⟩, .string ⟨#[]⟩, .int .i64 0, .int .i64 0] X := by rw [← hX]; exact OB.new w _
  have con1 := Number_any q n c l (most : Int) X hby.at.1 (by omega) (hby.on B1).at.2.2.2.2 (by omega) (by omega)
  unfold numV at con1
  rw [closed_num]
  generalize (numOf (most : Int) l).getD 0 = k at *
  generalize (numOf (most : Int) l).isSome = bo at *
  have con2 := Closed_any k X
  have HX := Lib.hid hX
  clear hX hby
  unfold orgV at con2
  by_cases hk : k < 1
  · rw [if_pos hk] at con2 ⊢
    clear hk
    go_enter Tryz.func118, Tryz.ntmps118
    go_wp2_with fail
    rw [HX.out]
    refine con1.mono ?_
    rintro e w1 ⟨rfl, rfl⟩
    clear con1
    go_wp2_with fail
    refine con2.mono ?_
    rintro e w2 ⟨rfl, hb⟩
    have B2 := B1.trans (hb.mono B1.size)
    have hO2 := hO.on hb
    clear con2 hb hO B1 HX
    have A3 := (Below.refl _ w2).alloc (Nat.le_refl _) (.cells #[.string ⟨#[]⟩, .string ⟨#[]⟩, .int .i64 0, .int .i64 0] 136)
    have B3 := B2.trans (A3.mono B2.size)
    have hO3 := hO2.on A3
    have hN := OB.new w2 #[.string ⟨#[]⟩, .string ⟨#[]⟩, .int .i64 0, .int .i64 0]
    have n0 := hN.box 0 _ rfl
    have n1 := hN.box 1 _ rfl
    have n2 := hN.box 2 _ rfl
    have n3 := hN.box 3 _ rfl
    have z0 := hO3.box 0 _ rfl
    have z1 := hO3.box 1 _ rfl
    have z2 := hO3.box 2 _ rfl
    have z3 := hO3.box 3 _ rfl
    have f0 := hO3.frozen 0
    have f1 := hO3.frozen 1
    have f2 := hO3.frozen 2
    have f3 := hO3.frozen 3
    go_wp2
    obtain ⟨Y, hY, hU, hkY, hbY⟩ := OB.put hO3 (.string ⟨#[]⟩) (.string ⟨#[]⟩) (.int .i64 0) (.int .i64 0)
    rw [hY]
    (try simp only [Exit.inBlock, Exit.then])
    refine bodyPost_ret (ret_org2 rfl _ _ w.heap.size _ rfl hU rfl) rfl ?_
    exact ⟨rfl, B3.trans (hbY _ (Nat.le_refl _))⟩
  · rw [if_neg hk] at con2 ⊢
    have HK := Lib.hid (show ((k.toNat : Int)) = k by omega)
    clear hk
    go_enter Tryz.func118, Tryz.ntmps118
    go_wp2_with fail
    rw [HX.out]
    refine con1.mono ?_
    rintro e w1 ⟨rfl, rfl⟩
    clear con1
    go_wp2_with fail
    refine con2.mono ?_
    rintro e w2 ⟨rfl, hb⟩
    have B2 := B1.trans (hb.mono B1.size)
    have hO2 := hO.on hb
    clear con2 hb hO B1 HX
    have A3 := (Below.refl _ w2).alloc (Nat.le_refl _) (.cells #[.string ⟨#[]⟩, .string ⟨#[]⟩, .int .i64 0, .int .i64 k] 136)
    have B3 := B2.trans (A3.mono B2.size)
    have hO3 := hO2.on A3
    have hN := OB.new w2 #[.string ⟨#[]⟩, .string ⟨#[]⟩, .int .i64 0, .int .i64 k]
    have n0 := hN.box 0 _ rfl
    have n1 := hN.box 1 _ rfl
    have n2 := hN.box 2 _ rfl
    have n3 := hN.box 3 _ rfl
    have z0 := hO3.box 0 _ rfl
    have z1 := hO3.box 1 _ rfl
    have z2 := hO3.box 2 _ rfl
    have z3 := hO3.box 3 _ rfl
    have f0 := hO3.frozen 0
    have f1 := hO3.frozen 1
    have f2 := hO3.frozen 2
    have f3 := hO3.frozen 3
    go_wp2
    obtain ⟨Y, hY, hU, hkY, hbY⟩ := OB.put hO3 (.string ⟨#[]⟩) (.string ⟨#[]⟩) (.int .i64 0) (.int .i64 k)
    rw [hY]
    (try simp only [Exit.inBlock, Exit.then])
    refine bodyPost_ret (ret_org2 rfl _ _ w.heap.size _ rfl hU rfl) rfl ?_
    exact ⟨by unfold retQ orgV; simp only; rw [HK.out]; rfl, B3.trans (hbY _ (Nat.le_refl _))⟩

end Go.Proofs.YtpabhppghljipaaGreatDoor.Org

namespace Go.Proofs.YtpabhppghljipaaGreatDoor.Url
open Go.RowKit Go.Shelf
attribute [local go_sem] Oper.semAt_some

/-- A URL, or the error's number, whatever the text's length. -/
def canonU (t : List UInt8) : Sum Int U := match sepL t with
  | none => .inl 15
  | some (s, r) => if Ref.lowL s = httpS ∨ Ref.lowL s = httpsS then restU (Ref.lowL s) r else .inl 15
theorem parse_canon (t : List UInt8) (h : t.length ≤ 4096) : parseU t = canonU t := by
  unfold parseU canonU; rw [if_neg (by omega)]; rfl
theorem canon_none (t : List UInt8) (h : sepL t = none) : canonU t = .inl 15 := by unfold canonU; rw [h]
theorem own_zero (s : List UInt8) : ownP s = 0 ↔ ¬ (s = httpS ∨ s = httpsS) := by
  unfold ownP
  by_cases h1 : s = httpS
  · simp [h1]
  · by_cases h2 : s = httpsS
    · rw [if_neg h1, if_pos h2]; simp [h2]
    · rw [if_neg h1, if_neg h2]; simp [h1, h2]
theorem canon_other (t s r : List UInt8) (h : sepL t = some (s, r)) (ho : ownP (Ref.lowL s) = 0) : canonU t = .inl 15 := by
  unfold canonU; rw [h]; exact if_neg ((own_zero _).1 ho)
theorem canon_rest (t s r : List UInt8) (h : sepL t = some (s, r)) (ho : ownP (Ref.lowL s) ≠ 0) : canonU t = restU (Ref.lowL s) r := by
  unfold canonU; rw [h]; exact if_pos (Decidable.not_not.1 fun hn => ho ((own_zero _).2 hn))
theorem ahead_drop (c : UInt8) (l : List UInt8) : l.drop (aheadL c l).length = [] ∨ ∃ r, l.drop (aheadL c l).length = c :: r := by
  by_cases h : c ∈ l
  · obtain ⟨x, y, rfl, hx⟩ := List.eq_append_cons_of_mem h
    rw [(ahead_yes c x y hx).1]
    exact .inr ⟨y, by simp⟩
  · rw [(ahead_no c l h).1]
    exact .inl (by simp)
def srvL (r : List UInt8) : List UInt8 := aheadL 47 (atFst 63 (atFst 35 r))
def pthL (r : List UInt8) : List UInt8 := (atFst 63 (atFst 35 r)).drop (srvL r).length
/-- A port that is not told, or its number; 0 is none. -/
def portC (s d : List UInt8) (hp : Bool) : Int := if hp = true then (numOf 65535 d).getD 0 else (ownP s : Int)
def optC (b : Bool) (l : List UInt8) : Option (List UInt8) := if b = true then formL 2 l else some []
def portX (s d : List UInt8) (hp : Bool) : Option Nat := if 1 ≤ portC s d hp then some (portC s d hp).toNat else none
/-- What stands behind "://", as the code goes through it. -/
theorem rest_core (s r : List UInt8) (hs : s = httpS ∨ s = httpsS) : restU s r = if Host.parseE (atFst 58 (srvL r)) ≠ 0 then .inl (Host.parseE (atFst 58 (srvL r))) else
    match portX s (atSnd 58 (srvL r)) (atOk 58 (srvL r)), pathL (pthL r), optC (atOk 63 (atFst 35 r)) (atSnd 63 (atFst 35 r)), optC (atOk 35 r) (atSnd 35 r) with
    | some n, some p, some q, some f => .inr ⟨s, Ref.lowL (atFst 58 (srvL r)), n, p, q, f, atOk 63 (atFst 35 r), atOk 35 r⟩
    | _, _, _, _ => .inl 2 := by
  have e1 := (at_ahead 35 r).1
  have e2 := (at_ahead 63 (atFst 35 r)).1
  have e3 := (at_ahead 58 (srvL r)).1
  have ho : ∀ (c : UInt8) (l : List UInt8), optL (Host.tailL c l) = optC (atOk c l) (atSnd c l) ∧ (Host.tailL c l).isSome = atOk c l := fun c l => by
    rw [(at_ahead c l).2.1]
    cases atOk c l <;> exact ⟨rfl, rfl⟩
  have hp : portL s (Host.tailL 58 (srvL r)) = portX s (atSnd 58 (srvL r)) (atOk 58 (srvL r)) := by
    rw [(at_ahead 58 (srvL r)).2.1]
    unfold portX portC
    cases atOk 58 (srvL r) with
    | false =>
      have := (own_pos s hs).1
      simp only [Bool.false_eq_true, if_false]
      rw [portL, if_pos (by omega)]; simp
    | true =>
      simp only [if_true]
      rw [portL, numOf_ref]
      cases Ref.numOf 65535 (atSnd 58 (srvL r)) <;> rfl
  have x1 : aheadL 47 (aheadL 63 (aheadL 35 r)) = srvL r := by unfold srvL; rw [e2, e1]
  have x2 : (aheadL 63 (aheadL 35 r)).drop (srvL r).length = pthL r := by unfold pthL; rw [e2, e1]
  conv => lhs; unfold restU
  simp only
  rw [x1, x2, ← e3, hp, (ho 35 r).1, (ho 35 r).2, ← e1, (ho 63 _).1, (ho 63 _).2]
  rfl
theorem rest_host (s r : List UInt8) (hs : s = httpS ∨ s = httpsS) (h : Host.parseE (atFst 58 (srvL r)) ≠ 0) : restU s r = .inl (Host.parseE (atFst 58 (srvL r))) := by rw [rest_core s r hs, if_pos h]
theorem numGo_nonneg (most : Int) : ∀ (l : List UInt8) (n m : Int), Ref.numGo most l n = some m → 0 ≤ n → 0 ≤ m
  | [], n, m, h, h0 => by rw [Ref.numGo] at h; cases h; exact h0
  | b :: r, n, m, h, h0 => by
    rw [Ref.numGo] at h
    split at h
    · rename_i hc
      have := (Ref.decB_of b).1 hc.1
      exact numGo_nonneg most r _ m h (by omega)
    · cases h
theorem rest_good (s r : List UInt8) (hs : s = httpS ∨ s = httpsS) (h : Host.parseE (atFst 58 (srvL r)) = 0) (p q f : List UInt8) (h1 : portC s (atSnd 58 (srvL r)) (atOk 58 (srvL r)) ≠ 0) (h2 : pathL (pthL r) = some p) (h3 : optC (atOk 63 (atFst 35 r)) (atSnd 63 (atFst 35 r)) = some q) (h4 : optC (atOk 35 r) (atSnd 35 r) = some f) :
    ∃ n : Nat, portC s (atSnd 58 (srvL r)) (atOk 58 (srvL r)) = (n : Int) ∧ restU s r = .inr ⟨s, Ref.lowL (atFst 58 (srvL r)), n, p, q, f, atOk 63 (atFst 35 r), atOk 35 r⟩ := by
  have hge : 0 ≤ portC s (atSnd 58 (srvL r)) (atOk 58 (srvL r)) := by
    unfold portC
    split
    · rw [numOf_ref]
      cases hn : Ref.numOf 65535 (atSnd 58 (srvL r)) with
      | none => simp
      | some m =>
        unfold Ref.numOf at hn
        split at hn
        · cases hn
        · have := numGo_nonneg 65535 _ _ _ hn (by omega); simp; omega
    · omega
  refine ⟨_, (Int.toNat_of_nonneg hge).symm, ?_⟩
  have hx : portX s (atSnd 58 (srvL r)) (atOk 58 (srvL r)) = some (portC s (atSnd 58 (srvL r)) (atOk 58 (srvL r))).toNat := by unfold portX; rw [if_pos (by omega)]
  rw [rest_core s r hs, if_neg (by rw [h]; simp), hx, h2, h3, h4]
theorem rest_port (s r : List UInt8) (hs : s = httpS ∨ s = httpsS) (h : Host.parseE (atFst 58 (srvL r)) = 0) (h1 : portC s (atSnd 58 (srvL r)) (atOk 58 (srvL r)) = 0) : restU s r = .inl 2 := by
  have hx : portX s (atSnd 58 (srvL r)) (atOk 58 (srvL r)) = none := by unfold portX; rw [if_neg (by omega)]
  rw [rest_core s r hs, if_neg (by rw [h]; simp), hx]
theorem rest_path (s r : List UInt8) (hs : s = httpS ∨ s = httpsS) (h : Host.parseE (atFst 58 (srvL r)) = 0) (h2 : pathL (pthL r) = none) : restU s r = .inl 2 := by
  rw [rest_core s r hs, if_neg (by rw [h]; simp), h2]
  cases portX s (atSnd 58 (srvL r)) (atOk 58 (srvL r)) <;> rfl
theorem rest_query (s r : List UInt8) (hs : s = httpS ∨ s = httpsS) (h : Host.parseE (atFst 58 (srvL r)) = 0) (h3 : optC (atOk 63 (atFst 35 r)) (atSnd 63 (atFst 35 r)) = none) : restU s r = .inl 2 := by
  rw [rest_core s r hs, if_neg (by rw [h]; simp), h3]
  cases portX s (atSnd 58 (srvL r)) (atOk 58 (srvL r)) <;> cases pathL (pthL r) <;> rfl
theorem rest_frag (s r : List UInt8) (hs : s = httpS ∨ s = httpsS) (h : Host.parseE (atFst 58 (srvL r)) = 0) (h4 : optC (atOk 35 r) (atSnd 35 r) = none) : restU s r = .inl 2 := by
  rw [rest_core s r hs, if_neg (by rw [h]; simp), h4]
  cases portX s (atSnd 58 (srvL r)) (atOk 58 (srvL r)) <;> cases pathL (pthL r) <;> cases optC (atOk 63 (atFst 35 r)) (atSnd 63 (atFst 35 r)) <;> rfl
/-- What canonOf answers. -/
def CanonOut : Sum Int U → World → Ending → World → Prop
  | .inl n, w, e, w' => n ≠ 0 ∧ e = .returned (.tuple #[.agg zeroU, .int .i64 n]) ∧ Below w.heap.size w w'
  | .inr u, w, e, w' => ∃ v, e = .returned (.tuple #[v, .int .i64 0]) ∧ UrlIn w' v u ∧ Below w.heap.size w w'
/-- A slice of bytes is not where a URL's cells are. -/
theorem By.set {B i : Nat} {cs : Array Value} {X : World} {v u : Value} {l : List UInt8} (h : By X v l) (hU : UB B cs X) (hcs : ∀ (j : Nat) (x : Value), cs[j]? = some x → ∀ z : Int, x ≠ .int .u8 z) : By (X.setCell ⟨B, i, none⟩ u) v l := by
  obtain ⟨q, c, rfl, h2, h3, h4, h5⟩ := h
  refine ⟨q, c, rfl, h2, h3, h4, fun h0 => ?_⟩
  obtain ⟨b, o, he, hc⟩ := h5 h0
  refine ⟨b, o, he, fun j hj => ?_⟩
  have hne : b ≠ B := fun e => by
    subst e
    have h1 := hc j hj
    simp only [World.cell?, show X.heap[b]? = _ from hU] at h1
    exact hcs _ _ h1 _ rfl
  exact (World.cell?_of_block ((Keep.setCell (S := fun k => k ≠ B) X ⟨B, i, none⟩ u (fun h => h rfl)).block b (World.block_lt_of_cell? X _ (hc j hj)) hne)).trans (hc j hj)
theorem UB.other {B C i : Nat} {cs : Array Value} {X : World} (h : UB B cs X) (hne : B ≠ C) (u : Value) : UB B cs (X.setCell ⟨C, i, none⟩ u) :=
  ((Keep.setCell (S := fun k => k = B) X ⟨C, i, none⟩ u (fun h => hne h.symm)).block B h.lt rfl).trans h
theorem nb8 {a0 a1 a3 a4 a5 : Value} {p : Int} {b c : Bool} (h0 : ∃ q n c, a0 = .slice q n c) (h1 : ∃ q n c, a1 = .slice q n c) (h3 : ∃ q n c, a3 = .slice q n c) (h4 : ∃ q n c, a4 = .slice q n c) (h5 : ∃ q n c, a5 = .slice q n c) :
    ∀ (j : Nat) x, (#[a0, a1, .int .i64 p, a3, a4, a5, .bool b, .bool c] : Array Value)[j]? = some x → ∀ z, x ≠ .int .u8 z := by
  obtain ⟨_, _, _, rfl⟩ := h0
  obtain ⟨_, _, _, rfl⟩ := h1
  obtain ⟨_, _, _, rfl⟩ := h3
  obtain ⟨_, _, _, rfl⟩ := h4
  obtain ⟨_, _, _, rfl⟩ := h5
  intro j x hx z he
  subst he
  match j, hx with
  | 0, hx => simp at hx
  | 1, hx => simp at hx
  | 2, hx => simp at hx
  | 3, hx => simp at hx
  | 4, hx => simp at hx
  | 5, hx => simp at hx
  | 6, hx => simp at hx
  | 7, hx => simp at hx
  | n + 8, hx => simp at hx

end Go.Proofs.YtpabhppghljipaaGreatDoor.Url

namespace Go.Proofs.YtpabhppghljipaaGreatDoor.Url
open Go.RowKit Go.Shelf
attribute [local go_sem] Oper.semAt_some

theorem nbz : ∀ (j : Nat) (x : Value), zeroU[j]? = some x → ∀ z : Int, x ≠ .int .u8 z := nb8 ⟨_, _, _, rfl⟩ ⟨_, _, _, rfl⟩ ⟨_, _, _, rfl⟩ ⟨_, _, _, rfl⟩ ⟨_, _, _, rfl⟩
/-- A slice of bytes outlives what is written where a URL's cells are. -/
theorem By.away {B : Nat} {cs : Array Value} {X Y : World} {v : Value} {l : List UInt8} (h : By X v l) (hU : UB B cs X) (hcs : ∀ (j : Nat) (x : Value), cs[j]? = some x → ∀ z : Int, x ≠ .int .u8 z) (hk : ∀ S : Nat → Prop, ¬ S B → Keep S X Y) : By Y v l := by
  obtain ⟨q, c, rfl, h2, h3, h4, h5⟩ := h
  refine ⟨q, c, rfl, h2, h3, h4, fun h0 => ?_⟩
  obtain ⟨b, o, he, hc⟩ := h5 h0
  refine ⟨b, o, he, fun j hj => ?_⟩
  have hne : b ≠ B := fun e => by
    subst e
    have h1 := hc j hj
    simp only [World.cell?, show X.heap[b]? = _ from hU] at h1
    exact hcs _ _ h1 _ rfl
  exact (World.cell?_of_block ((hk (fun k => k ≠ B) (fun h => h rfl)).block b (World.block_lt_of_cell? X _ (hc j hj)) hne)).trans (hc j hj)
theorem UB.set8 {B : Nat} {X : World} {a0 a1 a2 a3 a4 a5 a6 a7 : Value} (h : UB B #[a0, a1, a2, a3, a4, a5, a6, a7] X) (v : Value) :
    UB B #[a0, a1, v, a3, a4, a5, a6, a7] (X.setCell ⟨B, 2, none⟩ v) ∧ UB B #[a0, a1, a2, v, a4, a5, a6, a7] (X.setCell ⟨B, 3, none⟩ v) ∧ UB B #[a0, a1, a2, a3, v, a5, a6, a7] (X.setCell ⟨B, 4, none⟩ v) ∧ UB B #[a0, a1, a2, a3, a4, v, a6, a7] (X.setCell ⟨B, 5, none⟩ v) := by
  have h2 := h.set 2 v; have h3 := h.set 3 v; have h4 := h.set 4 v; have h5 := h.set 5 v
  simp only [List.setIfInBounds_toArray, List.set_cons_zero, List.set_cons_succ] at h2 h3 h4 h5
  exact ⟨h2, h3, h4, h5⟩

set_option maxRecDepth 100000 in
set_option maxHeartbeats 16000000 in
theorem canonOf_any (q : Option Addr) (n c : Nat) (t : List UInt8) (w : World) (hby : By w (.slice q n c) t) (hn : n ≤ 4096) (hG : Gl w) :
    Calls Tryz.prog 138 #[.slice q n c] w fun e w' => CanonOut (canonU t) w e w' := by
  have kc := fun (w : World) (C : Array Value) (n c : Nat) => Lib.run_convert_bytes_const (P := Tryz.prog) w 22 5 C n c Tryz.underlying22 Tryz.underlying5
  obtain ⟨X0, hX0⟩ : ∃ X0, (w.alloc (.cells #[.slice none 0 0, .slice none 0 0, .int .i64 0, .slice none 0 0, .slice none 0 0, .slice none 0 0, .bool false, .bool false] 163)).alloc (.cells #[.int .u8 58, .int .u8 47, .int .u8 47] 5 (3, 4)) = X0 := ⟨_, rfl⟩
  have hBz := (Below.refl _ w).alloc (Nat.le_refl _) (.cells #[.slice none 0 0, .slice none 0 0, .int .i64 0, .slice none 0 0, .slice none 0 0, .slice none 0 0, .bool false, .bool false] 163)
  have B_0 : Below w.heap.size w X0 := by rw [← hX0]; exact hBz.alloc hBz.size _
  have U_0 : UB w.heap.size zeroU X0 := by rw [← hX0]; exact (UB.new w zeroU).on ((Below.refl _ _).alloc (Nat.le_refl _) _)
  have hsep : Lib.BytesIn X0 (some ⟨w.heap.size + 1, 0, none⟩) 3 (Lib.numsL sepS) := by
    have := bytes_lit (w := w.alloc (.cells #[.slice none 0 0, .slice none 0 0, .int .i64 0, .slice none 0 0, .slice none 0 0, .slice none 0 0, .bool false, .bool false] 163)) #[.int .u8 58, .int .u8 47, .int .u8 47] sepS (3, 4) rfl
    rw [World.size_alloc] at this
    rw [← hX0]; exact this
  have kc1 := kc (w.alloc (.cells #[.slice none 0 0, .slice none 0 0, .int .i64 0, .slice none 0 0, .slice none 0 0, .slice none 0 0, .bool false, .bool false] 163)) #[.int .u8 58, .int .u8 47, .int .u8 47] 3 3
  rw [World.size_alloc] at kc1
  have con := Cut_any q (some ⟨w.heap.size + 1, 0, none⟩) n c 3 t X0 (hby.on B_0) (by omega) (hG.on B_0) hsep
  have HX0 := Lib.hid hX0
  have T_0 := hby.on B_0
  have hTl := hby.at.1
  clear hX0 hBz hsep hby hG
  rcases sep_cases t with ⟨hk, hsp⟩ | ⟨k, hk, hkl, hsp⟩
  · rw [cut_none hk] at con
    have HC := Lib.hid (canon_none t hsp)
    clear hsp hk T_0
    go_enter Tryz.func138, Tryz.ntmps138
    go_wp2_with fail
    rw [HX0.out]
    refine con.mono ?_
    rintro e X1 ⟨rfl, m, hm⟩
    have hb : Below X0.heap.size X0 X1 := by rw [hm]; exact below_drewN _ _
    clear con hm kc1 HX0
    have B_1 := B_0.trans (hb.mono B_0.size)
    have U_1 := U_0.on hb
    clear U_0 B_0 hb
    have zb := U_1.box
    have zc0 := zb 0 _ rfl
    have zf0 := U_1.frozen 0
    have zc1 := zb 1 _ rfl
    have zf1 := U_1.frozen 1
    have zc2 := zb 2 _ rfl
    have zf2 := U_1.frozen 2
    have zc3 := zb 3 _ rfl
    have zf3 := U_1.frozen 3
    have zc4 := zb 4 _ rfl
    have zf4 := U_1.frozen 4
    have zc5 := zb 5 _ rfl
    have zf5 := U_1.frozen 5
    have zc6 := zb 6 _ rfl
    have zf6 := U_1.frozen 6
    have zc7 := zb 7 _ rfl
    have zf7 := U_1.frozen 7
    clear zb
    go_wp2
    obtain ⟨Y, hY, hU, hkY, hbY⟩ := UB.put (show UB w.heap.size #[.slice none 0 0, .slice none 0 0, .int .i64 0, .slice none 0 0, .slice none 0 0, .slice none 0 0, .bool false, .bool false] _ from U_1) (.slice none 0 0) (.slice none 0 0) (.int .i64 0) (.slice none 0 0) (.slice none 0 0) (.slice none 0 0) (.bool false) (.bool false)
    rw [hY]
    (try simp only [Exit.inBlock, Exit.then])
    refine bodyPost_ret (ret_url2 rfl _ _ w.heap.size _ rfl hU rfl) rfl ?_
    rw [HC.out]
    exact ⟨by decide, rfl, B_1.trans (hbY _ (Nat.le_refl _))⟩
  · rw [cut_some hk] at con
    have S_0 := T_0.take (show k ≤ n by omega)
    have R_0 := T_0.drop (show k + 3 ≤ n by omega)
    have hnr : n - (k + 3) ≤ 4096 := by omega
    have hkn : k ≤ 4096 := by omega
    generalize t.take k = s at *
    generalize t.drop (k + 3) = r at *
    generalize hqR : subA q c (k + 3) = qR at *
    generalize hnR : n - (k + 3) = nR at *
    generalize hcR : c - (k + 3) = cR at *
    have HSP := Lib.hid hsp
    clear hsp hk T_0 hkl hTl hqR hnR hcR
    obtain ⟨own, hown⟩ : ∃ o, ownP (Ref.lowL s) = o := ⟨_, rfl⟩
    have HOW := Lib.hid hown
    clear hown
    go_enter Tryz.func138, Tryz.ntmps138
    go_wp2_with fail
    rw [HX0.out]
    refine con.mono ?_
    rintro e X1 ⟨rfl, m, hm⟩
    have hb : Below X0.heap.size X0 X1 := by rw [hm]; exact below_drewN _ _
    clear con hm kc1 HX0
    have B_1 := B_0.trans (hb.mono B_0.size)
    have U_1 := U_0.on hb
    have S_1 := S_0.on hb
    have R_1 := R_0.on hb
    clear R_0 S_0 U_0 B_0 hb
    have con := Own_any q k c s X1 S_1.at.1 (by omega) S_1.at.2.2.2.2
    rw [HOW.out] at con
    by_cases ho : own = 0
    · have e0 : ((own : Int) == 0) = true := by rw [ho]; rfl
      have HC := Lib.hid (canon_other t s r HSP.out (by rw [HOW.out]; exact ho))
      clear ho
      go_wp2_with fail
      refine con.mono ?_
      rintro e X2 ⟨rfl, hb⟩
      clear con
      have B_2 := B_1.trans (hb.mono B_1.size)
      have U_2 := U_1.on hb
      have S_2 := S_1.on hb
      have R_2 := R_1.on hb
      clear R_1 S_1 U_1 B_1 hb
      have zb := U_2.box
      have zc0 := zb 0 _ rfl
      have zf0 := U_2.frozen 0
      have zc1 := zb 1 _ rfl
      have zf1 := U_2.frozen 1
      have zc2 := zb 2 _ rfl
      have zf2 := U_2.frozen 2
      have zc3 := zb 3 _ rfl
      have zf3 := U_2.frozen 3
      have zc4 := zb 4 _ rfl
      have zf4 := U_2.frozen 4
      have zc5 := zb 5 _ rfl
      have zf5 := U_2.frozen 5
      have zc6 := zb 6 _ rfl
      have zf6 := U_2.frozen 6
      have zc7 := zb 7 _ rfl
      have zf7 := U_2.frozen 7
      clear zb
      go_wp2
      obtain ⟨Y, hY, hU, hkY, hbY⟩ := UB.put (show UB w.heap.size #[.slice none 0 0, .slice none 0 0, .int .i64 0, .slice none 0 0, .slice none 0 0, .slice none 0 0, .bool false, .bool false] _ from U_2) (.slice none 0 0) (.slice none 0 0) (.int .i64 0) (.slice none 0 0) (.slice none 0 0) (.slice none 0 0) (.bool false) (.bool false)
      rw [hY]
      (try simp only [Exit.inBlock, Exit.then])
      refine bodyPost_ret (ret_url2 rfl _ _ w.heap.size _ rfl hU rfl) rfl ?_
      rw [HC.out]
      exact ⟨by decide, rfl, B_2.trans (hbY _ (Nat.le_refl _))⟩
    have e0 : ((own : Int) == 0) = false := by rw [beq_eq_false_iff_ne]; omega
    have hs0 : Ref.lowL s = httpS ∨ Ref.lowL s = httpsS := Decidable.not_not.1 fun h => ho (by rw [← HOW.out]; exact (own_zero _).2 h)
    have HS := Lib.hid hs0
    have HC := Lib.hid (canon_rest t s r HSP.out (by rw [HOW.out]; exact ho))
    clear ho HSP hs0
    go_wp2_with fail
    refine con.mono ?_
    rintro e X2 ⟨rfl, hb⟩
    clear con
    have B_2 := B_1.trans (hb.mono B_1.size)
    have U_2 := U_1.on hb
    have S_2 := S_1.on hb
    have R_2 := R_1.on hb
    clear R_1 S_1 U_1 B_1 hb
    obtain ⟨bf, hbf⟩ : ∃ b, atOk 35 (r) = b := ⟨_, rfl⟩
    have con := At_any qR nR cR (r) 35 X2 R_2.at.1 (by have := R_2.at.1; omega) R_2.at.2.1 R_2.at.2.2.2.1 R_2.at.2.2.2.2
    rw [hbf] at con
    have Hbf := Lib.hid hbf
    clear hbf
    go_wp2_with fail
    refine con.mono ?_
    rintro e X3 ⟨v1, v2, rfl, hr1, hr2, hb⟩
    clear con
    obtain ⟨nA, hnA⟩ : ∃ n, (atFst 35 (r)).length = n := ⟨_, rfl⟩
    rw [hnA] at hr1
    obtain ⟨qA, cA, rfl, _, _, _, _, _⟩ := row_open hr1
    have A_3 := By.row hr1
    have hmA : nA ≤ 4096 := by have h1 := at_len 35 (r); have h2 := R_2.at.1; omega
    clear hr1 hnA
    obtain ⟨nF, hnF⟩ : ∃ n, (atSnd 35 (r)).length = n := ⟨_, rfl⟩
    rw [hnF] at hr2
    obtain ⟨qF, cF, rfl, _, _, _, _, _⟩ := row_open hr2
    have F_3 := By.row hr2
    have hmF : nF ≤ 4096 := by have h1 := at_len 35 (r); have h2 := R_2.at.1; omega
    clear hr2 hnF
    have B_3 := B_2.trans (hb.mono B_2.size)
    have U_3 := U_2.on hb
    have S_3 := S_2.on hb
    have R_3 := R_2.on hb
    clear R_2 S_2 U_2 B_2 hb
    clear e0
    clear R_3
    obtain ⟨bq, hbq⟩ : ∃ b, atOk 63 (atFst 35 r) = b := ⟨_, rfl⟩
    have con := At_any qA nA cA (atFst 35 r) 63 X3 A_3.at.1 (by have := A_3.at.1; omega) A_3.at.2.1 A_3.at.2.2.2.1 A_3.at.2.2.2.2
    rw [hbq] at con
    have Hbq := Lib.hid hbq
    clear hbq
    go_wp2_with fail
    refine con.mono ?_
    rintro e X4 ⟨v1, v2, rfl, hr1, hr2, hb⟩
    clear con
    obtain ⟨nE, hnE⟩ : ∃ n, (atFst 63 (atFst 35 r)).length = n := ⟨_, rfl⟩
    rw [hnE] at hr1
    obtain ⟨qE, cE, rfl, _, _, _, _, _⟩ := row_open hr1
    have E_4 := By.row hr1
    have hmE : nE ≤ 4096 := by have h1 := at_len 63 (atFst 35 r); have h2 := A_3.at.1; omega
    clear hr1 hnE
    obtain ⟨nQ, hnQ⟩ : ∃ n, (atSnd 63 (atFst 35 r)).length = n := ⟨_, rfl⟩
    rw [hnQ] at hr2
    obtain ⟨qQ, cQ, rfl, _, _, _, _, _⟩ := row_open hr2
    have Q_4 := By.row hr2
    have hmQ : nQ ≤ 4096 := by have h1 := at_len 63 (atFst 35 r); have h2 := A_3.at.1; omega
    clear hr2 hnQ
    have B_4 := B_3.trans (hb.mono B_3.size)
    have U_4 := U_3.on hb
    have S_4 := S_3.on hb
    have A_4 := A_3.on hb
    have F_4 := F_3.on hb
    clear F_3 A_3 S_3 U_3 B_3 hb
    clear A_4
    have con := atSlash_any qE nE cE (atFst 63 (atFst 35 r)) X4 E_4
    go_wp2_with fail
    refine con.mono ?_
    rintro e X5 ⟨v1, v2, rfl, V_4, P_4, hb, -⟩
    have V_5 := V_4.on hb
    have P_5 := P_4.on hb
    clear con V_4 P_4
    obtain ⟨qV, cV, rfl, _⟩ := id V_5
    obtain ⟨qP, cP, rfl, _⟩ := id P_5
    have hP5 := ahead_drop 47 (atFst 63 (atFst 35 r))
    have hVl := ahead_len 47 (atFst 63 (atFst 35 r))
    have hEl := E_4.at.1
    replace V_5 : By X5 (.slice qV (srvL r).length cV) (srvL r) := V_5
    replace P_5 : By X5 (.slice qP (pthL r).length cP) (pthL r) := P_5
    have HPF := Lib.hid (show pthL r = [] ∨ ∃ x, pthL r = 47 :: x from hP5)
    have hPl : (pthL r).length ≤ 4096 := by
      have : (pthL r).length ≤ (atFst 63 (atFst 35 r)).length := by unfold pthL; rw [List.length_drop]; omega
      omega
    have hVl' : (srvL r).length ≤ 4096 := by have : (srvL r).length ≤ (atFst 63 (atFst 35 r)).length := hVl; omega
    change By X5 (.slice qV (aheadL 47 (atFst 63 (atFst 35 r))).length cV) (srvL r) at V_5
    change By X5 (.slice qP ((atFst 63 (atFst 35 r)).drop (aheadL 47 (atFst 63 (atFst 35 r))).length).length cP) (pthL r) at P_5
    obtain ⟨nV, hnV⟩ : ∃ n, (aheadL 47 (atFst 63 (atFst 35 r))).length = n := ⟨_, rfl⟩
    obtain ⟨nP, hnP⟩ : ∃ n, ((atFst 63 (atFst 35 r)).drop (aheadL 47 (atFst 63 (atFst 35 r))).length).length = n := ⟨_, rfl⟩
    rw [hnP] at P_5 ⊢
    rw [hnV] at V_5 ⊢
    have hmV : nV ≤ 4096 := by rw [← hnV]; exact hVl'
    have hmP : nP ≤ 4096 := by rw [← hnP]; exact hPl
    clear hP5 hVl hEl hPl hVl' hnV hnP
    have B_5 := B_4.trans (hb.mono B_4.size)
    have U_5 := U_4.on hb
    have S_5 := S_4.on hb
    have F_5 := F_4.on hb
    have E_5 := E_4.on hb
    have Q_5 := Q_4.on hb
    clear Q_4 E_4 F_4 S_4 U_4 B_4 hb
    clear E_5
    obtain ⟨bp, hbp⟩ : ∃ b, atOk 58 (srvL r) = b := ⟨_, rfl⟩
    have con := At_any qV nV cV (srvL r) 58 X5 V_5.at.1 (by have := V_5.at.1; omega) V_5.at.2.1 V_5.at.2.2.2.1 V_5.at.2.2.2.2
    rw [hbp] at con
    have Hbp := Lib.hid hbp
    clear hbp
    go_wp2_with fail
    refine con.mono ?_
    rintro e X6 ⟨v1, v2, rfl, hr1, hr2, hb⟩
    clear con
    obtain ⟨nN, hnN⟩ : ∃ n, (atFst 58 (srvL r)).length = n := ⟨_, rfl⟩
    rw [hnN] at hr1
    obtain ⟨qN, cN, rfl, _, _, _, _, _⟩ := row_open hr1
    have N_6 := By.row hr1
    have hmN : nN ≤ 4096 := by have h1 := at_len 58 (srvL r); have h2 := V_5.at.1; omega
    clear hr1 hnN
    obtain ⟨nD, hnD⟩ : ∃ n, (atSnd 58 (srvL r)).length = n := ⟨_, rfl⟩
    rw [hnD] at hr2
    obtain ⟨qD, cD, rfl, _, _, _, _, _⟩ := row_open hr2
    have D_6 := By.row hr2
    have hmD : nD ≤ 4096 := by have h1 := at_len 58 (srvL r); have h2 := V_5.at.1; omega
    clear hr2 hnD
    have B_6 := B_5.trans (hb.mono B_5.size)
    have U_6 := U_5.on hb
    have S_6 := S_5.on hb
    have F_6 := F_5.on hb
    have Q_6 := Q_5.on hb
    have V_6 := V_5.on hb
    have P_6 := P_5.on hb
    clear P_5 V_5 Q_5 F_5 S_5 U_5 B_5 hb
    clear V_6
    have con := Host.Parse_any qN nN cN (atFst 58 (srvL r)) X6 N_6.at.1 (by omega) N_6.at.2.2.2.2
    obtain ⟨pe, hpe⟩ : ∃ pe, Host.parseE (atFst 58 (srvL r)) = pe := ⟨_, rfl⟩
    have HPE := Lib.hid hpe
    clear hpe
    go_wp2_with fail
    refine con.mono ?_
    rintro e X7 ⟨vH, rfl, hrH, hb⟩
    rw [HPE.out]
    obtain ⟨nH, hnH⟩ : ∃ n, (Host.canL (atFst 58 (srvL r))).length = n := ⟨_, rfl⟩
    rw [hnH] at hrH
    obtain ⟨qH, cH, rfl, _, _, _, _, _⟩ := row_open hrH
    have H_7 := By.row hrH
    clear con hrH hnH
    have B_7 := B_6.trans (hb.mono B_6.size)
    have U_7 := U_6.on hb
    have S_7 := S_6.on hb
    have F_7 := F_6.on hb
    have Q_7 := Q_6.on hb
    have P_7 := P_6.on hb
    have N_7 := N_6.on hb
    have D_7 := D_6.on hb
    clear D_6 N_6 P_6 Q_6 F_6 S_6 U_6 B_6 hb
    clear N_7
    by_cases hp7 : pe = 0
    case neg =>
      have e7 : ((pe : Int) != 0) = true := by rw [bne_iff_ne]; exact hp7
      have HE := Lib.hid (show canonU t = .inl pe by rw [HC.out, rest_host _ r HS.out (by rw [HPE.out]; exact hp7), HPE.out])
      have hp8 := Lib.hid hp7
      clear HC hp7
      have zb := U_7.box
      have zc0 := zb 0 _ rfl
      have zf0 := U_7.frozen 0
      have zc1 := zb 1 _ rfl
      have zf1 := U_7.frozen 1
      have zc2 := zb 2 _ rfl
      have zf2 := U_7.frozen 2
      have zc3 := zb 3 _ rfl
      have zf3 := U_7.frozen 3
      have zc4 := zb 4 _ rfl
      have zf4 := U_7.frozen 4
      have zc5 := zb 5 _ rfl
      have zf5 := U_7.frozen 5
      have zc6 := zb 6 _ rfl
      have zf6 := U_7.frozen 6
      have zc7 := zb 7 _ rfl
      have zf7 := U_7.frozen 7
      clear zb
      go_wp2
      obtain ⟨Y, hY, hU, hkY, hbY⟩ := UB.put (show UB w.heap.size #[.slice none 0 0, .slice none 0 0, .int .i64 0, .slice none 0 0, .slice none 0 0, .slice none 0 0, .bool false, .bool false] _ from U_7) (.slice none 0 0) (.slice none 0 0) (.int .i64 0) (.slice none 0 0) (.slice none 0 0) (.slice none 0 0) (.bool false) (.bool false)
      rw [hY]
      (try simp only [Exit.inBlock, Exit.then])
      refine bodyPost_ret (ret_url2 rfl _ _ w.heap.size _ rfl hU rfl) rfl ?_
      rw [HE.out]
      exact ⟨hp8.out, rfl, B_7.trans (hbY _ (Nat.le_refl _))⟩
    subst hp7
    have HCL := Lib.hid (show Host.canL (atFst 58 (srvL r)) = Ref.lowL (atFst 58 (srvL r)) by unfold Host.canL; rw [if_pos HPE.out])
    rw [HCL.out] at H_7
    have con := Lower_any q k c s X7 S_7.at.1 (by omega) S_7.at.2.2.2.2
    go_wp2_with fail
    refine con.mono ?_
    rintro e X8 ⟨vL, rfl, hrL, hb⟩
    obtain ⟨qL, cL, rfl, _, _, _, _, _⟩ := row_open hrL
    have L_8 : By X8 (.slice qL k cL) (Ref.lowL s) := By.row hrL
    clear con hrL HCL
    have B_8 := B_7.trans (hb.mono B_7.size)
    have U_8 := U_7.on hb
    have S_8 := S_7.on hb
    have F_8 := F_7.on hb
    have Q_8 := Q_7.on hb
    have P_8 := P_7.on hb
    have D_8 := D_7.on hb
    have H_8 := H_7.on hb
    clear H_7 D_7 P_7 Q_7 F_7 S_7 U_7 B_7 hb
    have con := Own_any q k c s X8 S_8.at.1 (by omega) S_8.at.2.2.2.2
    rw [HOW.out] at con
    go_wp2_with fail
    refine con.mono ?_
    rintro e X9 ⟨rfl, hb⟩
    clear con
    have B_9 := B_8.trans (hb.mono B_8.size)
    have U_9 := U_8.on hb
    have S_9 := S_8.on hb
    have F_9 := F_8.on hb
    have Q_9 := Q_8.on hb
    have P_9 := P_8.on hb
    have D_9 := D_8.on hb
    have H_9 := H_8.on hb
    have L_9 := L_8.on hb
    clear L_8 H_8 D_8 P_8 Q_8 F_8 S_8 U_8 B_8 hb
    clear S_9
    obtain ⟨XA, hXA⟩ : ∃ XA, X9.alloc (.cells #[.slice qL k cL, .slice qH nH cH, .int .i64 own, .slice none 0 0, .slice none 0 0, .slice none 0 0, .bool bq, .bool bf] 163) = XA := ⟨_, rfl⟩
    obtain ⟨b18, hb18⟩ : ∃ b, X9.heap.size = b := ⟨_, rfl⟩
    have W_A : UB b18 #[.slice qL k cL, .slice qH nH cH, .int .i64 own, .slice none 0 0, .slice none 0 0, .slice none 0 0, .bool bq, .bool bf] XA := by rw [← hXA, ← hb18]; exact UB.new X9 _
    have hb : Below X9.heap.size X9 XA := by rw [← hXA]; exact (Below.refl _ _).alloc (Nat.le_refl _) _
    have hne : ¬ w.heap.size = b18 := by have := U_9.lt; omega
    have hne' : ¬ b18 = w.heap.size := fun h => hne h.symm
    have hle : w.heap.size ≤ b18 := by have := U_9.lt; omega
    have HXA := Lib.hid hXA
    have HB18 := Lib.hid hb18
    clear hXA hb18
    have B_A := B_9.trans (hb.mono B_9.size)
    have U_A := U_9.on hb
    have F_A := F_9.on hb
    have Q_A := Q_9.on hb
    have P_A := P_9.on hb
    have D_A := D_9.on hb
    have H_A := H_9.on hb
    have L_A := L_9.on hb
    clear L_9 H_9 D_9 P_9 Q_9 F_9 U_9 B_9 hb
    cases bp with
    | false =>
      clear D_A
      have HPO := Lib.hid (show portC (Ref.lowL s) (atSnd 58 (srvL r)) (atOk 58 (srvL r)) = (own : Int) by rw [Hbp.out]; unfold portC; rw [if_neg (by decide), HOW.out])
      go_wp2_with fail
      rw [HB18.out, HXA.out]
      have con := canonOfPath_any qP nP cP (pthL r) XA P_A (by omega) HPF.out
      refine con.mono ?_
      rintro e XC ⟨vW, ep, rfl, hep, hr, hb⟩
      have HEP : Hid (ep = if (pathL (pthL r)).isSome then 0 else 2) := hep
      replace hr : XC.ownsRow XA.heap.size 5 1 vW ((pathL (pthL r)).getD []).length (byV ((pathL (pthL r)).getD [])) := hr
      obtain ⟨nW, hnW⟩ : ∃ n, ((pathL (pthL r)).getD []).length = n := ⟨_, rfl⟩
      rw [hnW] at hr
      obtain ⟨qW, cW, rfl, _, _, _, _, _⟩ := row_open hr
      have GP_C := By.row hr
      clear con hr hnW hep
      have B_C := B_A.trans (hb.mono B_A.size)
      have U_C := U_A.on hb
      have F_C := F_A.on hb
      have Q_C := Q_A.on hb
      have P_C := P_A.on hb
      have H_C := H_A.on hb
      have L_C := L_A.on hb
      have W_C := W_A.on hb
      clear W_A L_A H_A P_A Q_A F_A U_A B_A hb
      clear P_C
      cases bq with
      | false =>
        clear Q_C
        cases bf with
        | false =>
          clear F_C
          have yb := W_C.box
          have yc0 := yb 0 _ rfl
          have yf0 := W_C.frozen 0
          have yc1 := yb 1 _ rfl
          have yf1 := W_C.frozen 1
          have yc2 := yb 2 _ rfl
          have yf2 := W_C.frozen 2
          have yc3 := yb 3 _ rfl
          have yf3 := W_C.frozen 3
          have yc4 := yb 4 _ rfl
          have yf4 := W_C.frozen 4
          have yc5 := yb 5 _ rfl
          have yf5 := W_C.frozen 5
          have yc6 := yb 6 _ rfl
          have yf6 := W_C.frozen 6
          have yc7 := yb 7 _ rfl
          have yf7 := W_C.frozen 7
          clear yb
          have zb := U_C.box
          have zc0 := zb 0 _ rfl
          have zf0 := U_C.frozen 0
          have zc1 := zb 1 _ rfl
          have zf1 := U_C.frozen 1
          have zc2 := zb 2 _ rfl
          have zf2 := U_C.frozen 2
          have zc3 := zb 3 _ rfl
          have zf3 := U_C.frozen 3
          have zc4 := zb 4 _ rfl
          have zf4 := U_C.frozen 4
          have zc5 := zb 5 _ rfl
          have zf5 := U_C.frozen 5
          have zc6 := zb 6 _ rfl
          have zf6 := U_C.frozen 6
          have zc7 := zb 7 _ rfl
          have zf7 := U_C.frozen 7
          clear zb
          obtain ⟨XZ, hXZ⟩ : ∃ Z, XC.setCell ⟨b18, 3, none⟩ (.slice qW nW cW) = Z := ⟨_, rfl⟩
          have B_Z : Below w.heap.size w XZ := by rw [← hXZ]; exact B_C.setCell (p := ⟨b18, 3, none⟩) hle _
          have U_Z : UB w.heap.size zeroU XZ := by rw [← hXZ]; exact U_C.other hne _
          have H_Z := By.set (i := 3) (u := .slice qW nW cW) H_C W_C (nb8 ⟨_, _, _, rfl⟩ ⟨_, _, _, rfl⟩ ⟨_, _, _, rfl⟩ ⟨_, _, _, rfl⟩ ⟨_, _, _, rfl⟩)
          rw [hXZ] at H_Z
          have L_Z := By.set (i := 3) (u := .slice qW nW cW) L_C W_C (nb8 ⟨_, _, _, rfl⟩ ⟨_, _, _, rfl⟩ ⟨_, _, _, rfl⟩ ⟨_, _, _, rfl⟩ ⟨_, _, _, rfl⟩)
          rw [hXZ] at L_Z
          have GP_Z := By.set (i := 3) (u := .slice qW nW cW) GP_C W_C (nb8 ⟨_, _, _, rfl⟩ ⟨_, _, _, rfl⟩ ⟨_, _, _, rfl⟩ ⟨_, _, _, rfl⟩ ⟨_, _, _, rfl⟩)
          rw [hXZ] at GP_Z
          have W_Z : UB b18 #[.slice qL k cL, .slice qH nH cH, .int .i64 own, .slice qW nW cW, .slice none 0 0, .slice none 0 0, .bool false, .bool false] XZ := by rw [← hXZ]; exact (W_C.set8 (.slice qW nW cW)).2.1
          clear GP_C W_C L_C H_C U_C B_C
          have HXZ := Lib.hid hXZ
          clear hXZ
          by_cases hp0 : (own : Int) = 0
          case pos =>
            have e0 : (((own : Int)) == 0) = true := by rw [beq_iff_eq]; exact hp0
            have hpo := HPO.out
            rw [hp0] at hpo
            clear hp0
            have HE := Lib.hid (show canonU t = .inl 2 by rw [HC.out]; exact rest_port _ r HS.out HPE.out hpo)
            go_wp2
            rw [HXZ.out]
            obtain ⟨Y, hY, hU, hkY, hbY⟩ := UB.put (show UB w.heap.size #[.slice none 0 0, .slice none 0 0, .int .i64 0, .slice none 0 0, .slice none 0 0, .slice none 0 0, .bool false, .bool false] _ from U_Z) (.slice none 0 0) (.slice none 0 0) (.int .i64 0) (.slice none 0 0) (.slice none 0 0) (.slice none 0 0) (.bool false) (.bool false)
            rw [hY]
            (try simp only [Exit.inBlock, Exit.then])
            refine bodyPost_ret (ret_url2 rfl _ _ w.heap.size _ rfl hU rfl) rfl ?_
            rw [HE.out]
            exact ⟨by decide, rfl, B_Z.trans (hbY _ (Nat.le_refl _))⟩
          have e0 : (((own : Int)) == 0) = false := by rw [beq_eq_false_iff_ne]; exact hp0
          have hpo : portC (Ref.lowL s) (atSnd 58 (srvL r)) (atOk 58 (srvL r)) ≠ 0 := by rw [HPO.out]; exact hp0
          cases hpp : pathL (pthL r) with
          | none =>
            obtain rfl : ep = 2 := by have := HEP.out; rw [hpp] at this; exact this
            have hpp2 := Lib.hid hpp
            clear hpp
            have HE := Lib.hid (show canonU t = .inl 2 by rw [HC.out]; exact rest_path _ r HS.out HPE.out hpp2.out)
            go_wp2
            rw [HXZ.out]
            obtain ⟨Y, hY, hU, hkY, hbY⟩ := UB.put (show UB w.heap.size #[.slice none 0 0, .slice none 0 0, .int .i64 0, .slice none 0 0, .slice none 0 0, .slice none 0 0, .bool false, .bool false] _ from U_Z) (.slice none 0 0) (.slice none 0 0) (.int .i64 0) (.slice none 0 0) (.slice none 0 0) (.slice none 0 0) (.bool false) (.bool false)
            rw [hY]
            (try simp only [Exit.inBlock, Exit.then])
            refine bodyPost_ret (ret_url2 rfl _ _ w.heap.size _ rfl hU rfl) rfl ?_
            rw [HE.out]
            exact ⟨by decide, rfl, B_Z.trans (hbY _ (Nat.le_refl _))⟩
          | some pp =>
            obtain rfl : ep = 0 := by have := HEP.out; rw [hpp] at this; exact this
            have h3 : optC (atOk 63 (atFst 35 r)) (atSnd 63 (atFst 35 r)) = some [] := by rw [Hbq.out]; rfl
            have h4 : optC (atOk 35 r) (atSnd 35 r) = some [] := by rw [Hbf.out]; rfl
            obtain ⟨pn, hpn, hrg⟩ := rest_good _ r HS.out HPE.out pp [] [] hpo hpp h3 h4
            rw [Hbq.out, Hbf.out] at hrg
            have hpn2 : (own : Int) = (pn : Int) := by rw [← HPO.out]; exact hpn
            have HE := Lib.hid (HC.out.trans hrg)
            have HPN := Lib.hid hpn2
            rw [hpp] at GP_Z
            clear hpo hrg hpn hpn2 h3 h4 hpp  hp0
            go_wp2
            rw [HXZ.out]
            obtain ⟨Y, hY, hU, hkY, hbY⟩ := UB.put (show UB w.heap.size #[.slice none 0 0, .slice none 0 0, .int .i64 0, .slice none 0 0, .slice none 0 0, .slice none 0 0, .bool false, .bool false] _ from U_Z) (.slice qL k cL) (.slice qH nH cH) (.int .i64 own) (.slice qW nW cW) (.slice none 0 0) (.slice none 0 0) (.bool false) (.bool false)
            rw [hY]
            (try simp only [Exit.inBlock, Exit.then])
            refine bodyPost_ret (ret_url2 rfl _ _ w.heap.size _ rfl hU rfl) rfl ?_
            rw [HE.out]
            refine ⟨_, rfl, ⟨qL, k, cL, qH, nH, cH, qW, nW, cW, none, 0, 0, none, 0, 0, by rw [HPN.out], L_Z.away U_Z nbz hkY, H_Z.away U_Z nbz hkY, GP_Z.away U_Z nbz hkY, by_nil _, by_nil _⟩, B_Z.trans (hbY _ (Nat.le_refl _))⟩
        | true =>
          have yb := W_C.box
          have yc3 := yb 3 _ rfl
          have yf3 := W_C.frozen 3
          clear yb
          go_wp2_with fail
          clear yc3 yf3
          obtain ⟨XF, hXF⟩ : ∃ Z, XC.setCell ⟨b18, 3, none⟩ (.slice qW nW cW) = Z := ⟨_, rfl⟩
          rw [hXF]
          have B_F : Below w.heap.size w XF := by rw [← hXF]; exact B_C.setCell (p := ⟨b18, 3, none⟩) hle _
          have U_F : UB w.heap.size zeroU XF := by rw [← hXF]; exact U_C.other hne _
          have F_F := By.set (i := 3) (u := .slice qW nW cW) F_C W_C (nb8 ⟨_, _, _, rfl⟩ ⟨_, _, _, rfl⟩ ⟨_, _, _, rfl⟩ ⟨_, _, _, rfl⟩ ⟨_, _, _, rfl⟩)
          rw [hXF] at F_F
          have H_F := By.set (i := 3) (u := .slice qW nW cW) H_C W_C (nb8 ⟨_, _, _, rfl⟩ ⟨_, _, _, rfl⟩ ⟨_, _, _, rfl⟩ ⟨_, _, _, rfl⟩ ⟨_, _, _, rfl⟩)
          rw [hXF] at H_F
          have L_F := By.set (i := 3) (u := .slice qW nW cW) L_C W_C (nb8 ⟨_, _, _, rfl⟩ ⟨_, _, _, rfl⟩ ⟨_, _, _, rfl⟩ ⟨_, _, _, rfl⟩ ⟨_, _, _, rfl⟩)
          rw [hXF] at L_F
          have GP_F := By.set (i := 3) (u := .slice qW nW cW) GP_C W_C (nb8 ⟨_, _, _, rfl⟩ ⟨_, _, _, rfl⟩ ⟨_, _, _, rfl⟩ ⟨_, _, _, rfl⟩ ⟨_, _, _, rfl⟩)
          rw [hXF] at GP_F
          have W_F : UB b18 #[.slice qL k cL, .slice qH nH cH, .int .i64 own, .slice qW nW cW, .slice none 0 0, .slice none 0 0, .bool false, .bool true] XF := by rw [← hXF]; exact (W_C.set8 (.slice qW nW cW)).2.1
          clear GP_C W_C L_C H_C F_C U_C B_C
          clear hXF
          have con := Pct.Canon_any qF nF cF (atSnd 35 r) 2 XF F_F.at.1 (by omega) F_F.at.2.2.2.2
          refine con.mono ?_
          rintro e XG ⟨vZ, ef, rfl, hef, hr, hb⟩
          have HEF : Hid (ef = if (formL 2 (atSnd 35 r)).isSome then 0 else 2) := hef
          replace hr : XG.ownsRow XF.heap.size 5 1 vZ ((formL 2 (atSnd 35 r)).getD []).length (byV ((formL 2 (atSnd 35 r)).getD [])) := hr
          obtain ⟨nZ, hnZ⟩ : ∃ n, ((formL 2 (atSnd 35 r)).getD []).length = n := ⟨_, rfl⟩
          rw [hnZ] at hr
          obtain ⟨qZ, cZ, rfl, _, _, _, _, _⟩ := row_open hr
          have GF_G := By.row hr
          clear con hr hnZ hef
          have B_G := B_F.trans (hb.mono B_F.size)
          have U_G := U_F.on hb
          have F_G := F_F.on hb
          have H_G := H_F.on hb
          have L_G := L_F.on hb
          have W_G := W_F.on hb
          have GP_G := GP_F.on hb
          clear GP_F W_F L_F H_F F_F U_F B_F hb
          clear F_G
          have yb := W_G.box
          have yc0 := yb 0 _ rfl
          have yf0 := W_G.frozen 0
          have yc1 := yb 1 _ rfl
          have yf1 := W_G.frozen 1
          have yc2 := yb 2 _ rfl
          have yf2 := W_G.frozen 2
          have yc3 := yb 3 _ rfl
          have yf3 := W_G.frozen 3
          have yc4 := yb 4 _ rfl
          have yf4 := W_G.frozen 4
          have yc5 := yb 5 _ rfl
          have yf5 := W_G.frozen 5
          have yc6 := yb 6 _ rfl
          have yf6 := W_G.frozen 6
          have yc7 := yb 7 _ rfl
          have yf7 := W_G.frozen 7
          clear yb
          have zb := U_G.box
          have zc0 := zb 0 _ rfl
          have zf0 := U_G.frozen 0
          have zc1 := zb 1 _ rfl
          have zf1 := U_G.frozen 1
          have zc2 := zb 2 _ rfl
          have zf2 := U_G.frozen 2
          have zc3 := zb 3 _ rfl
          have zf3 := U_G.frozen 3
          have zc4 := zb 4 _ rfl
          have zf4 := U_G.frozen 4
          have zc5 := zb 5 _ rfl
          have zf5 := U_G.frozen 5
          have zc6 := zb 6 _ rfl
          have zf6 := U_G.frozen 6
          have zc7 := zb 7 _ rfl
          have zf7 := U_G.frozen 7
          clear zb
          obtain ⟨XZ, hXZ⟩ : ∃ Z, XG.setCell ⟨b18, 5, none⟩ (.slice qZ nZ cZ) = Z := ⟨_, rfl⟩
          have B_Z : Below w.heap.size w XZ := by rw [← hXZ]; exact B_G.setCell (p := ⟨b18, 5, none⟩) hle _
          have U_Z : UB w.heap.size zeroU XZ := by rw [← hXZ]; exact U_G.other hne _
          have H_Z := By.set (i := 5) (u := .slice qZ nZ cZ) H_G W_G (nb8 ⟨_, _, _, rfl⟩ ⟨_, _, _, rfl⟩ ⟨_, _, _, rfl⟩ ⟨_, _, _, rfl⟩ ⟨_, _, _, rfl⟩)
          rw [hXZ] at H_Z
          have L_Z := By.set (i := 5) (u := .slice qZ nZ cZ) L_G W_G (nb8 ⟨_, _, _, rfl⟩ ⟨_, _, _, rfl⟩ ⟨_, _, _, rfl⟩ ⟨_, _, _, rfl⟩ ⟨_, _, _, rfl⟩)
          rw [hXZ] at L_Z
          have GP_Z := By.set (i := 5) (u := .slice qZ nZ cZ) GP_G W_G (nb8 ⟨_, _, _, rfl⟩ ⟨_, _, _, rfl⟩ ⟨_, _, _, rfl⟩ ⟨_, _, _, rfl⟩ ⟨_, _, _, rfl⟩)
          rw [hXZ] at GP_Z
          have GF_Z := By.set (i := 5) (u := .slice qZ nZ cZ) GF_G W_G (nb8 ⟨_, _, _, rfl⟩ ⟨_, _, _, rfl⟩ ⟨_, _, _, rfl⟩ ⟨_, _, _, rfl⟩ ⟨_, _, _, rfl⟩)
          rw [hXZ] at GF_Z
          have W_Z : UB b18 #[.slice qL k cL, .slice qH nH cH, .int .i64 own, .slice qW nW cW, .slice none 0 0, .slice qZ nZ cZ, .bool false, .bool true] XZ := by rw [← hXZ]; exact (W_G.set8 (.slice qZ nZ cZ)).2.2.2
          clear GF_G GP_G W_G L_G H_G U_G B_G
          have HXZ := Lib.hid hXZ
          clear hXZ
          by_cases hp0 : (own : Int) = 0
          case pos =>
            have e0 : (((own : Int)) == 0) = true := by rw [beq_iff_eq]; exact hp0
            have hpo := HPO.out
            rw [hp0] at hpo
            clear hp0
            have HE := Lib.hid (show canonU t = .inl 2 by rw [HC.out]; exact rest_port _ r HS.out HPE.out hpo)
            go_wp2
            rw [HXZ.out]
            obtain ⟨Y, hY, hU, hkY, hbY⟩ := UB.put (show UB w.heap.size #[.slice none 0 0, .slice none 0 0, .int .i64 0, .slice none 0 0, .slice none 0 0, .slice none 0 0, .bool false, .bool false] _ from U_Z) (.slice none 0 0) (.slice none 0 0) (.int .i64 0) (.slice none 0 0) (.slice none 0 0) (.slice none 0 0) (.bool false) (.bool false)
            rw [hY]
            (try simp only [Exit.inBlock, Exit.then])
            refine bodyPost_ret (ret_url2 rfl _ _ w.heap.size _ rfl hU rfl) rfl ?_
            rw [HE.out]
            exact ⟨by decide, rfl, B_Z.trans (hbY _ (Nat.le_refl _))⟩
          have e0 : (((own : Int)) == 0) = false := by rw [beq_eq_false_iff_ne]; exact hp0
          have hpo : portC (Ref.lowL s) (atSnd 58 (srvL r)) (atOk 58 (srvL r)) ≠ 0 := by rw [HPO.out]; exact hp0
          cases hpp : pathL (pthL r) with
          | none =>
            obtain rfl : ep = 2 := by have := HEP.out; rw [hpp] at this; exact this
            have hpp2 := Lib.hid hpp
            clear hpp
            have HE := Lib.hid (show canonU t = .inl 2 by rw [HC.out]; exact rest_path _ r HS.out HPE.out hpp2.out)
            go_wp2
            rw [HXZ.out]
            obtain ⟨Y, hY, hU, hkY, hbY⟩ := UB.put (show UB w.heap.size #[.slice none 0 0, .slice none 0 0, .int .i64 0, .slice none 0 0, .slice none 0 0, .slice none 0 0, .bool false, .bool false] _ from U_Z) (.slice none 0 0) (.slice none 0 0) (.int .i64 0) (.slice none 0 0) (.slice none 0 0) (.slice none 0 0) (.bool false) (.bool false)
            rw [hY]
            (try simp only [Exit.inBlock, Exit.then])
            refine bodyPost_ret (ret_url2 rfl _ _ w.heap.size _ rfl hU rfl) rfl ?_
            rw [HE.out]
            exact ⟨by decide, rfl, B_Z.trans (hbY _ (Nat.le_refl _))⟩
          | some pp =>
            obtain rfl : ep = 0 := by have := HEP.out; rw [hpp] at this; exact this
            cases hff : formL 2 (atSnd 35 r) with
            | none =>
              obtain rfl : ef = 2 := by have := HEF.out; rw [hff] at this; exact this
              have h4 := Lib.hid (show optC (atOk 35 r) (atSnd 35 r) = none by rw [Hbf.out]; exact hff)
              clear hff hpp
              have HE := Lib.hid (show canonU t = .inl 2 by rw [HC.out]; exact rest_frag _ r HS.out HPE.out h4.out)
              go_wp2
              rw [HXZ.out]
              obtain ⟨Y, hY, hU, hkY, hbY⟩ := UB.put (show UB w.heap.size #[.slice none 0 0, .slice none 0 0, .int .i64 0, .slice none 0 0, .slice none 0 0, .slice none 0 0, .bool false, .bool false] _ from U_Z) (.slice none 0 0) (.slice none 0 0) (.int .i64 0) (.slice none 0 0) (.slice none 0 0) (.slice none 0 0) (.bool false) (.bool false)
              rw [hY]
              (try simp only [Exit.inBlock, Exit.then])
              refine bodyPost_ret (ret_url2 rfl _ _ w.heap.size _ rfl hU rfl) rfl ?_
              rw [HE.out]
              exact ⟨by decide, rfl, B_Z.trans (hbY _ (Nat.le_refl _))⟩
            | some ff =>
              obtain rfl : ef = 0 := by have := HEF.out; rw [hff] at this; exact this
              have h3 : optC (atOk 63 (atFst 35 r)) (atSnd 63 (atFst 35 r)) = some [] := by rw [Hbq.out]; rfl
              have h4 : optC (atOk 35 r) (atSnd 35 r) = some ff := by rw [Hbf.out]; exact hff
              obtain ⟨pn, hpn, hrg⟩ := rest_good _ r HS.out HPE.out pp [] ff hpo hpp h3 h4
              rw [Hbq.out, Hbf.out] at hrg
              have hpn2 : (own : Int) = (pn : Int) := by rw [← HPO.out]; exact hpn
              have HE := Lib.hid (HC.out.trans hrg)
              have HPN := Lib.hid hpn2
              rw [hpp] at GP_Z
              rw [hff] at GF_Z
              clear hpo hrg hpn hpn2 h3 h4 hpp hff hp0
              go_wp2
              rw [HXZ.out]
              obtain ⟨Y, hY, hU, hkY, hbY⟩ := UB.put (show UB w.heap.size #[.slice none 0 0, .slice none 0 0, .int .i64 0, .slice none 0 0, .slice none 0 0, .slice none 0 0, .bool false, .bool false] _ from U_Z) (.slice qL k cL) (.slice qH nH cH) (.int .i64 own) (.slice qW nW cW) (.slice none 0 0) (.slice qZ nZ cZ) (.bool false) (.bool true)
              rw [hY]
              (try simp only [Exit.inBlock, Exit.then])
              refine bodyPost_ret (ret_url2 rfl _ _ w.heap.size _ rfl hU rfl) rfl ?_
              rw [HE.out]
              refine ⟨_, rfl, ⟨qL, k, cL, qH, nH, cH, qW, nW, cW, none, 0, 0, qZ, nZ, cZ, by rw [HPN.out], L_Z.away U_Z nbz hkY, H_Z.away U_Z nbz hkY, GP_Z.away U_Z nbz hkY, by_nil _, GF_Z.away U_Z nbz hkY⟩, B_Z.trans (hbY _ (Nat.le_refl _))⟩
      | true =>
        have yb := W_C.box
        have yc3 := yb 3 _ rfl
        have yf3 := W_C.frozen 3
        clear yb
        go_wp2_with fail
        clear yc3 yf3
        obtain ⟨XD, hXD⟩ : ∃ Z, XC.setCell ⟨b18, 3, none⟩ (.slice qW nW cW) = Z := ⟨_, rfl⟩
        rw [hXD]
        have B_D : Below w.heap.size w XD := by rw [← hXD]; exact B_C.setCell (p := ⟨b18, 3, none⟩) hle _
        have U_D : UB w.heap.size zeroU XD := by rw [← hXD]; exact U_C.other hne _
        have F_D := By.set (i := 3) (u := .slice qW nW cW) F_C W_C (nb8 ⟨_, _, _, rfl⟩ ⟨_, _, _, rfl⟩ ⟨_, _, _, rfl⟩ ⟨_, _, _, rfl⟩ ⟨_, _, _, rfl⟩)
        rw [hXD] at F_D
        have Q_D := By.set (i := 3) (u := .slice qW nW cW) Q_C W_C (nb8 ⟨_, _, _, rfl⟩ ⟨_, _, _, rfl⟩ ⟨_, _, _, rfl⟩ ⟨_, _, _, rfl⟩ ⟨_, _, _, rfl⟩)
        rw [hXD] at Q_D
        have H_D := By.set (i := 3) (u := .slice qW nW cW) H_C W_C (nb8 ⟨_, _, _, rfl⟩ ⟨_, _, _, rfl⟩ ⟨_, _, _, rfl⟩ ⟨_, _, _, rfl⟩ ⟨_, _, _, rfl⟩)
        rw [hXD] at H_D
        have L_D := By.set (i := 3) (u := .slice qW nW cW) L_C W_C (nb8 ⟨_, _, _, rfl⟩ ⟨_, _, _, rfl⟩ ⟨_, _, _, rfl⟩ ⟨_, _, _, rfl⟩ ⟨_, _, _, rfl⟩)
        rw [hXD] at L_D
        have GP_D := By.set (i := 3) (u := .slice qW nW cW) GP_C W_C (nb8 ⟨_, _, _, rfl⟩ ⟨_, _, _, rfl⟩ ⟨_, _, _, rfl⟩ ⟨_, _, _, rfl⟩ ⟨_, _, _, rfl⟩)
        rw [hXD] at GP_D
        have W_D : UB b18 #[.slice qL k cL, .slice qH nH cH, .int .i64 own, .slice qW nW cW, .slice none 0 0, .slice none 0 0, .bool true, .bool bf] XD := by rw [← hXD]; exact (W_C.set8 (.slice qW nW cW)).2.1
        clear GP_C W_C L_C H_C Q_C F_C U_C B_C
        clear hXD
        have con := Pct.Canon_any qQ nQ cQ (atSnd 63 (atFst 35 r)) 2 XD Q_D.at.1 (by omega) Q_D.at.2.2.2.2
        refine con.mono ?_
        rintro e XE ⟨vY, eq, rfl, heq, hr, hb⟩
        have HEQ : Hid (eq = if (formL 2 (atSnd 63 (atFst 35 r))).isSome then 0 else 2) := heq
        replace hr : XE.ownsRow XD.heap.size 5 1 vY ((formL 2 (atSnd 63 (atFst 35 r))).getD []).length (byV ((formL 2 (atSnd 63 (atFst 35 r))).getD [])) := hr
        obtain ⟨nY, hnY⟩ : ∃ n, ((formL 2 (atSnd 63 (atFst 35 r))).getD []).length = n := ⟨_, rfl⟩
        rw [hnY] at hr
        obtain ⟨qY, cY, rfl, _, _, _, _, _⟩ := row_open hr
        have GQ_E := By.row hr
        clear con hr hnY heq
        have B_E := B_D.trans (hb.mono B_D.size)
        have U_E := U_D.on hb
        have F_E := F_D.on hb
        have Q_E := Q_D.on hb
        have H_E := H_D.on hb
        have L_E := L_D.on hb
        have W_E := W_D.on hb
        have GP_E := GP_D.on hb
        clear GP_D W_D L_D H_D Q_D F_D U_D B_D hb
        clear Q_E
        cases bf with
        | false =>
          clear F_E
          have yb := W_E.box
          have yc0 := yb 0 _ rfl
          have yf0 := W_E.frozen 0
          have yc1 := yb 1 _ rfl
          have yf1 := W_E.frozen 1
          have yc2 := yb 2 _ rfl
          have yf2 := W_E.frozen 2
          have yc3 := yb 3 _ rfl
          have yf3 := W_E.frozen 3
          have yc4 := yb 4 _ rfl
          have yf4 := W_E.frozen 4
          have yc5 := yb 5 _ rfl
          have yf5 := W_E.frozen 5
          have yc6 := yb 6 _ rfl
          have yf6 := W_E.frozen 6
          have yc7 := yb 7 _ rfl
          have yf7 := W_E.frozen 7
          clear yb
          have zb := U_E.box
          have zc0 := zb 0 _ rfl
          have zf0 := U_E.frozen 0
          have zc1 := zb 1 _ rfl
          have zf1 := U_E.frozen 1
          have zc2 := zb 2 _ rfl
          have zf2 := U_E.frozen 2
          have zc3 := zb 3 _ rfl
          have zf3 := U_E.frozen 3
          have zc4 := zb 4 _ rfl
          have zf4 := U_E.frozen 4
          have zc5 := zb 5 _ rfl
          have zf5 := U_E.frozen 5
          have zc6 := zb 6 _ rfl
          have zf6 := U_E.frozen 6
          have zc7 := zb 7 _ rfl
          have zf7 := U_E.frozen 7
          clear zb
          obtain ⟨XZ, hXZ⟩ : ∃ Z, XE.setCell ⟨b18, 4, none⟩ (.slice qY nY cY) = Z := ⟨_, rfl⟩
          have B_Z : Below w.heap.size w XZ := by rw [← hXZ]; exact B_E.setCell (p := ⟨b18, 4, none⟩) hle _
          have U_Z : UB w.heap.size zeroU XZ := by rw [← hXZ]; exact U_E.other hne _
          have H_Z := By.set (i := 4) (u := .slice qY nY cY) H_E W_E (nb8 ⟨_, _, _, rfl⟩ ⟨_, _, _, rfl⟩ ⟨_, _, _, rfl⟩ ⟨_, _, _, rfl⟩ ⟨_, _, _, rfl⟩)
          rw [hXZ] at H_Z
          have L_Z := By.set (i := 4) (u := .slice qY nY cY) L_E W_E (nb8 ⟨_, _, _, rfl⟩ ⟨_, _, _, rfl⟩ ⟨_, _, _, rfl⟩ ⟨_, _, _, rfl⟩ ⟨_, _, _, rfl⟩)
          rw [hXZ] at L_Z
          have GP_Z := By.set (i := 4) (u := .slice qY nY cY) GP_E W_E (nb8 ⟨_, _, _, rfl⟩ ⟨_, _, _, rfl⟩ ⟨_, _, _, rfl⟩ ⟨_, _, _, rfl⟩ ⟨_, _, _, rfl⟩)
          rw [hXZ] at GP_Z
          have GQ_Z := By.set (i := 4) (u := .slice qY nY cY) GQ_E W_E (nb8 ⟨_, _, _, rfl⟩ ⟨_, _, _, rfl⟩ ⟨_, _, _, rfl⟩ ⟨_, _, _, rfl⟩ ⟨_, _, _, rfl⟩)
          rw [hXZ] at GQ_Z
          have W_Z : UB b18 #[.slice qL k cL, .slice qH nH cH, .int .i64 own, .slice qW nW cW, .slice qY nY cY, .slice none 0 0, .bool true, .bool false] XZ := by rw [← hXZ]; exact (W_E.set8 (.slice qY nY cY)).2.2.1
          clear GQ_E GP_E W_E L_E H_E U_E B_E
          have HXZ := Lib.hid hXZ
          clear hXZ
          by_cases hp0 : (own : Int) = 0
          case pos =>
            have e0 : (((own : Int)) == 0) = true := by rw [beq_iff_eq]; exact hp0
            have hpo := HPO.out
            rw [hp0] at hpo
            clear hp0
            have HE := Lib.hid (show canonU t = .inl 2 by rw [HC.out]; exact rest_port _ r HS.out HPE.out hpo)
            go_wp2
            rw [HXZ.out]
            obtain ⟨Y, hY, hU, hkY, hbY⟩ := UB.put (show UB w.heap.size #[.slice none 0 0, .slice none 0 0, .int .i64 0, .slice none 0 0, .slice none 0 0, .slice none 0 0, .bool false, .bool false] _ from U_Z) (.slice none 0 0) (.slice none 0 0) (.int .i64 0) (.slice none 0 0) (.slice none 0 0) (.slice none 0 0) (.bool false) (.bool false)
            rw [hY]
            (try simp only [Exit.inBlock, Exit.then])
            refine bodyPost_ret (ret_url2 rfl _ _ w.heap.size _ rfl hU rfl) rfl ?_
            rw [HE.out]
            exact ⟨by decide, rfl, B_Z.trans (hbY _ (Nat.le_refl _))⟩
          have e0 : (((own : Int)) == 0) = false := by rw [beq_eq_false_iff_ne]; exact hp0
          have hpo : portC (Ref.lowL s) (atSnd 58 (srvL r)) (atOk 58 (srvL r)) ≠ 0 := by rw [HPO.out]; exact hp0
          cases hpp : pathL (pthL r) with
          | none =>
            obtain rfl : ep = 2 := by have := HEP.out; rw [hpp] at this; exact this
            have hpp2 := Lib.hid hpp
            clear hpp
            have HE := Lib.hid (show canonU t = .inl 2 by rw [HC.out]; exact rest_path _ r HS.out HPE.out hpp2.out)
            go_wp2
            rw [HXZ.out]
            obtain ⟨Y, hY, hU, hkY, hbY⟩ := UB.put (show UB w.heap.size #[.slice none 0 0, .slice none 0 0, .int .i64 0, .slice none 0 0, .slice none 0 0, .slice none 0 0, .bool false, .bool false] _ from U_Z) (.slice none 0 0) (.slice none 0 0) (.int .i64 0) (.slice none 0 0) (.slice none 0 0) (.slice none 0 0) (.bool false) (.bool false)
            rw [hY]
            (try simp only [Exit.inBlock, Exit.then])
            refine bodyPost_ret (ret_url2 rfl _ _ w.heap.size _ rfl hU rfl) rfl ?_
            rw [HE.out]
            exact ⟨by decide, rfl, B_Z.trans (hbY _ (Nat.le_refl _))⟩
          | some pp =>
            obtain rfl : ep = 0 := by have := HEP.out; rw [hpp] at this; exact this
            cases hqq : formL 2 (atSnd 63 (atFst 35 r)) with
            | none =>
              obtain rfl : eq = 2 := by have := HEQ.out; rw [hqq] at this; exact this
              have h3 := Lib.hid (show optC (atOk 63 (atFst 35 r)) (atSnd 63 (atFst 35 r)) = none by rw [Hbq.out]; exact hqq)
              clear hqq hpp
              have HE := Lib.hid (show canonU t = .inl 2 by rw [HC.out]; exact rest_query _ r HS.out HPE.out h3.out)
              go_wp2
              rw [HXZ.out]
              obtain ⟨Y, hY, hU, hkY, hbY⟩ := UB.put (show UB w.heap.size #[.slice none 0 0, .slice none 0 0, .int .i64 0, .slice none 0 0, .slice none 0 0, .slice none 0 0, .bool false, .bool false] _ from U_Z) (.slice none 0 0) (.slice none 0 0) (.int .i64 0) (.slice none 0 0) (.slice none 0 0) (.slice none 0 0) (.bool false) (.bool false)
              rw [hY]
              (try simp only [Exit.inBlock, Exit.then])
              refine bodyPost_ret (ret_url2 rfl _ _ w.heap.size _ rfl hU rfl) rfl ?_
              rw [HE.out]
              exact ⟨by decide, rfl, B_Z.trans (hbY _ (Nat.le_refl _))⟩
            | some qq =>
              obtain rfl : eq = 0 := by have := HEQ.out; rw [hqq] at this; exact this
              have h3 : optC (atOk 63 (atFst 35 r)) (atSnd 63 (atFst 35 r)) = some qq := by rw [Hbq.out]; exact hqq
              have h4 : optC (atOk 35 r) (atSnd 35 r) = some [] := by rw [Hbf.out]; rfl
              obtain ⟨pn, hpn, hrg⟩ := rest_good _ r HS.out HPE.out pp qq [] hpo hpp h3 h4
              rw [Hbq.out, Hbf.out] at hrg
              have hpn2 : (own : Int) = (pn : Int) := by rw [← HPO.out]; exact hpn
              have HE := Lib.hid (HC.out.trans hrg)
              have HPN := Lib.hid hpn2
              rw [hpp] at GP_Z
              rw [hqq] at GQ_Z
              clear hpo hrg hpn hpn2 h3 h4 hpp hqq  hp0
              go_wp2
              rw [HXZ.out]
              obtain ⟨Y, hY, hU, hkY, hbY⟩ := UB.put (show UB w.heap.size #[.slice none 0 0, .slice none 0 0, .int .i64 0, .slice none 0 0, .slice none 0 0, .slice none 0 0, .bool false, .bool false] _ from U_Z) (.slice qL k cL) (.slice qH nH cH) (.int .i64 own) (.slice qW nW cW) (.slice qY nY cY) (.slice none 0 0) (.bool true) (.bool false)
              rw [hY]
              (try simp only [Exit.inBlock, Exit.then])
              refine bodyPost_ret (ret_url2 rfl _ _ w.heap.size _ rfl hU rfl) rfl ?_
              rw [HE.out]
              refine ⟨_, rfl, ⟨qL, k, cL, qH, nH, cH, qW, nW, cW, qY, nY, cY, none, 0, 0, by rw [HPN.out], L_Z.away U_Z nbz hkY, H_Z.away U_Z nbz hkY, GP_Z.away U_Z nbz hkY, GQ_Z.away U_Z nbz hkY, by_nil _⟩, B_Z.trans (hbY _ (Nat.le_refl _))⟩
        | true =>
          have yb := W_E.box
          have yc4 := yb 4 _ rfl
          have yf4 := W_E.frozen 4
          clear yb
          go_wp2_with fail
          clear yc4 yf4
          obtain ⟨XF, hXF⟩ : ∃ Z, XE.setCell ⟨b18, 4, none⟩ (.slice qY nY cY) = Z := ⟨_, rfl⟩
          rw [hXF]
          have B_F : Below w.heap.size w XF := by rw [← hXF]; exact B_E.setCell (p := ⟨b18, 4, none⟩) hle _
          have U_F : UB w.heap.size zeroU XF := by rw [← hXF]; exact U_E.other hne _
          have F_F := By.set (i := 4) (u := .slice qY nY cY) F_E W_E (nb8 ⟨_, _, _, rfl⟩ ⟨_, _, _, rfl⟩ ⟨_, _, _, rfl⟩ ⟨_, _, _, rfl⟩ ⟨_, _, _, rfl⟩)
          rw [hXF] at F_F
          have H_F := By.set (i := 4) (u := .slice qY nY cY) H_E W_E (nb8 ⟨_, _, _, rfl⟩ ⟨_, _, _, rfl⟩ ⟨_, _, _, rfl⟩ ⟨_, _, _, rfl⟩ ⟨_, _, _, rfl⟩)
          rw [hXF] at H_F
          have L_F := By.set (i := 4) (u := .slice qY nY cY) L_E W_E (nb8 ⟨_, _, _, rfl⟩ ⟨_, _, _, rfl⟩ ⟨_, _, _, rfl⟩ ⟨_, _, _, rfl⟩ ⟨_, _, _, rfl⟩)
          rw [hXF] at L_F
          have GP_F := By.set (i := 4) (u := .slice qY nY cY) GP_E W_E (nb8 ⟨_, _, _, rfl⟩ ⟨_, _, _, rfl⟩ ⟨_, _, _, rfl⟩ ⟨_, _, _, rfl⟩ ⟨_, _, _, rfl⟩)
          rw [hXF] at GP_F
          have GQ_F := By.set (i := 4) (u := .slice qY nY cY) GQ_E W_E (nb8 ⟨_, _, _, rfl⟩ ⟨_, _, _, rfl⟩ ⟨_, _, _, rfl⟩ ⟨_, _, _, rfl⟩ ⟨_, _, _, rfl⟩)
          rw [hXF] at GQ_F
          have W_F : UB b18 #[.slice qL k cL, .slice qH nH cH, .int .i64 own, .slice qW nW cW, .slice qY nY cY, .slice none 0 0, .bool true, .bool true] XF := by rw [← hXF]; exact (W_E.set8 (.slice qY nY cY)).2.2.1
          clear GQ_E GP_E W_E L_E H_E F_E U_E B_E
          clear hXF
          have con := Pct.Canon_any qF nF cF (atSnd 35 r) 2 XF F_F.at.1 (by omega) F_F.at.2.2.2.2
          refine con.mono ?_
          rintro e XG ⟨vZ, ef, rfl, hef, hr, hb⟩
          have HEF : Hid (ef = if (formL 2 (atSnd 35 r)).isSome then 0 else 2) := hef
          replace hr : XG.ownsRow XF.heap.size 5 1 vZ ((formL 2 (atSnd 35 r)).getD []).length (byV ((formL 2 (atSnd 35 r)).getD [])) := hr
          obtain ⟨nZ, hnZ⟩ : ∃ n, ((formL 2 (atSnd 35 r)).getD []).length = n := ⟨_, rfl⟩
          rw [hnZ] at hr
          obtain ⟨qZ, cZ, rfl, _, _, _, _, _⟩ := row_open hr
          have GF_G := By.row hr
          clear con hr hnZ hef
          have B_G := B_F.trans (hb.mono B_F.size)
          have U_G := U_F.on hb
          have F_G := F_F.on hb
          have H_G := H_F.on hb
          have L_G := L_F.on hb
          have W_G := W_F.on hb
          have GP_G := GP_F.on hb
          have GQ_G := GQ_F.on hb
          clear GQ_F GP_F W_F L_F H_F F_F U_F B_F hb
          clear F_G
          have yb := W_G.box
          have yc0 := yb 0 _ rfl
          have yf0 := W_G.frozen 0
          have yc1 := yb 1 _ rfl
          have yf1 := W_G.frozen 1
          have yc2 := yb 2 _ rfl
          have yf2 := W_G.frozen 2
          have yc3 := yb 3 _ rfl
          have yf3 := W_G.frozen 3
          have yc4 := yb 4 _ rfl
          have yf4 := W_G.frozen 4
          have yc5 := yb 5 _ rfl
          have yf5 := W_G.frozen 5
          have yc6 := yb 6 _ rfl
          have yf6 := W_G.frozen 6
          have yc7 := yb 7 _ rfl
          have yf7 := W_G.frozen 7
          clear yb
          have zb := U_G.box
          have zc0 := zb 0 _ rfl
          have zf0 := U_G.frozen 0
          have zc1 := zb 1 _ rfl
          have zf1 := U_G.frozen 1
          have zc2 := zb 2 _ rfl
          have zf2 := U_G.frozen 2
          have zc3 := zb 3 _ rfl
          have zf3 := U_G.frozen 3
          have zc4 := zb 4 _ rfl
          have zf4 := U_G.frozen 4
          have zc5 := zb 5 _ rfl
          have zf5 := U_G.frozen 5
          have zc6 := zb 6 _ rfl
          have zf6 := U_G.frozen 6
          have zc7 := zb 7 _ rfl
          have zf7 := U_G.frozen 7
          clear zb
          obtain ⟨XZ, hXZ⟩ : ∃ Z, XG.setCell ⟨b18, 5, none⟩ (.slice qZ nZ cZ) = Z := ⟨_, rfl⟩
          have B_Z : Below w.heap.size w XZ := by rw [← hXZ]; exact B_G.setCell (p := ⟨b18, 5, none⟩) hle _
          have U_Z : UB w.heap.size zeroU XZ := by rw [← hXZ]; exact U_G.other hne _
          have H_Z := By.set (i := 5) (u := .slice qZ nZ cZ) H_G W_G (nb8 ⟨_, _, _, rfl⟩ ⟨_, _, _, rfl⟩ ⟨_, _, _, rfl⟩ ⟨_, _, _, rfl⟩ ⟨_, _, _, rfl⟩)
          rw [hXZ] at H_Z
          have L_Z := By.set (i := 5) (u := .slice qZ nZ cZ) L_G W_G (nb8 ⟨_, _, _, rfl⟩ ⟨_, _, _, rfl⟩ ⟨_, _, _, rfl⟩ ⟨_, _, _, rfl⟩ ⟨_, _, _, rfl⟩)
          rw [hXZ] at L_Z
          have GP_Z := By.set (i := 5) (u := .slice qZ nZ cZ) GP_G W_G (nb8 ⟨_, _, _, rfl⟩ ⟨_, _, _, rfl⟩ ⟨_, _, _, rfl⟩ ⟨_, _, _, rfl⟩ ⟨_, _, _, rfl⟩)
          rw [hXZ] at GP_Z
          have GQ_Z := By.set (i := 5) (u := .slice qZ nZ cZ) GQ_G W_G (nb8 ⟨_, _, _, rfl⟩ ⟨_, _, _, rfl⟩ ⟨_, _, _, rfl⟩ ⟨_, _, _, rfl⟩ ⟨_, _, _, rfl⟩)
          rw [hXZ] at GQ_Z
          have GF_Z := By.set (i := 5) (u := .slice qZ nZ cZ) GF_G W_G (nb8 ⟨_, _, _, rfl⟩ ⟨_, _, _, rfl⟩ ⟨_, _, _, rfl⟩ ⟨_, _, _, rfl⟩ ⟨_, _, _, rfl⟩)
          rw [hXZ] at GF_Z
          have W_Z : UB b18 #[.slice qL k cL, .slice qH nH cH, .int .i64 own, .slice qW nW cW, .slice qY nY cY, .slice qZ nZ cZ, .bool true, .bool true] XZ := by rw [← hXZ]; exact (W_G.set8 (.slice qZ nZ cZ)).2.2.2
          clear GF_G GQ_G GP_G W_G L_G H_G U_G B_G
          have HXZ := Lib.hid hXZ
          clear hXZ
          by_cases hp0 : (own : Int) = 0
          case pos =>
            have e0 : (((own : Int)) == 0) = true := by rw [beq_iff_eq]; exact hp0
            have hpo := HPO.out
            rw [hp0] at hpo
            clear hp0
            have HE := Lib.hid (show canonU t = .inl 2 by rw [HC.out]; exact rest_port _ r HS.out HPE.out hpo)
            go_wp2
            rw [HXZ.out]
            obtain ⟨Y, hY, hU, hkY, hbY⟩ := UB.put (show UB w.heap.size #[.slice none 0 0, .slice none 0 0, .int .i64 0, .slice none 0 0, .slice none 0 0, .slice none 0 0, .bool false, .bool false] _ from U_Z) (.slice none 0 0) (.slice none 0 0) (.int .i64 0) (.slice none 0 0) (.slice none 0 0) (.slice none 0 0) (.bool false) (.bool false)
            rw [hY]
            (try simp only [Exit.inBlock, Exit.then])
            refine bodyPost_ret (ret_url2 rfl _ _ w.heap.size _ rfl hU rfl) rfl ?_
            rw [HE.out]
            exact ⟨by decide, rfl, B_Z.trans (hbY _ (Nat.le_refl _))⟩
          have e0 : (((own : Int)) == 0) = false := by rw [beq_eq_false_iff_ne]; exact hp0
          have hpo : portC (Ref.lowL s) (atSnd 58 (srvL r)) (atOk 58 (srvL r)) ≠ 0 := by rw [HPO.out]; exact hp0
          cases hpp : pathL (pthL r) with
          | none =>
            obtain rfl : ep = 2 := by have := HEP.out; rw [hpp] at this; exact this
            have hpp2 := Lib.hid hpp
            clear hpp
            have HE := Lib.hid (show canonU t = .inl 2 by rw [HC.out]; exact rest_path _ r HS.out HPE.out hpp2.out)
            go_wp2
            rw [HXZ.out]
            obtain ⟨Y, hY, hU, hkY, hbY⟩ := UB.put (show UB w.heap.size #[.slice none 0 0, .slice none 0 0, .int .i64 0, .slice none 0 0, .slice none 0 0, .slice none 0 0, .bool false, .bool false] _ from U_Z) (.slice none 0 0) (.slice none 0 0) (.int .i64 0) (.slice none 0 0) (.slice none 0 0) (.slice none 0 0) (.bool false) (.bool false)
            rw [hY]
            (try simp only [Exit.inBlock, Exit.then])
            refine bodyPost_ret (ret_url2 rfl _ _ w.heap.size _ rfl hU rfl) rfl ?_
            rw [HE.out]
            exact ⟨by decide, rfl, B_Z.trans (hbY _ (Nat.le_refl _))⟩
          | some pp =>
            obtain rfl : ep = 0 := by have := HEP.out; rw [hpp] at this; exact this
            cases hqq : formL 2 (atSnd 63 (atFst 35 r)) with
            | none =>
              obtain rfl : eq = 2 := by have := HEQ.out; rw [hqq] at this; exact this
              have h3 := Lib.hid (show optC (atOk 63 (atFst 35 r)) (atSnd 63 (atFst 35 r)) = none by rw [Hbq.out]; exact hqq)
              clear hqq hpp
              have HE := Lib.hid (show canonU t = .inl 2 by rw [HC.out]; exact rest_query _ r HS.out HPE.out h3.out)
              go_wp2
              rw [HXZ.out]
              obtain ⟨Y, hY, hU, hkY, hbY⟩ := UB.put (show UB w.heap.size #[.slice none 0 0, .slice none 0 0, .int .i64 0, .slice none 0 0, .slice none 0 0, .slice none 0 0, .bool false, .bool false] _ from U_Z) (.slice none 0 0) (.slice none 0 0) (.int .i64 0) (.slice none 0 0) (.slice none 0 0) (.slice none 0 0) (.bool false) (.bool false)
              rw [hY]
              (try simp only [Exit.inBlock, Exit.then])
              refine bodyPost_ret (ret_url2 rfl _ _ w.heap.size _ rfl hU rfl) rfl ?_
              rw [HE.out]
              exact ⟨by decide, rfl, B_Z.trans (hbY _ (Nat.le_refl _))⟩
            | some qq =>
              obtain rfl : eq = 0 := by have := HEQ.out; rw [hqq] at this; exact this
              cases hff : formL 2 (atSnd 35 r) with
              | none =>
                obtain rfl : ef = 2 := by have := HEF.out; rw [hff] at this; exact this
                have h4 := Lib.hid (show optC (atOk 35 r) (atSnd 35 r) = none by rw [Hbf.out]; exact hff)
                clear hff hpp
                have HE := Lib.hid (show canonU t = .inl 2 by rw [HC.out]; exact rest_frag _ r HS.out HPE.out h4.out)
                go_wp2
                rw [HXZ.out]
                obtain ⟨Y, hY, hU, hkY, hbY⟩ := UB.put (show UB w.heap.size #[.slice none 0 0, .slice none 0 0, .int .i64 0, .slice none 0 0, .slice none 0 0, .slice none 0 0, .bool false, .bool false] _ from U_Z) (.slice none 0 0) (.slice none 0 0) (.int .i64 0) (.slice none 0 0) (.slice none 0 0) (.slice none 0 0) (.bool false) (.bool false)
                rw [hY]
                (try simp only [Exit.inBlock, Exit.then])
                refine bodyPost_ret (ret_url2 rfl _ _ w.heap.size _ rfl hU rfl) rfl ?_
                rw [HE.out]
                exact ⟨by decide, rfl, B_Z.trans (hbY _ (Nat.le_refl _))⟩
              | some ff =>
                obtain rfl : ef = 0 := by have := HEF.out; rw [hff] at this; exact this
                have h3 : optC (atOk 63 (atFst 35 r)) (atSnd 63 (atFst 35 r)) = some qq := by rw [Hbq.out]; exact hqq
                have h4 : optC (atOk 35 r) (atSnd 35 r) = some ff := by rw [Hbf.out]; exact hff
                obtain ⟨pn, hpn, hrg⟩ := rest_good _ r HS.out HPE.out pp qq ff hpo hpp h3 h4
                rw [Hbq.out, Hbf.out] at hrg
                have hpn2 : (own : Int) = (pn : Int) := by rw [← HPO.out]; exact hpn
                have HE := Lib.hid (HC.out.trans hrg)
                have HPN := Lib.hid hpn2
                rw [hpp] at GP_Z
                rw [hqq] at GQ_Z
                rw [hff] at GF_Z
                clear hpo hrg hpn hpn2 h3 h4 hpp hqq hff hp0
                go_wp2
                rw [HXZ.out]
                obtain ⟨Y, hY, hU, hkY, hbY⟩ := UB.put (show UB w.heap.size #[.slice none 0 0, .slice none 0 0, .int .i64 0, .slice none 0 0, .slice none 0 0, .slice none 0 0, .bool false, .bool false] _ from U_Z) (.slice qL k cL) (.slice qH nH cH) (.int .i64 own) (.slice qW nW cW) (.slice qY nY cY) (.slice qZ nZ cZ) (.bool true) (.bool true)
                rw [hY]
                (try simp only [Exit.inBlock, Exit.then])
                refine bodyPost_ret (ret_url2 rfl _ _ w.heap.size _ rfl hU rfl) rfl ?_
                rw [HE.out]
                refine ⟨_, rfl, ⟨qL, k, cL, qH, nH, cH, qW, nW, cW, qY, nY, cY, qZ, nZ, cZ, by rw [HPN.out], L_Z.away U_Z nbz hkY, H_Z.away U_Z nbz hkY, GP_Z.away U_Z nbz hkY, GQ_Z.away U_Z nbz hkY, GF_Z.away U_Z nbz hkY⟩, B_Z.trans (hbY _ (Nat.le_refl _))⟩
    | true =>
      have con := Number_any qD nD cD (atSnd 58 (srvL r)) 65535 XA D_A.at.1 (by omega) D_A.at.2.2.2.2 (by decide) (by decide)
      obtain ⟨pv, hpv⟩ : ∃ p, (numOf 65535 (atSnd 58 (srvL r))).getD 0 = p := ⟨_, rfl⟩
      have HPO := Lib.hid (show portC (Ref.lowL s) (atSnd 58 (srvL r)) (atOk 58 (srvL r)) = pv by rw [Hbp.out, ← hpv]; rfl)
      unfold numV at con
      rw [hpv] at con
      generalize (numOf 65535 (atSnd 58 (srvL r))).isSome = ps at con
      clear hpv
      go_wp2_with fail
      rw [HB18.out, HXA.out]
      refine con.mono ?_
      rintro e XB ⟨rfl, rfl⟩
      clear con
      clear D_A
      have yb := W_A.box
      have yc2 := yb 2 _ rfl
      have yf2 := W_A.frozen 2
      clear yb
      go_wp2_with fail
      clear yc2 yf2
      obtain ⟨XB, hXB⟩ : ∃ Z, XA.setCell ⟨b18, 2, none⟩ (.int .i64 pv) = Z := ⟨_, rfl⟩
      rw [hXB]
      have B_B : Below w.heap.size w XB := by rw [← hXB]; exact B_A.setCell (p := ⟨b18, 2, none⟩) hle _
      have U_B : UB w.heap.size zeroU XB := by rw [← hXB]; exact U_A.other hne _
      have F_B := By.set (i := 2) (u := .int .i64 pv) F_A W_A (nb8 ⟨_, _, _, rfl⟩ ⟨_, _, _, rfl⟩ ⟨_, _, _, rfl⟩ ⟨_, _, _, rfl⟩ ⟨_, _, _, rfl⟩)
      rw [hXB] at F_B
      have Q_B := By.set (i := 2) (u := .int .i64 pv) Q_A W_A (nb8 ⟨_, _, _, rfl⟩ ⟨_, _, _, rfl⟩ ⟨_, _, _, rfl⟩ ⟨_, _, _, rfl⟩ ⟨_, _, _, rfl⟩)
      rw [hXB] at Q_B
      have P_B := By.set (i := 2) (u := .int .i64 pv) P_A W_A (nb8 ⟨_, _, _, rfl⟩ ⟨_, _, _, rfl⟩ ⟨_, _, _, rfl⟩ ⟨_, _, _, rfl⟩ ⟨_, _, _, rfl⟩)
      rw [hXB] at P_B
      have H_B := By.set (i := 2) (u := .int .i64 pv) H_A W_A (nb8 ⟨_, _, _, rfl⟩ ⟨_, _, _, rfl⟩ ⟨_, _, _, rfl⟩ ⟨_, _, _, rfl⟩ ⟨_, _, _, rfl⟩)
      rw [hXB] at H_B
      have L_B := By.set (i := 2) (u := .int .i64 pv) L_A W_A (nb8 ⟨_, _, _, rfl⟩ ⟨_, _, _, rfl⟩ ⟨_, _, _, rfl⟩ ⟨_, _, _, rfl⟩ ⟨_, _, _, rfl⟩)
      rw [hXB] at L_B
      have W_B : UB b18 #[.slice qL k cL, .slice qH nH cH, .int .i64 pv, .slice none 0 0, .slice none 0 0, .slice none 0 0, .bool bq, .bool bf] XB := by rw [← hXB]; exact (W_A.set8 (.int .i64 pv)).1
      clear W_A L_A H_A P_A Q_A F_A U_A B_A
      clear hXB
      have con := canonOfPath_any qP nP cP (pthL r) XB P_B (by omega) HPF.out
      refine con.mono ?_
      rintro e XC ⟨vW, ep, rfl, hep, hr, hb⟩
      have HEP : Hid (ep = if (pathL (pthL r)).isSome then 0 else 2) := hep
      replace hr : XC.ownsRow XB.heap.size 5 1 vW ((pathL (pthL r)).getD []).length (byV ((pathL (pthL r)).getD [])) := hr
      obtain ⟨nW, hnW⟩ : ∃ n, ((pathL (pthL r)).getD []).length = n := ⟨_, rfl⟩
      rw [hnW] at hr
      obtain ⟨qW, cW, rfl, _, _, _, _, _⟩ := row_open hr
      have GP_C := By.row hr
      clear con hr hnW hep
      have B_C := B_B.trans (hb.mono B_B.size)
      have U_C := U_B.on hb
      have F_C := F_B.on hb
      have Q_C := Q_B.on hb
      have P_C := P_B.on hb
      have H_C := H_B.on hb
      have L_C := L_B.on hb
      have W_C := W_B.on hb
      clear W_B L_B H_B P_B Q_B F_B U_B B_B hb
      clear P_C
      cases bq with
      | false =>
        clear Q_C
        cases bf with
        | false =>
          clear F_C
          have yb := W_C.box
          have yc0 := yb 0 _ rfl
          have yf0 := W_C.frozen 0
          have yc1 := yb 1 _ rfl
          have yf1 := W_C.frozen 1
          have yc2 := yb 2 _ rfl
          have yf2 := W_C.frozen 2
          have yc3 := yb 3 _ rfl
          have yf3 := W_C.frozen 3
          have yc4 := yb 4 _ rfl
          have yf4 := W_C.frozen 4
          have yc5 := yb 5 _ rfl
          have yf5 := W_C.frozen 5
          have yc6 := yb 6 _ rfl
          have yf6 := W_C.frozen 6
          have yc7 := yb 7 _ rfl
          have yf7 := W_C.frozen 7
          clear yb
          have zb := U_C.box
          have zc0 := zb 0 _ rfl
          have zf0 := U_C.frozen 0
          have zc1 := zb 1 _ rfl
          have zf1 := U_C.frozen 1
          have zc2 := zb 2 _ rfl
          have zf2 := U_C.frozen 2
          have zc3 := zb 3 _ rfl
          have zf3 := U_C.frozen 3
          have zc4 := zb 4 _ rfl
          have zf4 := U_C.frozen 4
          have zc5 := zb 5 _ rfl
          have zf5 := U_C.frozen 5
          have zc6 := zb 6 _ rfl
          have zf6 := U_C.frozen 6
          have zc7 := zb 7 _ rfl
          have zf7 := U_C.frozen 7
          clear zb
          obtain ⟨XZ, hXZ⟩ : ∃ Z, XC.setCell ⟨b18, 3, none⟩ (.slice qW nW cW) = Z := ⟨_, rfl⟩
          have B_Z : Below w.heap.size w XZ := by rw [← hXZ]; exact B_C.setCell (p := ⟨b18, 3, none⟩) hle _
          have U_Z : UB w.heap.size zeroU XZ := by rw [← hXZ]; exact U_C.other hne _
          have H_Z := By.set (i := 3) (u := .slice qW nW cW) H_C W_C (nb8 ⟨_, _, _, rfl⟩ ⟨_, _, _, rfl⟩ ⟨_, _, _, rfl⟩ ⟨_, _, _, rfl⟩ ⟨_, _, _, rfl⟩)
          rw [hXZ] at H_Z
          have L_Z := By.set (i := 3) (u := .slice qW nW cW) L_C W_C (nb8 ⟨_, _, _, rfl⟩ ⟨_, _, _, rfl⟩ ⟨_, _, _, rfl⟩ ⟨_, _, _, rfl⟩ ⟨_, _, _, rfl⟩)
          rw [hXZ] at L_Z
          have GP_Z := By.set (i := 3) (u := .slice qW nW cW) GP_C W_C (nb8 ⟨_, _, _, rfl⟩ ⟨_, _, _, rfl⟩ ⟨_, _, _, rfl⟩ ⟨_, _, _, rfl⟩ ⟨_, _, _, rfl⟩)
          rw [hXZ] at GP_Z
          have W_Z : UB b18 #[.slice qL k cL, .slice qH nH cH, .int .i64 pv, .slice qW nW cW, .slice none 0 0, .slice none 0 0, .bool false, .bool false] XZ := by rw [← hXZ]; exact (W_C.set8 (.slice qW nW cW)).2.1
          clear GP_C W_C L_C H_C U_C B_C
          have HXZ := Lib.hid hXZ
          clear hXZ
          by_cases hp0 : (pv : Int) = 0
          case pos =>
            have e0 : (((pv : Int)) == 0) = true := by rw [beq_iff_eq]; exact hp0
            have hpo := HPO.out
            rw [hp0] at hpo
            clear hp0
            have HE := Lib.hid (show canonU t = .inl 2 by rw [HC.out]; exact rest_port _ r HS.out HPE.out hpo)
            go_wp2
            rw [HXZ.out]
            obtain ⟨Y, hY, hU, hkY, hbY⟩ := UB.put (show UB w.heap.size #[.slice none 0 0, .slice none 0 0, .int .i64 0, .slice none 0 0, .slice none 0 0, .slice none 0 0, .bool false, .bool false] _ from U_Z) (.slice none 0 0) (.slice none 0 0) (.int .i64 0) (.slice none 0 0) (.slice none 0 0) (.slice none 0 0) (.bool false) (.bool false)
            rw [hY]
            (try simp only [Exit.inBlock, Exit.then])
            refine bodyPost_ret (ret_url2 rfl _ _ w.heap.size _ rfl hU rfl) rfl ?_
            rw [HE.out]
            exact ⟨by decide, rfl, B_Z.trans (hbY _ (Nat.le_refl _))⟩
          have e0 : (((pv : Int)) == 0) = false := by rw [beq_eq_false_iff_ne]; exact hp0
          have hpo : portC (Ref.lowL s) (atSnd 58 (srvL r)) (atOk 58 (srvL r)) ≠ 0 := by rw [HPO.out]; exact hp0
          cases hpp : pathL (pthL r) with
          | none =>
            obtain rfl : ep = 2 := by have := HEP.out; rw [hpp] at this; exact this
            have hpp2 := Lib.hid hpp
            clear hpp
            have HE := Lib.hid (show canonU t = .inl 2 by rw [HC.out]; exact rest_path _ r HS.out HPE.out hpp2.out)
            go_wp2
            rw [HXZ.out]
            obtain ⟨Y, hY, hU, hkY, hbY⟩ := UB.put (show UB w.heap.size #[.slice none 0 0, .slice none 0 0, .int .i64 0, .slice none 0 0, .slice none 0 0, .slice none 0 0, .bool false, .bool false] _ from U_Z) (.slice none 0 0) (.slice none 0 0) (.int .i64 0) (.slice none 0 0) (.slice none 0 0) (.slice none 0 0) (.bool false) (.bool false)
            rw [hY]
            (try simp only [Exit.inBlock, Exit.then])
            refine bodyPost_ret (ret_url2 rfl _ _ w.heap.size _ rfl hU rfl) rfl ?_
            rw [HE.out]
            exact ⟨by decide, rfl, B_Z.trans (hbY _ (Nat.le_refl _))⟩
          | some pp =>
            obtain rfl : ep = 0 := by have := HEP.out; rw [hpp] at this; exact this
            have h3 : optC (atOk 63 (atFst 35 r)) (atSnd 63 (atFst 35 r)) = some [] := by rw [Hbq.out]; rfl
            have h4 : optC (atOk 35 r) (atSnd 35 r) = some [] := by rw [Hbf.out]; rfl
            obtain ⟨pn, hpn, hrg⟩ := rest_good _ r HS.out HPE.out pp [] [] hpo hpp h3 h4
            rw [Hbq.out, Hbf.out] at hrg
            have hpn2 : (pv : Int) = (pn : Int) := by rw [← HPO.out]; exact hpn
            have HE := Lib.hid (HC.out.trans hrg)
            have HPN := Lib.hid hpn2
            rw [hpp] at GP_Z
            clear hpo hrg hpn hpn2 h3 h4 hpp  hp0
            go_wp2
            rw [HXZ.out]
            obtain ⟨Y, hY, hU, hkY, hbY⟩ := UB.put (show UB w.heap.size #[.slice none 0 0, .slice none 0 0, .int .i64 0, .slice none 0 0, .slice none 0 0, .slice none 0 0, .bool false, .bool false] _ from U_Z) (.slice qL k cL) (.slice qH nH cH) (.int .i64 pv) (.slice qW nW cW) (.slice none 0 0) (.slice none 0 0) (.bool false) (.bool false)
            rw [hY]
            (try simp only [Exit.inBlock, Exit.then])
            refine bodyPost_ret (ret_url2 rfl _ _ w.heap.size _ rfl hU rfl) rfl ?_
            rw [HE.out]
            refine ⟨_, rfl, ⟨qL, k, cL, qH, nH, cH, qW, nW, cW, none, 0, 0, none, 0, 0, by rw [HPN.out], L_Z.away U_Z nbz hkY, H_Z.away U_Z nbz hkY, GP_Z.away U_Z nbz hkY, by_nil _, by_nil _⟩, B_Z.trans (hbY _ (Nat.le_refl _))⟩
        | true =>
          have yb := W_C.box
          have yc3 := yb 3 _ rfl
          have yf3 := W_C.frozen 3
          clear yb
          go_wp2_with fail
          clear yc3 yf3
          obtain ⟨XF, hXF⟩ : ∃ Z, XC.setCell ⟨b18, 3, none⟩ (.slice qW nW cW) = Z := ⟨_, rfl⟩
          rw [hXF]
          have B_F : Below w.heap.size w XF := by rw [← hXF]; exact B_C.setCell (p := ⟨b18, 3, none⟩) hle _
          have U_F : UB w.heap.size zeroU XF := by rw [← hXF]; exact U_C.other hne _
          have F_F := By.set (i := 3) (u := .slice qW nW cW) F_C W_C (nb8 ⟨_, _, _, rfl⟩ ⟨_, _, _, rfl⟩ ⟨_, _, _, rfl⟩ ⟨_, _, _, rfl⟩ ⟨_, _, _, rfl⟩)
          rw [hXF] at F_F
          have H_F := By.set (i := 3) (u := .slice qW nW cW) H_C W_C (nb8 ⟨_, _, _, rfl⟩ ⟨_, _, _, rfl⟩ ⟨_, _, _, rfl⟩ ⟨_, _, _, rfl⟩ ⟨_, _, _, rfl⟩)
          rw [hXF] at H_F
          have L_F := By.set (i := 3) (u := .slice qW nW cW) L_C W_C (nb8 ⟨_, _, _, rfl⟩ ⟨_, _, _, rfl⟩ ⟨_, _, _, rfl⟩ ⟨_, _, _, rfl⟩ ⟨_, _, _, rfl⟩)
          rw [hXF] at L_F
          have GP_F := By.set (i := 3) (u := .slice qW nW cW) GP_C W_C (nb8 ⟨_, _, _, rfl⟩ ⟨_, _, _, rfl⟩ ⟨_, _, _, rfl⟩ ⟨_, _, _, rfl⟩ ⟨_, _, _, rfl⟩)
          rw [hXF] at GP_F
          have W_F : UB b18 #[.slice qL k cL, .slice qH nH cH, .int .i64 pv, .slice qW nW cW, .slice none 0 0, .slice none 0 0, .bool false, .bool true] XF := by rw [← hXF]; exact (W_C.set8 (.slice qW nW cW)).2.1
          clear GP_C W_C L_C H_C F_C U_C B_C
          clear hXF
          have con := Pct.Canon_any qF nF cF (atSnd 35 r) 2 XF F_F.at.1 (by omega) F_F.at.2.2.2.2
          refine con.mono ?_
          rintro e XG ⟨vZ, ef, rfl, hef, hr, hb⟩
          have HEF : Hid (ef = if (formL 2 (atSnd 35 r)).isSome then 0 else 2) := hef
          replace hr : XG.ownsRow XF.heap.size 5 1 vZ ((formL 2 (atSnd 35 r)).getD []).length (byV ((formL 2 (atSnd 35 r)).getD [])) := hr
          obtain ⟨nZ, hnZ⟩ : ∃ n, ((formL 2 (atSnd 35 r)).getD []).length = n := ⟨_, rfl⟩
          rw [hnZ] at hr
          obtain ⟨qZ, cZ, rfl, _, _, _, _, _⟩ := row_open hr
          have GF_G := By.row hr
          clear con hr hnZ hef
          have B_G := B_F.trans (hb.mono B_F.size)
          have U_G := U_F.on hb
          have F_G := F_F.on hb
          have H_G := H_F.on hb
          have L_G := L_F.on hb
          have W_G := W_F.on hb
          have GP_G := GP_F.on hb
          clear GP_F W_F L_F H_F F_F U_F B_F hb
          clear F_G
          have yb := W_G.box
          have yc0 := yb 0 _ rfl
          have yf0 := W_G.frozen 0
          have yc1 := yb 1 _ rfl
          have yf1 := W_G.frozen 1
          have yc2 := yb 2 _ rfl
          have yf2 := W_G.frozen 2
          have yc3 := yb 3 _ rfl
          have yf3 := W_G.frozen 3
          have yc4 := yb 4 _ rfl
          have yf4 := W_G.frozen 4
          have yc5 := yb 5 _ rfl
          have yf5 := W_G.frozen 5
          have yc6 := yb 6 _ rfl
          have yf6 := W_G.frozen 6
          have yc7 := yb 7 _ rfl
          have yf7 := W_G.frozen 7
          clear yb
          have zb := U_G.box
          have zc0 := zb 0 _ rfl
          have zf0 := U_G.frozen 0
          have zc1 := zb 1 _ rfl
          have zf1 := U_G.frozen 1
          have zc2 := zb 2 _ rfl
          have zf2 := U_G.frozen 2
          have zc3 := zb 3 _ rfl
          have zf3 := U_G.frozen 3
          have zc4 := zb 4 _ rfl
          have zf4 := U_G.frozen 4
          have zc5 := zb 5 _ rfl
          have zf5 := U_G.frozen 5
          have zc6 := zb 6 _ rfl
          have zf6 := U_G.frozen 6
          have zc7 := zb 7 _ rfl
          have zf7 := U_G.frozen 7
          clear zb
          obtain ⟨XZ, hXZ⟩ : ∃ Z, XG.setCell ⟨b18, 5, none⟩ (.slice qZ nZ cZ) = Z := ⟨_, rfl⟩
          have B_Z : Below w.heap.size w XZ := by rw [← hXZ]; exact B_G.setCell (p := ⟨b18, 5, none⟩) hle _
          have U_Z : UB w.heap.size zeroU XZ := by rw [← hXZ]; exact U_G.other hne _
          have H_Z := By.set (i := 5) (u := .slice qZ nZ cZ) H_G W_G (nb8 ⟨_, _, _, rfl⟩ ⟨_, _, _, rfl⟩ ⟨_, _, _, rfl⟩ ⟨_, _, _, rfl⟩ ⟨_, _, _, rfl⟩)
          rw [hXZ] at H_Z
          have L_Z := By.set (i := 5) (u := .slice qZ nZ cZ) L_G W_G (nb8 ⟨_, _, _, rfl⟩ ⟨_, _, _, rfl⟩ ⟨_, _, _, rfl⟩ ⟨_, _, _, rfl⟩ ⟨_, _, _, rfl⟩)
          rw [hXZ] at L_Z
          have GP_Z := By.set (i := 5) (u := .slice qZ nZ cZ) GP_G W_G (nb8 ⟨_, _, _, rfl⟩ ⟨_, _, _, rfl⟩ ⟨_, _, _, rfl⟩ ⟨_, _, _, rfl⟩ ⟨_, _, _, rfl⟩)
          rw [hXZ] at GP_Z
          have GF_Z := By.set (i := 5) (u := .slice qZ nZ cZ) GF_G W_G (nb8 ⟨_, _, _, rfl⟩ ⟨_, _, _, rfl⟩ ⟨_, _, _, rfl⟩ ⟨_, _, _, rfl⟩ ⟨_, _, _, rfl⟩)
          rw [hXZ] at GF_Z
          have W_Z : UB b18 #[.slice qL k cL, .slice qH nH cH, .int .i64 pv, .slice qW nW cW, .slice none 0 0, .slice qZ nZ cZ, .bool false, .bool true] XZ := by rw [← hXZ]; exact (W_G.set8 (.slice qZ nZ cZ)).2.2.2
          clear GF_G GP_G W_G L_G H_G U_G B_G
          have HXZ := Lib.hid hXZ
          clear hXZ
          by_cases hp0 : (pv : Int) = 0
          case pos =>
            have e0 : (((pv : Int)) == 0) = true := by rw [beq_iff_eq]; exact hp0
            have hpo := HPO.out
            rw [hp0] at hpo
            clear hp0
            have HE := Lib.hid (show canonU t = .inl 2 by rw [HC.out]; exact rest_port _ r HS.out HPE.out hpo)
            go_wp2
            rw [HXZ.out]
            obtain ⟨Y, hY, hU, hkY, hbY⟩ := UB.put (show UB w.heap.size #[.slice none 0 0, .slice none 0 0, .int .i64 0, .slice none 0 0, .slice none 0 0, .slice none 0 0, .bool false, .bool false] _ from U_Z) (.slice none 0 0) (.slice none 0 0) (.int .i64 0) (.slice none 0 0) (.slice none 0 0) (.slice none 0 0) (.bool false) (.bool false)
            rw [hY]
            (try simp only [Exit.inBlock, Exit.then])
            refine bodyPost_ret (ret_url2 rfl _ _ w.heap.size _ rfl hU rfl) rfl ?_
            rw [HE.out]
            exact ⟨by decide, rfl, B_Z.trans (hbY _ (Nat.le_refl _))⟩
          have e0 : (((pv : Int)) == 0) = false := by rw [beq_eq_false_iff_ne]; exact hp0
          have hpo : portC (Ref.lowL s) (atSnd 58 (srvL r)) (atOk 58 (srvL r)) ≠ 0 := by rw [HPO.out]; exact hp0
          cases hpp : pathL (pthL r) with
          | none =>
            obtain rfl : ep = 2 := by have := HEP.out; rw [hpp] at this; exact this
            have hpp2 := Lib.hid hpp
            clear hpp
            have HE := Lib.hid (show canonU t = .inl 2 by rw [HC.out]; exact rest_path _ r HS.out HPE.out hpp2.out)
            go_wp2
            rw [HXZ.out]
            obtain ⟨Y, hY, hU, hkY, hbY⟩ := UB.put (show UB w.heap.size #[.slice none 0 0, .slice none 0 0, .int .i64 0, .slice none 0 0, .slice none 0 0, .slice none 0 0, .bool false, .bool false] _ from U_Z) (.slice none 0 0) (.slice none 0 0) (.int .i64 0) (.slice none 0 0) (.slice none 0 0) (.slice none 0 0) (.bool false) (.bool false)
            rw [hY]
            (try simp only [Exit.inBlock, Exit.then])
            refine bodyPost_ret (ret_url2 rfl _ _ w.heap.size _ rfl hU rfl) rfl ?_
            rw [HE.out]
            exact ⟨by decide, rfl, B_Z.trans (hbY _ (Nat.le_refl _))⟩
          | some pp =>
            obtain rfl : ep = 0 := by have := HEP.out; rw [hpp] at this; exact this
            cases hff : formL 2 (atSnd 35 r) with
            | none =>
              obtain rfl : ef = 2 := by have := HEF.out; rw [hff] at this; exact this
              have h4 := Lib.hid (show optC (atOk 35 r) (atSnd 35 r) = none by rw [Hbf.out]; exact hff)
              clear hff hpp
              have HE := Lib.hid (show canonU t = .inl 2 by rw [HC.out]; exact rest_frag _ r HS.out HPE.out h4.out)
              go_wp2
              rw [HXZ.out]
              obtain ⟨Y, hY, hU, hkY, hbY⟩ := UB.put (show UB w.heap.size #[.slice none 0 0, .slice none 0 0, .int .i64 0, .slice none 0 0, .slice none 0 0, .slice none 0 0, .bool false, .bool false] _ from U_Z) (.slice none 0 0) (.slice none 0 0) (.int .i64 0) (.slice none 0 0) (.slice none 0 0) (.slice none 0 0) (.bool false) (.bool false)
              rw [hY]
              (try simp only [Exit.inBlock, Exit.then])
              refine bodyPost_ret (ret_url2 rfl _ _ w.heap.size _ rfl hU rfl) rfl ?_
              rw [HE.out]
              exact ⟨by decide, rfl, B_Z.trans (hbY _ (Nat.le_refl _))⟩
            | some ff =>
              obtain rfl : ef = 0 := by have := HEF.out; rw [hff] at this; exact this
              have h3 : optC (atOk 63 (atFst 35 r)) (atSnd 63 (atFst 35 r)) = some [] := by rw [Hbq.out]; rfl
              have h4 : optC (atOk 35 r) (atSnd 35 r) = some ff := by rw [Hbf.out]; exact hff
              obtain ⟨pn, hpn, hrg⟩ := rest_good _ r HS.out HPE.out pp [] ff hpo hpp h3 h4
              rw [Hbq.out, Hbf.out] at hrg
              have hpn2 : (pv : Int) = (pn : Int) := by rw [← HPO.out]; exact hpn
              have HE := Lib.hid (HC.out.trans hrg)
              have HPN := Lib.hid hpn2
              rw [hpp] at GP_Z
              rw [hff] at GF_Z
              clear hpo hrg hpn hpn2 h3 h4 hpp hff hp0
              go_wp2
              rw [HXZ.out]
              obtain ⟨Y, hY, hU, hkY, hbY⟩ := UB.put (show UB w.heap.size #[.slice none 0 0, .slice none 0 0, .int .i64 0, .slice none 0 0, .slice none 0 0, .slice none 0 0, .bool false, .bool false] _ from U_Z) (.slice qL k cL) (.slice qH nH cH) (.int .i64 pv) (.slice qW nW cW) (.slice none 0 0) (.slice qZ nZ cZ) (.bool false) (.bool true)
              rw [hY]
              (try simp only [Exit.inBlock, Exit.then])
              refine bodyPost_ret (ret_url2 rfl _ _ w.heap.size _ rfl hU rfl) rfl ?_
              rw [HE.out]
              refine ⟨_, rfl, ⟨qL, k, cL, qH, nH, cH, qW, nW, cW, none, 0, 0, qZ, nZ, cZ, by rw [HPN.out], L_Z.away U_Z nbz hkY, H_Z.away U_Z nbz hkY, GP_Z.away U_Z nbz hkY, by_nil _, GF_Z.away U_Z nbz hkY⟩, B_Z.trans (hbY _ (Nat.le_refl _))⟩
      | true =>
        have yb := W_C.box
        have yc3 := yb 3 _ rfl
        have yf3 := W_C.frozen 3
        clear yb
        go_wp2_with fail
        clear yc3 yf3
        obtain ⟨XD, hXD⟩ : ∃ Z, XC.setCell ⟨b18, 3, none⟩ (.slice qW nW cW) = Z := ⟨_, rfl⟩
        rw [hXD]
        have B_D : Below w.heap.size w XD := by rw [← hXD]; exact B_C.setCell (p := ⟨b18, 3, none⟩) hle _
        have U_D : UB w.heap.size zeroU XD := by rw [← hXD]; exact U_C.other hne _
        have F_D := By.set (i := 3) (u := .slice qW nW cW) F_C W_C (nb8 ⟨_, _, _, rfl⟩ ⟨_, _, _, rfl⟩ ⟨_, _, _, rfl⟩ ⟨_, _, _, rfl⟩ ⟨_, _, _, rfl⟩)
        rw [hXD] at F_D
        have Q_D := By.set (i := 3) (u := .slice qW nW cW) Q_C W_C (nb8 ⟨_, _, _, rfl⟩ ⟨_, _, _, rfl⟩ ⟨_, _, _, rfl⟩ ⟨_, _, _, rfl⟩ ⟨_, _, _, rfl⟩)
        rw [hXD] at Q_D
        have H_D := By.set (i := 3) (u := .slice qW nW cW) H_C W_C (nb8 ⟨_, _, _, rfl⟩ ⟨_, _, _, rfl⟩ ⟨_, _, _, rfl⟩ ⟨_, _, _, rfl⟩ ⟨_, _, _, rfl⟩)
        rw [hXD] at H_D
        have L_D := By.set (i := 3) (u := .slice qW nW cW) L_C W_C (nb8 ⟨_, _, _, rfl⟩ ⟨_, _, _, rfl⟩ ⟨_, _, _, rfl⟩ ⟨_, _, _, rfl⟩ ⟨_, _, _, rfl⟩)
        rw [hXD] at L_D
        have GP_D := By.set (i := 3) (u := .slice qW nW cW) GP_C W_C (nb8 ⟨_, _, _, rfl⟩ ⟨_, _, _, rfl⟩ ⟨_, _, _, rfl⟩ ⟨_, _, _, rfl⟩ ⟨_, _, _, rfl⟩)
        rw [hXD] at GP_D
        have W_D : UB b18 #[.slice qL k cL, .slice qH nH cH, .int .i64 pv, .slice qW nW cW, .slice none 0 0, .slice none 0 0, .bool true, .bool bf] XD := by rw [← hXD]; exact (W_C.set8 (.slice qW nW cW)).2.1
        clear GP_C W_C L_C H_C Q_C F_C U_C B_C
        clear hXD
        have con := Pct.Canon_any qQ nQ cQ (atSnd 63 (atFst 35 r)) 2 XD Q_D.at.1 (by omega) Q_D.at.2.2.2.2
        refine con.mono ?_
        rintro e XE ⟨vY, eq, rfl, heq, hr, hb⟩
        have HEQ : Hid (eq = if (formL 2 (atSnd 63 (atFst 35 r))).isSome then 0 else 2) := heq
        replace hr : XE.ownsRow XD.heap.size 5 1 vY ((formL 2 (atSnd 63 (atFst 35 r))).getD []).length (byV ((formL 2 (atSnd 63 (atFst 35 r))).getD [])) := hr
        obtain ⟨nY, hnY⟩ : ∃ n, ((formL 2 (atSnd 63 (atFst 35 r))).getD []).length = n := ⟨_, rfl⟩
        rw [hnY] at hr
        obtain ⟨qY, cY, rfl, _, _, _, _, _⟩ := row_open hr
        have GQ_E := By.row hr
        clear con hr hnY heq
        have B_E := B_D.trans (hb.mono B_D.size)
        have U_E := U_D.on hb
        have F_E := F_D.on hb
        have Q_E := Q_D.on hb
        have H_E := H_D.on hb
        have L_E := L_D.on hb
        have W_E := W_D.on hb
        have GP_E := GP_D.on hb
        clear GP_D W_D L_D H_D Q_D F_D U_D B_D hb
        clear Q_E
        cases bf with
        | false =>
          clear F_E
          have yb := W_E.box
          have yc0 := yb 0 _ rfl
          have yf0 := W_E.frozen 0
          have yc1 := yb 1 _ rfl
          have yf1 := W_E.frozen 1
          have yc2 := yb 2 _ rfl
          have yf2 := W_E.frozen 2
          have yc3 := yb 3 _ rfl
          have yf3 := W_E.frozen 3
          have yc4 := yb 4 _ rfl
          have yf4 := W_E.frozen 4
          have yc5 := yb 5 _ rfl
          have yf5 := W_E.frozen 5
          have yc6 := yb 6 _ rfl
          have yf6 := W_E.frozen 6
          have yc7 := yb 7 _ rfl
          have yf7 := W_E.frozen 7
          clear yb
          have zb := U_E.box
          have zc0 := zb 0 _ rfl
          have zf0 := U_E.frozen 0
          have zc1 := zb 1 _ rfl
          have zf1 := U_E.frozen 1
          have zc2 := zb 2 _ rfl
          have zf2 := U_E.frozen 2
          have zc3 := zb 3 _ rfl
          have zf3 := U_E.frozen 3
          have zc4 := zb 4 _ rfl
          have zf4 := U_E.frozen 4
          have zc5 := zb 5 _ rfl
          have zf5 := U_E.frozen 5
          have zc6 := zb 6 _ rfl
          have zf6 := U_E.frozen 6
          have zc7 := zb 7 _ rfl
          have zf7 := U_E.frozen 7
          clear zb
          obtain ⟨XZ, hXZ⟩ : ∃ Z, XE.setCell ⟨b18, 4, none⟩ (.slice qY nY cY) = Z := ⟨_, rfl⟩
          have B_Z : Below w.heap.size w XZ := by rw [← hXZ]; exact B_E.setCell (p := ⟨b18, 4, none⟩) hle _
          have U_Z : UB w.heap.size zeroU XZ := by rw [← hXZ]; exact U_E.other hne _
          have H_Z := By.set (i := 4) (u := .slice qY nY cY) H_E W_E (nb8 ⟨_, _, _, rfl⟩ ⟨_, _, _, rfl⟩ ⟨_, _, _, rfl⟩ ⟨_, _, _, rfl⟩ ⟨_, _, _, rfl⟩)
          rw [hXZ] at H_Z
          have L_Z := By.set (i := 4) (u := .slice qY nY cY) L_E W_E (nb8 ⟨_, _, _, rfl⟩ ⟨_, _, _, rfl⟩ ⟨_, _, _, rfl⟩ ⟨_, _, _, rfl⟩ ⟨_, _, _, rfl⟩)
          rw [hXZ] at L_Z
          have GP_Z := By.set (i := 4) (u := .slice qY nY cY) GP_E W_E (nb8 ⟨_, _, _, rfl⟩ ⟨_, _, _, rfl⟩ ⟨_, _, _, rfl⟩ ⟨_, _, _, rfl⟩ ⟨_, _, _, rfl⟩)
          rw [hXZ] at GP_Z
          have GQ_Z := By.set (i := 4) (u := .slice qY nY cY) GQ_E W_E (nb8 ⟨_, _, _, rfl⟩ ⟨_, _, _, rfl⟩ ⟨_, _, _, rfl⟩ ⟨_, _, _, rfl⟩ ⟨_, _, _, rfl⟩)
          rw [hXZ] at GQ_Z
          have W_Z : UB b18 #[.slice qL k cL, .slice qH nH cH, .int .i64 pv, .slice qW nW cW, .slice qY nY cY, .slice none 0 0, .bool true, .bool false] XZ := by rw [← hXZ]; exact (W_E.set8 (.slice qY nY cY)).2.2.1
          clear GQ_E GP_E W_E L_E H_E U_E B_E
          have HXZ := Lib.hid hXZ
          clear hXZ
          by_cases hp0 : (pv : Int) = 0
          case pos =>
            have e0 : (((pv : Int)) == 0) = true := by rw [beq_iff_eq]; exact hp0
            have hpo := HPO.out
            rw [hp0] at hpo
            clear hp0
            have HE := Lib.hid (show canonU t = .inl 2 by rw [HC.out]; exact rest_port _ r HS.out HPE.out hpo)
            go_wp2
            rw [HXZ.out]
            obtain ⟨Y, hY, hU, hkY, hbY⟩ := UB.put (show UB w.heap.size #[.slice none 0 0, .slice none 0 0, .int .i64 0, .slice none 0 0, .slice none 0 0, .slice none 0 0, .bool false, .bool false] _ from U_Z) (.slice none 0 0) (.slice none 0 0) (.int .i64 0) (.slice none 0 0) (.slice none 0 0) (.slice none 0 0) (.bool false) (.bool false)
            rw [hY]
            (try simp only [Exit.inBlock, Exit.then])
            refine bodyPost_ret (ret_url2 rfl _ _ w.heap.size _ rfl hU rfl) rfl ?_
            rw [HE.out]
            exact ⟨by decide, rfl, B_Z.trans (hbY _ (Nat.le_refl _))⟩
          have e0 : (((pv : Int)) == 0) = false := by rw [beq_eq_false_iff_ne]; exact hp0
          have hpo : portC (Ref.lowL s) (atSnd 58 (srvL r)) (atOk 58 (srvL r)) ≠ 0 := by rw [HPO.out]; exact hp0
          cases hpp : pathL (pthL r) with
          | none =>
            obtain rfl : ep = 2 := by have := HEP.out; rw [hpp] at this; exact this
            have hpp2 := Lib.hid hpp
            clear hpp
            have HE := Lib.hid (show canonU t = .inl 2 by rw [HC.out]; exact rest_path _ r HS.out HPE.out hpp2.out)
            go_wp2
            rw [HXZ.out]
            obtain ⟨Y, hY, hU, hkY, hbY⟩ := UB.put (show UB w.heap.size #[.slice none 0 0, .slice none 0 0, .int .i64 0, .slice none 0 0, .slice none 0 0, .slice none 0 0, .bool false, .bool false] _ from U_Z) (.slice none 0 0) (.slice none 0 0) (.int .i64 0) (.slice none 0 0) (.slice none 0 0) (.slice none 0 0) (.bool false) (.bool false)
            rw [hY]
            (try simp only [Exit.inBlock, Exit.then])
            refine bodyPost_ret (ret_url2 rfl _ _ w.heap.size _ rfl hU rfl) rfl ?_
            rw [HE.out]
            exact ⟨by decide, rfl, B_Z.trans (hbY _ (Nat.le_refl _))⟩
          | some pp =>
            obtain rfl : ep = 0 := by have := HEP.out; rw [hpp] at this; exact this
            cases hqq : formL 2 (atSnd 63 (atFst 35 r)) with
            | none =>
              obtain rfl : eq = 2 := by have := HEQ.out; rw [hqq] at this; exact this
              have h3 := Lib.hid (show optC (atOk 63 (atFst 35 r)) (atSnd 63 (atFst 35 r)) = none by rw [Hbq.out]; exact hqq)
              clear hqq hpp
              have HE := Lib.hid (show canonU t = .inl 2 by rw [HC.out]; exact rest_query _ r HS.out HPE.out h3.out)
              go_wp2
              rw [HXZ.out]
              obtain ⟨Y, hY, hU, hkY, hbY⟩ := UB.put (show UB w.heap.size #[.slice none 0 0, .slice none 0 0, .int .i64 0, .slice none 0 0, .slice none 0 0, .slice none 0 0, .bool false, .bool false] _ from U_Z) (.slice none 0 0) (.slice none 0 0) (.int .i64 0) (.slice none 0 0) (.slice none 0 0) (.slice none 0 0) (.bool false) (.bool false)
              rw [hY]
              (try simp only [Exit.inBlock, Exit.then])
              refine bodyPost_ret (ret_url2 rfl _ _ w.heap.size _ rfl hU rfl) rfl ?_
              rw [HE.out]
              exact ⟨by decide, rfl, B_Z.trans (hbY _ (Nat.le_refl _))⟩
            | some qq =>
              obtain rfl : eq = 0 := by have := HEQ.out; rw [hqq] at this; exact this
              have h3 : optC (atOk 63 (atFst 35 r)) (atSnd 63 (atFst 35 r)) = some qq := by rw [Hbq.out]; exact hqq
              have h4 : optC (atOk 35 r) (atSnd 35 r) = some [] := by rw [Hbf.out]; rfl
              obtain ⟨pn, hpn, hrg⟩ := rest_good _ r HS.out HPE.out pp qq [] hpo hpp h3 h4
              rw [Hbq.out, Hbf.out] at hrg
              have hpn2 : (pv : Int) = (pn : Int) := by rw [← HPO.out]; exact hpn
              have HE := Lib.hid (HC.out.trans hrg)
              have HPN := Lib.hid hpn2
              rw [hpp] at GP_Z
              rw [hqq] at GQ_Z
              clear hpo hrg hpn hpn2 h3 h4 hpp hqq  hp0
              go_wp2
              rw [HXZ.out]
              obtain ⟨Y, hY, hU, hkY, hbY⟩ := UB.put (show UB w.heap.size #[.slice none 0 0, .slice none 0 0, .int .i64 0, .slice none 0 0, .slice none 0 0, .slice none 0 0, .bool false, .bool false] _ from U_Z) (.slice qL k cL) (.slice qH nH cH) (.int .i64 pv) (.slice qW nW cW) (.slice qY nY cY) (.slice none 0 0) (.bool true) (.bool false)
              rw [hY]
              (try simp only [Exit.inBlock, Exit.then])
              refine bodyPost_ret (ret_url2 rfl _ _ w.heap.size _ rfl hU rfl) rfl ?_
              rw [HE.out]
              refine ⟨_, rfl, ⟨qL, k, cL, qH, nH, cH, qW, nW, cW, qY, nY, cY, none, 0, 0, by rw [HPN.out], L_Z.away U_Z nbz hkY, H_Z.away U_Z nbz hkY, GP_Z.away U_Z nbz hkY, GQ_Z.away U_Z nbz hkY, by_nil _⟩, B_Z.trans (hbY _ (Nat.le_refl _))⟩
        | true =>
          have yb := W_E.box
          have yc4 := yb 4 _ rfl
          have yf4 := W_E.frozen 4
          clear yb
          go_wp2_with fail
          clear yc4 yf4
          obtain ⟨XF, hXF⟩ : ∃ Z, XE.setCell ⟨b18, 4, none⟩ (.slice qY nY cY) = Z := ⟨_, rfl⟩
          rw [hXF]
          have B_F : Below w.heap.size w XF := by rw [← hXF]; exact B_E.setCell (p := ⟨b18, 4, none⟩) hle _
          have U_F : UB w.heap.size zeroU XF := by rw [← hXF]; exact U_E.other hne _
          have F_F := By.set (i := 4) (u := .slice qY nY cY) F_E W_E (nb8 ⟨_, _, _, rfl⟩ ⟨_, _, _, rfl⟩ ⟨_, _, _, rfl⟩ ⟨_, _, _, rfl⟩ ⟨_, _, _, rfl⟩)
          rw [hXF] at F_F
          have H_F := By.set (i := 4) (u := .slice qY nY cY) H_E W_E (nb8 ⟨_, _, _, rfl⟩ ⟨_, _, _, rfl⟩ ⟨_, _, _, rfl⟩ ⟨_, _, _, rfl⟩ ⟨_, _, _, rfl⟩)
          rw [hXF] at H_F
          have L_F := By.set (i := 4) (u := .slice qY nY cY) L_E W_E (nb8 ⟨_, _, _, rfl⟩ ⟨_, _, _, rfl⟩ ⟨_, _, _, rfl⟩ ⟨_, _, _, rfl⟩ ⟨_, _, _, rfl⟩)
          rw [hXF] at L_F
          have GP_F := By.set (i := 4) (u := .slice qY nY cY) GP_E W_E (nb8 ⟨_, _, _, rfl⟩ ⟨_, _, _, rfl⟩ ⟨_, _, _, rfl⟩ ⟨_, _, _, rfl⟩ ⟨_, _, _, rfl⟩)
          rw [hXF] at GP_F
          have GQ_F := By.set (i := 4) (u := .slice qY nY cY) GQ_E W_E (nb8 ⟨_, _, _, rfl⟩ ⟨_, _, _, rfl⟩ ⟨_, _, _, rfl⟩ ⟨_, _, _, rfl⟩ ⟨_, _, _, rfl⟩)
          rw [hXF] at GQ_F
          have W_F : UB b18 #[.slice qL k cL, .slice qH nH cH, .int .i64 pv, .slice qW nW cW, .slice qY nY cY, .slice none 0 0, .bool true, .bool true] XF := by rw [← hXF]; exact (W_E.set8 (.slice qY nY cY)).2.2.1
          clear GQ_E GP_E W_E L_E H_E F_E U_E B_E
          clear hXF
          have con := Pct.Canon_any qF nF cF (atSnd 35 r) 2 XF F_F.at.1 (by omega) F_F.at.2.2.2.2
          refine con.mono ?_
          rintro e XG ⟨vZ, ef, rfl, hef, hr, hb⟩
          have HEF : Hid (ef = if (formL 2 (atSnd 35 r)).isSome then 0 else 2) := hef
          replace hr : XG.ownsRow XF.heap.size 5 1 vZ ((formL 2 (atSnd 35 r)).getD []).length (byV ((formL 2 (atSnd 35 r)).getD [])) := hr
          obtain ⟨nZ, hnZ⟩ : ∃ n, ((formL 2 (atSnd 35 r)).getD []).length = n := ⟨_, rfl⟩
          rw [hnZ] at hr
          obtain ⟨qZ, cZ, rfl, _, _, _, _, _⟩ := row_open hr
          have GF_G := By.row hr
          clear con hr hnZ hef
          have B_G := B_F.trans (hb.mono B_F.size)
          have U_G := U_F.on hb
          have F_G := F_F.on hb
          have H_G := H_F.on hb
          have L_G := L_F.on hb
          have W_G := W_F.on hb
          have GP_G := GP_F.on hb
          have GQ_G := GQ_F.on hb
          clear GQ_F GP_F W_F L_F H_F F_F U_F B_F hb
          clear F_G
          have yb := W_G.box
          have yc0 := yb 0 _ rfl
          have yf0 := W_G.frozen 0
          have yc1 := yb 1 _ rfl
          have yf1 := W_G.frozen 1
          have yc2 := yb 2 _ rfl
          have yf2 := W_G.frozen 2
          have yc3 := yb 3 _ rfl
          have yf3 := W_G.frozen 3
          have yc4 := yb 4 _ rfl
          have yf4 := W_G.frozen 4
          have yc5 := yb 5 _ rfl
          have yf5 := W_G.frozen 5
          have yc6 := yb 6 _ rfl
          have yf6 := W_G.frozen 6
          have yc7 := yb 7 _ rfl
          have yf7 := W_G.frozen 7
          clear yb
          have zb := U_G.box
          have zc0 := zb 0 _ rfl
          have zf0 := U_G.frozen 0
          have zc1 := zb 1 _ rfl
          have zf1 := U_G.frozen 1
          have zc2 := zb 2 _ rfl
          have zf2 := U_G.frozen 2
          have zc3 := zb 3 _ rfl
          have zf3 := U_G.frozen 3
          have zc4 := zb 4 _ rfl
          have zf4 := U_G.frozen 4
          have zc5 := zb 5 _ rfl
          have zf5 := U_G.frozen 5
          have zc6 := zb 6 _ rfl
          have zf6 := U_G.frozen 6
          have zc7 := zb 7 _ rfl
          have zf7 := U_G.frozen 7
          clear zb
          obtain ⟨XZ, hXZ⟩ : ∃ Z, XG.setCell ⟨b18, 5, none⟩ (.slice qZ nZ cZ) = Z := ⟨_, rfl⟩
          have B_Z : Below w.heap.size w XZ := by rw [← hXZ]; exact B_G.setCell (p := ⟨b18, 5, none⟩) hle _
          have U_Z : UB w.heap.size zeroU XZ := by rw [← hXZ]; exact U_G.other hne _
          have H_Z := By.set (i := 5) (u := .slice qZ nZ cZ) H_G W_G (nb8 ⟨_, _, _, rfl⟩ ⟨_, _, _, rfl⟩ ⟨_, _, _, rfl⟩ ⟨_, _, _, rfl⟩ ⟨_, _, _, rfl⟩)
          rw [hXZ] at H_Z
          have L_Z := By.set (i := 5) (u := .slice qZ nZ cZ) L_G W_G (nb8 ⟨_, _, _, rfl⟩ ⟨_, _, _, rfl⟩ ⟨_, _, _, rfl⟩ ⟨_, _, _, rfl⟩ ⟨_, _, _, rfl⟩)
          rw [hXZ] at L_Z
          have GP_Z := By.set (i := 5) (u := .slice qZ nZ cZ) GP_G W_G (nb8 ⟨_, _, _, rfl⟩ ⟨_, _, _, rfl⟩ ⟨_, _, _, rfl⟩ ⟨_, _, _, rfl⟩ ⟨_, _, _, rfl⟩)
          rw [hXZ] at GP_Z
          have GQ_Z := By.set (i := 5) (u := .slice qZ nZ cZ) GQ_G W_G (nb8 ⟨_, _, _, rfl⟩ ⟨_, _, _, rfl⟩ ⟨_, _, _, rfl⟩ ⟨_, _, _, rfl⟩ ⟨_, _, _, rfl⟩)
          rw [hXZ] at GQ_Z
          have GF_Z := By.set (i := 5) (u := .slice qZ nZ cZ) GF_G W_G (nb8 ⟨_, _, _, rfl⟩ ⟨_, _, _, rfl⟩ ⟨_, _, _, rfl⟩ ⟨_, _, _, rfl⟩ ⟨_, _, _, rfl⟩)
          rw [hXZ] at GF_Z
          have W_Z : UB b18 #[.slice qL k cL, .slice qH nH cH, .int .i64 pv, .slice qW nW cW, .slice qY nY cY, .slice qZ nZ cZ, .bool true, .bool true] XZ := by rw [← hXZ]; exact (W_G.set8 (.slice qZ nZ cZ)).2.2.2
          clear GF_G GQ_G GP_G W_G L_G H_G U_G B_G
          have HXZ := Lib.hid hXZ
          clear hXZ
          by_cases hp0 : (pv : Int) = 0
          case pos =>
            have e0 : (((pv : Int)) == 0) = true := by rw [beq_iff_eq]; exact hp0
            have hpo := HPO.out
            rw [hp0] at hpo
            clear hp0
            have HE := Lib.hid (show canonU t = .inl 2 by rw [HC.out]; exact rest_port _ r HS.out HPE.out hpo)
            go_wp2
            rw [HXZ.out]
            obtain ⟨Y, hY, hU, hkY, hbY⟩ := UB.put (show UB w.heap.size #[.slice none 0 0, .slice none 0 0, .int .i64 0, .slice none 0 0, .slice none 0 0, .slice none 0 0, .bool false, .bool false] _ from U_Z) (.slice none 0 0) (.slice none 0 0) (.int .i64 0) (.slice none 0 0) (.slice none 0 0) (.slice none 0 0) (.bool false) (.bool false)
            rw [hY]
            (try simp only [Exit.inBlock, Exit.then])
            refine bodyPost_ret (ret_url2 rfl _ _ w.heap.size _ rfl hU rfl) rfl ?_
            rw [HE.out]
            exact ⟨by decide, rfl, B_Z.trans (hbY _ (Nat.le_refl _))⟩
          have e0 : (((pv : Int)) == 0) = false := by rw [beq_eq_false_iff_ne]; exact hp0
          have hpo : portC (Ref.lowL s) (atSnd 58 (srvL r)) (atOk 58 (srvL r)) ≠ 0 := by rw [HPO.out]; exact hp0
          cases hpp : pathL (pthL r) with
          | none =>
            obtain rfl : ep = 2 := by have := HEP.out; rw [hpp] at this; exact this
            have hpp2 := Lib.hid hpp
            clear hpp
            have HE := Lib.hid (show canonU t = .inl 2 by rw [HC.out]; exact rest_path _ r HS.out HPE.out hpp2.out)
            go_wp2
            rw [HXZ.out]
            obtain ⟨Y, hY, hU, hkY, hbY⟩ := UB.put (show UB w.heap.size #[.slice none 0 0, .slice none 0 0, .int .i64 0, .slice none 0 0, .slice none 0 0, .slice none 0 0, .bool false, .bool false] _ from U_Z) (.slice none 0 0) (.slice none 0 0) (.int .i64 0) (.slice none 0 0) (.slice none 0 0) (.slice none 0 0) (.bool false) (.bool false)
            rw [hY]
            (try simp only [Exit.inBlock, Exit.then])
            refine bodyPost_ret (ret_url2 rfl _ _ w.heap.size _ rfl hU rfl) rfl ?_
            rw [HE.out]
            exact ⟨by decide, rfl, B_Z.trans (hbY _ (Nat.le_refl _))⟩
          | some pp =>
            obtain rfl : ep = 0 := by have := HEP.out; rw [hpp] at this; exact this
            cases hqq : formL 2 (atSnd 63 (atFst 35 r)) with
            | none =>
              obtain rfl : eq = 2 := by have := HEQ.out; rw [hqq] at this; exact this
              have h3 := Lib.hid (show optC (atOk 63 (atFst 35 r)) (atSnd 63 (atFst 35 r)) = none by rw [Hbq.out]; exact hqq)
              clear hqq hpp
              have HE := Lib.hid (show canonU t = .inl 2 by rw [HC.out]; exact rest_query _ r HS.out HPE.out h3.out)
              go_wp2
              rw [HXZ.out]
              obtain ⟨Y, hY, hU, hkY, hbY⟩ := UB.put (show UB w.heap.size #[.slice none 0 0, .slice none 0 0, .int .i64 0, .slice none 0 0, .slice none 0 0, .slice none 0 0, .bool false, .bool false] _ from U_Z) (.slice none 0 0) (.slice none 0 0) (.int .i64 0) (.slice none 0 0) (.slice none 0 0) (.slice none 0 0) (.bool false) (.bool false)
              rw [hY]
              (try simp only [Exit.inBlock, Exit.then])
              refine bodyPost_ret (ret_url2 rfl _ _ w.heap.size _ rfl hU rfl) rfl ?_
              rw [HE.out]
              exact ⟨by decide, rfl, B_Z.trans (hbY _ (Nat.le_refl _))⟩
            | some qq =>
              obtain rfl : eq = 0 := by have := HEQ.out; rw [hqq] at this; exact this
              cases hff : formL 2 (atSnd 35 r) with
              | none =>
                obtain rfl : ef = 2 := by have := HEF.out; rw [hff] at this; exact this
                have h4 := Lib.hid (show optC (atOk 35 r) (atSnd 35 r) = none by rw [Hbf.out]; exact hff)
                clear hff hpp
                have HE := Lib.hid (show canonU t = .inl 2 by rw [HC.out]; exact rest_frag _ r HS.out HPE.out h4.out)
                go_wp2
                rw [HXZ.out]
                obtain ⟨Y, hY, hU, hkY, hbY⟩ := UB.put (show UB w.heap.size #[.slice none 0 0, .slice none 0 0, .int .i64 0, .slice none 0 0, .slice none 0 0, .slice none 0 0, .bool false, .bool false] _ from U_Z) (.slice none 0 0) (.slice none 0 0) (.int .i64 0) (.slice none 0 0) (.slice none 0 0) (.slice none 0 0) (.bool false) (.bool false)
                rw [hY]
                (try simp only [Exit.inBlock, Exit.then])
                refine bodyPost_ret (ret_url2 rfl _ _ w.heap.size _ rfl hU rfl) rfl ?_
                rw [HE.out]
                exact ⟨by decide, rfl, B_Z.trans (hbY _ (Nat.le_refl _))⟩
              | some ff =>
                obtain rfl : ef = 0 := by have := HEF.out; rw [hff] at this; exact this
                have h3 : optC (atOk 63 (atFst 35 r)) (atSnd 63 (atFst 35 r)) = some qq := by rw [Hbq.out]; exact hqq
                have h4 : optC (atOk 35 r) (atSnd 35 r) = some ff := by rw [Hbf.out]; exact hff
                obtain ⟨pn, hpn, hrg⟩ := rest_good _ r HS.out HPE.out pp qq ff hpo hpp h3 h4
                rw [Hbq.out, Hbf.out] at hrg
                have hpn2 : (pv : Int) = (pn : Int) := by rw [← HPO.out]; exact hpn
                have HE := Lib.hid (HC.out.trans hrg)
                have HPN := Lib.hid hpn2
                rw [hpp] at GP_Z
                rw [hqq] at GQ_Z
                rw [hff] at GF_Z
                clear hpo hrg hpn hpn2 h3 h4 hpp hqq hff hp0
                go_wp2
                rw [HXZ.out]
                obtain ⟨Y, hY, hU, hkY, hbY⟩ := UB.put (show UB w.heap.size #[.slice none 0 0, .slice none 0 0, .int .i64 0, .slice none 0 0, .slice none 0 0, .slice none 0 0, .bool false, .bool false] _ from U_Z) (.slice qL k cL) (.slice qH nH cH) (.int .i64 pv) (.slice qW nW cW) (.slice qY nY cY) (.slice qZ nZ cZ) (.bool true) (.bool true)
                rw [hY]
                (try simp only [Exit.inBlock, Exit.then])
                refine bodyPost_ret (ret_url2 rfl _ _ w.heap.size _ rfl hU rfl) rfl ?_
                rw [HE.out]
                refine ⟨_, rfl, ⟨qL, k, cL, qH, nH, cH, qW, nW, cW, qY, nY, cY, qZ, nZ, cZ, by rw [HPN.out], L_Z.away U_Z nbz hkY, H_Z.away U_Z nbz hkY, GP_Z.away U_Z nbz hkY, GQ_Z.away U_Z nbz hkY, GF_Z.away U_Z nbz hkY⟩, B_Z.trans (hbY _ (Nat.le_refl _))⟩

end Go.Proofs.YtpabhppghljipaaGreatDoor.Url

namespace Go.Proofs.YtpabhppghljipaaGreatDoor.Url
open Go.RowKit Go.Shelf
attribute [local go_sem] Oper.semAt_some

theorem nbzL : ∀ (j : Nat) (x : Value), zeroU[j]? = some x → ∀ z : Int, x ≠ .int .u8 z := nb8 ⟨_, _, _, rfl⟩ ⟨_, _, _, rfl⟩ ⟨_, _, _, rfl⟩ ⟨_, _, _, rfl⟩ ⟨_, _, _, rfl⟩
/-- A slice of bytes outlives what is written where a URL's cells are. -/
theorem By.awayL {B : Nat} {cs : Array Value} {X Y : World} {v : Value} {l : List UInt8} (h : By X v l) (hU : UB B cs X) (hcs : ∀ (j : Nat) (x : Value), cs[j]? = some x → ∀ z : Int, x ≠ .int .u8 z) (hk : ∀ S : Nat → Prop, ¬ S B → Keep S X Y) : By Y v l := by
  obtain ⟨q, c, rfl, h2, h3, h4, h5⟩ := h
  refine ⟨q, c, rfl, h2, h3, h4, fun h0 => ?_⟩
  obtain ⟨b, o, he, hc⟩ := h5 h0
  refine ⟨b, o, he, fun j hj => ?_⟩
  have hne : b ≠ B := fun e => by
    subst e
    have h1 := hc j hj
    simp only [World.cell?, show X.heap[b]? = _ from hU] at h1
    exact hcs _ _ h1 _ rfl
  exact (World.cell?_of_block ((hk (fun k => k ≠ B) (fun h => h rfl)).block b (World.block_lt_of_cell? X _ (hc j hj)) hne)).trans (hc j hj)
/-- canonOf's contract. -/
def CanonOk : Prop := ∀ (q : Option Addr) (n c : Nat) (t : List UInt8) (w : World), By w (.slice q n c) t → n ≤ 4096 → Gl w → Calls Tryz.prog 138 #[.slice q n c] w fun e w' => CanonOut (canonU t) w e w'

set_option maxRecDepth 100000 in
set_option maxHeartbeats 8000000 in
theorem Parse_of (hcan : CanonOk) (q : Option Addr) (n c : Nat) (t : List UInt8) (w : World) (hby : By w (.slice q n c) t) (hn : n ≤ 4096) (hG : Gl w) (hT : ∀ u, canonU t = .inr u → (textU u).length ≤ 4096) :
    Calls Tryz.prog 119 #[.slice q n c] w fun e w' => CanonOut (canonU t) w e w' := by
  have d0 : decide ((4096 : Int) < (n : Int)) = false := by simp; omega
  obtain ⟨X0, hX0⟩ : ∃ X0, w.alloc (.cells #[.slice none 0 0, .slice none 0 0, .int .i64 0, .slice none 0 0, .slice none 0 0, .slice none 0 0, .bool false, .bool false] 163) = X0 := ⟨_, rfl⟩
  have B_0 : Below w.heap.size w X0 := by rw [← hX0]; exact (Below.refl _ w).alloc (Nat.le_refl _) _
  have U_0 : UB w.heap.size zeroU X0 := by rw [← hX0]; exact UB.new w zeroU
  have con := hcan q n c t X0 (hby.on B_0) hn (hG.on B_0)
  have hok : ∀ u, canonU t = .inr u → Ok u := fun u h => parse_ok t u (by rw [parse_canon t (by rw [hby.at.1]; exact hn)]; exact h)
  have HX0 := Lib.hid hX0
  have HG := Lib.hid hG
  clear hX0 hby hG
  cases hc : canonU t with
  | inl m =>
    rw [hc] at con
    clear hc hok hT
    go_enter Tryz.func119, Tryz.ntmps119
    go_wp2_with fail
    rw [HX0.out]
    refine con.mono ?_
    rintro e X1 ⟨hm, rfl, hb⟩
    have U_1 := U_0.on hb
    have B_1 := B_0.trans (hb.mono B_0.size)
    clear con hb U_0 B_0 HX0
    have e1 : ((m : Int) != 0) = true := by rw [bne_iff_ne]; exact hm
    have HM := Lib.hid hm
    clear hm
    unfold zeroU
    have zc : ∀ o, UB w.heap.size zeroU (X1.alloc o) := fun o => U_1.on ((Below.refl _ _).alloc (Nat.le_refl _) _)
    have zc0 := fun o => (zc o).box 0 _ rfl
    have zc1 := fun o => (zc o).box 1 _ rfl
    have zc2 := fun o => (zc o).box 2 _ rfl
    have zc3 := fun o => (zc o).box 3 _ rfl
    have zc4 := fun o => (zc o).box 4 _ rfl
    have zc5 := fun o => (zc o).box 5 _ rfl
    have zc6 := fun o => (zc o).box 6 _ rfl
    have zc7 := fun o => (zc o).box 7 _ rfl
    have zf0 := fun o => (zc o).frozen 0
    have zf1 := fun o => (zc o).frozen 1
    have zf2 := fun o => (zc o).frozen 2
    have zf3 := fun o => (zc o).frozen 3
    have zf4 := fun o => (zc o).frozen 4
    have zf5 := fun o => (zc o).frozen 5
    have zf6 := fun o => (zc o).frozen 6
    have zf7 := fun o => (zc o).frozen 7
    clear zc
    go_wp2
    have U_2 := U_1.on ((Below.refl X1.heap.size X1).alloc (Nat.le_refl _) (.cells #[.slice none 0 0, .slice none 0 0, .int .i64 0, .slice none 0 0, .slice none 0 0, .slice none 0 0, .bool false, .bool false] 163))
    have B_2 := B_1.alloc B_1.size (.cells #[.slice none 0 0, .slice none 0 0, .int .i64 0, .slice none 0 0, .slice none 0 0, .slice none 0 0, .bool false, .bool false] 163)
    obtain ⟨Y, hY, hU, hkY, hbY⟩ := UB.put (show UB w.heap.size #[.slice none 0 0, .slice none 0 0, .int .i64 0, .slice none 0 0, .slice none 0 0, .slice none 0 0, .bool false, .bool false] _ from U_2) (.slice none 0 0) (.slice none 0 0) (.int .i64 0) (.slice none 0 0) (.slice none 0 0) (.slice none 0 0) (.bool false) (.bool false)
    rw [hY]
    (try simp only [Exit.inBlock, Exit.then])
    refine bodyPost_ret (ret_url2 rfl _ _ w.heap.size _ rfl hU rfl) rfl ?_
    exact ⟨HM.out, rfl, B_2.trans (hbY _ (Nat.le_refl _))⟩
  | inr u =>
    rw [hc] at con
    have HO := Lib.hid (hok u hc)
    have HT := Lib.hid (hT u hc)
    clear hc hok hT
    go_enter Tryz.func119, Tryz.ntmps119
    go_wp2_with fail
    rw [HX0.out]
    refine con.mono ?_
    rintro e X1 ⟨v, rfl, hin, hb⟩
    have U_1 := U_0.on hb
    have B_1 := B_0.trans (hb.mono B_0.size)
    clear con hb U_0 B_0 HX0
    obtain ⟨q0, n0, c0, q1, n1, c1, q3, n3, c3, q4, n4, c4, q5, n5, c5, rfl, i0, i1, i3, i4, i5⟩ := id hin
    obtain ⟨X2, hX2⟩ : ∃ X2, X1.alloc (.cells #[.slice q0 n0 c0, .slice q1 n1 c1, .int .i64 u.port, .slice q3 n3 c3, .slice q4 n4 c4, .slice q5 n5 c5, .bool u.hq, .bool u.hf] 163) = X2 := ⟨_, rfl⟩
    have hb : Below X1.heap.size X1 X2 := by rw [← hX2]; exact (Below.refl _ _).alloc (Nat.le_refl _) _
    obtain ⟨b4, hb4⟩ : ∃ b, X1.heap.size = b := ⟨_, rfl⟩
    have W_2 : UB b4 #[.slice q0 n0 c0, .slice q1 n1 c1, .int .i64 u.port, .slice q3 n3 c3, .slice q4 n4 c4, .slice q5 n5 c5, .bool u.hq, .bool u.hf] X2 := by rw [← hX2, ← hb4]; exact UB.new X1 _
    have hne : ¬ w.heap.size = b4 := by have := U_1.lt; omega
    have hne' : ¬ b4 = w.heap.size := fun h => hne h.symm
    have U_2 := U_1.on hb
    have B_2 := B_1.trans (hb.mono B_1.size)
    have HX2 := Lib.hid hX2
    have HB4 := Lib.hid hb4
    have con := Text_any u _ X2 (hin.on hb) HO.out (HG.out.on B_2) (by have := HT.out; omega)
    have j0 := i0.on hb
    have j1 := i1.on hb
    have j3 := i3.on hb
    have j4 := i4.on hb
    have j5 := i5.on hb
    obtain ⟨L, hL⟩ : ∃ L, (textU u).length = L := ⟨_, rfl⟩
    have d1 : decide ((4096 : Int) < (L : Int)) = false := by have := HT.out; simp; omega
    rw [hL] at con
    clear hX2 hb4 U_1 B_1 hin i0 i1 i3 i4 i5 hb hL
    go_wp2_with fail
    rw [HB4.out, HX2.out]
    refine con.mono ?_
    rintro e X3 ⟨v3, rfl, hr, hb⟩
    obtain ⟨qt, ct, rfl, _, _, _, _, _⟩ := row_open hr
    have U_3 := U_2.on hb
    have W_3 := W_2.on hb
    have B_3 := B_2.trans (hb.mono B_2.size)
    have k0 := j0.on hb
    have k1 := j1.on hb
    have k3 := j3.on hb
    have k4 := j4.on hb
    have k5 := j5.on hb
    clear con hr hb U_2 W_2 B_2 j0 j1 j3 j4 j5 HX2 HB4
    have yb := W_3.box
    have yc0 := yb 0 _ rfl
    have yf0 := W_3.frozen 0
    have yc1 := yb 1 _ rfl
    have yf1 := W_3.frozen 1
    have yc2 := yb 2 _ rfl
    have yf2 := W_3.frozen 2
    have yc3 := yb 3 _ rfl
    have yf3 := W_3.frozen 3
    have yc4 := yb 4 _ rfl
    have yf4 := W_3.frozen 4
    have yc5 := yb 5 _ rfl
    have yf5 := W_3.frozen 5
    have yc6 := yb 6 _ rfl
    have yf6 := W_3.frozen 6
    have yc7 := yb 7 _ rfl
    have yf7 := W_3.frozen 7
    clear yb
    have zb := U_3.box
    have zc0 := zb 0 _ rfl
    have zf0 := U_3.frozen 0
    have zc1 := zb 1 _ rfl
    have zf1 := U_3.frozen 1
    have zc2 := zb 2 _ rfl
    have zf2 := U_3.frozen 2
    have zc3 := zb 3 _ rfl
    have zf3 := U_3.frozen 3
    have zc4 := zb 4 _ rfl
    have zf4 := U_3.frozen 4
    have zc5 := zb 5 _ rfl
    have zf5 := U_3.frozen 5
    have zc6 := zb 6 _ rfl
    have zf6 := U_3.frozen 6
    have zc7 := zb 7 _ rfl
    have zf7 := U_3.frozen 7
    clear zb
    go_wp2
    obtain ⟨Y, hY, hU, hkY, hbY⟩ := UB.put (show UB w.heap.size #[.slice none 0 0, .slice none 0 0, .int .i64 0, .slice none 0 0, .slice none 0 0, .slice none 0 0, .bool false, .bool false] _ from U_3) (.slice q0 n0 c0) (.slice q1 n1 c1) (.int .i64 u.port) (.slice q3 n3 c3) (.slice q4 n4 c4) (.slice q5 n5 c5) (.bool u.hq) (.bool u.hf)
    rw [hY]
    (try simp only [Exit.inBlock, Exit.then])
    refine bodyPost_ret (ret_url2 rfl _ _ w.heap.size _ rfl hU rfl) rfl ?_
    exact ⟨_, rfl, ⟨q0, n0, c0, q1, n1, c1, q3, n3, c3, q4, n4, c4, q5, n5, c5, rfl, k0.awayL U_3 nbzL hkY, k1.awayL U_3 nbzL hkY, k3.awayL U_3 nbzL hkY, k4.awayL U_3 nbzL hkY, k5.awayL U_3 nbzL hkY⟩, B_3.trans (hbY _ (Nat.le_refl _))⟩

end Go.Proofs.YtpabhppghljipaaGreatDoor.Url

namespace Go.Proofs.YtpabhppghljipaaGreatDoor.Org
open Go.RowKit Go.Shelf Url
attribute [local go_sem] Oper.semAt_some

theorem canonOk : CanonOk := fun q n c t w h1 h2 h3 => canonOf_any q n c t w h1 h2 h3
end Go.Proofs.YtpabhppghljipaaGreatDoor.Org

namespace Go.Proofs.YtpabhppghljipaaGreatDoor.Org
open Go.RowKit Go.Shelf Url
attribute [local go_sem] Oper.semAt_some

end Go.Proofs.YtpabhppghljipaaGreatDoor.Org

namespace Go.Proofs.YtpabhppghljipaaGreatDoor.Org
open Go.RowKit Go.Shelf Url
attribute [local go_sem] Oper.semAt_some
set_option linter.unusedVariables false

end Go.Proofs.YtpabhppghljipaaGreatDoor.Org
