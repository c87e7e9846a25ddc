/- The document's arena as it lies in memory; its in, Find, Put. Conditions: at most 2^20 things, numbers of at most 2^30. -/
import Derived.Test.YtkpcakmkmkidpaaArnF
namespace Go.Proofs.Ytkpcakmkmkidpaa.Arn
open Go.RowKit Go.Shelf
attribute [local go_sem] Oper.semAt_some wide_fn
set_option linter.unusedVariables false

def thC (t : Th Int) : List Value := [.int .i64 t.slot, .int .i64 t.n, .int .i64 t.x, .bool t.gone]
def thsC : List (Th Int) → List Value
  | [] => []
  | s :: r => thC s ++ thsC r
theorem thsC_len : ∀ l : List (Th Int), (thsC l).length = l.length * 4
  | [] => rfl
  | s :: r => by rw [thsC, List.length_append, thsC_len r, List.length_cons]; simp [thC]; omega
theorem thsC_app : ∀ l m : List (Th Int), thsC (l ++ m) = thsC l ++ thsC m
  | [], m => rfl
  | s :: r, m => by rw [List.cons_append, thsC, thsC, thsC_app r m, List.append_assoc]
theorem thsC_at : ∀ (l : List (Th Int)) (i : Nat) (t : Th Int), l[i]? = some t → ∀ j u, (thC t)[j]? = some u → (thsC l)[i * 4 + j]? = some u
  | [], i, s, h => by simp at h
  | t :: r, 0, s, h => by
    obtain rfl : t = s := by simpa using h
    intro j u hu
    rw [thsC, Nat.zero_mul, Nat.zero_add, List.getElem?_append_left (List.getElem?_eq_some_iff.1 hu).1]
    exact hu
  | t :: r, i + 1, s, h => by
    intro j u hu
    have ih := thsC_at r i s (by simpa using h) j u hu
    have e1 : (thC t).length = 4 := rfl
    rw [thsC, List.getElem?_append_right (by rw [e1]; omega), e1, show (i + 1) * 4 + j - 4 = i * 4 + j by omega]
    exact ih
theorem thsC_set : ∀ (l : List (Th Int)) (i : Nat) (s : Th Int), i < l.length → thsC (l.set i s) = ((((thsC l).set (i * 4) (.int .i64 s.slot)).set (i * 4 + 1) (.int .i64 s.n)).set (i * 4 + 2) (.int .i64 s.x)).set (i * 4 + 3) (.bool s.gone)
  | [], i, s, h => by simp at h
  | t :: r, 0, s, h => rfl
  | t :: r, i + 1, s, h => by
    rw [List.set_cons_succ, thsC, thsC_set r i s (by simpa using h), thsC]
    have e1 : (thC t).length = 4 := rfl
    rw [List.set_append_right _ _ (by rw [e1]; omega), List.set_append_right _ _ (by rw [e1]; omega), List.set_append_right _ _ (by rw [e1]; omega), List.set_append_right _ _ (by rw [e1]; omega)]
    rw [e1, show (i + 1) * 4 - 4 = i * 4 by omega, show (i + 1) * 4 + 1 - 4 = i * 4 + 1 by omega, show (i + 1) * 4 + 2 - 4 = i * 4 + 2 by omega, show (i + 1) * 4 + 3 - 4 = i * 4 + 3 by omega]

/-- The document's arena at block b, its list in the row v. -/
structure RAt (base b size : Nat) (v : Value) (L : List (Th Int)) (w : World) : Prop where
  bl : BL 45 b #[.int .i64 size, v] w
  lo : base ≤ b
  row : w.ownsRow base 51 4 v L.length (thsC L)
theorem RAt.keep {base b size : Nat} {v : Value} {L : List (Th Int)} {w w' : World} {S : Nat → Prop} (h : RAt base b size v L w) (hk : Keep S w w') (h1 : S b) (h2 : ∀ k, v.ownBlock = some k → S k) : RAt base b size v L w' :=
  ⟨h.bl.keep hk h1, h.lo, hk.row h.row h2⟩
theorem RAt.on {base b size : Nat} {v : Value} {L : List (Th Int)} {w w' : World} (h : RAt base b size v L w) (hk : Below w.heap.size w w') : RAt base b size v L w' :=
  h.keep (Keep.of_below hk) h.bl.lt fun k hk => (h.row.lt k hk).2
theorem RAt.sl {base b size : Nat} {v : Value} {L : List (Th Int)} {w : World} (h : RAt base b size v L w) : ∃ q cap, v = .slice q L.length cap ∧ ∀ i t, L[i]? = some t → ∃ g, q = some ⟨g, 0, none⟩ ∧ g < w.heap.size ∧ w.cell? ⟨g, i * 4, none⟩ = some (.int .i64 t.slot) ∧ w.cell? ⟨g, i * 4 + 1, none⟩ = some (.int .i64 t.n) ∧ w.cell? ⟨g, i * 4 + 2, none⟩ = some (.int .i64 t.x) ∧ w.cell? ⟨g, i * 4 + 3, none⟩ = some (.bool t.gone) := by
  rcases h.row.2 with ⟨rfl, h0⟩ | ⟨g, cap, cur, rfl, _⟩
  · exact ⟨none, 0, by rw [h0], fun i t ht => by rw [List.eq_nil_of_length_eq_zero h0] at ht; simp at ht⟩
  · refine ⟨some ⟨g, 0, none⟩, cap, rfl, fun i t ht => ?_⟩
    have hl := (List.getElem?_eq_some_iff.1 ht).1
    have key : ∀ j u, (thC t)[j]? = some u → w.cell? ⟨g, i * 4 + j, none⟩ = some u := fun j u hu => by
      have hj : j < 4 := (List.getElem?_eq_some_iff.1 hu).1
      rw [h.row.cellAt (i * 4 + j) (by omega)]
      exact thsC_at L i t ht j u hu
    exact ⟨g, rfl, (h.row.lt g rfl).2, key 0 _ rfl, key 1 _ rfl, key 2 _ rfl, key 3 _ rfl⟩
/-- All is small. -/
def Small (L : List (Th Int)) : Prop := L.length ≤ 1048576 ∧ ∀ t ∈ L, t.slot ≤ 1024 ∧ t.n ≤ 1000000
/-- Where the thing of a handle lies, from k on. -/
def findK (L : List (Th Int)) (h : Int) : Int := match findL L h with | some a => (a : Int) | none => -1
theorem find_at {L : List (Th Int)} {h : Int} {k : Nat} {t : Th Int} (hb : ∀ j u, j < k → L[j]? = some u → (decide (hOf u.n u.slot = h) && !u.gone) = false) (ht : L[k]? = some t) (hy : (decide (hOf t.n t.slot = h) && !t.gone) = true) : findK L h = k := by
  obtain ⟨hk, rfl⟩ := List.getElem?_eq_some_iff.1 ht
  have : findL L h = some k := by
    unfold findL
    refine List.findIdx?_eq_some_iff_getElem.2 ⟨hk, hy, fun j hj => ?_⟩
    rw [hb j _ hj (List.getElem?_eq_getElem (by omega))]
    simp
  unfold findK
  rw [this]
theorem find_no {L : List (Th Int)} {h : Int} (hb : ∀ j u, j < L.length → L[j]? = some u → (decide (hOf u.n u.slot = h) && !u.gone) = false) : findK L h = -1 := by
  have : findL L h = none := by
    unfold findL
    refine List.findIdx?_eq_none_iff.2 fun u hu => ?_
    obtain ⟨j, hj⟩ := List.getElem?_of_mem hu
    exact hb j u (List.getElem?_eq_some_iff.1 hj).1 hj
  unfold findK
  rw [this]

set_option maxRecDepth 100000 in
set_option maxHeartbeats 4000000 in
theorem Find_any (base b size : Nat) (v : Value) (L : List (Th Int)) (h : Int) (w : World) (ha : RAt base b size v L w) (hs : Small L) :
    Calls Try.prog 16 #[.pointer (some ⟨b, 0, none⟩), .int .i64 h] w fun e w' => e = .returned (.int .i64 (findK L h)) ∧ Below w.heap.size w w' := by
  obtain ⟨q, cap, rfl, hq⟩ := ha.sl
  have c1 : w.cell? ⟨b, 1, none⟩ = some (.slice q L.length cap) := ha.bl.cell 1 _ rfl
  obtain ⟨n, hn⟩ : ∃ n, L.length = n := ⟨_, rfl⟩
  obtain ⟨f, hf⟩ : ∃ f, findK L h = f := ⟨_, rfl⟩
  have hn20 : n ≤ 1048576 := by rw [← hn]; exact hs.1
  rw [hn] at c1
  rw [hf]
  have HN := Lib.hid hn
  have HQ := Lib.hid hq
  have HS := Lib.hid hs.2
  have HF := Lib.hid hf
  clear ha hn hq hs hf
  go_enter Try.func16, Try.ntmps16
  go_wp2
  go_loopw [12] (fun i wr => ∃ k : Nat, k ≤ n ∧ i = .int .i64 k ∧ Hid (∀ j u, j < k → L[j]? = some u → (decide (hOf u.n u.slot = h) && !u.gone) = false) ∧ Below w.heap.size w wr) (fun i _ => n - (intOf i).toNat)
  case atStart => exact ⟨0, by omega, rfl, Lib.hid fun j t hj => by omega, Below.refl _ _⟩
  case round =>
    obtain ⟨k, hk, rfl, HR, hB⟩ := hrel
    clear c1
    by_cases hlt : k < n
    · obtain ⟨t, htk⟩ : ∃ t, L[k]? = some t := ⟨_, List.getElem?_eq_getElem (by have := HN.out; omega)⟩
      obtain ⟨g, rfl, hg, d0, d1, d2, d3⟩ := HQ.out k t htk
      have hc : ∀ o, wr.cell? ⟨g, o, none⟩ = w.cell? ⟨g, o, none⟩ := fun o => World.cell?_of_block (a := ⟨g, o, none⟩) (hB.block g hg)
      rw [← hc] at d0 d1 d2 d3
      obtain ⟨hs1, hs2⟩ := HS.out t (List.mem_of_getElem? htk)
      obtain ⟨⟨s, m, x, gn⟩, rfl⟩ : ∃ t', t' = t := ⟨t, rfl⟩
      simp only at d0 d1 d2 d3 hs1 hs2
      obtain ⟨y, hy⟩ : ∃ y, decide (hOf m s = h) = y := ⟨_, rfl⟩
      have hy2 : ((m : Int) * 1024 + (s : Int) == h) = y := by rw [← hy]; unfold hOf; rfl
      have HT := Lib.hid htk
      have HY := Lib.hid hy
      clear htk hy hc
      have HB := Lib.hid hB
      have HK := Lib.hid (show ∀ z, (y && !gn) = z → (decide (hOf (⟨s, m, x, gn⟩ : Th Int).n (⟨s, m, x, gn⟩ : Th Int).slot = h) && !(⟨s, m, x, gn⟩ : Th Int).gone) = z from fun z hz => by rw [← hz, ← HY.out])
      cases y with
      | false =>
        have HR2 := Lib.hid (show ∀ j u, j < k + 1 → L[j]? = some u → (decide (hOf u.n u.slot = h) && !u.gone) = false from fun j u hj hu => by
          rcases Nat.lt_or_ge j k with h' | h'
          · exact HR.out j u h' hu
          · obtain rfl : j = k := by omega
            rw [HT.out] at hu
            cases hu
            exact HK.out false rfl)
        clear hB
        go_wp2
        go_roundw
        case rel => exact ⟨k + 1, by omega, by go_num, HR2, HB.out.trans ((blk_alloc _).mono HB.out.size)⟩
        case measure => simp [intOf]; omega
      | true =>
        cases gn with
        | true =>
          have HR2 := Lib.hid (show ∀ j u, j < k + 1 → L[j]? = some u → (decide (hOf u.n u.slot = h) && !u.gone) = false from fun j u hj hu => by
            rcases Nat.lt_or_ge j k with h' | h'
            · exact HR.out j u h' hu
            · obtain rfl : j = k := by omega
              rw [HT.out] at hu
              cases hu
              exact HK.out false rfl)
          clear hB
          go_wp2
          go_roundw
          case rel => exact ⟨k + 1, by omega, by go_num, HR2, HB.out.trans ((blk_alloc _).mono HB.out.size)⟩
          case measure => simp [intOf]; omega
        | false =>
          have HE := Lib.hid (find_at HR.out HT.out (HK.out true rfl))
          clear hB
          go_wp2
          go_ret
          exact ⟨by rw [← HF.out, HE.out]; rfl, HB.out.trans ((blk_alloc _).mono HB.out.size)⟩
    · have HE := Lib.hid (find_no (h := h) fun j t hj ht => HR.out j t (by have := HN.out; omega) ht)
      go_wp2
      go_ret
      exact ⟨by rw [← HF.out, HE.out]; rfl, hB⟩

/-- How many lay in a slot, and whether something lies there. -/
theorem of_snoc {L : List (Th Int)} {k j : Nat} {t : Th Int} (ht : L[k]? = some t) : ofSlot j (L.take (k + 1)) = if t.slot = j then ofSlot j (L.take k) ++ [t] else ofSlot j (L.take k) := by
  obtain ⟨hk, rfl⟩ := List.getElem?_eq_some_iff.1 ht
  rw [List.take_succ_eq_append_getElem hk, ofSlot_append]
theorem of_len (L : List (Th Int)) (j : Nat) : (ofSlot j L).length ≤ L.length := List.length_filter_le _ _

set_option maxRecDepth 100000 in
set_option maxHeartbeats 4000000 in
theorem in_any (base b size : Nat) (v : Value) (L : List (Th Int)) (j : Nat) (w : World) (ha : RAt base b size v L w) (hs : Small L) (hj : j ≤ 1024) :
    Calls Try.prog 30 #[.pointer (some ⟨b, 0, none⟩), .int .i64 j] w fun e w' => e = .returned (.tuple #[.bool ((ofSlot j L).any fun t => !t.gone), .int .i64 (ofSlot j L).length]) ∧ Below w.heap.size w w' := by
  obtain ⟨q, cap, rfl, hq⟩ := ha.sl
  have c1 : w.cell? ⟨b, 1, none⟩ = some (.slice q L.length cap) := ha.bl.cell 1 _ rfl
  obtain ⟨n, hn⟩ : ∃ n, L.length = n := ⟨_, rfl⟩
  have hn20 : n ≤ 1048576 := by rw [← hn]; exact hs.1
  rw [hn] at c1
  have HN := Lib.hid hn
  have HQ := Lib.hid hq
  have HS := Lib.hid hs.2
  clear ha hn hq hs
  go_enter Try.func30, Try.ntmps30
  go_wp2
  go_loopw [6, 7, 15] (fun f m i wr => ∃ (k c : Nat) (z : Bool), k ≤ n ∧ i = .int .i64 k ∧ f = .bool z ∧ m = .int .i64 c ∧ c ≤ k ∧ Hid ((ofSlot j (L.take k)).length = c) ∧ Hid (((ofSlot j (L.take k)).any fun t => !t.gone) = z) ∧ Below w.heap.size w wr) (fun _ _ i _ => n - (intOf i).toNat)
  case atStart => exact ⟨0, 0, false, by omega, rfl, rfl, rfl, by omega, Lib.hid rfl, Lib.hid rfl, Below.refl _ _⟩
  case round =>
    obtain ⟨k, c, z, hk, rfl, rfl, rfl, hck, HC, HZ, hB⟩ := hrel
    clear c1
    by_cases hlt : k < n
    · obtain ⟨t, htk⟩ : ∃ t, L[k]? = some t := ⟨_, List.getElem?_eq_getElem (by have := HN.out; omega)⟩
      obtain ⟨g, rfl, hg, d0, d1, d2, d3⟩ := HQ.out k t htk
      have hc : ∀ o, wr.cell? ⟨g, o, none⟩ = w.cell? ⟨g, o, none⟩ := fun o => World.cell?_of_block (a := ⟨g, o, none⟩) (hB.block g hg)
      rw [← hc] at d0 d1 d2 d3
      obtain ⟨hs1, hs2⟩ := HS.out t (List.mem_of_getElem? htk)
      have hsn := of_snoc (j := j) htk
      obtain ⟨⟨s, m, x, gn⟩, rfl⟩ : ∃ t', t' = t := ⟨t, rfl⟩
      simp only at d0 d1 d2 d3 hs1 hs2 hsn
      have HSN := Lib.hid hsn
      have HB := Lib.hid (hB.trans ((blk_alloc (w := wr) (.cells #[.int .i64 s, .int .i64 m, .int .i64 x, .bool gn] 51)).mono hB.size))
      clear htk hc hsn hB
      by_cases hsj : s = j
      · subst hsj
        have HC2 := Lib.hid (show (ofSlot s (L.take (k + 1))).length = c + 1 by rw [HSN.out, if_pos rfl, List.length_append, HC.out]; rfl)
        have HZ2 := Lib.hid (show ((ofSlot s (L.take (k + 1))).any fun t => !t.gone) = (z || !gn) by rw [HSN.out, if_pos rfl, List.any_append, HZ.out]; simp)
        have e1 : ((s : Int) == (s : Int)) = true := by simp
        cases z with
        | true =>
          go_wp2
          go_roundw
          case rel => exact ⟨k + 1, c + 1, true, by omega, by go_num, rfl, by go_num, by omega, HC2, HZ2, HB.out⟩
          case measure => simp [intOf]; omega
        | false =>
          go_wp2
          go_roundw
          case rel => exact ⟨k + 1, c + 1, !gn, by omega, by go_num, by simp, by go_num, by omega, HC2, Lib.hid (by rw [HZ2.out]; rfl), HB.out⟩
          case measure => simp [intOf]; omega
      · have HC2 := Lib.hid (show (ofSlot j (L.take (k + 1))).length = c by rw [HSN.out, if_neg hsj]; exact HC.out)
        have HZ2 := Lib.hid (show ((ofSlot j (L.take (k + 1))).any fun t => !t.gone) = z by rw [HSN.out, if_neg hsj]; exact HZ.out)
        have e1 : ((s : Int) == (j : Int)) = false := by rw [beq_eq_false_iff_ne]; omega
        clear hsj
        go_wp2
        go_roundw
        case rel => exact ⟨k + 1, c, z, by omega, by go_num, rfl, rfl, by omega, HC2, HZ2, HB.out⟩
        case measure => simp [intOf]; omega
    · have hkn : L.take k = L := List.take_of_length_le (by have := HN.out; omega)
      rw [hkn] at HC HZ
      clear hkn
      go_wp2
      go_ret2
      exact ⟨by rw [HC.out, HZ.out]; rfl, hB⟩
end Go.Proofs.Ytkpcakmkmkidpaa.Arn
