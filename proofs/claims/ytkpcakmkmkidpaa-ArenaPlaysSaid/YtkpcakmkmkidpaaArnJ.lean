/- The document's arena: All. Conditions: as ArnH; a size of at most 1024. -/
import Derived.Test.YtkpcakmkmkidpaaArnI
namespace Go.Proofs.Ytkpcakmkmkidpaa.Arn
open Go.RowKit Go.Shelf
attribute [local go_sem] Oper.semAt_some wide_fn
set_option linter.unusedVariables false

/-- What a slot tells of things. -/
def tellR (k : Nat) (L : List (Th Int)) : List (Int × Int) := ((ofSlot k L).filter fun t => !t.gone).map fun t => (hOf t.n t.slot, t.x)
theorem tellR_snoc {L : List (Th Int)} {i k : Nat} {t : Th Int} (ht : L[i]? = some t) : tellR k (L.take (i + 1)) = tellR k (L.take i) ++ if t.slot = k ∧ t.gone = false then [(hOf t.n t.slot, t.x)] else [] := by
  unfold tellR
  rw [of_snoc ht]
  by_cases hk : t.slot = k
  · rw [if_pos hk, List.filter_append, List.map_append]
    congr 1
    cases hg : t.gone with
    | true => rw [if_neg (by simp)]; simp [hg]
    | false => rw [if_pos ⟨hk, rfl⟩]; simp [hg]
  · rw [if_neg hk, if_neg (fun h => hk h.1), List.append_nil]
def allK (k : Nat) (L : List (Th Int)) : List (Int × Int) := (List.range k).flatMap fun j => tellR j L
theorem allK_succ (k : Nat) (L : List (Th Int)) : allK (k + 1) L = allK k L ++ tellR k L := by
  unfold allK
  rw [List.range_succ, List.flatMap_append]
  simp
theorem allK_is (size : Nat) (L : List (Th Int)) : allK size L = allL size L := rfl
/-- Two rows of one's own. -/
structure Pair (N : Nat) (v1 v2 : Value) (l : List (Int × Int)) (W : World) : Prop where
  r1 : W.ownsRow N 3 1 v1 l.length ((l.map Prod.fst).map (Value.int .i64))
  r2 : W.ownsRow N 3 1 v2 l.length ((l.map Prod.snd).map (Value.int .i64))
  d : ∀ b, v1.ownBlock = some b → v2.ownBlock ≠ some b
theorem Pair.on {N : Nat} {v1 v2 : Value} {l : List (Int × Int)} {W W' : World} (h : Pair N v1 v2 l W) (hk : Below W.heap.size W W') : Pair N v1 v2 l W' :=
  ⟨(Keep.of_below hk).row h.r1 (fun b hb => (h.r1.lt b hb).2), (Keep.of_below hk).row h.r2 (fun b hb => (h.r2.lt b hb).2), h.d⟩
theorem Pair.grow1 {N : Nat} {v1 v2 : Value} {l : List (Int × Int)} {W A w1 : World} (h : Pair N v1 v2 l W) (hA : Below W.heap.size W A) (hg : A.grownBy w1 v1.ownBlock) :
    w1.ownsRow N 3 1 v2 l.length ((l.map Prod.snd).map (Value.int .i64)) :=
  (Keep.of_grownBy (S := fun k => v1.ownBlock ≠ some k) hg (fun r hr => fun h => h hr)).row (h.on hA).r2 fun b hb e => h.d b e hb
theorem Pair.grown {N : Nat} {v1 v2 v1' v2' : Value} {l : List (Int × Int)} {W A1 w1 A2 w2 : World} {x y : Int} (h : Pair N v1 v2 l W) (hN : N ≤ W.heap.size) (hA1 : Below W.heap.size W A1) (hg1 : A1.grownBy w1 v1.ownBlock)
    (o1 : w1.ownsRow N 3 1 v1' (l.length + 1) ((l.map Prod.fst).map (Value.int .i64) ++ [.int .i64 x])) (at1 : v1'.ownBlock = v1.ownBlock ∨ v1'.ownBlock = some A1.heap.size)
    (hA2 : Below w1.heap.size w1 A2) (hg2 : A2.grownBy w2 v2.ownBlock) (o2 : w2.ownsRow N 3 1 v2' (l.length + 1) ((l.map Prod.snd).map (Value.int .i64) ++ [.int .i64 y])) (at2 : v2'.ownBlock = v2.ownBlock ∨ v2'.ownBlock = some A2.heap.size) :
    Pair N v1' v2' (l ++ [(x, y)]) w2 ∧ Below N W w2 := by
  have e3 := h.grow1 hA1 hg1
  have hn1 := h.r1.lt
  have hn2 := h.r2.lt
  have hs1 := hA1.size
  have hs2 := hg1.size
  have hs3 := hA2.size
  have hs4 := hg2.size
  have kA := Keep.of_below hA2
  have p1 := kA.row o1 fun b hb => (o1.lt b hb).2
  have k2 := Keep.of_grownBy (S := fun k => v2.ownBlock ≠ some k) hg2 (fun r hr => fun h => h hr)
  have hd1 : ∀ b, v1'.ownBlock = some b → v2.ownBlock ≠ some b := fun b hb e => by
    rcases at1 with h1 | h1
    · exact h.d b (h1 ▸ hb) e
    · rw [h1] at hb; cases hb
      have := (hn2 _ e).2; omega
  have q1 := k2.row p1 hd1
  refine ⟨⟨?_, ?_, fun b hb e => ?_⟩, ?_⟩
  · rw [List.length_append, List.map_append, List.map_append]
    exact q1
  · rw [List.length_append, List.map_append, List.map_append]
    exact o2
  · rcases at2 with h2 | h2
    · exact hd1 b hb (h2 ▸ e)
    · rw [h2] at e; cases e
      have := (o1.lt _ hb).2; omega
  · have b1 : Below N W A1 := hA1.mono hN
    have b2 : Below N A1 w1 := ⟨hg1.os, hg1.tape, hg1.output, hg1.size, fun k hk => hg1.block k (by omega) (fun e => by have := (hn1 _ e.symm).1; omega)⟩
    have b3 : Below N w1 A2 := hA2.mono (by omega)
    have b4 : Below N A2 w2 := ⟨hg2.os, hg2.tape, hg2.output, hg2.size, fun k hk => hg2.block k (by omega) (fun e => by have := (hn2 _ e.symm).1; omega)⟩
    exact ((b1.trans b2).trans b3).trans b4

/-- What the document's All leaves. -/
def AllROut (l : List (Int × Int)) (w : World) (e : Ending) (w' : World) : Prop :=
  ∃ q1 c1 q2 c2, e = .returned (.tuple #[.slice q1 l.length c1, .slice q2 l.length c2]) ∧ w'.ownsRow w.heap.size 3 1 (.slice q1 l.length c1) l.length ((l.map Prod.fst).map (Value.int .i64)) ∧
    w'.ownsRow w.heap.size 3 1 (.slice q2 l.length c2) l.length ((l.map Prod.snd).map (Value.int .i64)) ∧ Below w.heap.size w w'

set_option maxRecDepth 100000 in
set_option maxHeartbeats 8000000 in
theorem AllR_any (base b size : Nat) (v : Value) (L : List (Th Int)) (w : World) (ha : RAt base b size v L w) (hs : Small L) (hsz : size ≤ 1024) :
    Calls Try.prog 18 #[.pointer (some ⟨b, 0, none⟩)] w (AllROut (allL size L) w) := by
  obtain ⟨i0, hi0, hz0, hz1, hz2⟩ := info_arn info_i64
  obtain ⟨q, cap, rfl, hq⟩ := ha.sl
  have HA := Lib.hid ha
  obtain ⟨n, hn⟩ : ∃ n, L.length = n := ⟨_, rfl⟩
  have hn20 : n ≤ 1048576 := by rw [← hn]; exact hs.1
  have HN := Lib.hid hn
  have HQ := Lib.hid hq
  have HS := Lib.hid hs.2
  rw [← allK_is]
  obtain ⟨W0, hW0⟩ : ∃ W0, (w.alloc (.cells #[] 3)).alloc (.cells #[] 3) = W0 := ⟨_, rfl⟩
  have hB0 : Below w.heap.size w W0 := by rw [← hW0]; exact ((Below.refl _ w).alloc (Nat.le_refl _) _).alloc (by simp) _
  have r1 : W0.ownsRow w.heap.size 3 1 (.slice (some ⟨w.heap.size, 0, none⟩) 0 0) 0 [] := by
    rw [← hW0]
    exact (World.ownsRow_made w #[] 0 (Nat.le_refl _) (Nat.zero_le _) rfl).alloc _
  have r2 : W0.ownsRow w.heap.size 3 1 (.slice (some ⟨w.heap.size + 1, 0, none⟩) 0 0) 0 [] := by
    have := World.ownsRow_made (base := w.heap.size) (size := 1) (e := 3) (w.alloc (.cells #[] 3)) #[] 0 (by simp) (Nat.zero_le _) rfl
    rw [World.size_alloc] at this
    rw [← hW0]
    exact this
  have hP0 : Pair w.heap.size (.slice (some ⟨w.heap.size, 0, none⟩) 0 0) (.slice (some ⟨w.heap.size + 1, 0, none⟩) 0 0) (allK 0 L) W0 := ⟨r1, r2, fun b hb e => by simp [Value.ownBlock] at hb e; omega⟩
  have HW0 := Lib.hid hW0
  clear ha hn hq hs hW0 r1 r2
  go_enter Try.func18, Try.ntmps18
  go_upto_region 2 with fail
  rw [HW0.out]
  go_wp2
  go_loopw [4, 5, 6] (fun v1 v2 i wr => ∃ (k : Nat) (l : List (Int × Int)), k ≤ size ∧ i = .int .i64 k ∧ Hid (l = allK k L) ∧ l.length ≤ k * 1048576 ∧ Pair w.heap.size v1 v2 l wr ∧ Below w.heap.size w wr) (fun _ _ i _ => size - (intOf i).toNat)
  case atStart => exact ⟨0, allK 0 L, by omega, rfl, Lib.hid rfl, by simp [allK], hP0, hB0⟩
  case round =>
    obtain ⟨k, l, hk, rfl, HL, hll, hP, hB⟩ := hrel
    clear hP0 hB0
    have haR := HA.out.on hB
    have c0 : wr.cell? ⟨b, 0, none⟩ = some (.int .i64 size) := haR.bl.cell 0 _ rfl
    have c1 : wr.cell? ⟨b, 1, none⟩ = some (.slice q L.length cap) := haR.bl.cell 1 _ rfl
    rw [HN.out] at c1
    clear haR
    by_cases hlt : k < size
    · obtain ⟨Wk, hWk⟩ : ∃ Wk, Wk = wr := ⟨_, rfl⟩
      subst hWk
      go_wp2
      go_loopw [4, 5, 24] (fun v1 v2 i wr => ∃ (j : Nat) (m : List (Int × Int)), j ≤ n ∧ i = .int .i64 j ∧ Hid (m = l ++ tellR k (L.take j)) ∧ m.length ≤ k * 1048576 + j ∧ Pair w.heap.size v1 v2 m wr ∧ Below w.heap.size w wr) (fun _ _ i _ => n - (intOf i).toNat)
      case atStart => exact ⟨0, l, by omega, rfl, Lib.hid (by rw [List.take_zero]; simp [tellR, ofSlot]), by simpa using hll, hP, hB⟩
      case round =>
        obtain ⟨j, m, hj, rfl, HM, hml, hP2, hB2⟩ := hrel
        clear hP hB c0 c1
        by_cases hjn : j < n
        · obtain ⟨t, htk⟩ : ∃ t, L[j]? = some t := ⟨_, List.getElem?_eq_getElem (by have := HN.out; omega)⟩
          obtain ⟨g, rfl, hg, d0, d1, d2, d3⟩ := HQ.out j t htk
          have hc : ∀ o, wr.cell? ⟨g, o, none⟩ = w.cell? ⟨g, o, none⟩ := fun o => World.cell?_of_block (a := ⟨g, o, none⟩) (hB2.block g hg)
          rw [← hc] at d0 d1 d2 d3
          obtain ⟨hs1, hs2⟩ := HS.out t (List.mem_of_getElem? htk)
          have hsn := tellR_snoc (k := k) htk
          obtain ⟨⟨s, y, x, gn⟩, rfl⟩ : ∃ t', t' = t := ⟨t, rfl⟩
          simp only at d0 d1 d2 d3 hs1 hs2 hsn
          have HSN := Lib.hid hsn
          have hB3 := hB2.trans ((blk_alloc (w := wr) (.cells #[.int .i64 s, .int .i64 y, .int .i64 x, .bool gn] 51)).mono hB2.size)
          have hP3 := hP2.on (blk_alloc (.cells #[.int .i64 s, .int .i64 y, .int .i64 x, .bool gn] 51))
          have HB3 := Lib.hid hB3
          have HP3 := Lib.hid hP3
          clear htk hc hsn hB2 hP2 hB3 hP3
          by_cases hcond : s = k ∧ gn = false
          · obtain ⟨rfl, rfl⟩ := hcond
            have HM2 := Lib.hid (show m ++ [((y : Int) * 1024 + (s : Int), x)] = l ++ tellR s (L.take (j + 1)) by rw [HSN.out, if_pos ⟨rfl, rfl⟩, HM.out, List.append_assoc]; rfl)
            have e1 : ((s : Int) == (s : Int)) = true := by simp
            have bx : BL 51 wr.heap.size #[.int .i64 s, .int .i64 y, .int .i64 x, .bool false] (wr.alloc (.cells #[.int .i64 s, .int .i64 y, .int .i64 x, .bool false] 51)) := BL.new _ wr _
            obtain ⟨A0, hA0⟩ : ∃ A0, wr.alloc (.cells #[.int .i64 s, .int .i64 y, .int .i64 x, .bool false] 51) = A0 := ⟨_, rfl⟩
            rw [hA0] at bx HB3 HP3
            obtain ⟨r, hr⟩ : ∃ r, m.length = r := ⟨_, rfl⟩
            have hP3 := HP3.out
            have hrow := hP3.r1.alloc (.cells #[.int .i64 ((y : Int) * 1024 + (s : Int))] 3)
            rw [hr] at hrow hml
            have hm2 : (r + 1) * 8 ≤ 140737488355328 := by omega
            have hm3 : r + 1 ≤ maxLen := by unfold maxLen; omega
            have HR := Lib.hid hr
            have HA0 := Lib.hid hA0
            have x0 : A0.cell? ⟨wr.heap.size, 0, none⟩ = some (.int .i64 s) := bx.cell 0 _ rfl
            have x1 : A0.cell? ⟨wr.heap.size, 1, none⟩ = some (.int .i64 y) := bx.cell 1 _ rfl
            have x3 : A0.cell? ⟨wr.heap.size, 3, none⟩ = some (.bool false) := bx.cell 3 _ rfl
            clear hr hA0 hP3
            go_upto_region 8 with fail
            rw [HA0.out]
            go_upto_region 10 with (
              at_builtin
              go_must (refine wpList_append_own_at _ rfl _ _ 32 rfl w.heap.size 3 i0 (.int .i64 0) 1 8 Try.underlying32 hi0 hz0 hz1 hz2 rfl (by decide) _ r _ rfl hrow ⟨A0.heap.size, 0, none⟩ 1 1 [.int .i64 ((y : Int) * 1024 + (s : Int))] rfl rfl (blk_cells _ _ _) (by simp [Value.oneCell']) hm3 hm2 (by have := HB3.out.size; simp; omega) ?_)
              intro v1' w1 o1 g1 _ at1
              have bA := bx.on (blk_alloc (.cells #[.int .i64 ((y : Int) * 1024 + (s : Int))] 3))
              have b1 : BL 51 wr.heap.size #[.int .i64 s, .int .i64 y, .int .i64 x, .bool false] w1 := (g1.block _ bA.lt (fun e => BL.ne_row bA (by decide) hrow e.symm)).trans bA
              have x2 : w1.cell? ⟨wr.heap.size, 2, none⟩ = some (.int .i64 x) := b1.cell 2 _ rfl
              have hrow2 := (HP3.out.grow1 (blk_alloc (.cells #[.int .i64 ((y : Int) * 1024 + (s : Int))] 3)) g1).alloc (.cells #[.int .i64 x] 3)
              rw [HR.out] at hrow2
              obtain ⟨p1, e1, rfl⟩ := row_slice o1
              have H1 := Lib.hid (And.intro o1 (And.intro g1 at1))
              clear o1 g1 at1 b1 bA hrow)
            clear x0 x1 x3
            go_upto_region 11 with (
              at_builtin
              go_must (refine wpList_append_own_at _ rfl _ _ 32 rfl w.heap.size 3 i0 (.int .i64 0) 1 8 Try.underlying32 hi0 hz0 hz1 hz2 rfl (by decide) _ r _ rfl hrow2 ⟨w1.heap.size, 0, none⟩ 1 1 [.int .i64 x] rfl rfl (blk_cells _ _ _) (by simp [Value.oneCell']) hm3 hm2 (by have := HB3.out.size; have := H1.out.2.1.size; simp at this ⊢; omega) ?_)
              intro v2' w2 o2 g2 _ at2
              have HG := Lib.hid (HP3.out.grown HB3.out.size (blk_alloc _) H1.out.2.1 (by rw [HR.out]; exact H1.out.1) H1.out.2.2 (blk_alloc _) g2 (by rw [HR.out]; exact o2) at2)
              obtain ⟨p2, e2, rfl⟩ := row_slice o2
              clear o2 g2 at2 hrow2 x2)
            go_wp2
            go_roundw
            case rel => exact ⟨j + 1, _, by omega, by go_num, HM2, by rw [List.length_append, HR.out]; simp; omega, HG.out.1, HB3.out.trans HG.out.2⟩
            case measure => simp [intOf]; omega
          · have HM2 := Lib.hid (show m = l ++ tellR k (L.take (j + 1)) by rw [HSN.out, if_neg hcond, List.append_nil]; exact HM.out)
            have hcd : s = k → gn = true := fun h => by cases gn with | true => rfl | false => exact absurd ⟨h, rfl⟩ hcond
            by_cases hsk : s = k
            · obtain rfl := hcd hsk
              subst hsk
              have e1 : ((s : Int) == (s : Int)) = true := by simp
              clear hcd hcond
              go_wp2
              go_roundw
              case rel => exact ⟨j + 1, m, by omega, by go_num, HM2, by omega, HP3.out, HB3.out⟩
              case measure => simp [intOf]; omega
            · have e1 : ((s : Int) == (k : Int)) = false := by rw [beq_eq_false_iff_ne]; omega
              clear hcd hcond hsk
              go_wp2
              go_roundw
              case rel => exact ⟨j + 1, m, by omega, by go_num, HM2, by omega, HP3.out, HB3.out⟩
              case measure => simp [intOf]; omega
        · have hkn : L.take j = L := List.take_of_length_le (by have := HN.out; omega)
          rw [hkn] at HM
          have HL2 := Lib.hid (show m = allK (k + 1) L by rw [HM.out, allK_succ, HL.out])
          clear hkn
          go_wp2
          go_roundw
          case rel => exact ⟨k + 1, m, by omega, by go_num, HL2, by omega, hP2, hB2⟩
          case measure => simp [intOf]; omega
    · obtain rfl : k = size := by omega
      obtain ⟨q1, d1, rfl⟩ := row_slice hP.r1
      obtain ⟨q2, d2, rfl⟩ := row_slice hP.r2
      have hl := HL.out
      subst hl
      have HP := Lib.hid hP
      have HB := Lib.hid hB
      clear hP hB
      go_wp2
      go_ret2
      exact ⟨q1, d1, q2, d2, rfl, HP.out.r1, HP.out.r2, HB.out⟩
end Go.Proofs.Ytkpcakmkmkidpaa.Arn
