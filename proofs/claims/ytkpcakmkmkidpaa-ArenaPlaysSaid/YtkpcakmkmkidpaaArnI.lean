/- The document's arena: Put, All. Conditions: as ArnH; a size of at most 1024. -/
import Derived.Test.YtkpcakmkmkidpaaArnH
namespace Go.Proofs.Ytkpcakmkmkidpaa.Arn
open Go.RowKit Go.Shelf
attribute [local go_sem] Oper.semAt_some wide_fn
set_option linter.unusedVariables false

theorem info_th : (Try.prog.info? 51).map (fun i => (i.zero, i.size, i.bytes)) = some (some (.agg #[.int .i64 0, .int .i64 0, .int .i64 0, .bool false]), 4, 32) := by kernel_rfl
/-- Does something lie in a slot? -/
def fullR (j : Nat) (L : List (Th Int)) : Bool := (ofSlot j L).any fun t => !t.gone
/-- The first slot where nothing lies, of so many. -/
def freeR : Nat → List (Th Int) → Option Nat
  | 0, _ => none
  | n + 1, L => match freeR n L with
    | some j => some j
    | none => if fullR n L = true then none else some n
theorem freeR_none : ∀ (n : Nat) (L : List (Th Int)), (∀ j, j < n → fullR j L = true) → freeR n L = none
  | 0, L, h => rfl
  | n + 1, L, h => by unfold freeR; rw [freeR_none n L fun j hj => h j (by omega), if_pos (h n (by omega))]
theorem freeR_mono : ∀ (m n : Nat) (L : List (Th Int)) (k : Nat), freeR n L = some k → n ≤ m → freeR m L = some k
  | 0, n, L, k, h, hm => by
    obtain rfl : n = 0 := by omega
    exact h
  | m + 1, n, L, k, h, hm => by
    by_cases e : n = m + 1
    · subst e; exact h
    · unfold freeR; rw [freeR_mono m n L k h (by omega)]
theorem freeR_at {n k : Nat} {L : List (Th Int)} (hk : k < n) (h : ∀ j, j < k → fullR j L = true) (hn : fullR k L = false) : freeR n L = some k := by
  refine freeR_mono n (k + 1) L k ?_ (by omega)
  unfold freeR
  rw [freeR_none k L h, if_neg (by rw [hn]; decide)]
theorem freeR_some : ∀ (n : Nat) (L : List (Th Int)) (k : Nat), freeR n L = some k → k < n ∧ fullR k L = false ∧ ∀ j, j < k → fullR j L = true
  | 0, L, k, h => by cases h
  | n + 1, L, k, h => by
    unfold freeR at h
    cases hf : freeR n L with
    | some j =>
      rw [hf] at h
      cases h
      obtain ⟨h1, h2, h3⟩ := freeR_some n L _ hf
      exact ⟨by omega, h2, h3⟩
    | none =>
      rw [hf] at h
      by_cases hfull : fullR n L = true
      · simp [hfull] at h
      · simp [hfull] at h
        subst h
        refine ⟨by omega, by simpa using hfull, fun j hj => ?_⟩
        cases hq : fullR j L with
        | true => rfl
        | false =>
          exfalso
          have key : ∀ m, m ≤ n → freeR m L = none → ∀ i, i < m → fullR i L = true := by
            intro m
            induction m with
            | zero => intro _ _ i hi; omega
            | succ m ih =>
              intro hm hn i hi
              unfold freeR at hn
              cases hz : freeR m L with
              | some j => rw [hz] at hn; cases hn
              | none =>
                rw [hz] at hn
                by_cases hf2 : fullR m L = true
                · by_cases e : i = m
                  · subst e; exact hf2
                  · exact ih (by omega) hz i (by omega)
                · simp [hf2] at hn
          have := key n (Nat.le_refl _) hf j hj
          rw [hq] at this
          cases this
def putRL (size : Nat) (L : List (Th Int)) (x : Int) : List (Th Int) := match freeR size L with
  | some j => L ++ [⟨j, (ofSlot j L).length + 1, x, false⟩]
  | none => L
def putRH (size : Nat) (L : List (Th Int)) : Int := match freeR size L with
  | some j => hOf ((ofSlot j L).length + 1) j
  | none => 0
theorem RAt.more {base b size : Nat} {v v' : Value} {L : List (Th Int)} {t : Th Int} {w w0 w1 w2 : World} (h : RAt base b size v L w) (hw0 : Below w.heap.size w w0) (hw : Below w0.heap.size w0 w1) (hb : base ≤ w.heap.size)
    (hown : w2.ownsRow base 51 4 v' (L.length + 1) (thsC L ++ thC t)) (hg : w1.grownBy w2 v.ownBlock) (hat : v'.ownBlock = v.ownBlock ∨ v'.ownBlock = some w1.heap.size) :
    BL 45 b #[.int .i64 size, v] w2 ∧ RAt base b size v' (L ++ [t]) (w2.setCell ⟨b, 1, none⟩ v') ∧ Wrote b v v' w (w2.setCell ⟨b, 1, none⟩ v') := by
  have hs0 := hw0.size
  have hs1 := hw.size
  have hww : Below w.heap.size w w1 := hw0.trans (hw.mono hs0)
  have hbl := h.bl.on hww
  have hne := BL.ne_row hbl (by decide) ((h.on hww).row)
  have hb2 : BL 45 b #[.int .i64 size, v] w2 := (hg.block b hbl.lt (fun e => hne e.symm)).trans hbl
  have hne2 := BL.ne_row hb2 (by decide) hown
  have hb3 := hb2.set 1 v'
  have k1 : Keep (fun k => k ≠ b ∧ v.ownBlock ≠ some k) w w2 := ((Keep.of_below hww).mono fun k hk _ => hk).trans (Keep.of_grownBy hg (fun r hr h => h.2 hr))
  have k2 : Keep (fun k => k ≠ b) w2 (w2.setCell ⟨b, 1, none⟩ v') := Keep.setCell w2 _ _ (by simp)
  refine ⟨hb2, ⟨hb3, h.lo, ?_⟩, k1.trans (k2.mono fun k _ hk => hk.1), fun k hk => ?_⟩
  · rw [thsC_app, List.length_append]
    show (w2.setCell ⟨b, 1, none⟩ v').ownsRow base _ 4 v' (L.length + 1) (thsC L ++ (thC t ++ []))
    rw [List.append_nil]
    exact k2.row hown fun k hk e => hne2 (e ▸ hk)
  · rcases hat with e | e
    · exact .inl (by rw [← e]; exact hk)
    · rw [e] at hk
      cases hk
      exact .inr (by omega)

/-- What the document's Put leaves. -/
def PutROut (base b size : Nat) (v : Value) (L : List (Th Int)) (x : Int) (w : World) (e : Ending) (w' : World) : Prop :=
  e = .returned (.tuple #[.int .i64 (putRH size L), .bool (freeR size L).isSome]) ∧ ∃ v', RAt base b size v' (putRL size L x) w' ∧ Wrote b v v' w w'

set_option maxRecDepth 100000 in
set_option maxHeartbeats 4000000 in
theorem PutR_any (base b size : Nat) (v : Value) (L : List (Th Int)) (x : Int) (w : World) (ha : RAt base b size v L w) (hs : Small L) (hsz : size ≤ 1024) (hb : base ≤ w.heap.size) :
    Calls Try.prog 17 #[.pointer (some ⟨b, 0, none⟩), .int .i64 x] w (PutROut base b size v L x w) := by
  have c0 : w.cell? ⟨b, 0, none⟩ = some (.int .i64 size) := ha.bl.cell 0 _ rfl
  have HA := Lib.hid ha
  have HS := Lib.hid hs
  obtain ⟨i0, hi0, hz0, hz1, hz2⟩ := info_arn info_th
  have hblt := ha.bl.lt
  clear ha hs
  go_enter Try.func17, Try.ntmps17
  go_wp2
  go_loopw [6] (fun i wr => ∃ k : Nat, k ≤ size ∧ i = .int .i64 k ∧ Hid (∀ j, j < k → fullR j L = true) ∧ Below w.heap.size w wr) (fun i _ => size - (intOf i).toNat)
  case atStart => exact ⟨0, by omega, rfl, Lib.hid fun j hj => by omega, Below.refl _ _⟩
  case round =>
    obtain ⟨k, hk, rfl, HR, hB⟩ := hrel
    clear c0
    have haR := HA.out.on hB
    have c0 : wr.cell? ⟨b, 0, none⟩ = some (.int .i64 size) := haR.bl.cell 0 _ rfl
    by_cases hlt : k < size
    · have con := in_any base b size v L k wr haR HS.out (by omega)
      obtain ⟨c, hc⟩ : ∃ c, (ofSlot k L).length = c := ⟨_, rfl⟩
      obtain ⟨z, hz⟩ : ∃ z, ((ofSlot k L).any fun t => !t.gone) = z := ⟨_, rfl⟩
      have hcl : c ≤ 1048576 := by have := of_len L k; have := HS.out.1; omega
      rw [hc, hz] at con
      have HZ := Lib.hid (show fullR k L = z from hz)
      have HC := Lib.hid hc
      have HB := Lib.hid hB
      clear hc hz hB haR
      cases z with
      | true =>
        have HR2 := Lib.hid (show ∀ j, j < k + 1 → fullR j L = true from fun j hj => by
          rcases Nat.lt_or_ge j k with h | h
          · exact HR.out j h
          · obtain rfl : j = k := by omega
            exact HZ.out)
        go_wp2_with fail
        refine con.mono ?_
        rintro e w1 ⟨rfl, hb1⟩
        have HB1 := Lib.hid (HB.out.trans (hb1.mono HB.out.size))
        clear con hb1
        go_wp2
        go_roundw
        case rel => exact ⟨k + 1, by omega, by go_num, HR2, HB1.out⟩
        case measure => simp [intOf]; omega
      | false =>
        have hfr := freeR_at hlt HR.out HZ.out
        have H1 := Lib.hid (show putRH size L = ((c : Int) + 1) * 1024 + (k : Int) by unfold putRH; simp only [hfr]; rw [HC.out]; unfold hOf; omega)
        have H2 := Lib.hid (show (freeR size L).isSome = true by rw [hfr]; rfl)
        have H3 := Lib.hid (show putRL size L x = L ++ [⟨k, c + 1, x, false⟩] by unfold putRL; simp only [hfr]; rw [HC.out])
        clear hfr
        go_wp2_with fail
        refine con.mono ?_
        rintro e w1 ⟨rfl, hb1⟩
        have hB1 := HB.out.trans (hb1.mono HB.out.size)
        have ha1 := HA.out.on hB1
        obtain ⟨q, cap, hv, -⟩ := ha1.sl
        have c1 : w1.cell? ⟨b, 1, none⟩ = some v := ha1.bl.cell 1 _ rfl
        have hrow := ha1.row.alloc (.cells #[.int .i64 k, .int .i64 ((c : Int) + 1), .int .i64 x, .bool false] 51)
        obtain ⟨n, hn⟩ : ∃ n, L.length = n := ⟨_, rfl⟩
        have hn20 : n ≤ 1048576 := by rw [← hn]; exact HS.out.1
        rw [hn] at hrow hv
        subst hv
        have hs1 := hB1.size
        have hm2 : (n + 1) * 32 ≤ 140737488355328 := by omega
        have hm3 : n + 1 ≤ maxLen := by unfold maxLen; omega
        have HN := Lib.hid hn
        have HB1 := Lib.hid hB1
        clear con hb1 hB1 ha1 hn
        go_upto_region 7 with (
          at_builtin
          go_must (refine wpList_append_own_at _ rfl _ _ 43 rfl base 51 i0 (.agg #[.int .i64 0, .int .i64 0, .int .i64 0, .bool false]) 4 32 Try.underlying43 hi0 hz0 hz1 hz2 rfl (by decide) (.slice q n cap) n (thsC L) rfl hrow ⟨w1.heap.size, 0, none⟩ 1 1 [.int .i64 k, .int .i64 ((c : Int) + 1), .int .i64 x, .bool false] rfl rfl (blk_cells _ _ _) (by simp [Value.oneCell']) hm3 hm2 (by simp; omega) ?_)
          intro v' w2 hown' hgrow _ hat
          obtain ⟨p2, d2, rfl⟩ := row_slice hown'
          obtain ⟨e1, e2, e3⟩ := HA.out.more (t := ⟨k, c + 1, x, false⟩) HB1.out (blk_alloc _) hb (by rw [HN.out]; exact hown') hgrow hat
          have f0 := e1.cell 1 _ rfl
          have f1 := e1.frozen 1
          replace f0 : w2.cell? ⟨b, 1, none⟩ = some (.slice q n cap) := f0
          have HE := Lib.hid (And.intro e2 e3)
          clear e1 e2 e3 hown' hgrow hat hrow)
        go_wp2
        go_ret2
        exact ⟨by rw [H1.out, H2.out]; rfl, _, by rw [H3.out]; exact HE.out.1, HE.out.2⟩
    · have hfr := freeR_none size L fun j hj => HR.out j (by omega)
      have H1 := Lib.hid (show putRH size L = 0 by unfold putRH; simp only [hfr])
      have H2 := Lib.hid (show (freeR size L).isSome = false by rw [hfr]; rfl)
      have H3 := Lib.hid (show putRL size L x = L by unfold putRL; simp only [hfr])
      have HB := Lib.hid hB
      have HAR := Lib.hid haR
      clear hfr hB haR
      go_wp2
      go_ret2
      exact ⟨by rw [H1.out, H2.out]; rfl, v, by rw [H3.out]; exact HAR.out, (Keep.of_below HB.out).mono fun j hj _ => hj, fun j hj => .inl hj⟩
end Go.Proofs.Ytkpcakmkmkidpaa.Arn
