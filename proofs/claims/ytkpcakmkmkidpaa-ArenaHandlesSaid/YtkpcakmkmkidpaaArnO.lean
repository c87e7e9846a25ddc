/- What the law ArenaCopies does with acts, on one arena. Conditions: at most 2^20 acts. -/
import Derived.Test.YtkpcakmkmkidpaaArnK
import Derived.Test.YtkpcakmkmkidpaaArnN
import Derived.Test.YtkpcakmkmkidpaaOrdP
namespace Go.Proofs.Ytkpcakmkmkidpaa.Arn
open Go.RowKit Go.Shelf
attribute [local go_sem] Oper.semAt_some wide_fn
set_option linter.unusedVariables false

/-- One act. -/
def stepD (size : Nat) (sl : List (Sl Int)) (x : Ax) : List (Sl Int) :=
  if x.kind.tmod 3 = 0 then putL size sl x.x
  else if (someF ((allS 0 sl).map Prod.fst) x.old).2 = true then (if x.kind.tmod 3 = 1 then setS sl (someF ((allS 0 sl).map Prod.fst) x.old).1 x.x else dropS sl (someF ((allS 0 sl).map Prod.fst) x.old).1) else sl
def runD (size : Nat) (sl : List (Sl Int)) (l : List Ax) : List (Sl Int) := l.foldl (stepD size) sl
theorem runD_snoc {size : Nat} {sl : List (Sl Int)} {l : List Ax} {k : Nat} {x : Ax} (h : l[k]? = some x) : runD size sl (l.take (k + 1)) = stepD size (runD size sl (l.take k)) x := by
  obtain ⟨hk, rfl⟩ := List.getElem?_eq_some_iff.1 h
  unfold runD
  rw [List.take_succ_eq_append_getElem hk, List.foldl_append]
  rfl
theorem few_put {K size : Nat} {sl : List (Sl Int)} (h : Few K sl) (x : Int) : Few (K + 1) (putL size sl x) := by
  intro t ht
  unfold putL at ht
  cases hf : freeF sl with
  | none =>
    simp only [hf] at ht
    split at ht
    · rcases List.mem_append.1 ht with h' | h'
      · exact Nat.le_succ_of_le (h t h')
      · obtain rfl := List.mem_singleton.1 h'
        show 1 ≤ K + 1
        omega
    · exact Nat.le_succ_of_le (h t ht)
  | some i =>
    obtain ⟨s, hs, hx⟩ := free_lt sl i hf
    simp only [hf, hs] at ht
    rcases List.mem_or_eq_of_mem_set ht with h' | rfl
    · exact Nat.le_succ_of_le (h t h')
    · have := h s (List.mem_of_getElem? hs)
      show s.n + 1 ≤ K + 1
      omega
theorem few_set {K : Nat} {sl : List (Sl Int)} (h : Few K sl) (hd x : Int) : Few K (setS sl hd x) := by
  intro t ht
  unfold setS at ht
  cases hf : findS sl hd with
  | none => simp only [hf] at ht; exact h t ht
  | some i =>
    cases hs : sl[i]? with
    | none => simp only [hf, hs] at ht; exact h t ht
    | some s =>
      simp only [hf, hs] at ht
      rcases List.mem_or_eq_of_mem_set ht with h' | rfl
      · exact h t h'
      · exact h s (List.mem_of_getElem? hs)
theorem few_drop {K : Nat} {sl : List (Sl Int)} (h : Few K sl) (hd : Int) : Few K (dropS sl hd) := by
  intro t ht
  unfold dropS at ht
  cases hf : findS sl hd with
  | none => simp only [hf] at ht; exact h t ht
  | some i =>
    cases hs : sl[i]? with
    | none => simp only [hf, hs] at ht; exact h t ht
    | some s =>
      simp only [hf, hs] at ht
      rcases List.mem_or_eq_of_mem_set ht with h' | rfl
      · exact h t h'
      · exact h s (List.mem_of_getElem? hs)
theorem Few.mono {K K' : Nat} {sl : List (Sl Int)} (h : Few K sl) (hk : K ≤ K') : Few K' sl := fun s hs => Nat.le_trans (h s hs) hk
theorem Wrote.on {b : Nat} {v v' : Value} {w W W' : World} (h : Wrote b v v' w W) (hb : Below W.heap.size W W') : Wrote b v v' w W' :=
  ⟨h.1.trans ((Keep.of_below hb).mono fun k hk _ => hk), h.2⟩
theorem some_bound {sl : List (Sl Int)} {n : Int} {K : Nat} (h : Few K sl) (hK : K ≤ 1099511627776) (hl : sl.length ≤ 1024) : i64B (someF ((allS 0 sl).map Prod.fst) n).1 := by
  unfold someF
  split
  · exact ⟨by decide, by decide⟩
  · rename_i hne
    obtain ⟨y, hy⟩ : ∃ y, ((allS 0 sl).map Prod.fst)[(n % 18446744073709551616).toNat % ((allS 0 sl).map Prod.fst).length]? = some y := ⟨_, List.getElem?_eq_getElem (Nat.mod_lt _ (by omega))⟩
    show i64B (((allS 0 sl).map Prod.fst).getD _ 0)
    rw [List.getD, hy]
    show i64B y
    obtain ⟨⟨h', x'⟩, hm, rfl⟩ := List.mem_map.1 (List.mem_of_getElem? hy)
    obtain ⟨i, s, h1, h2, h3⟩ := (all_mem sl 0 h' x').1 hm
    have := h s (List.mem_of_getElem? h1)
    have hi := (List.getElem?_eq_some_iff.1 h1).1
    subst h3
    unfold i64B hOf
    simp only
    omega

set_option maxRecDepth 100000 in
set_option maxHeartbeats 8000000 in
theorem do_any (w0 : World) (b size : Nat) (v : Value) (sl : List (Sl Int)) (a : Option Addr) (n c : Nat) (z : List Ax) (K : Nat) (w : World) (ha : At w0.heap.size b size v sl w) (hz : ActsIn w0 a n z) (hf : Few K sl) (hK : K + n ≤ 1000000) (hb0 : Below w0.heap.size w0 w) :
    Calls Try.prog 21 #[.pointer (some ⟨b, 0, none⟩), .slice a n c] w fun e w' => e = .returned (.tuple #[]) ∧ Few (K + n) (runD size sl z) ∧ ∃ v', At w0.heap.size b size v' (runD size sl z) w' ∧ Wrote b v v' w w' := by
  have HA := Lib.hid ha
  have HZ0 := Lib.hid hz
  have HB0 := Lib.hid hb0
  have HF := Lib.hid hf
  have hsz := ha.size2
  have hlen := ha.len
  clear ha hz hb0 hf
  go_enter Try.func21, Try.ntmps21
  go_wp2
  go_loopw [10] (fun i wr => ∃ (k : Nat) (v' : Value), k ≤ n ∧ i = .int .i64 k ∧ Hid (Few (K + k) (runD size sl (z.take k))) ∧ Hid (At w0.heap.size b size v' (runD size sl (z.take k)) wr) ∧ Hid (Wrote b v v' w wr)) (fun i _ => n - (intOf i).toNat)
  case atStart => exact ⟨0, v, by omega, rfl, HF, HA, Lib.hid (Wrote.refl _ _ _)⟩
  case round =>
    obtain ⟨k, v', hk, rfl, HFK, HAK, HWK⟩ := hrel
    have hbw : Below w0.heap.size w0 wr := HB0.out.trans ((HWK.out.1.mono fun j _ hj => ⟨by have := HA.out.lo; omega, fun e => by have := (HA.out.row.lt _ e).1; omega⟩).below HB0.out.size)
    by_cases hlt : k < n
    · obtain ⟨x, hxk⟩ : ∃ x, z[k]? = some x := ⟨_, List.getElem?_eq_getElem (by have := HZ0.out.1; omega)⟩
      obtain ⟨ga, oa, hae, hga, x0, x1, x2, x3, hbx⟩ := HZ0.out.2 k x hxk
      subst hae
      have hc : ∀ o, wr.cell? ⟨ga, o, none⟩ = w0.cell? ⟨ga, o, none⟩ := fun o => World.cell?_of_block (a := ⟨ga, o, none⟩) (hbw.block ga hga)
      rw [← hc] at x0 x1 x2 x3
      have HSN := Lib.hid (runD_snoc (size := size) (sl := sl) hxk)
      obtain ⟨⟨kind, xv, xh, old⟩, rfl⟩ : ∃ x', x' = x := ⟨x, rfl⟩
      simp only at x0 x1 x2 x3 hbx
      obtain ⟨⟨hb0a, hb0b⟩, ⟨hb1a, hb1b⟩, -, hb3⟩ := hbx
      obtain ⟨S, hS⟩ : ∃ S, runD size sl (z.take k) = S := ⟨_, rfl⟩
      rw [hS] at HSN HAK HFK
      clear hS hxk hc
      have hb : Below wr.heap.size wr (wr.alloc (.cells #[.int .i64 kind, .int .i64 xv, .int .i64 xh, .int .i64 old] 47)) := blk_alloc _
      have bxl := BL.new 47 wr #[.int .i64 kind, .int .i64 xv, .int .i64 xh, .int .i64 old]
      have HAX := Lib.hid (HAK.out.on hb)
      have HWX := Lib.hid (HWK.out.on hb)
      obtain ⟨Wx, hWx⟩ : ∃ Wx, wr.alloc (.cells #[.int .i64 kind, .int .i64 xv, .int .i64 xh, .int .i64 old] 47) = Wx := ⟨_, rfl⟩
      rw [hWx] at HAX HWX bxl
      have hwx : wr.heap.size < Wx.heap.size := by rw [← hWx]; simp
      have HWX0 := Lib.hid hWx
      clear hWx hb HAK HWK hbw
      go_upto_region 3 with fail
      rw [HWX0.out]
      clear x0 x1 x2 x3
      obtain ⟨bx, hbx⟩ : ∃ bx, wr.heap.size = bx := ⟨_, rfl⟩
      rw [hbx] at bxl hwx ⊢
      obtain ⟨Z, hZ⟩ : ∃ Z, Wx.drew = Z := ⟨_, rfl⟩
      have hd : Below Wx.heap.size Wx Z := by rw [← hZ]; exact (Below.refl _ _).drew
      have hdz : Wx.heap.size ≤ Z.heap.size := hd.size
      have bz := bxl.on hd
      have HAZ := Lib.hid (HAX.out.on hd)
      have HWZ := Lib.hid (HWX.out.on hd)
      have HZ := Lib.hid hZ
      have z3 : Z.cell? ⟨bx, 3, none⟩ = some (.int .i64 old) := bz.cell 3 _ rfl
      have z4 : (Z.alloc (.cells #[.pointer (some ⟨b, 0, none⟩)] 24)).cell? ⟨bx, 3, none⟩ = some (.int .i64 old) := cell_later z3
      have hf40 : Few 1099511627776 S := HFK.out.mono (by omega)
      have conA := All_any (some ⟨b, 0, none⟩) Z b rfl
      have conS := some_arena _ _ _ _ _ old _ (lies_of HAZ.out hf40) (by have := HAZ.out.bl.lt; simp; omega) hb3
      have HBD := Lib.hid (some_bound (n := old) HFK.out (by omega) (by have := HAZ.out.len; omega))
      obtain ⟨H, hH⟩ : ∃ H, (someF ((allS 0 S).map Prod.fst) old).1 = H := ⟨_, rfl⟩
      obtain ⟨B, hB⟩ : ∃ B, (someF ((allS 0 S).map Prod.fst) old).2 = B := ⟨_, rfl⟩
      rw [hH, hB] at conS
      rw [hH] at HBD
      have HST := Lib.hid (show stepD size S ⟨kind, xv, xh, old⟩ = if kind.tmod 3 = 0 then putL size S xv else if B = true then (if kind.tmod 3 = 1 then setS S H xv else dropS S H) else S by unfold stepD; simp only; rw [hB, hH])
      have HBZ := Lib.hid bz
      clear bxl bz hd hdz hZ hf40 hH hB HAX HWX hbx
      refine pregion_any (fun X => X.cell? ⟨bx, 3, none⟩ = some (.int .i64 old)) (by kernel_rfl) ?_
      rw [HZ.out]
      refine wpAnyH_take (i := 0) (v := (.pointer (some ⟨b, 0, none⟩))) rfl (by kernel_rfl) (by kernel_rfl) (by kernel_rfl) (fun _ _ _ h => h) (.inl ⟨by kernel_rfl, ?_⟩) z3 ?_
      · rintro w h1; go_simp
      refine plist #[true, false, false, false, false, false, false, false, false, false] (by kernel_rfl) ?_
      refine wpAnyH_take (i := 2) (v := (.pointer (some ⟨bx, 3, none⟩))) rfl (by kernel_rfl) (by kernel_rfl) (by kernel_rfl) (fun _ _ _ h => h) (.inl ⟨by kernel_rfl, ?_⟩) z3 ?_
      · rintro w h1; go_simp
      refine plist #[true, false, true, false, false, false, false, false, false, false] (by kernel_rfl) ?_
      refine wpAnyH_take (i := 3) (v := (.int .i64 old)) rfl (by kernel_rfl) (by kernel_rfl) (by kernel_rfl) (fun _ _ _ h => h) (.inl ⟨by kernel_rfl, ?_⟩) z3 ?_
      · rintro w h1; go_simp
      refine plist #[true, false, true, true, false, false, false, false, false, false] (by kernel_rfl) ?_
      refine pone 1 (by kernel_rfl) rfl fun K hK => ?_
      go_simp
      refine conA.mono ?_
      rintro e w' ⟨rfl, rfl⟩
      refine hK _ _ z4 ?_
      clear hK K conA
      refine plist #[true, true, true, true, false, false, false, false, false, false] (by kernel_rfl) ?_
      refine pone 4 (by kernel_rfl) rfl fun K hK => ?_
      go_simp
      refine conS.mono ?_
      rintro e W5 ⟨rfl, hb5⟩
      have z5 : W5.cell? ⟨bx, 3, none⟩ = some (.int .i64 old) := (World.cell?_of_block (hb5.block bx (World.block_lt_of_cell? _ _ z4))).trans z4
      refine hK _ _ z5 ?_
      clear hK K conS
      refine plist #[true, true, true, true, true, false, false, false, false, false] (by kernel_rfl) ?_
      refine wpAnyH_take (i := 5) (v := (.tuple #[.int .i64 H, .bool B])) rfl (by kernel_rfl) (by kernel_rfl) (by kernel_rfl) (fun _ _ _ h => h) (.inl ⟨by kernel_rfl, ?_⟩) z5 ?_
      · rintro w h1; go_simp
      refine plist #[true, true, true, true, true, true, false, false, false, false] (by kernel_rfl) ?_
      refine wpAnyH_take (i := 6) (v := (.int .i64 H)) rfl (by kernel_rfl) (by kernel_rfl) (by kernel_rfl) (fun _ _ _ h => h) (.inl ⟨by kernel_rfl, ?_⟩) z5 ?_
      · rintro w h1; go_simp
      refine plist #[true, true, true, true, true, true, true, false, false, false] (by kernel_rfl) ?_
      refine wpAnyH_take (i := 7) (v := (.bool B)) rfl (by kernel_rfl) (by kernel_rfl) (by kernel_rfl) (fun _ _ _ h => h) (.inl ⟨by kernel_rfl, ?_⟩) z5 ?_
      · rintro w h1; go_simp
      refine plist #[true, true, true, true, true, true, true, true, false, false] (by kernel_rfl) ?_
      refine pone 8 (by kernel_rfl) rfl fun K hK => ?_
      go_simp
      refine hK _ _ z5 ?_
      clear hK K
      refine plist #[true, true, true, true, true, true, true, true, true, false] (by kernel_rfl) ?_
      refine pone 9 (by kernel_rfl) rfl fun K hK => ?_
      go_simp
      refine hK _ _ z5 ?_
      clear hK K
      refine pdone (by kernel_rfl) ?_ _
      have hb45 : Below Z.heap.size Z W5 := (blk_alloc (w := Z) (.cells #[.pointer (some ⟨b, 0, none⟩)] 24)).trans (hb5.mono (by simp))
      have HA5 := Lib.hid (HAZ.out.on hb45)
      have HW5 := Lib.hid (HWZ.out.on hb45)
      have b5 := HBZ.out.on hb45
      have y0 : W5.cell? ⟨bx, 0, none⟩ = some (.int .i64 kind) := b5.cell 0 _ rfl
      have y1 : W5.cell? ⟨bx, 1, none⟩ = some (.int .i64 xv) := b5.cell 1 _ rfl
      obtain ⟨r, hr⟩ : ∃ r, kind.tmod 3 = r := ⟨_, rfl⟩
      rw [hr] at HST
      have hbase : w0.heap.size ≤ W5.heap.size := by have h1 := HA5.out.lo; have h2 := HA5.out.bl.lt; omega
      clear b5 z3 z4 z5 hb5 hb45 HAZ HWZ HBZ HZ
      by_cases hr0 : r = 0
      · have hstep := HST.out
        rw [if_pos hr0] at hstep
        have HSTEP := Lib.hid hstep
        have con := Put_any _ _ _ _ _ xv W5 HA5.out (HFK.out.mono (by omega)) hbase
        have k0 : (r == 0) = true := by rw [hr0]; rfl
        clear hstep hr0
        go_wp2_with fail
        refine con.mono ?_
        rintro e W6 ⟨rfl, v6, hA6, hW6⟩
        have HA6 := Lib.hid hA6
        have HW6 := Lib.hid (HW5.out.trans hW6)
        clear con hA6 hW6 y0 y1
        go_wp2
        go_roundw
        case rel => exact ⟨k + 1, v6, by omega, by go_num, Lib.hid (by rw [HSN.out, HSTEP.out]; exact few_put HFK.out xv), Lib.hid (by rw [HSN.out, HSTEP.out]; exact HA6.out), HW6⟩
        case measure => simp [intOf]; omega
      · have k0 : (r == 0) = false := by rw [beq_eq_false_iff_ne]; exact hr0
        cases B with
        | false =>
          have hstep := HST.out
          rw [if_neg hr0, if_neg (by decide)] at hstep
          have HSTEP := Lib.hid hstep
          clear hstep hr0
          go_wp2
          go_roundw
          case rel => exact ⟨k + 1, _, by omega, by go_num, Lib.hid (by rw [HSN.out, HSTEP.out]; exact HFK.out.mono (by omega)), Lib.hid (by rw [HSN.out, HSTEP.out]; exact HA5.out), HW5⟩
          case measure => simp [intOf]; omega
        | true =>
          by_cases hr1 : r = 1
          · have hstep := HST.out
            rw [if_neg hr0, if_pos rfl, if_pos hr1] at hstep
            have HSTEP := Lib.hid hstep
            have con := Set_any _ _ _ _ _ H xv W5 HA5.out (HFK.out.mono (by omega)) HBD.out
            have k1 : (r == 1) = true := by rw [hr1]; rfl
            clear hstep hr0 hr1
            go_wp2_with fail
            refine con.mono ?_
            rintro e W6 ⟨rfl, v6, hA6, hW6⟩
            have HA6 := Lib.hid hA6
            have HW6 := Lib.hid (HW5.out.trans hW6)
            clear con hA6 hW6 y0 y1
            go_wp2
            go_roundw
            case rel => exact ⟨k + 1, v6, by omega, by go_num, Lib.hid (by rw [HSN.out, HSTEP.out]; exact (few_set HFK.out _ _).mono (by omega)), Lib.hid (by rw [HSN.out, HSTEP.out]; exact HA6.out), HW6⟩
            case measure => simp [intOf]; omega
          · have hstep := HST.out
            rw [if_neg hr0, if_pos rfl, if_neg hr1] at hstep
            have HSTEP := Lib.hid hstep
            have con := Drop_any _ _ _ _ _ H W5 HA5.out (HFK.out.mono (by omega)) HBD.out
            have k1 : (r == 1) = false := by rw [beq_eq_false_iff_ne]; exact hr1
            clear hstep hr0 hr1
            go_wp2_with fail
            refine con.mono ?_
            rintro e W6 ⟨rfl, v6, hA6, hW6⟩
            have HA6 := Lib.hid hA6
            have HW6 := Lib.hid (HW5.out.trans hW6)
            clear con hA6 hW6 y0 y1
            go_wp2
            go_roundw
            case rel => exact ⟨k + 1, v6, by omega, by go_num, Lib.hid (by rw [HSN.out, HSTEP.out]; exact (few_drop HFK.out _).mono (by omega)), Lib.hid (by rw [HSN.out, HSTEP.out]; exact HA6.out), HW6⟩
            case measure => simp [intOf]; omega
    · have hkn : z.take k = z := List.take_of_length_le (by have := HZ0.out.1; omega)
      rw [hkn] at HFK HAK
      obtain rfl : k = n := by omega
      clear hkn hbw
      go_wp2
      refine bodyPost_end (results_none rfl _ _ _) rfl ?_
      exact ⟨rfl, HFK.out, v', HAK.out, HWK.out⟩
end Go.Proofs.Ytkpcakmkmkidpaa.Arn
