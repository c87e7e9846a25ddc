/- ArenaHandles: the law returns true at whatever input, and writes nothing that was there. Conditions: none. -/
import Derived.Test.YtkpcakmkmkidpaaRows
import Derived.Test.YtkpcakmkmkidpaaArnK
import Derived.Test.YtkpcakmkmkidpaaArnN
import Derived.Test.YtkpcakmkmkidpaaArnO
import Derived.Test.YtkpcakmkmkidpaaArnQ
import Derived.Test.YtkpcakmkmkidpaaMapI
import Derived.WalkKit
import Derived.ProofKit
import Derived.OpenShut
import Derived.ShutString
import Derived.ChangeOld
import Derived.Below
import Derived.IntWalk
import Derived.Deep.Cut
import Derived.Deep.CutRange
import Derived.Deep.CutBlock
namespace Go.Proofs.Ytkpcakmkmkidpaa.arenaHandles
open Go.ChangeShapes Go.WideShapes Go.ChangeAt Go.RowKit Arn
set_option linter.unusedVariables false

theorem own : ownKnob Try.prog.godebug = none := by kernel_rfl
theorem laidOut : laidOutB Try.prog = true := by kernel_rfl

open Go.Shelf
attribute [local go_sem] Oper.semAt_some wide_fn
/-- Between two acts. -/
structure St (w : World) (b1 bm size K : Nat) (g : Value) (v : Value) (sl : List (Sl Int)) (ks : List Int) (f : Int → Value) (gs : List Int) (W : World) : Prop where
  a : At w.heap.size b1 size v sl W
  m : MapI.MapAt W bm ks f
  lo : w.heap.size ≤ bm
  row : W.ownsRow w.heap.size 26 1 g gs.length (gs.map (Value.int .i64))
  few : Few K sl
  vals : ∀ h, ∃ t : Bool, f h = .bool t ∧ (t = true → Used sl h)
  dead : ∀ h ∈ gs, i64B h ∧ Dead sl h
  bel : Below w.heap.size w W
section
variable {w : World} {b1 bm size K K' : Nat} {g g' : Value} {v v' : Value} {sl sl' : List (Sl Int)} {ks ks' : List Int} {f f' : Int → Value} {gs : List Int} {W W' : World}
theorem St.on (h : St w b1 bm size K g v sl ks f gs W) (hb : Below W.heap.size W W') : St w b1 bm size K g v sl ks f gs W' :=
  ⟨h.a.on hb, h.m.on hb, h.lo, (Keep.of_below hb).row h.row fun b hb => (h.row.lt b hb).2, h.few, h.vals, h.dead, h.bel.trans (hb.mono h.bel.size)⟩
theorem St.mono (h : St w b1 bm size K g v sl ks f gs W) (hk : K ≤ K') : St w b1 bm size K' g v sl ks f gs W := ⟨h.a, h.m, h.lo, h.row, h.few.mono hk, h.vals, h.dead, h.bel⟩
theorem St.ne (h : St w b1 bm size K g v sl ks f gs W) : b1 ≠ bm ∧ v.ownBlock ≠ some bm ∧ g.ownBlock ≠ some bm ∧ (∀ k, g.ownBlock = some k → k ≠ b1 ∧ v.ownBlock ≠ some k) := by
  obtain ⟨es, clock, hm, -⟩ := h.m
  exact ⟨(fun e => by have := h.a.bl; unfold BL at this; rw [e, hm] at this; cases this), row_not_obj h.a.row hm (by simp), row_not_obj h.row hm (by simp), fun k hk => ⟨fun e => h.a.bl.ne_row (by decide) h.row (e ▸ hk), rows_ne h.row h.a.row (by decide) k hk⟩⟩
/-- The arena alone was written. -/
theorem St.arena (h : St w b1 bm size K g v sl ks f gs W) (ha : At w.heap.size b1 size v' sl' W') (hw : Wrote b1 v v' W W') (hf : Few K' sl') (hu : ∀ h, Used sl h → Used sl' h) (hd : ∀ h, Dead sl h → Dead sl' h) : St w b1 bm size K' g v' sl' ks f gs W' := by
  obtain ⟨n1, n2, n3, n4⟩ := h.ne
  exact ⟨ha, h.m.keep hw.1 ⟨fun e => n1 e.symm, n2⟩, h.lo, hw.1.row h.row fun k hk => n4 k hk, hf, fun x => by obtain ⟨t, h1, h2⟩ := h.vals x; exact ⟨t, h1, fun e => hu x (h2 e)⟩, fun x hx => ⟨(h.dead x hx).1, hd x (h.dead x hx).2⟩, h.bel.trans ((hw.1.mono fun j _ hj => ⟨by have := h.a.lo; omega, fun e => by have := (h.a.row.lt _ e).1; omega⟩).below h.bel.size)⟩
/-- The map alone was written. -/
theorem St.map (h : St w b1 bm size K g v sl ks f gs W) (hm : MapI.MapAt W' bm ks' f') (hk : ∀ S : Nat → Prop, ¬ S bm → Keep S W W') (hv : ∀ h, ∃ t : Bool, f' h = .bool t ∧ (t = true → Used sl h)) : St w b1 bm size K g v sl ks' f' gs W' := by
  obtain ⟨n1, n2, n3, n4⟩ := h.ne
  have kk := hk (fun k => k ≠ bm) (by simp)
  exact ⟨h.a.keep kk n1 (fun k hk e => n2 (e ▸ hk)), hm, h.lo, kk.row h.row (fun k hk e => n3 (e ▸ hk)), h.few, hv, h.dead, h.bel.trans ((kk.mono fun j _ hj e => by have := h.lo; omega).below h.bel.size)⟩
/-- One more has gone. -/
theorem St.gone {A : World} {y : Int} (h : St w b1 bm size K g v sl ks f gs W) (hA : Below W.heap.size W A) (hg : A.grownBy W' g.ownBlock) (ho : W'.ownsRow w.heap.size 26 1 g' (gs.length + 1) (gs.map (Value.int .i64) ++ [.int .i64 y])) (hy : i64B y ∧ Dead sl y) : St w b1 bm size K g' v sl ks f (gs ++ [y]) W' := by
  have h' := h.on hA
  obtain ⟨n1, n2, n3, n4⟩ := h'.ne
  have k := Keep.of_grownBy (S := fun k => g.ownBlock ≠ some k) hg (fun r hr => fun h => h hr)
  refine ⟨h'.a.keep k (fun e => (n4 _ e).1 rfl) (fun j hj e => (n4 _ e).2 hj), h'.m.keep k n3, h'.lo, by rw [List.length_append, List.map_append]; exact ho, h'.few, h'.vals, fun x hx => ?_, h'.bel.trans ((k.mono fun j _ hj e => by have := (h'.row.lt _ e).1; omega).below h'.bel.size)⟩
  rcases List.mem_append.1 hx with hx | hx
  · exact h'.dead x hx
  · obtain rfl := List.mem_singleton.1 hx
    exact hy
end
/-- As St, the gone ones' slice a value. -/
def StX (w : World) (b1 bm size K : Nat) (g : Value) (W : World) : Prop := ∃ (q : Option Addr) (m c : Nat) (v : Value) (sl : List (Sl Int)) (ks : List Int) (f : Int → Value) (gs : List Int), g = .slice q m c ∧ gs.length = m ∧ m ≤ K ∧ St w b1 bm size K (.slice q m c) v sl ks f gs W

set_option maxHeartbeats 8000000 in
set_option maxRecDepth 100000 in
theorem walk (a0 : Int) (a1 : Option Addr) (len1 cap1 : Nat) (z1 : List Ax) (w : World) (w0 : i64B a0) (w1 : ActsIn w a1 len1 z1) :
    Calls Try.prog 4 #[.int .i64 a0, .slice a1 len1 cap1] w fun e w' => e = .returned (.bool true) ∧ Below w.heap.size w w' := by
  obtain ⟨u, hu⟩ : ∃ u : Int, a0 % 18446744073709551616 = u := ⟨_, rfl⟩
  have hu1 : 0 ≤ u ∧ u < 18446744073709551616 := by omega
  obtain ⟨j, hj⟩ : ∃ j : Nat, u % 8 = (j : Int) := ⟨(u % 8).toNat, by omega⟩
  have hj8 : j < 8 := by omega
  have s1 : IntKind.u64.wrap a0 = u := by rw [← hu]; rfl
  have s3 : u.tmod 8 = (j : Int) := by rw [Int.tmod_eq_emod_of_nonneg hu1.1]; exact hj
  obtain ⟨size, hsz⟩ : ∃ size : Nat, 1 + j = size := ⟨_, rfl⟩
  have s4 : (1 : Int) + (j : Int) = (size : Int) := by omega
  have hz1 : 1 ≤ size := by omega
  have hz2 : size ≤ 1024 := by omega
  have p0 : (0 : Int) ≤ u := hu1.1
  clear hu hj w0 hsz hu1
  by_cases hbig : 60 < len1
  · have e1 : decide ((60 : Int) < (len1 : Int)) = true := decide_eq_true (by omega)
    clear hbig w1
    go_enter Try.func4, Try.ntmps4
    go_wp2_with fail
    refine (New_good size w (by omega)).mono ?_
    rintro e w' ⟨rfl, rfl⟩
    have hb1 := blk_alloc (w := w) (.cells #[.int .i64 size, .slice none 0 0] 64)
    go_wp2_with fail
    refine (lives_any _).mono ?_
    rintro e W2 ⟨rfl, hb2⟩
    replace hb2 := hb1.trans (hb2.mono (by simp))
    clear hb1
    go_wp2_with fail
    refine (lives_any _).mono ?_
    rintro e W3 ⟨rfl, hb3⟩
    replace hb3 := hb2.trans (hb3.mono hb2.size)
    clear hb2
    go_wp2
    go_ret
    exact ⟨rfl, hb3⟩
  have e1 : decide ((60 : Int) < (len1 : Int)) = false := decide_eq_false (by omega)
  have hl1 : len1 ≤ 60 := by omega
  have HZ1 := Lib.hid w1
  have A0 := At.new w.heap.size size w (Nat.le_refl _) hz1 hz2
  have hb0 := blk_alloc (w := w) (.cells #[.int .i64 size, .slice none 0 0] 64)
  obtain ⟨W0, hW0⟩ : ∃ W0, w.alloc (.cells #[.int .i64 size, .slice none 0 0] 64) = W0 := ⟨_, rfl⟩
  rw [hW0] at A0 hb0
  have HW0 := Lib.hid hW0
  obtain ⟨b1, hb1e⟩ : ∃ b1, w.heap.size = b1 := ⟨_, rfl⟩
  have HA0 := Lib.hid (show At w.heap.size b1 size (.slice none 0 0) [] W0 from hb1e ▸ A0)
  have HB0 := Lib.hid hb0
  have HB1 := Lib.hid hb1e
  have hmm := @run_makeMap Try.prog
  clear hbig w1 hW0 hb1e A0 hb0
  go_enter Try.func4, Try.ntmps4
  go_wp2_with fail
  refine (New_good size w (by omega)).mono ?_
  rintro e w' ⟨rfl, rfl⟩
  rw [HW0.out, HB1.out]
  go_wp2_with fail
  refine (lives_any W0).mono ?_
  rintro e W1 ⟨rfl, hb1⟩
  have hbw1 := HB0.out.trans (hb1.mono HB0.out.size)
  have HS0 := Lib.hid (show St w b1 W1.heap.size size 0 (.slice none 0 0) (.slice none 0 0) [] [] (fun _ => .bool false) [] (W1.alloc (.map #[] 0)) from ⟨(HA0.out.on hb1).on (blk_alloc _), MapI.MapAt.new W1 _, hbw1.size, World.ownsRow_nil _ _ _ _, (fun s hs => by cases hs), (fun h => ⟨false, rfl, fun e => by cases e⟩), (fun h hh => by cases hh), hbw1.trans ((blk_alloc (w := W1) (.map #[] 0)).mono hbw1.size)⟩)
  obtain ⟨W2, hW2⟩ : ∃ W2, W1.alloc (.map #[] 0) = W2 := ⟨_, rfl⟩
  obtain ⟨bm, hbm⟩ : ∃ bm, W1.heap.size = bm := ⟨_, rfl⟩
  rw [hW2, hbm] at HS0
  have HW2 := Lib.hid hW2
  have HBM := Lib.hid hbm
  clear hb1 hbw1 hW2 hbm
  go_upto_region 6 with fail
  rw [HW2.out, HBM.out]
  clear hmm
  go_wp2
  go_loopw [7, 44] (fun g i wr => ∃ (k : Nat) (q : Option Addr) (m c : Nat) (v : Value) (sl : List (Sl Int)) (ks : List Int) (f : Int → Value) (gs : List Int), k ≤ len1 ∧ i = .int .i64 k ∧ g = .slice q m c ∧ Hid (gs.length = m) ∧ m ≤ k ∧ Hid (St w b1 bm size k (.slice q m c) v sl ks f gs wr)) (fun _ i _ => len1 - (intOf i).toNat)
  case atStart => exact ⟨0, none, 0, 0, .slice none 0 0, [], [], fun _ => .bool false, [], by omega, rfl, rfl, Lib.hid rfl, by omega, HS0⟩
  case round =>
    obtain ⟨k, q, m, c, v, sl, ks, f, gs, hk, rfl, rfl, HM, hmk, HST⟩ := hrel
    clear HS0
    have hB := HST.out.bel
    have hsl := HST.out.a.len
    by_cases hlt : k < len1
    · obtain ⟨x, hxk⟩ : ∃ x, z1[k]? = some x := ⟨_, List.getElem?_eq_getElem (by have := HZ1.out.1; omega)⟩
      obtain ⟨ga, oa, hae, hga, x0, x1, x2, x3, hbx⟩ := HZ1.out.2 k x hxk
      subst hae
      have hc : ∀ o, wr.cell? ⟨ga, o, none⟩ = w.cell? ⟨ga, o, none⟩ := fun o => World.cell?_of_block (a := ⟨ga, o, none⟩) (hB.block ga hga)
      rw [← hc] at x0 x1 x2 x3
      obtain ⟨⟨kind, xv, xh, old⟩, rfl⟩ : ∃ x', x' = x := ⟨x, rfl⟩
      simp only at x0 x1 x2 x3 hbx
      obtain ⟨⟨hb0a, hb0b⟩, ⟨hb1a, hb1b⟩, -, hb3⟩ := hbx
      have HST2 := Lib.hid (HST.out.on (blk_alloc (.cells #[.int .i64 kind, .int .i64 xv, .int .i64 xh, .int .i64 old] 47)))
      have bxl := BL.new 47 wr #[.int .i64 kind, .int .i64 xv, .int .i64 xh, .int .i64 old]
      obtain ⟨Wx, hWx⟩ : ∃ Wx, wr.alloc (.cells #[.int .i64 kind, .int .i64 xv, .int .i64 xh, .int .i64 old] 47) = Wx := ⟨_, rfl⟩
      rw [hWx] at HST2 bxl
      have hwx : wr.heap.size < Wx.heap.size := by rw [← hWx]; simp
      have HWX := Lib.hid hWx
      clear hxk hc hB hWx HST
      go_upto_region 10 with fail
      rw [HWX.out]
      clear x0 x1 x2 x3
      obtain ⟨bx, hbx⟩ : ∃ bx, wr.heap.size = bx := ⟨_, rfl⟩
      rw [hbx] at bxl hwx ⊢
      have y0 : Wx.cell? ⟨bx, 0, none⟩ = some (.int .i64 kind) := bxl.cell 0 _ rfl
      have y1 : Wx.cell? ⟨bx, 1, none⟩ = some (.int .i64 xv) := bxl.cell 1 _ rfl
      have HBX := Lib.hid bxl
      obtain ⟨r, hr⟩ : ∃ r, (kind.tmod 2 == 0) = r := ⟨_, rfl⟩
      clear bxl hbx
      go_upto_if 51 with fail
      go_cut [7, 10, 11, 12, 13, 44] from 44 to 111 (fun s7 s10 s11 s12 s13 s44 X => s44 = .int .i64 k ∧ StX w b1 bm size (k + 1) s7 X)
      case first =>
        cases r with
        | true =>
          have con := Put_any _ _ _ _ _ xv Wx HST2.out.a (HST2.out.few.mono (by omega)) HST2.out.bel.size
          have hpc := put_cases size sl xv hsl hz2
          obtain ⟨H, hH⟩ : ∃ H, putHd size sl = H := ⟨_, rfl⟩
          obtain ⟨E, hE⟩ : ∃ E, putE size sl = E := ⟨_, rfl⟩
          unfold PutOut at con
          rw [hH, hE] at con
          rw [hH, hE] at hpc
          have HPC := Lib.hid hpc
          clear hpc hH hE hr
          go_wp2_with fail
          refine con.mono ?_
          rintro e W5 ⟨rfl, v5, hA5, hw5⟩
          have HA5 := Lib.hid hA5
          have HW5 := Lib.hid hw5
          clear con hA5 hw5 y0 y1
          rcases HPC.out with ⟨rfl, rfl, hpl⟩ | ⟨rfl, hnu, hnu2, hus, hde⟩
          · have HS5 := Lib.hid (HST2.out.arena HA5.out HW5.out (by rw [hpl]; exact HST2.out.few.mono (show k ≤ k + 1 by omega)) (fun h hh => by rw [hpl]; exact hh) (fun h hh => by rw [hpl]; exact hh))
            obtain ⟨W6, hrun, hm6, hk6, hs6⟩ := MapI.put HS5.out.m Try.underlying56 Try.underlying26 0 (.bool false)
            unfold MapI.keyV at hrun
            have HS6 := Lib.hid (HS5.out.map hm6 hk6 (fun h => by
              by_cases e : h = 0
              · exact ⟨false, if_pos e, fun e => by cases e⟩
              · obtain ⟨t, h1, h2⟩ := HS5.out.vals h
                exact ⟨t, (if_neg e).trans h1, h2⟩))
            clear hpl hm6 hk6 hs6 HPC
            go_wp2_with fail
            go_meet
            exact ⟨rfl, q, m, c, _, _, _, _, gs, rfl, HM.out, by omega, HS6.out⟩
          · have HS5 := Lib.hid (HST2.out.arena HA5.out HW5.out (few_put HST2.out.few xv) hus hde)
            have hlk := MapI.look HS5.out.m Try.underlying56 Try.underlying26 (z := .bool false) (show (zeroValue 4).run Try.prog W5 = .ok (.bool false) W5 by kernel_rfl) H
            have hval : (if H ∈ ks then f H else .bool false) = .bool false := by
              split
              · obtain ⟨t, h1, h2⟩ := HST2.out.vals H
                cases t with
                | true => exact absurd (h2 rfl) hnu
                | false => exact h1
              · rfl
            rw [hval] at hlk
            unfold MapI.keyV at hlk
            obtain ⟨W6, hrun, hm6, hk6, hs6⟩ := MapI.put HS5.out.m Try.underlying56 Try.underlying26 H (.bool true)
            unfold MapI.keyV at hrun
            have HS6 := Lib.hid (HS5.out.map hm6 hk6 (fun h => by
              by_cases e : h = H
              · exact ⟨true, if_pos e, fun _ => by rw [e]; exact hnu2⟩
              · obtain ⟨t, h1, h2⟩ := HS5.out.vals h
                exact ⟨t, (if_neg e).trans h1, h2⟩))
            clear hval hm6 hk6 hs6 HPC hnu hnu2 hus hde
            go_wp2_with fail
            go_meet
            exact ⟨rfl, q, m, c, _, _, _, _, gs, rfl, HM.out, by omega, HS6.out⟩
        | false =>
          clear y0 y1 hr
          obtain ⟨Z, hZ⟩ : ∃ Z, Wx.drew = Z := ⟨_, rfl⟩
          have hd : Below Wx.heap.size Wx Z := by rw [← hZ]; exact (Below.refl _ _).drew
          have bz := HBX.out.on hd
          have HSZ := Lib.hid (HST2.out.on hd)
          have HZ := Lib.hid hZ
          have hdz : Wx.heap.size ≤ Z.heap.size := hd.size
          have z3 : Z.cell? ⟨bx, 3, none⟩ = some (.int .i64 old) := bz.cell 3 _ rfl
          have z4 : (Z.alloc (.cells #[.pointer (some ⟨b1, 0, none⟩)] 24)).cell? ⟨bx, 3, none⟩ = some (.int .i64 old) := Arn.cell_later z3
          have hf40 : Few 1099511627776 sl := HSZ.out.few.mono (by omega)
          have conA := All_any (some ⟨b1, 0, none⟩) Z b1 rfl
          have conS := some_arena _ _ _ _ _ old _ (lies_of HSZ.out.a hf40) (by have := HSZ.out.a.bl.lt; simp; omega) hb3
          have HBD := Lib.hid (some_bound (n := old) HSZ.out.few (by omega) (by omega))
          have hdc := drop_cases (sl := sl) (n := old) (by omega)
          obtain ⟨H, hH⟩ : ∃ H, (someF ((allS 0 sl).map Prod.fst) old).1 = H := ⟨_, rfl⟩
          obtain ⟨B, hB⟩ : ∃ B, (someF ((allS 0 sl).map Prod.fst) old).2 = B := ⟨_, rfl⟩
          rw [hH, hB] at conS hdc
          rw [hH] at HBD
          have HDC := Lib.hid hdc
          clear bz hd hdz hZ hf40 hH hB hdc
          go_upto_region 15 with fail
          refine pregion_any (fun X => X.cell? ⟨bx, 3, none⟩ = some (.int .i64 old)) (by kernel_rfl) ?_
          rw [HZ.out]
          refine wpAnyH_take (i := 0) (v := (.pointer (some ⟨b1, 0, none⟩))) rfl (by kernel_rfl) (by kernel_rfl) (by kernel_rfl) (fun _ _ _ h => h) (.inl ⟨by kernel_rfl, ?_⟩) z3 ?_
          · rintro w h1; go_simp
          refine plist #[true, false, false, false, false, false, false, false, false, false] (by kernel_rfl) ?_
          refine wpAnyH_take (i := 2) (v := (.pointer (some ⟨bx, 3, none⟩))) rfl (by kernel_rfl) (by kernel_rfl) (by kernel_rfl) (fun _ _ _ h => h) (.inl ⟨by kernel_rfl, ?_⟩) z3 ?_
          · rintro w h1; go_simp
          refine plist #[true, false, true, false, false, false, false, false, false, false] (by kernel_rfl) ?_
          refine wpAnyH_take (i := 3) (v := (.int .i64 old)) rfl (by kernel_rfl) (by kernel_rfl) (by kernel_rfl) (fun _ _ _ h => h) (.inl ⟨by kernel_rfl, ?_⟩) z3 ?_
          · rintro w h1; go_simp
          refine plist #[true, false, true, true, false, false, false, false, false, false] (by kernel_rfl) ?_
          refine pone 1 (by kernel_rfl) rfl fun K hK => ?_
          go_simp
          refine conA.mono ?_
          rintro e w' ⟨rfl, rfl⟩
          refine hK _ _ z4 ?_
          clear hK K conA
          refine plist #[true, true, true, true, false, false, false, false, false, false] (by kernel_rfl) ?_
          refine pone 4 (by kernel_rfl) rfl fun K hK => ?_
          go_simp
          refine conS.mono ?_
          rintro e W5 ⟨rfl, hb5⟩
          have z5 : W5.cell? ⟨bx, 3, none⟩ = some (.int .i64 old) := (World.cell?_of_block (hb5.block bx (World.block_lt_of_cell? _ _ z4))).trans z4
          refine hK _ _ z5 ?_
          clear hK K conS
          refine plist #[true, true, true, true, true, false, false, false, false, false] (by kernel_rfl) ?_
          refine wpAnyH_take (i := 5) (v := (.tuple #[.int .i64 H, .bool B])) rfl (by kernel_rfl) (by kernel_rfl) (by kernel_rfl) (fun _ _ _ h => h) (.inl ⟨by kernel_rfl, ?_⟩) z5 ?_
          · rintro w h1; go_simp
          refine plist #[true, true, true, true, true, true, false, false, false, false] (by kernel_rfl) ?_
          refine wpAnyH_take (i := 6) (v := (.int .i64 H)) rfl (by kernel_rfl) (by kernel_rfl) (by kernel_rfl) (fun _ _ _ h => h) (.inl ⟨by kernel_rfl, ?_⟩) z5 ?_
          · rintro w h1; go_simp
          refine plist #[true, true, true, true, true, true, true, false, false, false] (by kernel_rfl) ?_
          refine wpAnyH_take (i := 7) (v := (.bool B)) rfl (by kernel_rfl) (by kernel_rfl) (by kernel_rfl) (fun _ _ _ h => h) (.inl ⟨by kernel_rfl, ?_⟩) z5 ?_
          · rintro w h1; go_simp
          refine plist #[true, true, true, true, true, true, true, true, false, false] (by kernel_rfl) ?_
          refine pone 8 (by kernel_rfl) rfl fun K hK => ?_
          go_simp
          refine hK _ _ z5 ?_
          clear hK K
          refine plist #[true, true, true, true, true, true, true, true, true, false] (by kernel_rfl) ?_
          refine pone 9 (by kernel_rfl) rfl fun K hK => ?_
          go_simp
          refine hK _ _ z5 ?_
          clear hK K
          refine pdone (by kernel_rfl) ?_ _
          have hb45 : Below Z.heap.size Z W5 := (blk_alloc (w := Z) (.cells #[.pointer (some ⟨b1, 0, none⟩)] 24)).trans (hb5.mono (by simp))
          have HS5 := Lib.hid (HSZ.out.on hb45)
          clear z3 z4 z5 hb5 hb45 HSZ HZ
          cases B with
          | false =>
            go_wp2_with fail
            go_meet
            exact ⟨rfl, q, m, c, _, _, _, _, gs, rfl, HM.out, by omega, HS5.out.mono (by omega)⟩
          | true =>
            obtain ⟨h1, h2, h3, h4⟩ := HDC.out rfl
            have con := Drop_any _ _ _ _ _ H W5 HS5.out.a (HS5.out.few.mono (by omega)) HBD.out
            rw [h1] at con
            have HDD := Lib.hid (And.intro h2 (And.intro h3 h4))
            clear h1 h2 h3 h4
            go_wp2_with fail
            refine con.mono ?_
            rintro e W6 ⟨rfl, v6, hA6, hw6⟩
            have HS6 := Lib.hid (HS5.out.arena hA6 hw6 ((few_drop HS5.out.few _).mono (show k ≤ k + 1 by omega)) HDD.out.2.1 HDD.out.2.2)
            have hrow := HS6.out.row.alloc (.cells #[.int .i64 H] 26)
            rw [HM.out] at hrow
            have hm2 : (m + 1) * 8 ≤ 140737488355328 := by omega
            have hm3 : m + 1 ≤ maxLen := by unfold maxLen; omega
            have hs6 := HS6.out.bel.size
            obtain ⟨i0, hi0, hz0, hzz1, hzz2⟩ := info_arn info_hd
            clear con hA6 hw6
            go_wp2_with (
              at_builtin
              go_must (refine wpList_append_own_at _ rfl _ _ 57 rfl w.heap.size 26 i0 (.int .i64 0) 1 8 Try.underlying57 hi0 hz0 hzz1 hzz2 rfl (by decide) (.slice q m c) m _ rfl hrow ⟨W6.heap.size, 0, none⟩ 1 1 [.int .i64 H] rfl rfl (blk_cells _ _ _) (by simp [Value.oneCell']) hm3 hm2 (by simp; omega) ?_)
              intro g7 W7 o7 g7g _ at7
              have HS7 := Lib.hid (HS6.out.gone (blk_alloc _) g7g (by rw [HM.out]; exact o7) ⟨HBD.out, HDD.out.1⟩)
              obtain ⟨q7, c7, rfl⟩ := row_slice o7
              clear o7 g7g at7 hrow)
            go_meet
            exact ⟨rfl, q7, m + 1, c7, _, _, _, _, gs ++ [H], rfl, by rw [List.length_append, HM.out]; rfl, by omega, HS7.out⟩
      case rest =>
      obtain ⟨rfl, q5, m5, c5, v5, sl5, ks5, f5, gs5, rfl, hm5, hmk5, hst5⟩ := hcut
      obtain ⟨X5, hX5⟩ : ∃ X5, wc = X5 := ⟨_, rfl⟩
      rw [hX5] at hst5 ⊢
      have HM5 := Lib.hid hm5
      have HST5 := Lib.hid hst5
      have hsl5 := hst5.a.len
      clear hX5 hm5 hst5 HST2 HBX y0 y1 HM hr hwx hsl
      obtain ⟨X6, hX6⟩ : ∃ X6, X6 = X5 := ⟨_, rfl⟩
      rw [← hX6] at HST5 ⊢
      clear hX6
      go_wp2
      go_loopw [89] (fun i wr => ∃ (j : Nat) (v : Value), j ≤ m5 ∧ i = .int .i64 j ∧ Hid (St w b1 bm size (k + 1) (.slice q5 m5 c5) v sl5 ks5 f5 gs5 wr)) (fun i _ => m5 - (intOf i).toNat)
      case atStart => exact ⟨0, v5, by omega, rfl, HST5⟩
      case round =>
        obtain ⟨j2, v6, hj2, rfl, HSJ⟩ := hrel
        clear HST5
        by_cases hlt2 : j2 < m5
        · obtain ⟨h, hh⟩ : ∃ h, gs5[j2]? = some h := ⟨_, List.getElem?_eq_getElem (by have := HM5.out; omega)⟩
          obtain ⟨ig, io, hqe, hcell⟩ := (NumsIn.of (c := c5) (q := q5) (n := m5) (xs := gs5) (by have := HSJ.out.row; rwa [HM5.out] at this)).2 j2 h hh
          subst hqe
          obtain ⟨hhb, hdead⟩ := HSJ.out.dead h (List.mem_of_getElem? hh)
          have hnone := hdead.find (by omega)
          have hgx : getX sl5 h = none := by unfold getX; rw [hnone]
          have hf40 : Few 1099511627776 sl5 := HSJ.out.few.mono (by omega)
          have con := Get_any _ _ _ _ _ h wr HSJ.out.a hf40 hhb
          rw [hgx] at con
          have HN := Lib.hid hnone
          have HF := Lib.hid hf40
          have HHB := Lib.hid hhb
          clear hh hdead hnone hgx hf40 hhb
          go_wp2_with fail
          refine con.mono ?_
          rintro e W7 ⟨rfl, hb7⟩
          have HS7 := Lib.hid (HSJ.out.on hb7)
          have con2 := Set_any _ _ _ _ _ h 1 W7 HS7.out.a HF.out HHB.out
          rw [HN.out, show setS sl5 h 1 = sl5 by unfold setS; rw [HN.out]] at con2
          clear con hb7 hcell
          go_wp2_with fail
          refine con2.mono ?_
          rintro e W8 ⟨rfl, v8, hA8, hw8⟩
          have HS8 := Lib.hid (HS7.out.arena hA8 hw8 HS7.out.few (fun _ h => h) (fun _ h => h))
          have con3 := Drop_any _ _ _ _ _ h W8 HS8.out.a HF.out HHB.out
          rw [HN.out, show dropS sl5 h = sl5 by unfold dropS; rw [HN.out]] at con3
          clear con2 hA8 hw8
          go_wp2_with fail
          refine con3.mono ?_
          rintro e W9 ⟨rfl, v9, hA9, hw9⟩
          have HS9 := Lib.hid (HS8.out.arena hA9 hw9 HS8.out.few (fun _ h => h) (fun _ h => h))
          clear con3 hA9 hw9
          go_wp2
          go_roundw
          case rel => exact ⟨j2 + 1, v9, by omega, by go_num, HS9⟩
          case measure => simp [intOf]; omega
        · go_wp2
          go_roundw
          case rel => exact ⟨k + 1, q5, m5, c5, v6, sl5, ks5, f5, gs5, by omega, by go_num, rfl, HM5, hmk5, HSJ⟩
          case measure => simp [intOf]; omega
    · have conL := Len_any _ _ _ _ _ wr HST.out.a (HST.out.few.mono (by omega))
      have hll := allS_le sl 0
      have f0 : decide ((allS 0 sl).length ≤ size) = true := decide_eq_true (by omega)
      clear hll
      go_wp2_with fail
      refine conL.mono ?_
      rintro e W9 ⟨rfl, hb9⟩
      have hfin := hB.trans (hb9.mono hB.size)
      clear conL
      go_wp2
      go_ret
      exact ⟨rfl, hfin⟩

set_option maxRecDepth 100000 in
theorem lifted (os : Os) (started : os.Started) (H : Type) (enc : TypeId × Value → H) :
    ReturnsInHanded {} Try.checked os 4 .any (Rows.arenaHandlesSpec.pre6 enc Try.prog Try.f4 Rows.arenaHandlesRow.domain false) (Rows.arenaHandlesSpec.post enc Try.prog Try.f4 false true false false) := by
  refine returnsInHanded_of_change (C := Try.checked) own started (by kernel_rfl) Try.func4
    (ChangeSpec.witness6 (enc := enc) (C := Try.checked) false ⟨#[], #[.int .i64 0, .slice none 0 0], []⟩ 8 (by kernel_rfl) (by kernel_rfl) (by kernel_rfl) (by kernel_rfl)) ?_
  intro W base args ds gs before hval0 hW hcnd _
  have hval : ∀ (j : Nat) t v, Try.f4.params[j]? = some t → args[j]? = some v → Value.okWide Try.prog W .any base t v := hval0
  have hW' := hW
  obtain ⟨p, q, hA0, hV, rfl, hfz, hnd⟩ := hW
  have hA : DataW.TrodAll enc Try.prog W 0 (fun _ => true) true Try.f4.params.toList args.toList ds p := hA0
  rw [Try.params4] at hA hval
  obtain ⟨v0, vs0, d0, ds0, p0, q0, hargs, rfl, rfl, h0, r0⟩ := trodAll_cons hA
  obtain ⟨v1, vs1, d1, ds1, p1, q1, rfl, rfl, rfl, h1, r1⟩ := trodAll_cons r0
  obtain ⟨rfl, rfl, rfl⟩ := trodAll_nil r1
  obtain rfl : args = #[v0, v1] := by cases args; simp_all
  obtain ⟨rfl, rfl⟩ := trodVars_none hV
  obtain ⟨a0, rfl, rfl, rfl, w0⟩ := open_int Try.underlying3 (hval 0 3 v0 rfl rfl) h0
  obtain ⟨a1, len1, cap1, rfl⟩ := okWide_slice Try.underlying22 (hval 1 22 v1 rfl rfl)
  have k1 := h1
  have lt1 : ∀ x ∈ p1, x.block < W.heap.size := by obtain ⟨m, hm⟩ := k1; exact DataW.trod_lt m _ _ _ hm
  obtain ⟨z1, w1⟩ : ∃ z, ActsIn W a1 len1 z := by
    obtain ⟨fuel, hf⟩ := h1
    exact open_acts hf
  clear hA0 hval0
  refine (walk a0 a1 len1 cap1 z1 W (bounds_i64 w0) w1).mono fun e W' ⟨he, bel⟩ => ?_
  subst he
  exact ⟨_, rfl, _, _, _, [], _, [], hW', trodAll_mk1 (shut_bool Try.underlying4 _), (trodAll_cons_mk (shut_int Try.underlying3 w0) (trodAll_cons_mk (Below.trod laidOut (by kernel_rfl) (of_decide_eq_true (by kernel_rfl)) k1 bel lt1) trodAll_mk0)), rfl, bel.frame _, fun h => by cases h⟩

theorem over : Rows.arenaHandlesRow.holds Try.pinned (OpenSpec.ofChange Rows.arenaHandlesSpec) :=
  OpenClaim.holds_of_wide 4 Try.f4 rfl rfl rfl rfl rfl rfl rfl ⟨rfl, rfl, rfl, rfl, rfl⟩ rfl rfl rfl rfl rfl (by kernel_rfl) Try.func4 (by kernel_rfl)
    (of_decide_eq_true (by kernel_rfl)) (by unfold Func.isWrapper; first | (rw [if_pos (by decide +kernel)]; kernel_rfl) | (rw [if_neg (by decide +kernel)]; exact ⟨rfl, rfl⟩))
    (fun os started H enc _ => lifted os started H enc)

theorem proved : Rows.ArenaHandlesSaid := over
end Go.Proofs.Ytkpcakmkmkidpaa.arenaHandles
