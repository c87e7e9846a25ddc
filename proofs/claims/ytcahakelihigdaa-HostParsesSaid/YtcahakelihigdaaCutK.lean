/- cut.At. Conditions: a text is of at most 2^40 bytes. -/
import Derived.Test.YtcahakelihigdaaRefB
import Derived.Test.YtcahakelihigdaaOrdP
import Derived.Test.YtcahakelihigdaaOrd
namespace Go.Proofs.Ytcahakelihigdaa
open Go.RowKit Go.Shelf

theorem bytesOf_numsL (l : List UInt8) : Lib.bytesOf (Lib.numsL l) = l := by
  unfold Lib.bytesOf Lib.numsL
  rw [List.map_map]
  conv => rhs; rw [← List.map_id l]
  apply List.map_congr_left
  intro b _
  simp

theorem IndexByte_any (q : Option Addr) (n c : Nat) (l : List UInt8) (b : UInt8) (w : World) (hl : l.length = n) (hq : q = none → n = 0 ∧ c = 0) (h : Lib.BytesIn w q n (Lib.numsL l)) :
    Calls Try.prog 41 #[.slice q n c, .int .u8 (b.toNat : Int)] w fun e w' => e = .returned (.int .i64 (Lib.indexByte l b)) ∧ w' = w := by
  cases q with
  | none =>
    obtain ⟨rfl, rfl⟩ := hq rfl
    obtain rfl : l = [] := List.eq_nil_of_length_eq_zero hl
    exact Try.bytes_IndexByte_nil (b.toNat : Int) w
  | some a =>
    have h1 := Try.bytes_IndexByte_at a n c (Lib.numsL l) (b.toNat : Int) w (by rw [Lib.numsL_length, hl]) (fun i hi => by
      obtain ⟨b', o, he, hc⟩ := h.at (by omega)
      cases he
      rw [Go.WideShapes.add_plain]
      exact hc i hi)
    rw [bytesOf_numsL, show (b.toNat : Int).toNat.toUInt8 = b from by simp] at h1
    exact h1

theorem index_lt : ∀ (l : List UInt8) (c : UInt8), Lib.indexByte l c < (l.length : Int)
  | [], _ => by simp [Lib.indexByte]
  | x :: r, c => by
    have ih := index_lt r c
    unfold Lib.indexByte
    split
    · simp
    · simp only [beq_iff_eq]
      split <;> simp <;> omega

theorem run_slice_to (q : Option Addr) (n c j : Nat) (W : World) (hj : j ≤ c) :
    (Instr.slice 22 (.slice q n c) none (some (.int .i64 (j : Int))) none).run Try.prog W = .ok (.slice (subA q c 0) j c) W := by
  have hs : ∀ w, (Go.sizeOf 5).run Try.prog w = .ok 1 w := Try.sizeOf5
  have he : Try.prog.elem 22 = 5 := by kernel_rfl
  have h := run_slice_h (P := Try.prog) (w := W) 22 q n c (by rw [he]; exact Try.underlying22) .i64 j (by omega) (by omega)
  rw [h, he, hs]
  simp [Result.andThen, sliced, subA]

theorem run_slice_from (q : Option Addr) (n c i : Nat) (W : World) (hi : i + 1 ≤ n) :
    (Instr.slice 22 (.slice q n c) (some (.int .i64 ((i : Int) + 1))) none none).run Try.prog W = .ok (.slice (subA q c (i + 1)) (n - (i + 1)) (c - (i + 1))) W := by
  have hs : ∀ w, (Go.sizeOf 5).run Try.prog w = .ok 1 w := Try.sizeOf5
  have he : Try.prog.elem 22 = 5 := by kernel_rfl
  have h := run_slice_l (P := Try.prog) (w := W) 22 q n c (by rw [he]; exact Try.underlying22) .i64 ((i : Int) + 1) (by omega) (by omega)
  rw [h, he, hs]
  simp only [Result.andThen, sliced, subA, Nat.mul_one, show ((i : Int) + 1).toNat = i + 1 from by omega]

theorem sub_to (l : List UInt8) (k : Nat) : sub l 0 k = l.take k := by unfold sub; simp
theorem sub_from (l : List UInt8) (k : Nat) : sub l k l.length = l.drop k := by unfold sub; rw [List.take_of_length_le (by simp)]

set_option maxRecDepth 100000 in
set_option maxHeartbeats 8000000 in
theorem At_any (q : Option Addr) (n c : Nat) (l : List UInt8) (b : UInt8) (w : World) (hl : l.length = n) (hn : n ≤ 1099511627775) (hcp : n ≤ c) (hq : q = none → n = 0 ∧ c = 0) (h : Lib.BytesIn w q n (Lib.numsL l)) :
    Calls Try.prog 31 #[.slice q n c, .int .u8 (b.toNat : Int)] w fun e w' => ∃ v1 v2, e = .returned (.tuple #[v1, v2, .bool (atOk b l)]) ∧
      w'.ownsRow w.heap.size 5 1 v1 (atFst b l).length ((Lib.numsL (atFst b l)).map (Value.int .u8)) ∧
      w'.ownsRow w.heap.size 5 1 v2 (atSnd b l).length ((Lib.numsL (atSnd b l)).map (Value.int .u8)) ∧ Below w.heap.size w w' := by
  have hix := IndexByte_any q n c l b w hl hq h
  have hge := Lib.indexByte_ge l b
  have hlt := index_lt l b
  by_cases h0 : 0 ≤ Lib.indexByte l b
  · obtain ⟨k, hk⟩ : ∃ k : Nat, Lib.indexByte l b = (k : Int) := ⟨(Lib.indexByte l b).toNat, by omega⟩
    obtain ⟨e1, e2, e3⟩ := at_found b l k hk
    rw [hk] at hix hlt
    have hkn : k < n := by omega
    rw [e1, e2, e3]
    have hb1 := bytes_sub h hl (Nat.zero_le k) (by omega) hcp
    have hb2 := bytes_sub h hl (show k + 1 ≤ n from hkn) (Nat.le_refl n) hcp
    have hs2 : sub l (k + 1) n = l.drop (k + 1) := by rw [← hl]; exact sub_from l (k + 1)
    rw [sub_to, Nat.sub_zero] at hb1
    rw [hs2] at hb2
    have hl1 : (l.take k).length = k := by rw [List.length_take]; omega
    have hl2 : (l.drop (k + 1)).length = n - (k + 1) := by rw [List.length_drop]; omega
    have hwr : IntKind.i64.wrap ((k : Int) + 1) = (k : Int) + 1 := by rw [IntKind.wrap_i64]; omega
    have hr1 : ∀ W, (Instr.slice 22 (.slice q n c) none (some (.int .i64 (k : Int))) none).run Try.prog W = .ok (.slice (subA q c 0) k c) W := fun W => run_slice_to q n c k W (by omega)
    have hr2 : ∀ W, (Instr.slice 22 (.slice q n c) (some (.int .i64 ((k : Int) + 1))) none none).run Try.prog W = .ok (.slice (subA q c (k + 1)) (n - (k + 1)) (c - (k + 1))) W := fun W => run_slice_from q n c k W hkn
    clear e1 e2 e3 h0 hge hk hs2 h
    rw [hl1, hl2]
    generalize l.take k = l1 at *
    generalize l.drop (k + 1) = l2 at *
    generalize hqa : subA q c 0 = qa at *
    generalize hqb : subA q c (k + 1) = qb at *
    clear hqa hqb
    go_enter Try.func31, Try.ntmps31
    go_wp2_with fail
    refine hix.mono ?_
    rintro e w' ⟨rfl, hw⟩
    subst hw
    go_wp2_with fail
    refine pregion_any (fun _ => True) (by kernel_rfl) ?_
    refine wpAnyH_take (i := 0) (v := .slice q n c) rfl (by kernel_rfl) (by kernel_rfl) (by kernel_rfl) (fun _ _ _ h => h) (.inl ⟨by kernel_rfl, ?_⟩) trivial ?_
    · rintro w -; go_simp
    refine wpAnyH_take (i := 1) (v := .int .i64 (k : Int)) rfl (by kernel_rfl) (by kernel_rfl) (by kernel_rfl) (fun _ _ _ h => h) (.inl ⟨by kernel_rfl, ?_⟩) trivial ?_
    · rintro w -; go_simp
    refine wpAnyH_take (i := 2) (v := .slice qa k c) rfl (by kernel_rfl) (by kernel_rfl) (by kernel_rfl) (fun _ _ _ h => h) (.inl ⟨by kernel_rfl, ?_⟩) trivial ?_
    · rintro w -; go_simp
    refine wpAnyH_take (i := 4) (v := .slice q n c) rfl (by kernel_rfl) (by kernel_rfl) (by kernel_rfl) (fun _ _ _ h => h) (.inl ⟨by kernel_rfl, ?_⟩) trivial ?_
    · rintro w -; go_simp
    refine wpAnyH_take (i := 5) (v := .int .i64 (k : Int)) rfl (by kernel_rfl) (by kernel_rfl) (by kernel_rfl) (fun _ _ _ h => h) (.inl ⟨by kernel_rfl, ?_⟩) trivial ?_
    · rintro w -; go_simp
    refine wpAnyH_take (i := 6) (v := .int .i64 ((k : Int) + 1)) rfl (by kernel_rfl) (by kernel_rfl) (by kernel_rfl) (fun _ _ _ h => h) (.inl ⟨by kernel_rfl, ?_⟩) trivial ?_
    · rintro w -; go_simp
    refine wpAnyH_take (i := 7) (v := .slice qb (n - (k + 1)) (c - (k + 1))) rfl (by kernel_rfl) (by kernel_rfl) (by kernel_rfl) (fun _ _ _ h => h) (.inl ⟨by kernel_rfl, ?_⟩) trivial ?_
    · rintro w -; go_simp
    have hd1 := bytes_keep hb1 (Keep.drew (fun _ => True) _) (fun _ _ _ => trivial)
    have hd2 := bytes_keep hb2 (Keep.drew (fun _ => True) _) (fun _ _ _ => trivial)
    refine pone 3 (by kernel_rfl) rfl fun K hK => ?_
    go_simp
    refine (Clone_any qa k c l1 _ hl1 (by omega) hd1).mono ?_
    rintro e w1 ⟨v1, rfl, hrow1, hbel1⟩
    have hd3 := bytes_keep hd2 (Keep.of_below hbel1) (fun a h1 h2 => bytes_lt hd2 a h1 h2)
    rw [drew_size] at hrow1 hbel1
    refine hK _ _ trivial ?_
    clear hK K
    refine pone 8 (by kernel_rfl) rfl fun K hK => ?_
    go_simp
    refine (Clone_any qb (n - (k + 1)) (c - (k + 1)) l2 _ hl2 (by omega) hd3).mono ?_
    rintro e w2 ⟨v2, rfl, hrow2, hbel2⟩
    have hrow1' := (Keep.of_below hbel2).row hrow1 (fun b hb => (hrow1.lt b hb).2)
    have hsz := hbel1.size
    rw [drew_size] at hsz
    have hrow2' := row_base hrow2 hsz
    have hfin : Below w'.heap.size w' w2 := (Below.refl _ _).drew.trans (hbel1.trans (hbel2.mono hsz))
    refine hK _ _ trivial ?_
    clear hK K hrow1 hrow2 hbel1 hbel2 hd1 hd2 hd3 hb1 hb2
    refine wpAnyH_take (i := 9) (v := v1) rfl (by kernel_rfl) (by kernel_rfl) (by kernel_rfl) (fun _ _ _ h => h) (.inl ⟨by kernel_rfl, ?_⟩) trivial ?_
    · rintro w -; go_simp
    refine wpAnyH_take (i := 10) (v := v2) rfl (by kernel_rfl) (by kernel_rfl) (by kernel_rfl) (fun _ _ _ h => h) (.inl ⟨by kernel_rfl, ?_⟩) trivial ?_
    · rintro w -; go_simp
    refine wpAnyH_take (i := 11) (v := .bool true) rfl (by kernel_rfl) (by kernel_rfl) (by kernel_rfl) (fun _ _ _ h => h) (.inl ⟨by kernel_rfl, ?_⟩) trivial ?_
    · rintro w -; go_simp
    refine pdone (by kernel_rfl) ?_ _
    go_wp2
    go_ret3
    exact ⟨v1, v2, rfl, hrow1', hrow2', hfin⟩
  · have hk : Lib.indexByte l b = -1 := by omega
    obtain ⟨e1, e2, e3⟩ := at_none b l hk
    rw [hk] at hix
    rw [e1, e2, e3, hl]
    clear e1 e2 e3 h0 hge hk hlt
    go_enter Try.func31, Try.ntmps31
    go_wp2_with fail
    refine hix.mono ?_
    rintro e w' ⟨rfl, hw⟩
    subst hw
    go_wp2_with fail
    refine (Clone_any q n c l _ hl (by omega) h).mono ?_
    rintro e w1 ⟨v1, rfl, hrow1, hbel1⟩
    go_wp2
    go_ret3
    exact ⟨v1, _, rfl, hrow1, World.ownsRow_nil _ _ _ _, hbel1⟩

end Go.Proofs.Ytcahakelihigdaa
