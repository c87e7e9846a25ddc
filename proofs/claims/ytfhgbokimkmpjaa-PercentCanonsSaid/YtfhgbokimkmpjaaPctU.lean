/- The document's own Items: what a text stands for, byte by byte. Conditions: a text is of at most 2^38 bytes. -/
import Derived.Test.YtfhgbokimkmpjaaPctT
namespace Go.Proofs.Ytfhgbokimkmpjaa.Pct
open Go.RowKit Go.Shelf

theorem info_item : (Try.prog.info? 47).map (fun i => (i.zero, i.size, i.bytes)) = some (some (.agg #[.int .u8 0, .bool false]), 2, 2) := by kernel_rfl
/-- Items as they lie. -/
def itV (m : List (UInt8 × Bool)) : List Value := m.flatMap fun x => [.int .u8 (x.1.toNat : Int), .bool x.2]
theorem itV_snoc (m : List (UInt8 × Bool)) (b : UInt8) (c : Bool) : itV (m ++ [(b, c)]) = itV m ++ [.int .u8 (b.toNat : Int), .bool c] := by
  unfold itV; rw [List.flatMap_append]; rfl
theorem cell_two_new (w : World) (x y : Value) (t : TypeId) : ∀ j u, [x, y][j]? = some u → (w.alloc (.cells #[x, y] t)).cell? ((⟨w.heap.size, 0, none⟩ : Addr).add j) = some u := by
  intro j u hj
  rw [Go.WideShapes.add_plain]
  have hn : (w.alloc (.cells #[x, y] t)).heap[w.heap.size]? = some (.cells #[x, y] t) := World.alloc_heap_new w _
  simp only [World.cell?, hn, Nat.zero_add]
  simpa using hj

/-- Items' answer. -/
def ItemsPost (o : Option (List (UInt8 × Bool))) (w : World) (e : Ending) (w' : World) : Prop :=
  ∃ v, e = .returned (.tuple #[v, .bool o.isSome]) ∧ w'.ownsRow w.heap.size 47 2 v (o.getD []).length (itV (o.getD [])) ∧ Below w.heap.size w w'
theorem post_none {o : Option (List (UInt8 × Bool))} {w w' : World} (ho : o = none) (hb : Below w.heap.size w w') : ItemsPost o w (.returned (.tuple #[.slice none 0 0, .bool false])) w' := by
  subst ho
  exact ⟨_, rfl, World.ownsRow_nil _ _ _ _, hb⟩
theorem post_some {o : Option (List (UInt8 × Bool))} {m : List (UInt8 × Bool)} {v : Value} {w w' : World} (ho : o = some m) (hr : w'.ownsRow w.heap.size 47 2 v m.length (itV m)) (hb : Below w.heap.size w w') : ItemsPost o w (.returned (.tuple #[v, .bool true])) w' := by
  subst ho
  exact ⟨_, rfl, hr, hb⟩

theorem map_snoc (o : Option (List (UInt8 × Bool))) (pre : List (UInt8 × Bool)) (x : UInt8 × Bool) : (o.map (x :: ·)).map (pre ++ ·) = o.map ((pre ++ [x]) ++ ·) := by
  cases o <;> simp

theorem dig2_short (r : List UInt8) (hl : r.length < 2) : dig2 r = false := by
  match r, hl with
  | [], _ => rfl
  | [_], _ => rfl
theorem ext_two (s : ByteArray) (k : Nat) (h : k + 2 ≤ s.size) : (s.extract k (k + 2)).data.toList = [s.data.toList.getD k 0, s.data.toList.getD (k + 1) 0] := by
  have h1 := drop_cons s.data.toList k (by rw [ba_len]; omega)
  have h2 := drop_cons s.data.toList (k + 1) (by rw [ba_len]; omega)
  simp only [ByteArray.data_extract, Array.toList_extract, List.extract_eq_take_drop]
  rw [show k + 2 - k = 2 from by omega, h1, h2]
  rfl

set_option maxRecDepth 100000 in
set_option maxHeartbeats 4000000 in
theorem Items_any (s : ByteArray) (w : World) (hs : s.size ≤ 274877906944) :
    Calls Try.prog 20 #[.string s] w fun e w' => ItemsPost (itemsL s.data.toList) w e w' := by
  obtain ⟨i0, hi0, hz0, hz1, hz2⟩ := info_parts info_item
  have hmade : (w.alloc (.cells #[] 47)).ownsRow w.heap.size 47 2 (.slice (some ⟨w.heap.size, 0, none⟩) 0 0) 0 [] := World.ownsRow_made w #[] 0 (Nat.le_refl _) (Nat.zero_le _) rfl
  have hB0 := below_alloc (w := w) (.cells #[] 47)
  go_enter Try.func20, Try.ntmps20
  go_wp2
  go_loopw [4, 5] (fun v i wr => ∃ k : Nat, ∃ pre : List (UInt8 × Bool), k ≤ s.size ∧ pre.length ≤ k ∧ i = .int .i64 k ∧ Below w.heap.size w wr ∧ wr.ownsRow w.heap.size 47 2 v pre.length (itV pre) ∧ Hid (itemsL s.data.toList = (itemsL (s.data.toList.drop k)).map (pre ++ ·))) (fun _ i _ => s.size - (intOf i).toNat)
  case atStart => exact ⟨0, [], Nat.zero_le _, Nat.zero_le _, rfl, hB0, hmade, by rw [List.drop_zero]; cases itemsL s.data.toList <;> rfl⟩
  case round =>
    obtain ⟨k, pre, hk, hpk, rfl, hbr, hown, HR⟩ := hrel
    clear hmade hB0
    have hbs := hbr.size
    by_cases hlt : k < s.size
    · have hck := u8_lt s[k]
      have hd := drop_cons s.data.toList k (by rw [ba_len]; exact hlt)
      rw [← ba_get s k hlt] at hd
      by_cases he : s[k] = 37
      · have e1 : ((s[k].toNat : Int) != 37) = false := by rw [he]; rfl
        rw [he] at hd
        by_cases h3 : k + 3 ≤ s.size
        · have hd1 := drop_cons s.data.toList (k + 1) (by rw [ba_len]; omega)
          have hd2 := drop_cons s.data.toList (k + 1 + 1) (by rw [ba_len]; omega)
          have hx2 := ext_two s (k + 1) (by omega)
          obtain ⟨x, hx⟩ : ∃ x, x = s.data.toList.getD (k + 1) 0 := ⟨_, rfl⟩
          obtain ⟨y, hy⟩ : ∃ y, y = s.data.toList.getD (k + 1 + 1) 0 := ⟨_, rfl⟩
          rw [← hx] at hd1 hx2
          rw [← hy] at hd2 hx2
          rw [hd1, hd2] at hd
          have con := fun W => value_any (s.extract (k + 1) (k + 3)) x y W hx2
          have d3 : decide ((s.size : Int) - (k : Int) < 3) = false := by simp; omega
          by_cases hh : hexB x = true ∧ hexB y = true
          · have H := Lib.hid (show itemsL s.data.toList = (itemsL (s.data.toList.drop (k + 1 + 1 + 1))).map ((pre ++ [(pairV x y, true)]) ++ ·) by rw [HR.out, hd, items_coded _ _ _ hh.1 hh.2, map_snoc])
            have hv : valI x y = ((pairV x y).toNat : Int) := by unfold valI; rw [hh.1, hh.2]; rfl
            rw [hv] at con
            have hpv := u8_lt (pairV x y)
            generalize pairV x y = pv at *
            have d4 : decide ((pv.toNat : Int) < 0) = false := by simp
            clear hd1 hd2 hx2 hx hy hh hv hd HR he
            go_wp2_with fail
            refine (con _).mono ?_
            rintro e w2 ⟨rfl, q2, rfl⟩
            go_wp2_with fail
            refine (con _).mono ?_
            rintro e w3 ⟨rfl, q3, rfl⟩
            have hown3 : ((wr.drewN q2).drewN q3).ownsRow w.heap.size 47 2 _ pre.length (itV pre) := hown
            have hbr3 : Below w.heap.size w ((wr.drewN q2).drewN q3) := hbr.trans ⟨rfl, rfl, rfl, Nat.le_refl _, fun _ _ => rfl⟩
            have hbs3 : w.heap.size ≤ ((wr.drewN q2).drewN q3).heap.size := hbs
            generalize (wr.drewN q2).drewN q3 = w3 at *
            clear con hown hbr hbs
            go_wp2_with (at_builtin; refine wpList_append_own_at _ rfl _ _ 43 rfl w.heap.size 47 i0 (.agg #[.int .u8 0, .bool false]) 2 2 Try.underlying43 hi0 hz0 hz1 hz2 rfl (by decide) _ pre.length (itV pre) rfl (hown3.alloc _) ⟨w3.heap.size, 0, none⟩ 1 1 [.int .u8 (pv.toNat : Int), .bool true] rfl rfl (cell_two_new _ _ _ _) (by simp [Value.oneCell']) (by unfold maxLen; omega) (by omega) (by simp; omega) ?_; intro v' w1 hown' hgrow _ hat)
            go_roundw
            case rel => exact ⟨k + 3, pre ++ [(pv, true)], by omega, by simp; omega, by go_num, hbr3.trans ((((below_alloc _).mono hbs3).trans ((Below.refl _ _).grown hgrow (by simp; omega) (fun b hb => (hown3.lt b hb).1)))), by rw [itV_snoc]; simpa using hown', H⟩
            case measure => simp [intOf]; omega
          · have H := Lib.hid (show itemsL s.data.toList = none by
              rw [HR.out, hd, items_bad]; rfl
              show (hexB x && hexB y) = false
              cases h1 : hexB x with
              | false => rfl
              | true => cases h2 : hexB y with
                | false => rfl
                | true => exact absurd ⟨h1, h2⟩ hh)
            have hv : valI x y = -1 := by
              unfold valI
              rw [if_neg]
              rw [Bool.and_eq_true]; exact hh
            rw [hv] at con
            clear hd1 hd2 hx2 hx hy hh hv hd HR he
            go_wp2_with fail
            refine (con _).mono ?_
            rintro e w2 ⟨rfl, q2, rfl⟩
            clear con
            go_wp2
            go_ret2
            exact post_none H.out (hbr.trans ⟨rfl, rfl, rfl, Nat.le_refl _, fun _ _ => rfl⟩)
        · have d3 : decide ((s.size : Int) - (k : Int) < 3) = true := by simp; omega
          have H := Lib.hid (show itemsL s.data.toList = none by
            rw [HR.out, hd, items_bad]; rfl
            exact dig2_short _ (by rw [List.length_drop, ba_len]; omega))
          clear hd HR he
          go_wp2
          go_ret2
          exact post_none H.out hbr
      · have e1 : ((s[k].toNat : Int) != 37) = true := by
          rw [bne_iff_ne]; intro h; exact he (UInt8.toNat_inj.1 (by have : (37 : UInt8).toNat = 37 := rfl; omega))
        have H := Lib.hid (show itemsL s.data.toList = (itemsL (s.data.toList.drop (k + 1))).map ((pre ++ [(s[k], false)]) ++ ·) by rw [HR.out, hd, items_as _ _ he, map_snoc])
        clear hd he HR
        go_wp2_with (at_builtin; refine wpList_append_own_at _ rfl _ _ 43 rfl w.heap.size 47 i0 (.agg #[.int .u8 0, .bool false]) 2 2 Try.underlying43 hi0 hz0 hz1 hz2 rfl (by decide) _ pre.length (itV pre) rfl (hown.alloc _) ⟨wr.heap.size, 0, none⟩ 1 1 [.int .u8 (s[k].toNat : Int), .bool false] rfl rfl (cell_two_new _ _ _ _) (by simp [Value.oneCell']) (by unfold maxLen; omega) (by omega) (by simp; omega) ?_; intro v' w1 hown' hgrow _ hat)
        go_roundw
        case rel => exact ⟨k + 1, pre ++ [(s[k], false)], by omega, by simp; omega, by go_num, hbr.trans ((((below_alloc _).mono hbs).trans ((Below.refl _ _).grown hgrow (by simp; omega) (fun b hb => (hown.lt b hb).1)))), by rw [itV_snoc]; simpa using hown', H⟩
        case measure => simp [intOf]; omega
    · have H := Lib.hid (show itemsL s.data.toList = some pre by rw [HR.out, List.drop_of_length_le (by rw [ba_len]; omega)]; simp [items_nil])
      clear HR
      go_wp2
      go_ret2
      exact post_some H.out hown hbr

end Go.Proofs.Ytfhgbokimkmpjaa.Pct
