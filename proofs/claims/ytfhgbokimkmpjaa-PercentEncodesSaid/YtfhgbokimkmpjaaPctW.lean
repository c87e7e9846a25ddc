/- The document's own Canon. Conditions: a text is of at most 2^38 bytes. -/
import Derived.Test.YtfhgbokimkmpjaaPctV
namespace Go.Proofs.Ytfhgbokimkmpjaa.Pct
open Go.RowKit Go.Shelf

theorem can_snoc (p : Int) (m : List (UInt8 × Bool)) (k : Nat) (x : UInt8 × Bool) (h : m[k]? = some x) : canL p (m.take (k + 1)) = canL p (m.take k) ++ putL (canB p x) x.1 := by
  obtain ⟨hk, hx⟩ := List.getElem?_eq_some_iff.1 h
  rw [List.take_succ_eq_append_getElem hk, hx]
  unfold canL
  rw [List.flatMap_append]
  congr 1
  simp
theorem bytes_lit {w : World} (cs : Array Value) (l : List UInt8) (fr : Nat × Nat) (h : cs.toList = (Lib.numsL l).map (Value.int .u8)) : Lib.BytesIn (w.alloc (.cells cs 5 fr)) (some ⟨w.heap.size, 0, none⟩) l.length (Lib.numsL l) := fun _ =>
  ⟨_, _, rfl, fun i hi => by
    have hi' : i < (Lib.numsL l).length := by rw [Lib.numsL_length]; exact hi
    rw [Nat.zero_add, World.cell?_alloc_mark, ← Array.getElem?_toList, h]
    simp [List.getElem?_eq_getElem hi', List.getD]⟩
theorem conv_one (W : World) (b : UInt8) (n : Nat) (hn : n = W.heap.size) : (convert 22 9 (.slice (some ⟨n, 0, none⟩) 1 1)).run Try.prog (W.alloc (.cells #[.int .u8 (b.toNat : Int)] 5)) = .ok (.string ⟨#[b]⟩) (W.alloc (.cells #[.int .u8 (b.toNat : Int)] 5)) := by
  subst hn
  exact conv_bytes (bytes_lit (w := W) #[.int .u8 (b.toNat : Int)] [b] (0, 0) rfl) rfl
theorem putT_app (x : ByteArray) (b : UInt8) : (x ++ ⟨#[b]⟩).data.toList = x.data.toList ++ putL true b := by
  rw [ByteArray.data_append, Array.toList_append]; rfl

set_option maxRecDepth 100000 in
set_option maxHeartbeats 8000000 in
theorem refCanon_any (s : ByteArray) (p : Int) (w : World) (hs : s.size ≤ 274877906944) :
    Calls Try.prog 13 #[.string s, .int .i64 p] w fun e w' => ∃ x : ByteArray, e = .returned (.tuple #[.string x, .bool (itemsL s.data.toList).isSome]) ∧ Hid (x.data.toList = canL p ((itemsL s.data.toList).getD [])) ∧ Below w.heap.size w w' := by
  have con := Items_any s w hs
  have hml : ((itemsL s.data.toList).getD []).length ≤ 274877906944 := by
    cases h : itemsL s.data.toList with
    | none => simp
    | some m => have := items_len _ _ h; rw [ba_len] at this; simp; omega
  obtain ⟨m, HM⟩ : ∃ m, Hid ((itemsL s.data.toList).getD [] = m) := ⟨_, rfl⟩
  rw [HM.out] at hml
  go_enter Try.func13, Try.ntmps13
  go_wp2_with fail
  refine con.mono ?_
  rintro e w1 ⟨v, rfl, hr, hb1⟩
  rw [HM.out] at hr
  obtain ⟨q, c, rfl, hnc, hit⟩ := item_open hr
  have hs1 := hb1.size
  clear con hr
  go_wp2
  go_loopw [8, 18] (fun o i wr => ∃ k : Nat, ∃ x : ByteArray, k ≤ m.length ∧ i = .int .i64 k ∧ o = .string x ∧ Hid (x.data.toList = canL p (m.take k)) ∧ Below w1.heap.size w1 wr) (fun _ i _ => m.length - (intOf i).toNat)
  case atStart => exact ⟨0, ⟨#[]⟩, Nat.zero_le _, rfl, rfl, rfl, Below.refl _ _⟩
  case round =>
    obtain ⟨k, x, hk, rfl, rfl, HR, hbr⟩ := hrel
    by_cases hlt : k < m.length
    · have hbs := hbr.size
      obtain ⟨g, rfl, hg, hc⟩ := (hit.below hbr).2 (by omega)
      obtain ⟨y, hy⟩ : ∃ y, m[k]? = some y := ⟨_, List.getElem?_eq_getElem hlt⟩
      obtain ⟨hc1, hc2⟩ := hc k y hy
      have hxs : x.size ≤ 3 * k := by
        rw [← ba_len, HR.out]
        have h1 := can_len p (m.take k)
        have h2 := List.length_take_le k m
        omega
      have hst := can_snoc p m k y hy
      rw [← HR.out] at hst
      obtain ⟨b, cd⟩ := y
      simp only at hst hc1 hc2
      have hbt := u8_lt b
      have hB2 : Below w1.heap.size w1 (wr.alloc (.cells #[.int .u8 (b.toNat : Int), .bool cd] 47)) := hbr.trans ((below_alloc _).mono hbs)
      have c1 := Free_any b
      have c2 := Stands_any b p
      have c3 := fun W => Hex_any b.toNat W hbt
      have hcv := conv_one (wr.alloc (.cells #[.int .u8 (b.toNat : Int), .bool cd] 47)) b (wr.heap.size + 1) (by simp)
      obtain ⟨z1, H1⟩ : ∃ z, Hid (freeB b = z) := ⟨_, rfl⟩
      obtain ⟨z2, H2⟩ : ∃ z, Hid (standsB p b = z) := ⟨_, rfl⟩
      rw [H1.out] at c1
      rw [H2.out] at c2
      have hcb : canB p (b, cd) = (z1 || (!cd && z2)) := by unfold canB; rw [H1.out, H2.out]
      rw [hcb] at hst
      have h12 : z1 = true → z2 = true := fun h => by rw [← H2.out]; exact stands_free p b (by rw [H1.out]; exact h)
      have T := Lib.hid (putT_app x b)
      have F := fun h hh => putF_app x h b hh
      clear hc hy hcb H1 H2 hit
      cases cd
      · cases z2
        · have hz1 : z1 = false := by cases z1; rfl; exact absurd (h12 rfl) (by simp)
          subst hz1
          have HS := Lib.hid hst
          clear hst h12 c1 hcv
          go_wp2_with fail
          refine (c2 _).mono ?_
          rintro e w' ⟨rfl, rfl⟩
          go_wp2_with fail
          refine (c3 _).mono ?_
          rintro e w' ⟨h, rfl, HH, q1, rfl⟩
          have hh3 : h.size ≤ 2 := by rw [← ba_len, HH.out]; exact Nat.le_refl _
          have HB := Lib.hid (F h HH.out)
          clear F c2 c3
          go_wp2
          go_roundw
          case rel => exact ⟨k + 1, _, by omega, by go_num, rfl, Lib.hid (by rw [HS.out]; exact HB.out), hB2.trans ⟨rfl, rfl, rfl, Nat.le_refl _, fun _ _ => rfl⟩⟩
          case measure => simp [intOf]; omega
        · have HS := Lib.hid (show canL p (m.take (k + 1)) = x.data.toList ++ putL true b by rw [hst]; simp)
          clear hst h12 c1 c3 F
          go_wp2_with fail
          refine (c2 _).mono ?_
          rintro e w' ⟨rfl, rfl⟩
          clear c2
          go_wp2
          go_roundw
          case rel => exact ⟨k + 1, _, by omega, by go_num, rfl, Lib.hid (by rw [HS.out]; exact T.out), hB2.trans ((below_alloc _).mono (by simp; omega))⟩
          case measure => simp [intOf]; omega
      · cases z1
        · have HS := Lib.hid (show canL p (m.take (k + 1)) = x.data.toList ++ putL false b by rw [hst]; simp)
          clear hst h12 c2 hcv
          go_wp2_with fail
          refine (c1 _).mono ?_
          rintro e w' ⟨rfl, rfl⟩
          go_wp2_with fail
          refine (c3 _).mono ?_
          rintro e w' ⟨h, rfl, HH, q1, rfl⟩
          have hh3 : h.size ≤ 2 := by rw [← ba_len, HH.out]; exact Nat.le_refl _
          have HB := Lib.hid (F h HH.out)
          clear F c1 c3
          go_wp2
          go_roundw
          case rel => exact ⟨k + 1, _, by omega, by go_num, rfl, Lib.hid (by rw [HS.out]; exact HB.out), hB2.trans ⟨rfl, rfl, rfl, Nat.le_refl _, fun _ _ => rfl⟩⟩
          case measure => simp [intOf]; omega
        · have HS := Lib.hid (show canL p (m.take (k + 1)) = x.data.toList ++ putL true b by rw [hst]; simp)
          clear hst h12 c2 c3 F
          go_wp2_with fail
          refine (c1 _).mono ?_
          rintro e w' ⟨rfl, rfl⟩
          clear c1
          go_wp2
          go_roundw
          case rel => exact ⟨k + 1, _, by omega, by go_num, rfl, Lib.hid (by rw [HS.out]; exact T.out), hB2.trans ((below_alloc _).mono (by simp; omega))⟩
          case measure => simp [intOf]; omega
    · have H := Lib.hid (show x.data.toList = canL p m by rw [HR.out, List.take_of_length_le (by omega)])
      clear hit HR
      go_wp2
      go_ret2
      exact ⟨x, rfl, Lib.hid (by rw [HM.out]; exact H.out), hb1.trans (hbr.mono hs1)⟩

end Go.Proofs.Ytfhgbokimkmpjaa.Pct
