/- The document's own Decode and Canon. Conditions: a text is of at most 2^38 bytes. -/
import Derived.Test.YtfhgbokimkmpjaaPctU
import Derived.Shelf.Bytes.SlEqualAll
namespace Go.Proofs.Ytfhgbokimkmpjaa.Pct
open Go.RowKit Go.Shelf

theorem strOfNums_numsL (x : List UInt8) : strOfNums (Lib.numsL x) = ⟨x.toArray⟩ := by
  unfold strOfNums
  rw [show (Lib.numsL x).map (fun n => UInt8.ofNat n.toNat) = x from Lib.bytesOf_numsL x]
theorem conv_bytes {W : World} {q : Option Addr} {n c : Nat} {l : List UInt8} (h : Lib.BytesIn W q n (Lib.numsL l)) (hl : l.length = n) : (convert 22 9 (.slice q n c)).run Try.prog W = .ok (.string ⟨l.toArray⟩) W := by
  have h := h.convert (P := Try.prog) (by rw [Lib.numsL_length, hl]) c 22 5 9 Try.underlying22 Try.underlying5 Try.underlying9
  rwa [strOfNums_numsL] at h

/-- Items, as they lie. -/
def ItIn (W : World) (q : Option Addr) (n : Nat) (m : List (UInt8 × Bool)) : Prop :=
  m.length = n ∧ (0 < n → ∃ g, q = some ⟨g, 0, none⟩ ∧ g < W.heap.size ∧ ∀ i x, m[i]? = some x → W.cell? ⟨g, i * 2, none⟩ = some (.int .u8 (x.1.toNat : Int)) ∧ W.cell? ⟨g, i * 2 + 1, none⟩ = some (.bool x.2))
theorem itV_get : ∀ (m : List (UInt8 × Bool)) (i : Nat) (x : UInt8 × Bool), m[i]? = some x → (itV m)[i * 2]? = some (.int .u8 (x.1.toNat : Int)) ∧ (itV m)[i * 2 + 1]? = some (.bool x.2)
  | [], i, x, h => by simp at h
  | y :: r, 0, x, h => by
    simp at h; subst h
    exact ⟨rfl, rfl⟩
  | y :: r, i + 1, x, h => by
    have h' : r[i]? = some x := by simpa using h
    obtain ⟨h1, h2⟩ := itV_get r i x h'
    have hv : itV (y :: r) = .int .u8 (y.1.toNat : Int) :: .bool y.2 :: itV r := rfl
    rw [hv, show (i + 1) * 2 = i * 2 + 1 + 1 from by omega]
    exact ⟨by simpa using h1, by simpa using h2⟩
theorem itV_len (m : List (UInt8 × Bool)) : (itV m).length = m.length * 2 := by
  induction m with
  | nil => rfl
  | cons y r ih => 
    have hv : itV (y :: r) = .int .u8 (y.1.toNat : Int) :: .bool y.2 :: itV r := rfl
    rw [hv, List.length_cons, List.length_cons, ih, List.length_cons]; omega
theorem item_open {W : World} {base : Nat} {v : Value} {m : List (UInt8 × Bool)} (h : W.ownsRow base 47 2 v m.length (itV m)) :
    ∃ q c, v = .slice q m.length c ∧ m.length ≤ c ∧ ItIn W q m.length m := by
  rcases h.2 with ⟨rfl, hm⟩ | ⟨g, cap, cur, rfl, hb, hg, h1, h2, h3, h4⟩
  · have hz : m.length = 0 := by assumption
    rw [hz]
    exact ⟨none, 0, rfl, Nat.le_refl _, hz, fun h => absurd h (by omega)⟩
  · refine ⟨some ⟨g, 0, none⟩, cap, rfl, h1, rfl, fun _ => ⟨g, rfl, (Array.getElem?_eq_some_iff.1 hg).1, fun i x hx => ?_⟩⟩
    have hi : i < m.length := (List.getElem?_eq_some_iff.1 hx).1
    obtain ⟨e1, e2⟩ := itV_get m i x hx
    have hc : ∀ j u, j < m.length * 2 → (itV m)[j]? = some u → cur[j]? = some u := fun j u hj hu => by
      rw [← h4, List.getElem?_take, if_pos hj] at hu
      simpa using hu
    simp only [World.cell?, hg]
    exact ⟨hc _ _ (by omega) e1, hc _ _ (by omega) e2⟩
theorem ItIn.keep {S : Nat → Prop} {w w' : World} {q : Option Addr} {n : Nat} {m : List (UInt8 × Bool)} (h : ItIn w q n m) (hk : Keep S w w') (hS : ∀ g, g < w.heap.size → S g) : ItIn w' q n m := by
  refine ⟨h.1, fun h0 => ?_⟩
  obtain ⟨g, hq, hg, hc⟩ := h.2 h0
  have hb := hk.block g hg (hS g hg)
  have hcell : ∀ j, w'.cell? ⟨g, j, none⟩ = w.cell? ⟨g, j, none⟩ := fun j => by simp only [World.cell?, hb]
  exact ⟨g, hq, Nat.lt_of_lt_of_le hg hk.size, fun i x hx => by rw [hcell, hcell]; exact hc i x hx⟩
theorem ItIn.below {w w' : World} {q : Option Addr} {n : Nat} {m : List (UInt8 × Bool)} (h : ItIn w q n m) (hk : Below w.heap.size w w') : ItIn w' q n m :=
  h.keep (Keep.of_below hk) (fun _ h => h)

theorem dec_snoc (m : List (UInt8 × Bool)) (k : Nat) (x : UInt8 × Bool) (h : m[k]? = some x) : decL (m.take (k + 1)) = decL (m.take k) ++ [x.1] := by
  obtain ⟨hk, hx⟩ := List.getElem?_eq_some_iff.1 h
  rw [List.take_succ_eq_append_getElem hk, hx]
  simp [decL]
theorem cell_one_at (w : World) (x : Value) (t : TypeId) (n : Nat) (hn : n = w.heap.size) : ∀ j u, [x][j]? = some u → (w.alloc (.cells #[x] t)).cell? ((⟨n, 0, none⟩ : Addr).add j) = some u := by
  subst hn; exact cell_one_new w x t

set_option maxRecDepth 100000 in
set_option maxHeartbeats 4000000 in
theorem refDecode_any (s : ByteArray) (w : World) (hs : s.size ≤ 274877906944) :
    Calls Try.prog 11 #[.string s] w fun e w' => ∃ x : ByteArray, e = .returned (.tuple #[.string x, .bool (itemsL s.data.toList).isSome]) ∧ Hid (x.data.toList = decL ((itemsL s.data.toList).getD [])) ∧ Below w.heap.size w w' := by
  obtain ⟨i0, hi0, hz0, hz1, hz2⟩ := info_parts info_u8
  have con := Items_any s w hs
  have hml : ((itemsL s.data.toList).getD []).length ≤ 274877906944 := by
    cases h : itemsL s.data.toList with
    | none => simp
    | some m => have := items_len _ _ h; rw [ba_len] at this; simp; omega
  obtain ⟨m, HM⟩ : ∃ m, Hid ((itemsL s.data.toList).getD [] = m) := ⟨_, rfl⟩
  rw [HM.out] at hml
  go_enter Try.func11, Try.ntmps11
  go_wp2_with fail
  refine con.mono ?_
  rintro e w1 ⟨v, rfl, hr, hb1⟩
  rw [HM.out] at hr
  obtain ⟨q, c, rfl, hnc, hit⟩ := item_open hr
  have hs1 := hb1.size
  have hmade : (w1.alloc (.cells #[] 5)).ownsRow w1.heap.size 5 1 (.slice (some ⟨w1.heap.size, 0, none⟩) 0 0) 0 [] := World.ownsRow_made w1 #[] 0 (Nat.le_refl _) (Nat.zero_le _) rfl
  have hB0 := below_alloc (w := w1) (.cells #[] 5)
  clear con hr
  go_wp2
  go_loopw [6, 17] (fun b i wr => ∃ k : Nat, k ≤ m.length ∧ i = .int .i64 k ∧ Below w1.heap.size w1 wr ∧ wr.ownsRow w1.heap.size 5 1 b k (byV (decL (m.take k)))) (fun _ i _ => m.length - (intOf i).toNat)
  case atStart => exact ⟨0, Nat.zero_le _, rfl, hB0, hmade⟩
  case round =>
    obtain ⟨k, hk, rfl, hbr, hown⟩ := hrel
    clear hmade hB0
    by_cases hlt : k < m.length
    · have hbs := hbr.size
      obtain ⟨g, rfl, hg, hc⟩ := (hit.below hbr).2 (by omega)
      obtain ⟨x, hx⟩ : ∃ x, m[k]? = some x := ⟨_, List.getElem?_eq_getElem hlt⟩
      obtain ⟨hc1, hc2⟩ := hc k x hx
      have HS := Lib.hid (dec_snoc m k x hx)
      obtain ⟨b, cd⟩ := x
      clear hc hx
      go_wp2_with (at_builtin; go_loud (refine wpList_append_own_at _ rfl _ _ 22 rfl w1.heap.size 5 i0 (.int .u8 0) 1 1 Try.underlying22 hi0 hz0 hz1 hz2 rfl (by decide) _ k (byV (decL (m.take k))) rfl ((hown.alloc _).alloc _) ⟨wr.heap.size + 1, 0, none⟩ 1 1 [.int .u8 (b.toNat : Int)] rfl rfl (cell_one_at _ _ _ _ (by simp)) (by simp [Value.oneCell']) (by unfold maxLen; omega) (by omega) (by simp; omega) ?_); intro v' w2 hown' hgrow _ hat)
      go_roundw
      case rel => exact ⟨k + 1, by omega, by go_num, hbr.trans ((((below_alloc _).mono hbs).trans ((below_alloc _).mono (by simp; omega))).trans ((Below.refl _ _).grown hgrow (by simp; omega) (fun b hb => (hown.lt b hb).1))), by rw [HS.out, byV_app]; exact hown'⟩
      case measure => simp [intOf]; omega
    · have hkn : k = m.length := by omega
      have H := Lib.hid (show m.take k = m from List.take_of_length_le (by omega))
      rw [H.out, hkn] at hown
      have hbs := hbr.size
      obtain ⟨q2, c2, rfl, hll, hlc, _, hby, _⟩ := row_open hown
      have hcv := conv_bytes (c := c2) hby hll
      clear hkn hown hby
      go_wp2
      go_ret2
      exact ⟨⟨(decL m).toArray⟩, rfl, Lib.hid (by rw [HM.out]), hb1.trans (hbr.mono hs1)⟩

end Go.Proofs.Ytfhgbokimkmpjaa.Pct
