/- percent.Encode. Conditions: a text is of at most 2^40 bytes. -/
import Derived.Test.YtfhgbokimkmpjaaPctC
namespace Go.Proofs.Ytfhgbokimkmpjaa.Pct
open Go.RowKit Go.Shelf

theorem enc_snoc (p : Int) (l : List UInt8) (k : Nat) (h : k < l.length) : encL p (l.take (k + 1)) = encL p (l.take k) ++ putL (standsB p (l.getD k 0)) (l.getD k 0) := by
  rw [List.take_succ_eq_append_getElem h]
  unfold encL
  rw [List.flatMap_append]
  congr 1
  simp [List.getD, List.getElem?_eq_getElem h]
theorem bytes_below {B : Nat} {w w' : World} {q : Option Addr} {n : Nat} {xs : List Int} (h : Lib.BytesIn w q n xs) (hk : Below B w w') (hq : ∀ a, q = some a → 0 < n → a.block < B) : Lib.BytesIn w' q n xs := fun h0 => by
  obtain ⟨b, o, rfl, hc⟩ := h.at h0
  exact ⟨b, o, rfl, fun i hi => (hk.cell (p := ⟨b, o + i, none⟩) (hq ⟨b, o, none⟩ rfl h0)).trans (hc i hi)⟩
theorem bytes_lt {w : World} {q : Option Addr} {n : Nat} {xs : List Int} (h : Lib.BytesIn w q n xs) : ∀ a, q = some a → 0 < n → a.block < w.heap.size := fun a ha h0 => by
  obtain ⟨b, o, rfl, hc⟩ := h.at h0
  cases ha
  exact World.block_lt_of_cell? w _ (hc 0 h0)
theorem below_alloc {w : World} (o : Obj) : Below w.heap.size w (w.alloc o) := (Below.refl _ _).alloc (Nat.le_refl _) _
theorem Grown.below {base : Nat} {w w' : World} {v v' : Value} (h : Grown w v w' v') (hv : ∀ b, v.ownBlock = some b → base ≤ b) (hb : base ≤ w.heap.size) : Below base w w' :=
  (h.1 (· < base) (fun b hb' h => by have := hv b hb'; omega)).below hb

set_option maxRecDepth 100000 in
set_option maxHeartbeats 2000000 in
theorem Encode_any (q : Option Addr) (n c : Nat) (l : List UInt8) (p : Int) (w : World) (hl : l.length = n) (hn : n ≤ 1099511627776) (hb : Lib.BytesIn w q n (Lib.numsL l)) :
    Calls Try.prog 8 #[.slice q n c, .int .i64 p] w fun e w' => ∃ v', e = .returned v' ∧ w'.ownsRow w.heap.size 5 1 v' (encL p l).length (byV (encL p l)) ∧ Below w.heap.size w w' := by
  obtain ⟨i0, hi0, hz0, hz1, hz2⟩ := info_parts info_u8
  have HL := Lib.hid hl
  clear hl
  go_enter Try.func8, Try.ntmps8
  go_wp2_with (at_make; refine wpList_make_own _ rfl _ _ 22 rfl w.heap.size 5 i0 (.int .u8 0) 1 Try.underlying22 hi0 hz0 hz1 .i64 .i64 _ n rfl rfl rfl (by rw [hz2]; omega) (by unfold maxLen; omega) (Nat.le_refl _) ?_; intro w1 hown hgrow)
  have hbel : Below w.heap.size w w1 := (Below.refl _ _).grown hgrow (Nat.le_refl _) (fun _ h => by cases h)
  clear hgrow
  go_loopw [5, 13] (fun v i wr => ∃ k : Nat, k ≤ n ∧ i = .int .i64 k ∧ Below w.heap.size w wr ∧ wr.ownsRow w.heap.size 5 1 v (encL p (l.take k)).length (byV (encL p (l.take k)))) (fun _ i _ => n - (intOf i).toNat)
  case atStart => exact ⟨0, Nat.zero_le _, rfl, hbel, by simpa [encL, byV, Lib.numsL] using hown⟩
  case round =>
    obtain ⟨k, hk, rfl, hbr, hown2⟩ := hrel
    clear hown
    by_cases hlt : k < n
    · have hbw := bytes_below hb hbr (bytes_lt hb)
      obtain ⟨b, o, rfl, hc⟩ := hbw.at (by omega)
      have hck : _ := hc k hlt
      rw [numsL_getD l k (by rw [HL.out]; exact hlt)] at hck
      have con1 := stands_any (l.getD k 0) p
      have hlen : (encL p (l.take k)).length ≤ 70368744177664 := by
        have h1 := enc_len p (l.take k)
        have h2 := List.length_take_le k l
        omega
      have con2 := fun s => appendByte_any w.heap.size _ (encL p (l.take k)) (l.getD k 0) s _ hown2 hbr.size hlen
      have HS := Lib.hid (enc_snoc p l k (by rw [HL.out]; exact hlt))
      have hge := fun b hb => (hown2.lt b hb).1
      have hbs := hbr.size
      generalize l.getD k 0 = bk at *
      clear hc hb hbw hown2 hlen
      go_wp2_with fail
      refine (con1 _).mono ?_
      rintro e w' ⟨rfl, rfl⟩
      go_wp2_with fail
      refine (con2 _).mono ?_
      rintro e w' ⟨v', rfl, hr, hG⟩
      rw [← HS.out] at hr
      clear con1 con2
      go_wp2
      go_roundw
      case rel => exact ⟨k + 1, by omega, by go_num, hbr.trans (hG.below hge hbs), hr⟩
      case measure => simp [intOf]; omega
    · have H := Lib.hid (show l.take k = l from List.take_of_length_le (by rw [HL.out]; omega))
      rw [H.out] at hown2
      clear hb
      go_wp2
      go_ret
      exact ⟨_, rfl, hown2, hbr⟩

end Go.Proofs.Ytfhgbokimkmpjaa.Pct
