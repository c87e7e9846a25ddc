/- Bytes as a percent sign and two digits, in plain words. Conditions: none. -/
import Derived.Lib.Hide
namespace Go.Proofs.Ytfhgbokimkmpjaa.Pct

theorem u8_lt (b : UInt8) : b.toNat < 256 := b.toNat_lt
/-- Each byte is one of 256. -/
theorem all_u8 {p : UInt8 → Prop} (h : ∀ i : Fin 256, p (UInt8.ofNat i.1)) (b : UInt8) : p b := by
  have h1 := h ⟨b.toNat, u8_lt b⟩
  rwa [UInt8.ofNat_toNat] at h1

def inB (b : UInt8) (l : List UInt8) : Bool := l.contains b
def decB (b : UInt8) : Bool := decide (48 ≤ b.toNat ∧ b.toNat ≤ 57)
def letB (b : UInt8) : Bool := decide ((65 ≤ b.toNat ∧ b.toNat ≤ 90) ∨ (97 ≤ b.toNat ∧ b.toNat ≤ 122))
def hexB (b : UInt8) : Bool := decide ((48 ≤ b.toNat ∧ b.toNat ≤ 57) ∨ (65 ≤ b.toNat ∧ b.toNat ≤ 70) ∨ (97 ≤ b.toNat ∧ b.toNat ≤ 102))
def freeM : List UInt8 := [45, 46, 95, 126]
def pathM : List UInt8 := [47, 58, 64, 33, 36, 38, 39, 40, 41, 42, 43, 44, 59, 61]
def queryM : List UInt8 := [47, 58, 64, 33, 36, 38, 39, 40, 41, 42, 43, 44, 59, 61, 63]
def freeB (b : UInt8) : Bool := letB b || decB b || inB b freeM
def marksM (p : Int) : List UInt8 := if p = 1 then pathM else if p = 2 then queryM else []
def standsB (p : Int) (b : UInt8) : Bool := freeB b || inB b (marksM p)
def digs : List UInt8 := [48, 49, 50, 51, 52, 53, 54, 55, 56, 57, 65, 66, 67, 68, 69, 70]
def dg (n : Nat) : UInt8 := digs.getD n 0
/-- A byte as it is, or as a percent sign and two digits. -/
def putL (s : Bool) (b : UInt8) : List UInt8 := if s then [b] else [37, dg (b.toNat / 16), dg (b.toNat % 16)]
def encL (p : Int) (l : List UInt8) : List UInt8 := l.flatMap fun b => putL (standsB p b) b
def worth (b : UInt8) : UInt8 := if decB b then b - 48 else if 97 ≤ b.toNat then b - 97 + 10 else b - 65 + 10
def pairV (x y : UInt8) : UInt8 := (worth x <<< 4) ||| worth y
/-- What a text stands for; each byte with whether it stood there encoded. -/
def itemsL : List UInt8 → Option (List (UInt8 × Bool))
  | [] => some []
  | b :: r => if b = 37 then (match r with
      | x :: y :: t => if hexB x && hexB y then (itemsL t).map ((pairV x y, true) :: ·) else none
      | _ => none) else (itemsL r).map ((b, false) :: ·)
def dig2 : List UInt8 → Bool
  | x :: y :: _ => hexB x && hexB y
  | _ => false
def wholeL : List UInt8 → Bool
  | [] => true
  | b :: r => (b != 37 || dig2 r) && wholeL r
def canB (p : Int) (x : UInt8 × Bool) : Bool := freeB x.1 || (!x.2 && standsB p x.1)
def canL (p : Int) (m : List (UInt8 × Bool)) : List UInt8 := m.flatMap fun x => putL (canB p x) x.1
def decL (m : List (UInt8 × Bool)) : List UInt8 := m.map Prod.fst

theorem items_nil : itemsL [] = some [] := rfl
theorem items_as (b : UInt8) (r : List UInt8) (h : b ≠ 37) : itemsL (b :: r) = (itemsL r).map ((b, false) :: ·) := by
  rw [itemsL.eq_def]; simp only [if_neg h]
theorem items_coded (x y : UInt8) (t : List UInt8) (h : hexB x = true) (h' : hexB y = true) : itemsL (37 :: x :: y :: t) = (itemsL t).map ((pairV x y, true) :: ·) := by
  rw [itemsL.eq_def]; simp [h, h']
theorem items_bad (r : List UInt8) (h : dig2 r = false) : itemsL (37 :: r) = none := by
  rw [itemsL.eq_def]
  match r with
  | [] => rfl
  | [_] => rfl
  | x :: y :: t => unfold dig2 at h; simp [h]

theorem dig2_cons (r : List UInt8) (h : dig2 r = true) : ∃ x y t, r = x :: y :: t ∧ hexB x = true ∧ hexB y = true := by
  match r, h with
  | x :: y :: t, h => unfold dig2 at h; rw [Bool.and_eq_true] at h; exact ⟨x, y, t, rfl, h.1, h.2⟩
theorem hex_sign : hexB 37 = false := by decide
theorem hex_ne (x : UInt8) (h : hexB x = true) : x ≠ 37 := by rintro rfl; rw [hex_sign] at h; cases h
theorem whole_cons (b : UInt8) (r : List UInt8) : wholeL (b :: r) = ((b != 37 || dig2 r) && wholeL r) := rfl
theorem whole_skip (x : UInt8) (t : List UInt8) (h : hexB x = true) : wholeL (x :: t) = wholeL t := by
  have := hex_ne x h
  rw [whole_cons]
  simp [this]

theorem whole_items : ∀ l : List UInt8, wholeL l = (itemsL l).isSome
  | [] => rfl
  | b :: r => by
    by_cases hb : b = 37
    · subst hb
      cases hd : dig2 r with
      | false => rw [items_bad r hd, whole_cons, hd]; rfl
      | true =>
        obtain ⟨x, y, t, rfl, hx, hy⟩ := dig2_cons r hd
        rw [items_coded x y t hx hy, Option.isSome_map, ← whole_items t]
        rw [whole_cons, hd, whole_skip x _ hx, whole_skip y _ hy]; simp
    · rw [items_as b r hb, Option.isSome_map, ← whole_items r, whole_cons]
      simp [hb]
  termination_by l => l.length

theorem whole_some (l : List UInt8) (h : wholeL l = true) : ∃ m, itemsL l = some m := by
  rw [whole_items] at h
  exact Option.isSome_iff_exists.1 h
theorem whole_none (l : List UInt8) (h : wholeL l = false) : itemsL l = none := by
  rw [whole_items] at h
  simpa using h

theorem free_sign : freeB 37 = false := by decide
theorem stands_sign (p : Int) : standsB p 37 = false := by
  unfold standsB marksM
  rw [free_sign]
  split
  · decide
  · split <;> decide
theorem stands_free (p : Int) (b : UInt8) (h : freeB b = true) : standsB p b = true := by unfold standsB; rw [h]; rfl

theorem hex_dg : ∀ i : Fin 16, hexB (dg i.1) = true := by decide +kernel
theorem pair_dg (b : UInt8) : pairV (dg (b.toNat / 16)) (dg (b.toNat % 16)) = b :=
  all_u8 (p := fun b => pairV (dg (b.toNat / 16)) (dg (b.toNat % 16)) = b) (by decide +kernel) b

theorem items_put (s : Bool) (b : UInt8) (r : List UInt8) (h : s = true → b ≠ 37) : itemsL (putL s b ++ r) = (itemsL r).map ((b, !s) :: ·) := by
  have hb := u8_lt b
  cases s with
  | true => exact items_as b r (h rfl)
  | false =>
    have h1 := hex_dg ⟨b.toNat / 16, by omega⟩
    have h2 := hex_dg ⟨b.toNat % 16, by omega⟩
    have h3 := items_coded _ _ r h1 h2
    simp only [pair_dg] at h3
    exact h3

theorem enc_items (p : Int) : ∀ l : List UInt8, itemsL (encL p l) = some (l.map fun b => (b, !standsB p b))
  | [] => rfl
  | b :: r => by
    have h : encL p (b :: r) = putL (standsB p b) b ++ encL p r := rfl
    rw [h, items_put _ _ _ (fun hs => by rintro rfl; rw [stands_sign] at hs; cases hs), enc_items p r]; rfl

theorem can_ne (p : Int) (x : UInt8 × Bool) (h : canB p x = true) : x.1 ≠ 37 := by
  intro hx
  unfold canB at h
  rw [hx, free_sign, stands_sign] at h
  simp at h
theorem can_items (p : Int) : ∀ m : List (UInt8 × Bool), itemsL (canL p m) = some (m.map fun x => (x.1, !canB p x))
  | [] => rfl
  | x :: r => by
    have h : canL p (x :: r) = putL (canB p x) x.1 ++ canL p r := rfl
    rw [h, items_put _ _ _ (can_ne p x), can_items p r]; rfl
theorem can_can (p : Int) (x : UInt8 × Bool) : canB p (x.1, !canB p x) = canB p x := by
  unfold canB
  cases hf : freeB x.1 <;> cases hs : standsB p x.1 <;> cases x.2 <;> simp
theorem can_twice (p : Int) (m : List (UInt8 × Bool)) : canL p (m.map fun x => (x.1, !canB p x)) = canL p m := by
  unfold canL
  rw [List.flatMap_map]
  congr 1
  funext x
  rw [can_can]
theorem dec_can (p : Int) (m : List (UInt8 × Bool)) : decL (m.map fun x => (x.1, !canB p x)) = decL m := by
  unfold decL; rw [List.map_map]; rfl
theorem dec_enc (p : Int) (l : List UInt8) : decL (l.map fun b => (b, !standsB p b)) = l := by
  unfold decL; rw [List.map_map]; exact List.map_id l

theorem put_len (s : Bool) (b : UInt8) : (putL s b).length ≤ 3 := by cases s <;> simp [putL]
theorem put_pos (s : Bool) (b : UInt8) : 1 ≤ (putL s b).length := by cases s <;> simp [putL]
theorem enc_len (p : Int) : ∀ l : List UInt8, (encL p l).length ≤ 3 * l.length
  | [] => Nat.le_refl _
  | b :: r => by
    have h : encL p (b :: r) = putL (standsB p b) b ++ encL p r := rfl
    have := put_len (standsB p b) b
    have := enc_len p r
    rw [h, List.length_append, List.length_cons]; omega
theorem can_len (p : Int) : ∀ m : List (UInt8 × Bool), (canL p m).length ≤ 3 * m.length
  | [] => Nat.le_refl _
  | x :: r => by
    have h : canL p (x :: r) = putL (canB p x) x.1 ++ canL p r := rfl
    have := put_len (canB p x) x.1
    have := can_len p r
    rw [h, List.length_append, List.length_cons]; omega
theorem items_len : ∀ (l : List UInt8) (m : List (UInt8 × Bool)), itemsL l = some m → m.length ≤ l.length
  | [], m, h => by rw [items_nil] at h; cases h; exact Nat.le_refl _
  | b :: r, m, h => by
    by_cases hb : b = 37
    · subst hb
      cases hd : dig2 r with
      | false => rw [items_bad r hd] at h; cases h
      | true =>
        obtain ⟨x, y, t, rfl, hx, hy⟩ := dig2_cons r hd
        rw [items_coded x y t hx hy] at h
        cases ht : itemsL t with
        | none => rw [ht] at h; cases h
        | some m' =>
          rw [ht] at h; cases h
          have := items_len t m' ht
          simp only [List.length_cons]; omega
    · rw [items_as b r hb] at h
      cases ht : itemsL r with
      | none => rw [ht] at h; cases h
      | some m' =>
        rw [ht] at h; cases h
        have := items_len r m' ht
        simp only [List.length_cons]; omega
  termination_by l => l.length

/-- A round of an iterator over what a text stands for. -/
theorem items_step (l : List UInt8) (k : Nat) (m : List (UInt8 × Bool)) (hk : k < l.length) (h : itemsL (l.drop k) = some m) :
    (l.getD k 0 ≠ 37 ∧ ∃ m', m = (l.getD k 0, false) :: m' ∧ itemsL (l.drop (k + 1)) = some m') ∨
    (l.getD k 0 = 37 ∧ k + 2 < l.length ∧ hexB (l.getD (k + 1) 0) = true ∧ hexB (l.getD (k + 2) 0) = true ∧ ∃ m', m = (pairV (l.getD (k + 1) 0) (l.getD (k + 2) 0), true) :: m' ∧ itemsL (l.drop (k + 3)) = some m') := by
  have hd : l.drop k = l.getD k 0 :: l.drop (k + 1) := by
    rw [List.drop_eq_getElem_cons hk]; simp [List.getD, List.getElem?_eq_getElem hk]
  rw [hd] at h
  by_cases hb : l.getD k 0 = 37
  · refine .inr ⟨hb, ?_⟩
    rw [hb] at h
    cases h2 : dig2 (l.drop (k + 1)) with
    | false => rw [items_bad _ h2] at h; cases h
    | true =>
      obtain ⟨x, y, t, ht, hx, hy⟩ := dig2_cons _ h2
      have hlen : (l.drop (k + 1)).length = (x :: y :: t).length := by rw [ht]
      simp only [List.length_drop, List.length_cons] at hlen
      have e1 : l.getD (k + 1) 0 = x := by
        have : (l.drop (k + 1)).getD 0 0 = x := by rw [ht]; rfl
        rw [← this]; simp [List.getD, List.getElem?_drop]
      have e2 : l.getD (k + 2) 0 = y := by
        have : (l.drop (k + 1)).getD 1 0 = y := by rw [ht]; rfl
        rw [← this]; simp [List.getD, List.getElem?_drop, Nat.add_assoc]
      have e3 : l.drop (k + 3) = t := by
        have : (l.drop (k + 1)).drop 2 = t := by rw [ht]; rfl
        rw [← this, List.drop_drop]
      rw [ht, items_coded x y t hx hy] at h
      rw [e1, e2, e3]
      cases hi : itemsL t with
      | none => rw [hi] at h; cases h
      | some m' => rw [hi] at h; cases h; exact ⟨by omega, hx, hy, m', rfl, rfl⟩
  · refine .inl ⟨hb, ?_⟩
    rw [items_as _ _ hb] at h
    cases hi : itemsL (l.drop (k + 1)) with
    | none => rw [hi] at h; cases h
    | some m' => rw [hi] at h; cases h; exact ⟨m', rfl, rfl⟩

end Go.Proofs.Ytfhgbokimkmpjaa.Pct
