/- Texts in plain words: bytes, pieces, numbers. Conditions: none. -/
import Derived.Lib.Hide
namespace Go.Proofs.Ytcahakelihigdaa.Ref

theorem u8_lt (b : UInt8) : b.toNat < 256 := b.toNat_lt
/-- Each byte is one of 256. -/
theorem all_u8 {p : UInt8 → Prop} (h : ∀ i : Fin 256, p (UInt8.ofNat i.1)) (b : UInt8) : p b := by
  have h1 := h ⟨b.toNat, u8_lt b⟩
  rwa [UInt8.ofNat_toNat] at h1

def inB (b : UInt8) (l : List UInt8) : Bool := l.contains b
def decB (b : UInt8) : Bool := decide (48 ≤ b.toNat ∧ b.toNat ≤ 57)
def letB (b : UInt8) : Bool := decide ((65 ≤ b.toNat ∧ b.toNat ≤ 90) ∨ (97 ≤ b.toNat ∧ b.toNat ≤ 122))
theorem decB_of (b : UInt8) : decB b = true ↔ 48 ≤ b.toNat ∧ b.toNat ≤ 57 := by simp [decB]
/-- A great letter made small. -/
def low (b : UInt8) : UInt8 := if 65 ≤ b.toNat ∧ b.toNat ≤ 90 then b + 32 else b
def lowL (l : List UInt8) : List UInt8 := l.map low
theorem low_lo (b : UInt8) (h : ¬ (65 ≤ b.toNat ∧ b.toNat ≤ 90)) : low b = b := by unfold low; rw [if_neg h]
theorem lowL_length (l : List UInt8) : (lowL l).length = l.length := by simp [lowL]
theorem low_low (b : UInt8) : low (low b) = low b := all_u8 (p := fun b => low (low b) = low b) (by decide +kernel) b
theorem lowL_lowL (l : List UInt8) : lowL (lowL l) = lowL l := by
  unfold lowL; rw [List.map_map]; apply List.map_congr_left; intro b _; exact low_low b
theorem lowL_take (l : List UInt8) (k : Nat) (h : k < l.length) : lowL (l.take (k + 1)) = lowL (l.take k) ++ [low (l.getD k 0)] := by
  show (l.take (k + 1)).map low = (l.take k).map low ++ _
  rw [List.take_succ_eq_append_getElem h, List.map_append]
  congr 1
  simp [List.getD, List.getElem?_eq_getElem h]
theorem drop_cons (l : List UInt8) (k : Nat) (h : k < l.length) : l.drop k = l.getD k 0 :: l.drop (k + 1) := by
  rw [List.drop_eq_getElem_cons h]; simp [List.getD, List.getElem?_eq_getElem h]
theorem drop_consS (l : List (List UInt8)) (k : Nat) (h : k < l.length) : l.drop k = l.getD k [] :: l.drop (k + 1) := by
  rw [List.drop_eq_getElem_cons h]; simp [List.getD, List.getElem?_eq_getElem h]

/-- The number that digits write, from n on. -/
def numGo (most : Int) : List UInt8 → Int → Option Int
  | [], n => some n
  | b :: r, n => if decB b = true ∧ (b.toNat : Int) - 48 ≤ most ∧ n ≤ (most - ((b.toNat : Int) - 48)) / 10 then numGo most r (n * 10 + ((b.toNat : Int) - 48)) else none
def numOf (most : Int) (l : List UInt8) : Option Int :=
  if l = [] ∨ (1 < l.length ∧ (l.getD 0 0).toNat = 48) then none else numGo most l 0

/-- A text put ahead of the first piece. -/
def onto (x : List UInt8) : List (List UInt8) → List (List UInt8)
  | [] => [x]
  | p :: r => (x ++ p) :: r
/-- The pieces between the bytes c. -/
def splitL (c : UInt8) : List UInt8 → List (List UInt8)
  | [] => [[]]
  | b :: r => if b = c then [] :: splitL c r else onto [b] (splitL c r)
theorem onto_nil (l : List (List UInt8)) (h : l ≠ []) : onto [] l = l := by
  cases l with
  | nil => exact absurd rfl h
  | cons p r => rfl
theorem onto_onto (x y : List UInt8) (l : List (List UInt8)) (h : l ≠ []) : onto x (onto y l) = onto (x ++ y) l := by
  cases l with
  | nil => exact absurd rfl h
  | cons p r => simp [onto]
theorem onto_ne (x : List UInt8) (l : List (List UInt8)) : onto x l ≠ [] := by cases l <;> simp [onto]
theorem split_ne (c : UInt8) (l : List UInt8) : splitL c l ≠ [] := by
  cases l with
  | nil => simp [splitL]
  | cons b r => unfold splitL; split; simp; exact onto_ne _ _
theorem onto_len (x : List UInt8) (l : List (List UInt8)) (h : l ≠ []) : (onto x l).length = l.length := by
  cases l with
  | nil => exact absurd rfl h
  | cons p r => rfl
theorem split_len (c : UInt8) : ∀ l : List UInt8, (splitL c l).length ≤ l.length + 1
  | [] => Nat.le_refl _
  | b :: r => by
    have := split_len c r
    unfold splitL
    split
    · simp only [List.length_cons]; omega
    · rw [onto_len _ _ (split_ne c r), List.length_cons]; omega
theorem split_is (c : UInt8) (r : List UInt8) : splitL c (c :: r) = [] :: splitL c r := by rw [splitL.eq_2, if_pos rfl]
theorem split_not (c b : UInt8) (r : List UInt8) (h : b ≠ c) : splitL c (b :: r) = onto [b] (splitL c r) := by rw [splitL.eq_2, if_neg h]
theorem split_small (c : UInt8) : ∀ (l : List UInt8), ∀ p ∈ splitL c l, p.length ≤ l.length
  | [], p, hp => by simp [splitL] at hp; subst hp; exact Nat.le_refl _
  | b :: r, p, hp => by
    have ih := split_small c r
    by_cases h : b = c
    · subst h
      rw [split_is] at hp
      rcases List.mem_cons.1 hp with rfl | hp
      · simp
      · have := ih p hp; simp only [List.length_cons]; omega
    · rw [split_not c b r h] at hp
      cases hs : splitL c r with
      | nil => exact absurd hs (split_ne c r)
      | cons q t =>
        rw [hs] at hp ih
        rcases List.mem_cons.1 hp with rfl | hp
        · have := ih q (by simp); simp only [List.length_append, List.length_cons, List.length_nil]; omega
        · have := ih p (by simp [hp]); simp only [List.length_cons]; omega

/-- Pieces with the byte c between them. -/
def joinL (c : UInt8) : List (List UInt8) → List UInt8
  | [] => []
  | [p] => p
  | p :: q :: r => p ++ c :: joinL c (q :: r)
theorem join_onto (c : UInt8) (x : List UInt8) (l : List (List UInt8)) : joinL c (onto x l) = x ++ joinL c l := by
  match l with
  | [] => simp [onto, joinL]
  | [p] => simp [onto, joinL]
  | p :: q :: r => simp [onto, joinL]
theorem join_nil (c : UInt8) (l : List (List UInt8)) (h : l ≠ []) : joinL c ([] :: l) = c :: joinL c l := by
  cases l with
  | nil => exact absurd rfl h
  | cons p r => rfl
theorem join_split (c : UInt8) : ∀ l : List UInt8, joinL c (splitL c l) = l
  | [] => rfl
  | b :: r => by
    by_cases h : b = c
    · subst h; rw [split_is, join_nil _ _ (split_ne b r), join_split b r]
    · rw [split_not c b r h, join_onto, join_split c r]; rfl
/-- What stands from each piece on. -/
def fromL (c : UInt8) : List (List UInt8) → List (List UInt8)
  | [] => []
  | p :: r => joinL c (p :: r) :: fromL c r

end Go.Proofs.Ytcahakelihigdaa.Ref
