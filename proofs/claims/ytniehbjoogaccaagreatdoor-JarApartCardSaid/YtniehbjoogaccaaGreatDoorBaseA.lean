/- The texts that these laws rest on, put together, part 1. Conditions: as each says. -/
import Derived.Test.YtniehbjoogaccaaGreatDoorProg
import Derived.Below
import Derived.WalkKit
import Derived.Lib.AppendIntMem
import Derived.Shelf.Vars
import Derived.Lib.Hide
import Derived.RangeFuncNested
import Derived.RangeFuncBound
import Derived.RangeFuncCalls
import Derived.RangeFuncLeaves
import Derived.Test.YtniehbjoogaccaaGreatDoorShelf
import Derived.BigQuiet
import Derived.Deep.QuietTactic
import Derived.WalkSpells
import Derived.WalkLawsBesides
import Derived.Outline
import Derived.Lib.SlFresh
import Derived.Shelf.Bytes.SlSmallAll
import Derived.Shelf.Bytes.SlEqualAll
import Derived.OrdersIn
import Derived.OrdersHeld
import Derived.RegionIn
import Derived.TacticsIn
import Derived.Deep.RegionHeld3
import Derived.Calls
import Derived.Lone
import Derived.StepT
import Derived.Sort.Grow
import Derived.Sort.Row
import Derived.Lib.QuietBelow
import Derived.Shelf.SlSortCmp.WholeK
import Derived.Sort.OwnSorted
import Derived.Lib.SlicesCompact
import Derived.Lib.RowBridge
import Derived.Maps.AppendAt
import Derived.Maps.OwnIn
import Derived.Shelf.Abstract
import Derived.Shelf.RegionOpen
import Derived.OwnWalkIn
import Derived.TacticsInMore
import Derived.LoopNIn
import Derived.LoopIn
import Derived.Sort.QuietIn
import Derived.Laws.AppendOwnNone
import Derived.StillTailTactics
import Derived.RangeFuncBox
namespace Go.Proofs.YtniehbjoogaccaaGreatDoor.Url
open Go Go.RowKit
def Gl (w : World) : Prop := (∃ m, w.cell? ⟨0, 0, none⟩ = some (.int .i64 m)) ∧ Lib.TabIs Tryz.prog w "internal/strconv.uint64pow10" .u64 Lib.pow10Tab
theorem Gl.on {w w' : World} (h : Gl w) (hk : Below w.heap.size w w') : Gl w' := by
  obtain ⟨⟨m, hm⟩, ht⟩ := h
  exact ⟨⟨m, (World.cell?_of_block (hk.block _ (World.block_lt_of_cell? w _ hm))).trans hm⟩, (Lib.tabBelow_of_tabIs ht) w' hk⟩
theorem Gl.tab {w w0 : World} (h : Gl w0) (hk : Below w0.heap.size w0 w) {B : Nat} (hB : w0.heap.size ≤ B) : Lib.TabBelow Tryz.prog B w "internal/strconv.uint64pow10" .u64 Lib.pow10Tab := fun w' hb =>
  (Lib.tabBelow_of_tabIs h.2) w' (hk.trans (hb.mono hB))
end Go.Proofs.YtniehbjoogaccaaGreatDoor.Url
namespace Go.Proofs.YtniehbjoogaccaaGreatDoor.Ref
theorem u8_lt (b : UInt8) : b.toNat < 256 := b.toNat_lt
theorem all_u8 {p : UInt8 → Prop} (h : ∀ i : Fin 256, p (UInt8.ofNat i.1)) (b : UInt8) : p b := by
  have h1 := h ⟨b.toNat, u8_lt b⟩
  rwa [UInt8.ofNat_toNat] at h1
def decB (b : UInt8) : Bool := decide (48 ≤ b.toNat ∧ b.toNat ≤ 57)
def letB (b : UInt8) : Bool := decide ((65 ≤ b.toNat ∧ b.toNat ≤ 90) ∨ (97 ≤ b.toNat ∧ b.toNat ≤ 122))
theorem decB_of (b : UInt8) : decB b = true ↔ 48 ≤ b.toNat ∧ b.toNat ≤ 57 := by simp [decB]
def low (b : UInt8) : UInt8 := if 65 ≤ b.toNat ∧ b.toNat ≤ 90 then b + 32 else b
def lowL (l : List UInt8) : List UInt8 := l.map low
theorem low_lo (b : UInt8) (h : ¬ (65 ≤ b.toNat ∧ b.toNat ≤ 90)) : low b = b := by unfold low; rw [if_neg h]
theorem lowL_length (l : List UInt8) : (lowL l).length = l.length := by simp [lowL]
theorem low_low (b : UInt8) : low (low b) = low b := all_u8 (p := fun b => low (low b) = low b) (by decide +kernel) b
theorem lowL_lowL (l : List UInt8) : lowL (lowL l) = lowL l := by
  unfold lowL; rw [List.map_map]; apply List.map_congr_left; intro b _; exact low_low b
theorem drop_cons (l : List UInt8) (k : Nat) (h : k < l.length) : l.drop k = l.getD k 0 :: l.drop (k + 1) := by
  rw [List.drop_eq_getElem_cons h]; simp [List.getD, List.getElem?_eq_getElem h]
def numGo (most : Int) : List UInt8 → Int → Option Int
  | [], n => some n
  | b :: r, n => if decB b = true ∧ (b.toNat : Int) - 48 ≤ most ∧ n ≤ (most - ((b.toNat : Int) - 48)) / 10 then numGo most r (n * 10 + ((b.toNat : Int) - 48)) else none
def numOf (most : Int) (l : List UInt8) : Option Int :=
  if l = [] ∨ (1 < l.length ∧ (l.getD 0 0).toNat = 48) then none else numGo most l 0
def onto (x : List UInt8) : List (List UInt8) → List (List UInt8)
  | [] => [x]
  | p :: r => (x ++ p) :: r
def splitL (c : UInt8) : List UInt8 → List (List UInt8)
  | [] => [[]]
  | b :: r => if b = c then [] :: splitL c r else onto [b] (splitL c r)
theorem onto_nil (l : List (List UInt8)) (h : l ≠ []) : onto [] l = l := by
  cases l with
  | nil => exact absurd rfl h
  | cons p r => rfl
theorem onto_onto (x y : List UInt8) (l : List (List UInt8)) (h : l ≠ []) : onto x (onto y l) = onto (x ++ y) l := by
  cases l with
  | nil => exact absurd rfl h
  | cons p r => simp [onto]
theorem onto_ne (x : List UInt8) (l : List (List UInt8)) : onto x l ≠ [] := by cases l <;> simp [onto]
theorem split_ne (c : UInt8) (l : List UInt8) : splitL c l ≠ [] := by
  cases l with
  | nil => simp [splitL]
  | cons b r => unfold splitL; split; simp; exact onto_ne _ _
theorem onto_len (x : List UInt8) (l : List (List UInt8)) (h : l ≠ []) : (onto x l).length = l.length := by
  cases l with
  | nil => exact absurd rfl h
  | cons p r => rfl
theorem split_len (c : UInt8) : ∀ l : List UInt8, (splitL c l).length ≤ l.length + 1
  | [] => Nat.le_refl _
  | b :: r => by
    have := split_len c r
    unfold splitL
    split
    · simp only [List.length_cons]; omega
    · rw [onto_len _ _ (split_ne c r), List.length_cons]; omega
theorem split_is (c : UInt8) (r : List UInt8) : splitL c (c :: r) = [] :: splitL c r := by rw [splitL.eq_2, if_pos rfl]
theorem split_not (c b : UInt8) (r : List UInt8) (h : b ≠ c) : splitL c (b :: r) = onto [b] (splitL c r) := by rw [splitL.eq_2, if_neg h]
theorem split_small (c : UInt8) : ∀ (l : List UInt8), ∀ p ∈ splitL c l, p.length ≤ l.length
  | [], p, hp => by simp [splitL] at hp; subst hp; exact Nat.le_refl _
  | b :: r, p, hp => by
    have ih := split_small c r
    by_cases h : b = c
    · subst h
      rw [split_is] at hp
      rcases List.mem_cons.1 hp with rfl | hp
      · simp
      · have := ih p hp; simp only [List.length_cons]; omega
    · rw [split_not c b r h] at hp
      cases hs : splitL c r with
      | nil => exact absurd hs (split_ne c r)
      | cons q t =>
        rw [hs] at hp ih
        rcases List.mem_cons.1 hp with rfl | hp
        · have := ih q (by simp); simp only [List.length_append, List.length_cons, List.length_nil]; omega
        · have := ih p (by simp [hp]); simp only [List.length_cons]; omega
def joinL (c : UInt8) : List (List UInt8) → List UInt8
  | [] => []
  | [p] => p
  | p :: q :: r => p ++ c :: joinL c (q :: r)
theorem join_onto (c : UInt8) (x : List UInt8) (l : List (List UInt8)) : joinL c (onto x l) = x ++ joinL c l := by
  match l with
  | [] => simp [onto, joinL]
  | [p] => simp [onto, joinL]
  | p :: q :: r => simp [onto, joinL]
theorem join_nil (c : UInt8) (l : List (List UInt8)) (h : l ≠ []) : joinL c ([] :: l) = c :: joinL c l := by
  cases l with
  | nil => exact absurd rfl h
  | cons p r => rfl
theorem join_split (c : UInt8) : ∀ l : List UInt8, joinL c (splitL c l) = l
  | [] => rfl
  | b :: r => by
    by_cases h : b = c
    · subst h; rw [split_is, join_nil _ _ (split_ne b r), join_split b r]
    · rw [split_not c b r h, join_onto, join_split c r]; rfl
def fromL (c : UInt8) : List (List UInt8) → List (List UInt8)
  | [] => []
  | p :: r => joinL c (p :: r) :: fromL c r
end Go.Proofs.YtniehbjoogaccaaGreatDoor.Ref
namespace Go.Proofs.YtniehbjoogaccaaGreatDoor.Pct
theorem u8_lt (b : UInt8) : b.toNat < 256 := b.toNat_lt
theorem all_u8 {p : UInt8 → Prop} (h : ∀ i : Fin 256, p (UInt8.ofNat i.1)) (b : UInt8) : p b := by
  have h1 := h ⟨b.toNat, u8_lt b⟩
  rwa [UInt8.ofNat_toNat] at h1
def inB (b : UInt8) (l : List UInt8) : Bool := l.contains b
def decB (b : UInt8) : Bool := decide (48 ≤ b.toNat ∧ b.toNat ≤ 57)
def letB (b : UInt8) : Bool := decide ((65 ≤ b.toNat ∧ b.toNat ≤ 90) ∨ (97 ≤ b.toNat ∧ b.toNat ≤ 122))
def hexB (b : UInt8) : Bool := decide ((48 ≤ b.toNat ∧ b.toNat ≤ 57) ∨ (65 ≤ b.toNat ∧ b.toNat ≤ 70) ∨ (97 ≤ b.toNat ∧ b.toNat ≤ 102))
def freeM : List UInt8 := [45, 46, 95, 126]
def pathM : List UInt8 := [47, 58, 64, 33, 36, 38, 39, 40, 41, 42, 43, 44, 59, 61]
def queryM : List UInt8 := [47, 58, 64, 33, 36, 38, 39, 40, 41, 42, 43, 44, 59, 61, 63]
def freeB (b : UInt8) : Bool := letB b || decB b || inB b freeM
def marksM (p : Int) : List UInt8 := if p = 1 then pathM else if p = 2 then queryM else []
def standsB (p : Int) (b : UInt8) : Bool := freeB b || inB b (marksM p)
def digs : List UInt8 := [48, 49, 50, 51, 52, 53, 54, 55, 56, 57, 65, 66, 67, 68, 69, 70]
def dg (n : Nat) : UInt8 := digs.getD n 0
def putL (s : Bool) (b : UInt8) : List UInt8 := if s then [b] else [37, dg (b.toNat / 16), dg (b.toNat % 16)]
def worth (b : UInt8) : UInt8 := if decB b then b - 48 else if 97 ≤ b.toNat then b - 97 + 10 else b - 65 + 10
def pairV (x y : UInt8) : UInt8 := (worth x <<< 4) ||| worth y
def itemsL : List UInt8 → Option (List (UInt8 × Bool))
  | [] => some []
  | b :: r => if b = 37 then (match r with
      | x :: y :: t => if hexB x && hexB y then (itemsL t).map ((pairV x y, true) :: ·) else none
      | _ => none) else (itemsL r).map ((b, false) :: ·)
def dig2 : List UInt8 → Bool
  | x :: y :: _ => hexB x && hexB y
  | _ => false
def wholeL : List UInt8 → Bool
  | [] => true
  | b :: r => (b != 37 || dig2 r) && wholeL r
def canB (p : Int) (x : UInt8 × Bool) : Bool := freeB x.1 || (!x.2 && standsB p x.1)
def canL (p : Int) (m : List (UInt8 × Bool)) : List UInt8 := m.flatMap fun x => putL (canB p x) x.1
theorem items_nil : itemsL [] = some [] := rfl
theorem items_as (b : UInt8) (r : List UInt8) (h : b ≠ 37) : itemsL (b :: r) = (itemsL r).map ((b, false) :: ·) := by
  rw [itemsL.eq_def]; simp only [if_neg h]
theorem items_coded (x y : UInt8) (t : List UInt8) (h : hexB x = true) (h' : hexB y = true) : itemsL (37 :: x :: y :: t) = (itemsL t).map ((pairV x y, true) :: ·) := by
  rw [itemsL.eq_def]; simp [h, h']
theorem items_bad (r : List UInt8) (h : dig2 r = false) : itemsL (37 :: r) = none := by
  rw [itemsL.eq_def]
  match r with
  | [] => rfl
  | [_] => rfl
  | x :: y :: t => unfold dig2 at h; simp [h]
theorem dig2_cons (r : List UInt8) (h : dig2 r = true) : ∃ x y t, r = x :: y :: t ∧ hexB x = true ∧ hexB y = true := by
  match r, h with
  | x :: y :: t, h => unfold dig2 at h; rw [Bool.and_eq_true] at h; exact ⟨x, y, t, rfl, h.1, h.2⟩
theorem hex_sign : hexB 37 = false := by decide
theorem hex_ne (x : UInt8) (h : hexB x = true) : x ≠ 37 := by rintro rfl; rw [hex_sign] at h; cases h
theorem whole_cons (b : UInt8) (r : List UInt8) : wholeL (b :: r) = ((b != 37 || dig2 r) && wholeL r) := rfl
theorem whole_skip (x : UInt8) (t : List UInt8) (h : hexB x = true) : wholeL (x :: t) = wholeL t := by
  have := hex_ne x h
  rw [whole_cons]
  simp [this]
theorem whole_items : ∀ l : List UInt8, wholeL l = (itemsL l).isSome
  | [] => rfl
  | b :: r => by
    by_cases hb : b = 37
    · subst hb
      cases hd : dig2 r with
      | false => rw [items_bad r hd, whole_cons, hd]; rfl
      | true =>
        obtain ⟨x, y, t, rfl, hx, hy⟩ := dig2_cons r hd
        rw [items_coded x y t hx hy, Option.isSome_map, ← whole_items t]
        rw [whole_cons, hd, whole_skip x _ hx, whole_skip y _ hy]; simp
    · rw [items_as b r hb, Option.isSome_map, ← whole_items r, whole_cons]
      simp [hb]
  termination_by l => l.length
theorem whole_some (l : List UInt8) (h : wholeL l = true) : ∃ m, itemsL l = some m := by
  rw [whole_items] at h
  exact Option.isSome_iff_exists.1 h
theorem whole_none (l : List UInt8) (h : wholeL l = false) : itemsL l = none := by
  rw [whole_items] at h
  simpa using h
theorem free_sign : freeB 37 = false := by decide
theorem stands_sign (p : Int) : standsB p 37 = false := by
  unfold standsB marksM
  rw [free_sign]
  split
  · decide
  · split <;> decide
theorem hex_dg : ∀ i : Fin 16, hexB (dg i.1) = true := by decide +kernel
theorem pair_dg (b : UInt8) : pairV (dg (b.toNat / 16)) (dg (b.toNat % 16)) = b :=
  all_u8 (p := fun b => pairV (dg (b.toNat / 16)) (dg (b.toNat % 16)) = b) (by decide +kernel) b
theorem items_put (s : Bool) (b : UInt8) (r : List UInt8) (h : s = true → b ≠ 37) : itemsL (putL s b ++ r) = (itemsL r).map ((b, !s) :: ·) := by
  have hb := u8_lt b
  cases s with
  | true => exact items_as b r (h rfl)
  | false =>
    have h1 := hex_dg ⟨b.toNat / 16, by omega⟩
    have h2 := hex_dg ⟨b.toNat % 16, by omega⟩
    have h3 := items_coded _ _ r h1 h2
    simp only [pair_dg] at h3
    exact h3
theorem can_ne (p : Int) (x : UInt8 × Bool) (h : canB p x = true) : x.1 ≠ 37 := by
  intro hx
  unfold canB at h
  rw [hx, free_sign, stands_sign] at h
  simp at h
theorem can_items (p : Int) : ∀ m : List (UInt8 × Bool), itemsL (canL p m) = some (m.map fun x => (x.1, !canB p x))
  | [] => rfl
  | x :: r => by
    have h : canL p (x :: r) = putL (canB p x) x.1 ++ canL p r := rfl
    rw [h, items_put _ _ _ (can_ne p x), can_items p r]; rfl
theorem can_can (p : Int) (x : UInt8 × Bool) : canB p (x.1, !canB p x) = canB p x := by
  unfold canB
  cases hf : freeB x.1 <;> cases hs : standsB p x.1 <;> cases x.2 <;> simp
theorem can_twice (p : Int) (m : List (UInt8 × Bool)) : canL p (m.map fun x => (x.1, !canB p x)) = canL p m := by
  unfold canL
  rw [List.flatMap_map]
  congr 1
  funext x
  rw [can_can]
theorem put_len (s : Bool) (b : UInt8) : (putL s b).length ≤ 3 := by cases s <;> simp [putL]
theorem can_len (p : Int) : ∀ m : List (UInt8 × Bool), (canL p m).length ≤ 3 * m.length
  | [] => Nat.le_refl _
  | x :: r => by
    have h : canL p (x :: r) = putL (canB p x) x.1 ++ canL p r := rfl
    have := put_len (canB p x) x.1
    have := can_len p r
    rw [h, List.length_append, List.length_cons]; omega
theorem items_len : ∀ (l : List UInt8) (m : List (UInt8 × Bool)), itemsL l = some m → m.length ≤ l.length
  | [], m, h => by rw [items_nil] at h; cases h; exact Nat.le_refl _
  | b :: r, m, h => by
    by_cases hb : b = 37
    · subst hb
      cases hd : dig2 r with
      | false => rw [items_bad r hd] at h; cases h
      | true =>
        obtain ⟨x, y, t, rfl, hx, hy⟩ := dig2_cons r hd
        rw [items_coded x y t hx hy] at h
        cases ht : itemsL t with
        | none => rw [ht] at h; cases h
        | some m' =>
          rw [ht] at h; cases h
          have := items_len t m' ht
          simp only [List.length_cons]; omega
    · rw [items_as b r hb] at h
      cases ht : itemsL r with
      | none => rw [ht] at h; cases h
      | some m' =>
        rw [ht] at h; cases h
        have := items_len r m' ht
        simp only [List.length_cons]; omega
  termination_by l => l.length
theorem items_step (l : List UInt8) (k : Nat) (m : List (UInt8 × Bool)) (hk : k < l.length) (h : itemsL (l.drop k) = some m) :
    (l.getD k 0 ≠ 37 ∧ ∃ m', m = (l.getD k 0, false) :: m' ∧ itemsL (l.drop (k + 1)) = some m') ∨
    (l.getD k 0 = 37 ∧ k + 2 < l.length ∧ hexB (l.getD (k + 1) 0) = true ∧ hexB (l.getD (k + 2) 0) = true ∧ ∃ m', m = (pairV (l.getD (k + 1) 0) (l.getD (k + 2) 0), true) :: m' ∧ itemsL (l.drop (k + 3)) = some m') := by
  have hd : l.drop k = l.getD k 0 :: l.drop (k + 1) := by
    rw [List.drop_eq_getElem_cons hk]; simp [List.getD, List.getElem?_eq_getElem hk]
  rw [hd] at h
  by_cases hb : l.getD k 0 = 37
  · refine .inr ⟨hb, ?_⟩
    rw [hb] at h
    cases h2 : dig2 (l.drop (k + 1)) with
    | false => rw [items_bad _ h2] at h; cases h
    | true =>
      obtain ⟨x, y, t, ht, hx, hy⟩ := dig2_cons _ h2
      have hlen : (l.drop (k + 1)).length = (x :: y :: t).length := by rw [ht]
      simp only [List.length_drop, List.length_cons] at hlen
      have e1 : l.getD (k + 1) 0 = x := by
        have : (l.drop (k + 1)).getD 0 0 = x := by rw [ht]; rfl
        rw [← this]; simp [List.getD, List.getElem?_drop]
      have e2 : l.getD (k + 2) 0 = y := by
        have : (l.drop (k + 1)).getD 1 0 = y := by rw [ht]; rfl
        rw [← this]; simp [List.getD, List.getElem?_drop, Nat.add_assoc]
      have e3 : l.drop (k + 3) = t := by
        have : (l.drop (k + 1)).drop 2 = t := by rw [ht]; rfl
        rw [← this, List.drop_drop]
      rw [ht, items_coded x y t hx hy] at h
      rw [e1, e2, e3]
      cases hi : itemsL t with
      | none => rw [hi] at h; cases h
      | some m' => rw [hi] at h; cases h; exact ⟨by omega, hx, hy, m', rfl, rfl⟩
  · refine .inl ⟨hb, ?_⟩
    rw [items_as _ _ hb] at h
    cases hi : itemsL (l.drop (k + 1)) with
    | none => rw [hi] at h; cases h
    | some m' => rw [hi] at h; cases h; exact ⟨m', rfl, rfl⟩
end Go.Proofs.YtniehbjoogaccaaGreatDoor.Pct
namespace Go.Proofs.YtniehbjoogaccaaGreatDoor
open Go.RowKit
structure Keep (S : Nat → Prop) (w w' : World) : Prop where
  os : w'.os = w.os
  tape : w'.tape = w.tape
  output : w'.output = w.output
  size : w.heap.size ≤ w'.heap.size
  block : ∀ k, k < w.heap.size → S k → w'.heap[k]? = w.heap[k]?
theorem Keep.refl (S : Nat → Prop) (w : World) : Keep S w w := ⟨rfl, rfl, rfl, Nat.le_refl _, fun _ _ _ => rfl⟩
theorem Keep.trans {S : Nat → Prop} {a b c : World} (h : Keep S a b) (k : Keep S b c) : Keep S a c :=
  ⟨k.os.trans h.os, k.tape.trans h.tape, k.output.trans h.output, Nat.le_trans h.size k.size, fun i hi hs => (k.block i (Nat.lt_of_lt_of_le hi h.size) hs).trans (h.block i hi hs)⟩
theorem Keep.mono {S T : Nat → Prop} {a b : World} (h : Keep S a b) (ht : ∀ k, k < a.heap.size → T k → S k) : Keep T a b :=
  ⟨h.os, h.tape, h.output, h.size, fun i hi hs => h.block i hi (ht i hi hs)⟩
theorem Keep.of_grownBy {S : Nat → Prop} {a b : World} {row : Option Nat} (hg : a.grownBy b row) (hr : ∀ r, row = some r → ¬ S r) : Keep S a b :=
  ⟨hg.os, hg.tape, hg.output, hg.size, fun i hi hs => hg.block i hi (fun e => hr i e.symm hs)⟩
theorem Keep.alloc (S : Nat → Prop) (w : World) (o : Obj) : Keep S w (w.alloc o) := .of_grownBy (World.grownBy_alloc w o none) (by simp)
theorem Keep.putObj {S : Nat → Prop} (w : World) (l : Nat) (o : Obj) (hl : ¬ S l) : Keep S w (w.putObj l o) := .of_grownBy (grownBy_putObj' w l o) (fun r e => by cases e; exact hl)
theorem Keep.setCell {S : Nat → Prop} (w : World) (p : Addr) (v : Value) (hl : ¬ S p.block) : Keep S w (w.setCell p v) :=
  ⟨rfl, rfl, rfl, (KeepsWalks.setCell w _ v).size, fun k _ hk => Below.heap_setCell _ _ _ k (fun e => hl (e ▸ hk))⟩
theorem Keep.drew (S : Nat → Prop) (w : World) : Keep S w w.drew := ⟨rfl, rfl, rfl, Nat.le_refl _, fun _ _ _ => rfl⟩
theorem Keep.of_below {B : Nat} {a b : World} (h : Below B a b) : Keep (· < B) a b := ⟨h.os, h.tape, h.output, h.size, fun k _ hk => h.block k hk⟩
theorem Keep.below {B : Nat} {a b : World} (h : Keep (· < B) a b) (hB : B ≤ a.heap.size) : Below B a b := ⟨h.os, h.tape, h.output, h.size, fun k hk => h.block k (by omega) hk⟩
theorem Keep.heap {S : Nat → Prop} {a b : World} (h : Keep S a b) {k : Nat} {o : Obj} (hs : S k) (ho : a.heap[k]? = some o) : b.heap[k]? = some o :=
  (h.block k (Array.getElem?_eq_some_iff.1 ho).1 hs).trans ho
theorem Keep.boxed {S : Nat → Prop} {a b : World} (h : Keep S a b) {k : Nat} {t : TypeId} {v : Value} (ho : Boxed a k t v) (hs : S k) : Boxed b k t v := h.heap hs ho
theorem Keep.row {S : Nat → Prop} {a b : World} (h : Keep S a b) {base : Nat} {e : TypeId} {size : Nat} {v : Value} {n : Nat} {xs : List Value} (ho : a.ownsRow base e size v n xs) (hs : ∀ k, v.ownBlock = some k → S k) :
    b.ownsRow base e size v n xs := by
  refine ⟨ho.1, ?_⟩
  rcases ho.2 with hn | ⟨g, cap, cur, rfl, hb, hgg, rest⟩
  · exact .inl hn
  · exact .inr ⟨g, cap, cur, rfl, hb, h.heap (hs g rfl) hgg, rest⟩
def Abide {β : Type} (J : β → (Nat → Prop) → World → Prop) : Prop :=
  ∀ s Pv Pv' A B, J s Pv A → Keep (fun b => ¬ Pv b) A B → (∀ b, Pv' b → (Pv b ∨ A.heap.size ≤ b) ∧ b < B.heap.size) → J s Pv' B
def Rounds (P : Program) (l : Nat) {α : Type} (Arg : α → Array Value → (Nat → Prop) → World → Prop) (xs : List α) (RB : Nat → Prop) (J Jx : List α → (Nat → Prop) → World → Prop) : Prop :=
  ∀ pre x rest Pv G args W, xs = pre ++ x :: rest → J pre Pv W → (∀ b, Pv b → b < W.heap.size) → Arg x args G W → (∀ b, G b → Pv b) →
    YieldAt Fence.wide 0 P l args W fun e W' => Keep (fun b => RB b ∨ (Pv b ∧ ¬ G b)) W W' ∧
      ((e = .returned (.bool true) ∧ J (pre ++ [x]) (fun b => Pv b ∧ ¬ G b) W') ∨ (e = .returned (.bool false) ∧ Jx (pre ++ [x]) (fun b => Pv b ∧ ¬ G b) W'))
def IterC (P : Program) (gf : Nat) (lb : Array Value) {α : Type} (Arg : α → Array Value → (Nat → Prop) → World → Prop) (xs : List α) (RB : Nat → Prop) (w0 : World) : Prop :=
  ∀ (l : Nat) (J Jx : List α → (Nat → Prop) → World → Prop) (W : World), Keep RB w0 W → Abide J → Abide Jx → Rounds P l Arg xs RB J Jx → J [] (fun _ => False) W →
    Calls P gf (#[.func (.yield l) #[] #[]] ++ lb) W fun e W' => (∃ v, e = .returned v) ∧ ∃ Pv, (∀ b, Pv b → b < W'.heap.size) ∧ (J xs Pv W' ∨ ∃ pre rest, xs = pre ++ rest ∧ Jx pre Pv W')
theorem IterC.later {P : Program} {gf : Nat} {lb : Array Value} {α : Type} {Arg : α → Array Value → (Nat → Prop) → World → Prop} {xs : List α} {RB : Nat → Prop} {w0 w1 : World} (h : IterC P gf lb Arg xs RB w0) (hk : Keep RB w0 w1) : IterC P gf lb Arg xs RB w1 :=
  fun l J Jx W hW => h l J Jx W (hk.trans hW)
def bodyPostR {α : Type} (S : Nat → Prop) (I : List α → (Nat → Prop) → World → Prop) (Ix : Code → List α → (Nat → Prop) → World → Prop) (pre : List α) (Pv : Nat → Prop) (W : World) : Exit → Act → World → Prop
  | .normal, _, W' => Keep S W W' ∧ I pre Pv W'
  | .ret, _, W' => Keep S W W' ∧ Ix .ret pre Pv W'
  | .exit id, _, W' => Keep S W W' ∧ Ix (.exit id) pre Pv W'
  | .goto t, _, W' => Keep S W W' ∧ Ix (.goto t) pre Pv W'
  | .panic _, _, _ => False
  | .outgrown, _, _ => False
def recI {α : Type} (l D : Nat) (r : Loop) (I : List α → (Nat → Prop) → World → Prop) (pre : List α) (Pv : Nat → Prop) (W : World) : Prop :=
  I pre (fun b => Pv b ∨ b = l ∨ b = D) W ∧ ¬ Pv l ∧ ¬ Pv D ∧ W.heap[l]? = some (.loop r) ∧ W.heap[D]? = some (.deferred (some []))
theorem recI_abide {α : Type} {l D : Nat} {r : Loop} {I : List α → (Nat → Prop) → World → Prop} (hI : Abide I) : Abide (recI l D r I) := by
  rintro s Pv Pv' A B ⟨h1, h2, h3, h4, h5⟩ hk hp
  have hl := (Array.getElem?_eq_some_iff.1 h4).1
  have hD := (Array.getElem?_eq_some_iff.1 h5).1
  have hs := hk.size
  refine ⟨hI s _ _ A B h1 (hk.mono fun k _ hn hp => hn (.inl hp)) ?_, fun h => ?_, fun h => ?_, hk.heap h2 h4, hk.heap h3 h5⟩
  · rintro b (hb | rfl | rfl)
    · obtain ⟨h | h, h'⟩ := hp b hb
      · exact ⟨.inl (.inl h), h'⟩
      · exact ⟨.inr h, h'⟩
    · exact ⟨.inl (.inr (.inl rfl)), by omega⟩
    · exact ⟨.inl (.inr (.inr rfl)), by omega⟩
  · obtain ⟨h | h, _⟩ := hp _ h
    · exact h2 h
    · omega
  · obtain ⟨h | h, _⟩ := hp _ h
    · exact h3 h
    · omega
theorem rf_law {P : Program} {α : Type} {g : Operand} {ps : Array Tmp} {assign body : Code} {Q : Exit → Act → World → Prop} {a : Act} {w : World} {n : Nat}
    {gf : Nat} {lb : Array Value} (hg : a.eval g = .func (.func gf) #[] lb) (eg : ∀ args w, (callFunc gf args).run P w = .ok (.enter gf args) w)
    {Arg : α → Array Value → (Nat → Prop) → World → Prop} {xs : List α} {RB : Nat → Prop} {w0 : World} (hiter : IterC P gf lb Arg xs RB w0) (hb0 : Keep RB w0 w) (hRB : ∀ b, RB b → b < w.heap.size)
    (hps : ∀ x args G W, Arg x args G W → args.size = ps.size)
    (I : List α → (Nat → Prop) → World → Prop) (Ix : Code → List α → (Nat → Prop) → World → Prop) (hI : Abide I) (hIx : ∀ c, Abide (Ix c)) (h0 : I [] (fun _ => False) w)
    (hround : ∀ (l : Nat) (pre : List α) (x : α) (rest : List α) (Pv G : Nat → Prop) (args : Array Value) (W : World), w.heap.size ≤ l → xs = pre ++ x :: rest → I pre Pv W → Pv l → ¬ G l → (∀ b, Pv b → b < W.heap.size) → (∀ b, G b → Pv b) → Arg x args G W →
      assign.wpIn (Fence.wide.inRound l) 0 P (Exit.then (fun a₁ W₁ => Keep (fun b => RB b ∨ Pv b) W W₁ ∧ ∀ W₂, Keep (fun b => b ≠ l) W₁ W₂ → W₂.heap.size = W₁.heap.size → (∃ r, W₂.heap[l]? = some (.loop r)) →
          body.wpIn (Fence.wide.inRound l) 0 P (bodyPostR (fun b => RB b ∨ (Pv b ∧ ¬ G b)) I Ix (pre ++ [x]) (fun b => Pv b ∧ ¬ G b) W₂) a₁ W₂) (fun _ _ _ => False))
        { tmps := (ps.zip args).foldl (fun t (p, v) => t.setIfInBounds p v) a.tmps, defers := [] } W)
    (hdone : ∀ (D : Nat) (Pv : Nat → Prop) (W : World), w.heap.size ≤ D → Pv D → (∀ b, Pv b → b < W.heap.size) → I xs Pv W → W.heap[D]? = some (.deferred (some [])) → Q .normal { a with defers := { target := .collected D, args := #[] } :: a.defers } W)
    (hstop : ∀ (D : Nat) (c : Code) (pre rest : List α) (Pv : Nat → Prop) (W : World), w.heap.size ≤ D → Pv D → (∀ b, Pv b → b < W.heap.size) → xs = pre ++ rest → Ix c pre Pv W → W.heap[D]? = some (.deferred (some [])) → c.wpIn Fence.wide n P Q { a with defers := { target := .collected D, args := #[] } :: a.defers } W) :
    (Code.rangeFunc g ps assign body).wpIn Fence.wide n P Q a w := by
  refine wpIn_rangeFunc ?_
  intro fn hfn
  obtain ⟨rec, hrec⟩ : ∃ rec : LoopState → Option Code → Loop, rec = fun st pe => { state := st, pending := pe, fn, tmps := a.tmps, params := ps, assign, body, defers := w.heap.size } := ⟨_, rfl⟩
  obtain ⟨W1, hW1⟩ : ∃ W1, (w.alloc (.deferred (some []))).alloc (.loop (rec .ready none)) = W1 := ⟨_, rfl⟩
  have hL1 : W1.heap[w.heap.size + 1]? = some (.loop (rec .ready none)) := by
    rw [← hW1]; have := World.alloc_heap_new (w.alloc (.deferred (some []))) (.loop (rec .ready none)); rwa [World.size_alloc] at this
  have hK1 : W1.heap[w.heap.size]? = some (.deferred (some [])) := by
    rw [← hW1]; exact (Below.heap_alloc _ _ _ (by simp)).trans (World.alloc_heap_new w _)
  have hsz1 : W1.heap.size = w.heap.size + 2 := by rw [← hW1]; simp
  have hkw : ∀ S, Keep S w W1 := fun S => by rw [← hW1]; exact (Keep.alloc S w _).trans (Keep.alloc S _ _)
  have hI1 : I [] (fun b => False ∨ b = w.heap.size + 1 ∨ b = w.heap.size) W1 := hI _ _ _ _ _ h0 (hkw _) (fun b hb => by rcases hb with h | rfl | rfl; exact h.elim; exact ⟨.inr (by omega), by omega⟩; exact ⟨.inr (by omega), by omega⟩)
  refine ⟨w.heap.size + 1, [{ target := .collected w.heap.size, args := #[] }], W1, { target := .fn (.func gf) lb, args := #[.func (.yield (w.heap.size + 1)) #[] #[]] }, W1, gf,
    #[.func (.yield (w.heap.size + 1)) #[] #[]] ++ lb, W1, ?_, ?_, ?_, ?_, ?_, ?_⟩
  · rw [← hW1, hrec]; exact run_enterLoop_outer _ _ _ _ _
  · simp only [resolve, hg]
    simp [go_sem]
  · intro f' _; trivial
  · simp [invoke, go_sem, eg]
  · intro h; simp [Fence.wide] at h
  · refine (callsIn_wide.2 (hiter (w.heap.size + 1) (recI (w.heap.size + 1) w.heap.size (rec .ready none) I)
      (fun pre Pv W => ∃ c, recI (w.heap.size + 1) w.heap.size (rec .done (some c)) (Ix c) pre Pv W)
      W1 (hb0.trans (hkw _)) (recI_abide hI) ?_ ?_ ⟨hI1, by simp, by simp, hL1, hK1⟩)).mono ?_
    · rintro s Pv Pv' A B ⟨c, hc⟩ hk hp
      exact ⟨c, recI_abide (hIx c) s Pv Pv' A B hc hk hp⟩
    · -- a round
      rintro pre x rest Pv G args W hxs ⟨hi, hnl, hnD, hl, hD⟩ hPv hArg hG
      have hlt : w.heap.size + 1 < W.heap.size := (Array.getElem?_eq_some_iff.1 hl).1
      have hDlt : w.heap.size < W.heap.size := (Array.getElem?_eq_some_iff.1 hD).1
      have hy := run_yield (P := P) (args := args) hl (by rw [hrec]; exact hps x args G W hArg)
      rw [hrec] at hy
      have hGl : ¬ G (w.heap.size + 1) := fun h => hnl (hG _ h)
      have hGD : ¬ G w.heap.size := fun h => hnD (hG _ h)
      have hrb : ∀ b, RB b → b ≠ w.heap.size + 1 ∧ b ≠ w.heap.size := fun b hb => by have := hRB b hb; omega
      refine ⟨fn, _, assign, body, hy, roundIn_of_wpIn hfn ?_⟩
      refine wpIn_mono ((hround (w.heap.size + 1) pre x rest (fun b => Pv b ∨ b = w.heap.size + 1 ∨ b = w.heap.size) G args W (by omega) hxs hi (.inr (.inl rfl)) hGl
        (fun b hb => by rcases hb with hb | rfl | rfl; exact hPv b hb; omega; omega) (fun b hb => .inl (hG b hb)) hArg)) ?_
      rintro e a₁ W₁ hp
      cases e with
      | normal =>
        obtain ⟨hk1, hbody⟩ := hp
        have hl1 : W₁.heap[w.heap.size + 1]? = some (.loop (rec .ready none)) := hk1.heap (.inr (.inr (.inl rfl))) hl
        have hD1 : W₁.heap[w.heap.size]? = some (.deferred (some [])) := hk1.heap (.inr (.inr (.inr rfl))) hD
        have hlt1 : w.heap.size + 1 < W₁.heap.size := (Array.getElem?_eq_some_iff.1 hl1).1
        refine ⟨_, run_beginRound hl1 (by rw [hrec]), ?_⟩
        obtain ⟨W₂, hW2⟩ : ∃ W₂, W₁.putObj (w.heap.size + 1) (.loop { rec .ready none with state := .busy }) = W₂ := ⟨_, rfl⟩
        have hk12 : Keep (fun b => b ≠ w.heap.size + 1) W₁ W₂ := by rw [← hW2]; exact Keep.putObj _ _ _ (by simp)
        have hs12 : W₂.heap.size = W₁.heap.size := by rw [← hW2]; simp
        have hl2 : W₂.heap[w.heap.size + 1]? = some (.loop { rec .ready none with state := .busy }) := by rw [← hW2]; exact World.putObj_heap_same hlt1
        have hD2 : W₂.heap[w.heap.size]? = some (.deferred (some [])) := hk12.heap (by omega) hD1
        rw [hW2]
        refine wpIn_mono (hbody W₂ hk12 hs12 ⟨_, hl2⟩) ?_
        have fin : ∀ (jump : Option Code) (W3 : World), Keep (fun b => RB b ∨ ((Pv b ∨ b = w.heap.size + 1 ∨ b = w.heap.size) ∧ ¬ G b)) W₂ W3 →
            ∃ W4, (Instr.endRound (w.heap.size + 1) jump).run P W3 = .ok (.bool jump.isNone) W4 ∧ W4.heap.size = W3.heap.size ∧
              Keep (fun b => RB b ∨ (Pv b ∧ ¬ G b)) W W4 ∧ Keep (fun b => b ≠ w.heap.size + 1) W3 W4 ∧
              W4.heap[w.heap.size + 1]? = some (.loop (rec (if jump.isNone then .ready else .done) jump)) ∧ W4.heap[w.heap.size]? = some (.deferred (some [])) := fun jump W3 hk3 => by
          have hl3 : W3.heap[w.heap.size + 1]? = some (.loop { rec .ready none with state := .busy }) := hk3.heap (.inr ⟨.inr (.inl rfl), hGl⟩) hl2
          have hD3 : W3.heap[w.heap.size]? = some (.deferred (some [])) := hk3.heap (.inr ⟨.inr (.inr rfl), hGD⟩) hD2
          have he := run_endRound (P := P) jump hl3
          have k34 : ∀ o, Keep (fun b => b ≠ w.heap.size + 1) W3 (W3.putObj (w.heap.size + 1) o) := fun o => Keep.putObj _ _ _ (by simp)
          refine ⟨_, he, by simp, ?_, k34 _, ?_, (k34 _).heap (by omega) hD3⟩
          · refine (hk1.mono ?_).trans ((hk12.mono ?_).trans ((hk3.mono ?_).trans ((k34 _).mono ?_)))
            · rintro k _ (h | h)
              · exact .inl h
              · exact .inr (.inl h.1)
            · rintro k _ (h | h)
              · exact (hrb k h).1
              · rintro rfl; exact hnl h.1
            · rintro k _ (h | h)
              · exact .inl h
              · exact .inr ⟨.inl h.1, h.2⟩
            · rintro k _ (h | h)
              · exact (hrb k h).1
              · rintro rfl; exact hnl h.1
          · have := World.putObj_heap_same (o := .loop (rec (if jump.isNone then .ready else .done) jump)) (Array.getElem?_eq_some_iff.1 hl3).1
            rw [hrec] at this ⊢
            exact this
        -- the invariant across endRound
        have tr : ∀ (I' : List α → (Nat → Prop) → World → Prop) (W3 W4 : World), Abide I' → Keep (fun b => b ≠ w.heap.size + 1) W3 W4 → W4.heap.size = W3.heap.size → W.heap.size ≤ W3.heap.size →
            I' (pre ++ [x]) (fun b => (Pv b ∨ b = w.heap.size + 1 ∨ b = w.heap.size) ∧ ¬ G b) W3 → I' (pre ++ [x]) (fun b => (Pv b ∧ ¬ G b) ∨ b = w.heap.size + 1 ∨ b = w.heap.size) W4 := fun I' W3 W4 hI' hk hs hs' h => by
          refine hI' _ _ _ _ _ h (hk.mono ?_) ?_
          · rintro k _ hn rfl; exact hn ⟨.inr (.inl rfl), hGl⟩
          · rintro b (⟨h1, h2⟩ | rfl | rfl)
            · exact ⟨.inl ⟨.inl h1, h2⟩, by have := hPv b h1; omega⟩
            · exact ⟨.inl ⟨.inr (.inl rfl), hGl⟩, by omega⟩
            · exact ⟨.inl ⟨.inr (.inr rfl), hGD⟩, by omega⟩
        have hsz : W.heap.size ≤ W₂.heap.size := by have := hk1.size; omega
        rintro e a3 W3 hp
        cases e with
        | normal =>
          obtain ⟨hk3, hi3⟩ := hp
          obtain ⟨W4, he, hs4, hk4, hk34, hl4, hD4⟩ := fin none W3 hk3
          exact ⟨_, _, he, hk4, .inl ⟨rfl, tr I W3 W4 hI hk34 hs4 (by have := hk3.size; omega) hi3, fun h => hnl h.1, fun h => hnD h.1, hl4, hD4⟩⟩
        | ret =>
          obtain ⟨hk3, hi3⟩ := hp
          obtain ⟨W4, he, hs4, hk4, hk34, hl4, hD4⟩ := fin (some .ret) W3 hk3
          exact ⟨_, _, he, hk4, .inr ⟨rfl, .ret, tr (Ix .ret) W3 W4 (hIx _) hk34 hs4 (by have := hk3.size; omega) hi3, fun h => hnl h.1, fun h => hnD h.1, hl4, hD4⟩⟩
        | exit id =>
          obtain ⟨hk3, hi3⟩ := hp
          obtain ⟨W4, he, hs4, hk4, hk34, hl4, hD4⟩ := fin (some (.exit id)) W3 hk3
          exact ⟨_, _, he, hk4, .inr ⟨rfl, .exit id, tr (Ix (.exit id)) W3 W4 (hIx _) hk34 hs4 (by have := hk3.size; omega) hi3, fun h => hnl h.1, fun h => hnD h.1, hl4, hD4⟩⟩
        | goto t =>
          obtain ⟨hk3, hi3⟩ := hp
          obtain ⟨W4, he, hs4, hk4, hk34, hl4, hD4⟩ := fin (some (.goto t)) W3 hk3
          exact ⟨_, _, he, hk4, .inr ⟨rfl, .goto t, tr (Ix (.goto t)) W3 W4 (hIx _) hk34 hs4 (by have := hk3.size; omega) hi3, fun h => hnl h.1, fun h => hnD h.1, hl4, hD4⟩⟩
        | panic ch => exact hp.elim
        | outgrown => exact hp.elim
      | exit id => exact hp.elim
      | goto id => exact hp.elim
      | ret => exact hp.elim
      | panic ch => exact hp.elim
      | outgrown => exact hp.elim
    · -- behind the iterator
      rintro e W2 ⟨⟨v, rfl⟩, Pv, hPv, (⟨hi, hnl, hnD, hl, hD⟩ | ⟨pre, rest, hxs, c, hi, hnl, hnD, hl, hD⟩)⟩
      all_goals
        have hlt : w.heap.size + 1 < W2.heap.size := (Array.getElem?_eq_some_iff.1 hl).1
        have kk : ∀ o, Keep (fun b => b ≠ w.heap.size + 1) W2 (W2.putObj (w.heap.size + 1) o) := fun o => Keep.putObj _ _ _ (by simp)
        have hP' : ∀ o b, (Pv b ∨ b = w.heap.size + 1 ∨ b = w.heap.size) → b < (W2.putObj (w.heap.size + 1) o).heap.size := fun o b hb => by
          rw [World.putObj_size]; rcases hb with hb | rfl | rfl; exact hPv b hb; omega; omega
      · refine ⟨none, _, by have := run_endLoop (P := P) hl (by rw [hrec]; simp); rw [hrec] at this; exact this, ?_⟩
        exact hdone w.heap.size (fun b => Pv b ∨ b = w.heap.size + 1 ∨ b = w.heap.size) _ (Nat.le_refl _) (.inr (.inr rfl)) (hP' _)
          (hI _ _ _ _ _ hi ((kk _).mono (by rintro k _ hn rfl; exact hn (.inr (.inl rfl)))) (fun b hb => ⟨.inl hb, hP' _ b hb⟩)) ((kk _).heap (by omega) hD)
      · refine ⟨some c, _, by have := run_endLoop (P := P) hl (by rw [hrec]; simp); rw [hrec] at this; exact this, ?_⟩
        exact hstop w.heap.size c pre rest (fun b => Pv b ∨ b = w.heap.size + 1 ∨ b = w.heap.size) _ (Nat.le_refl _) (.inr (.inr rfl)) (hP' _) hxs
          (hIx c _ _ _ _ _ hi ((kk _).mono (by rintro k _ hn rfl; exact hn (.inr (.inl rfl)))) (fun b hb => ⟨.inl hb, hP' _ b hb⟩)) ((kk _).heap (by omega) hD)
def AdI {α β : Type} (RBin Ow : Nat → Prop) (W1 : World) (J : List β → (Nat → Prop) → World → Prop) (tr : List α → List β) (E : List α → World → Prop) (pre : List α) (Pv : Nat → Prop) (W : World) : Prop :=
  Keep RBin W1 W ∧ (∀ b, Pv b → W1.heap.size ≤ b) ∧ E pre W ∧ ∃ Pv' : Nat → Prop, J (tr pre) Pv' W ∧ (∀ b, Pv b → Pv' b) ∧ (∀ b, Ow b → Pv' b) ∧ (∀ b, Pv' b → b < W.heap.size)
def AdX {α β : Type} (J Jx : List β → (Nat → Prop) → World → Prop) (ys : List β) (c : Code) (_pre : List α) (Pv : Nat → Prop) (W : World) : Prop :=
  c = .ret ∧ ∃ Pv' : Nat → Prop, (∀ b, Pv b → Pv' b) ∧ (∀ b, Pv' b → b < W.heap.size) ∧ (J ys Pv' W ∨ ∃ pre rest, ys = pre ++ rest ∧ Jx pre Pv' W)
theorem AdI_abide {α β : Type} {RBin Ow : Nat → Prop} {W1 : World} {J : List β → (Nat → Prop) → World → Prop} {tr : List α → List β} {E : List α → World → Prop} (hJ : Abide J) (hRB : ∀ b, RBin b → b < W1.heap.size)
    (hE : ∀ pre A B, Keep (fun b => b < W1.heap.size) A B → E pre A → E pre B) : Abide (AdI RBin Ow W1 J tr E) := by
  rintro pre Pv Pv' A B ⟨h1, h2, h3, Q, h4, h5, h6, h7⟩ hk hp
  have hs := hk.size
  refine ⟨h1.trans (hk.mono fun b _ hb hn => ?_), fun b hb => ?_, hE _ _ _ (hk.mono fun b _ hb hn => ?_) h3, fun b => Q b ∨ (A.heap.size ≤ b ∧ b < B.heap.size), ?_, fun b hb => ?_, fun b hb => .inl (h6 b hb), fun b hb => ?_⟩
  · have := h2 b hn; have := hRB b hb; omega
  · rcases (hp b hb).1 with h | h
    · exact h2 b h
    · exact Nat.le_trans h1.size h
  · have := h2 b hn; omega
  · refine hJ _ _ _ _ _ h4 (hk.mono fun b _ hb hn => hb (h5 b hn)) fun b hb => ?_
    rcases hb with hb | hb
    · exact ⟨.inl hb, by have := h7 b hb; omega⟩
    · exact ⟨.inr hb.1, hb.2⟩
  · rcases (hp b hb).1 with h | h
    · exact .inl (h5 b h)
    · exact .inr ⟨h, (hp b hb).2⟩
  · rcases hb with hb | hb
    · have := h7 b hb; omega
    · exact hb.2
theorem AdX_abide {α β : Type} {J Jx : List β → (Nat → Prop) → World → Prop} {ys : List β} (hJ : Abide J) (hJx : Abide Jx) (c : Code) : Abide (AdX (α := α) J Jx ys c) := by
  rintro pre Pv Pv' A B ⟨h0, Q, h5, h7, hj⟩ hk hp
  have hs := hk.size
  have hk' : Keep (fun b => ¬ Q b) A B := hk.mono fun b _ hb hn => hb (h5 b hn)
  have hq : ∀ b, (Q b ∨ (A.heap.size ≤ b ∧ b < B.heap.size)) → (Q b ∨ A.heap.size ≤ b) ∧ b < B.heap.size := fun b hb => by
    rcases hb with hb | hb
    · exact ⟨.inl hb, by have := h7 b hb; omega⟩
    · exact ⟨.inr hb.1, hb.2⟩
  refine ⟨h0, fun b => Q b ∨ (A.heap.size ≤ b ∧ b < B.heap.size), fun b hb => ?_, fun b hb => (hq b hb).2, ?_⟩
  · rcases (hp b hb).1 with h | h
    · exact .inl (h5 b h)
    · exact .inr ⟨h, (hp b hb).2⟩
  · rcases hj with hj | ⟨pre', rest, he, hj⟩
    · exact .inl (hJ _ _ _ _ _ hj hk' hq)
    · exact .inr ⟨pre', rest, he, hJx _ _ _ _ _ hj hk' hq⟩
theorem four_boxes (W : World) (t0 t1 t2 t3 : TypeId) (v0 v1 v2 v3 : Value) :
    ∃ W1, ((((W.alloc (.cells #[v0] t0)).alloc (.cells #[v1] t1)).alloc (.cells #[v2] t2)).alloc (.cells #[v3] t3)).drew = W1 ∧
      Boxed W1 W.heap.size t0 v0 ∧ Boxed W1 (W.heap.size + 1) t1 v1 ∧ Boxed W1 (W.heap.size + 1 + 1) t2 v2 ∧ Boxed W1 (W.heap.size + 1 + 1 + 1) t3 v3 ∧ W1.heap.size = W.heap.size + 4 ∧ ∀ S, Keep S W W1 := by
  refine ⟨_, rfl, ?_, ?_, ?_, ?_, ?_, fun S => ?_⟩
  · exact (((Boxed.new W t0 v0).alloc _).alloc _).alloc _
  · have := ((Boxed.new (W.alloc (.cells #[v0] t0)) t1 v1).alloc (.cells #[v2] t2)).alloc (.cells #[v3] t3)
    rwa [World.size_alloc] at this
  · have := (Boxed.new ((W.alloc (.cells #[v0] t0)).alloc (.cells #[v1] t1)) t2 v2).alloc (.cells #[v3] t3)
    rwa [World.size_alloc, World.size_alloc] at this
  · have := Boxed.new (((W.alloc (.cells #[v0] t0)).alloc (.cells #[v1] t1)).alloc (.cells #[v2] t2)) t3 v3
    rwa [World.size_alloc, World.size_alloc, World.size_alloc] at this
  · show (World.heap _).size = _
    simp
  · exact ((((Keep.alloc S _ _).trans (Keep.alloc S _ _)).trans (Keep.alloc S _ _)).trans (Keep.alloc S _ _)).trans (Keep.drew S _)
theorem five_boxes (W : World) (t0 t1 t2 t3 t4 : TypeId) (v0 v1 v2 v3 v4 : Value) :
    ∃ W1, (((((W.alloc (.cells #[v0] t0)).alloc (.cells #[v1] t1)).alloc (.cells #[v2] t2)).alloc (.cells #[v3] t3)).alloc (.cells #[v4] t4)).drew = W1 ∧
      Boxed W1 W.heap.size t0 v0 ∧ Boxed W1 (W.heap.size + 1) t1 v1 ∧ Boxed W1 (W.heap.size + 1 + 1) t2 v2 ∧ Boxed W1 (W.heap.size + 1 + 1 + 1) t3 v3 ∧ Boxed W1 (W.heap.size + 1 + 1 + 1 + 1) t4 v4 ∧ W1.heap.size = W.heap.size + 5 ∧ ∀ S, Keep S W W1 := by
  refine ⟨_, rfl, ?_, ?_, ?_, ?_, ?_, ?_, fun S => ?_⟩
  · exact ((((Boxed.new W t0 v0).alloc _).alloc _).alloc _).alloc _
  · have := (((Boxed.new (W.alloc (.cells #[v0] t0)) t1 v1).alloc (.cells #[v2] t2)).alloc (.cells #[v3] t3)).alloc (.cells #[v4] t4)
    rwa [World.size_alloc] at this
  · have := ((Boxed.new ((W.alloc (.cells #[v0] t0)).alloc (.cells #[v1] t1)) t2 v2).alloc (.cells #[v3] t3)).alloc (.cells #[v4] t4)
    rwa [World.size_alloc, World.size_alloc] at this
  · have := (Boxed.new (((W.alloc (.cells #[v0] t0)).alloc (.cells #[v1] t1)).alloc (.cells #[v2] t2)) t3 v3).alloc (.cells #[v4] t4)
    rwa [World.size_alloc, World.size_alloc, World.size_alloc] at this
  · have := Boxed.new ((((W.alloc (.cells #[v0] t0)).alloc (.cells #[v1] t1)).alloc (.cells #[v2] t2)).alloc (.cells #[v3] t3)) t4 v4
    rwa [World.size_alloc, World.size_alloc, World.size_alloc, World.size_alloc] at this
  · show (World.heap _).size = _
    simp
  · exact (((((Keep.alloc S _ _).trans (Keep.alloc S _ _)).trans (Keep.alloc S _ _)).trans (Keep.alloc S _ _)).trans (Keep.alloc S _ _)).trans (Keep.drew S _)
end Go.Proofs.YtniehbjoogaccaaGreatDoor
namespace Go.Proofs.YtniehbjoogaccaaGreatDoor
open Go.RowKit
def low (b : UInt8) : UInt8 := if 65 ≤ b.toNat ∧ b.toNat ≤ 90 then b + 32 else b
def digitB (b : UInt8) : Bool := decide (48 ≤ b.toNat ∧ b.toNat ≤ 57)
def blankB (b : UInt8) : Bool := decide (b.toNat = 32 ∨ b.toNat = 9)
theorem u8_lt (b : UInt8) : b.toNat < 256 := b.toNat_lt
theorem low_hi (b : UInt8) (h1 : 65 ≤ b.toNat) (h2 : b.toNat ≤ 90) : (((low b).toNat : Nat) : Int) = (b.toNat : Int) + 32 := by
  unfold low
  rw [if_pos ⟨h1, h2⟩, UInt8.toNat_add]
  have : (32 : UInt8).toNat = 32 := rfl
  rw [this]
  omega
theorem low_lo (b : UInt8) (h : ¬ (65 ≤ b.toNat ∧ b.toNat ≤ 90)) : low b = b := by
  unfold low
  rw [if_neg h]
theorem lowerByte_any (b : UInt8) (w : World) :
    Calls Tryz.prog 133 #[.int .u8 (b.toNat : Int)] w fun e w' => e = .returned (.int .u8 ((low b).toNat : Int)) ∧ w = w' := by
  have hb := u8_lt b
  by_cases h1 : 65 ≤ b.toNat
  · by_cases h2 : b.toNat ≤ 90
    · have H := Lib.hid (low_hi b h1 h2)
      have d1 : decide ((65 : Int) ≤ (b.toNat : Int)) = true := by simp; omega
      have d2 : decide ((b.toNat : Int) ≤ (90 : Int)) = true := by simp; omega
      go_enter Tryz.func133, Tryz.ntmps133
      go_wp2
      go_ret
      exact ⟨(by rw [H.out]; try rfl), rfl⟩
    · have H := Lib.hid (low_lo b (by omega))
      have d2 : decide ((b.toNat : Int) ≤ (90 : Int)) = false := by simp; omega
      go_enter Tryz.func133, Tryz.ntmps133
      go_wp2
      go_ret
      exact ⟨(by rw [H.out]; try rfl), rfl⟩
  · have H := Lib.hid (low_lo b (by omega))
    have d1 : decide ((65 : Int) ≤ (b.toNat : Int)) = false := by simp; omega
    go_enter Tryz.func133, Tryz.ntmps133
    go_wp2
    go_ret
    exact ⟨(by rw [H.out]; try rfl), rfl⟩
theorem isDigit_any (b : UInt8) (w : World) :
    Calls Tryz.prog 134 #[.int .u8 (b.toNat : Int)] w fun e w' => e = .returned (.bool (digitB b)) ∧ w = w' := by
  have hb := u8_lt b
  by_cases h1 : 48 ≤ b.toNat
  · by_cases h2 : b.toNat ≤ 57
    · have H := Lib.hid (show digitB b = true by simp [digitB]; omega)
      have d1 : decide ((48 : Int) ≤ (b.toNat : Int)) = true := by simp; omega
      have d2 : decide ((b.toNat : Int) ≤ (57 : Int)) = true := by simp; omega
      go_enter Tryz.func134, Tryz.ntmps134
      go_wp2
      go_ret
      exact ⟨(by rw [H.out]; try rfl), rfl⟩
    · have H := Lib.hid (show digitB b = false by simp [digitB]; omega)
      have d2 : decide ((b.toNat : Int) ≤ (57 : Int)) = false := by simp; omega
      go_enter Tryz.func134, Tryz.ntmps134
      go_wp2
      go_ret
      exact ⟨(by rw [H.out]; try rfl), rfl⟩
  · have H := Lib.hid (show digitB b = false by simp [digitB]; omega)
    have d1 : decide ((48 : Int) ≤ (b.toNat : Int)) = false := by simp; omega
    go_enter Tryz.func134, Tryz.ntmps134
    go_wp2
    go_ret
    exact ⟨(by rw [H.out]; try rfl), rfl⟩
end Go.Proofs.YtniehbjoogaccaaGreatDoor
namespace Go.Proofs.YtniehbjoogaccaaGreatDoor
open Go
variable {F : Fence} {n : Nat} {P : Program} {ops : Array Oper} {Q : Exit → Act → World → Prop} {md : Region.Mode} {S : World → Prop}
def noDefer (ops : Array Oper) : Bool := ops.all fun o => match o.op with | .defer _ => false | _ => true
theorem noDefer_spec (h : noDefer ops = true) {j : Nat} {o : Oper} (hj : ops[j]? = some o) : ∀ c, o.op ≠ .defer c := by
  intro c hc
  obtain ⟨hlt, he⟩ := Array.getElem?_eq_some_iff.1 hj
  have := (Array.all_eq_true.1 h) j hlt
  rw [he, hc] at this
  cases this
theorem semAt_exec (o : Oper) (h : ∀ c, o.op ≠ .defer c) (r : Option Nat) (ρ : Operand → Value) : o.semAt r ρ = execOp ρ o := by
  cases r with
  | none => exact Oper.semAt_none _ _
  | some l => exact Oper.semAt_some l ρ o h
def Yld (P : Program) (ops : Array Oper) (S : World → Prop) (o : Oper) (v : Value) (a : Act) : Prop := YieldsIf P ops S o v a ∧ ∀ w, o.about P w a.eval = none
theorem Yld.same {o : Oper} {v : Value} {a a' : Act} (hy : Yld P ops S o v a) (he : execOp a'.eval o = execOp a.eval o)
    (hw : Region.wanted o (yielded ops a'.tmps) = Region.wanted o (yielded ops a.tmps)) (hb : ∀ w, o.about P w a'.eval = o.about P w a.eval) : Yld P ops S o v a' :=
  ⟨hy.1.of_same he hw, fun w => by rw [hb w]; exact hy.2 w⟩
theorem Yld.op {i : Nat} {o : Oper} {v : Value} {a : Act} (hi : ops[i]? = some o) (hd : ∀ c, o.op ≠ .defer c) (hy : Yld P ops S o v a)
    {K : Act → World → Prop} {w : World} (hS : S w) (h : K (a.put o.dst v) w) : wpOpIn F n P ops Q i K a w := by
  unfold wpOpIn
  simp only [hi]
  have hab : ∀ f, o.about P w a.eval = some f → F.fn f := fun f hf => by rw [hy.2 w] at hf; cases hf
  rcases hy.1 with ⟨hw, hv⟩ | ⟨hw, rfl⟩
  · simp only [hw, if_true, Oper.wpIn, semAt_exec o hd, hv w hS, Oper.uponIn]; exact ⟨hab, h⟩
  · simp only [hw, Bool.false_eq_true, if_false]; exact ⟨hab, h⟩
theorem Yld.past {j : Nat} {oi oj : Oper} {v : Value} (hj : ops[j]? = some oj) (hd : ∀ c, oj.op ≠ .defer c) (hap : oi.apart ops oj = true)
    (hsi : ∀ cs b, oi.op ≠ .select cs b) (hsj : ∀ cs b, oj.op ≠ .select cs b)
    (hQ : ∀ c a w, Q (.panic c) (a.put oi.dst v) w → Q (.panic c) a w) {K : Act → World → Prop} {a : Act} {w : World}
    (hy : Yld P ops S oi v a) (h : wpOpIn F n P ops Q j K (a.put oi.dst v) w) :
    wpOpIn F n P ops Q j (fun a' w' => Yld P ops S oi v a' ∧ K (a'.put oi.dst v) w') a w := by
  obtain ⟨h1, h2, h3⟩ := Oper.apart_spec hap
  have keep : ∀ u, Yld P ops S oi v (a.put oj.dst u) := fun u =>
    hy.same (execOp_put oi hsi a oj.dst u h3) (wanted_put oi a oj.dst u h3) (fun w => about_put oi w a oj.dst u h3)
  have turn : ∀ u w', K ((a.put oi.dst v).put oj.dst u) w' → Yld P ops S oi v (a.put oj.dst u) ∧ K ((a.put oj.dst u).put oi.dst v) w' :=
    fun u w' hk => ⟨keep u, by rw [← Act.put_comm a v u h2]; exact hk⟩
  unfold wpOpIn at *
  simp only [hj] at *
  rw [wanted_put oj a oi.dst v h1, about_put oj w a oi.dst v h1] at h
  by_cases hw : Region.wanted oj (yielded ops a.tmps) = true
  · rw [if_pos hw] at h ⊢
    unfold Oper.wpIn at *
    rw [about_put oj w a oi.dst v h1, semAt_exec oj hd, execOp_put oj hsj a oi.dst v h1] at h
    rw [semAt_exec oj hd]
    refine ⟨h.1, ?_⟩
    have h := h.2
    cases hr : (execOp a.eval oj).run P w with
    | halt x w' =>
      rw [hr] at h
      cases x with
      | panic u => exact hQ _ _ _ h
      | _ => exact h
    | ok x w' =>
      rw [hr] at h
      cases x with
      | value u => exact turn u w' h
      | skip => exact turn undef w' h
      | defer d =>
        have e : ∀ u, ({ a.put oi.dst v with defers := d :: (a.put oi.dst v).defers } : Act).put oj.dst u = (({ a with defers := d :: a.defers } : Act).put oj.dst u).put oi.dst v := fun u => by
          rw [← Act.put_comm _ v u h2]
          unfold Act.put
          cases oi.dst <;> cases oj.dst <;> rfl
        refine ⟨Yld.same (a := { a with defers := d :: a.defers }) (hy.same rfl rfl (fun _ => rfl)) (execOp_put oi hsi _ oj.dst _ h3) (wanted_put oi _ oj.dst _ h3) (fun w => about_put oi w _ oj.dst _ h3), ?_⟩
        rw [← e]
        exact h
      | enter f args =>
        refine ⟨h.1, CallsIn.mono h.2 fun e w'' he => ?_⟩
        cases e with
        | returned u => exact turn u w'' he
        | panicked c => exact hQ _ _ _ he
        | outgrown => exact he
      | row row args => exact ⟨h.1, RowsIn.mono h.2 fun u w'' he => turn u w'' he⟩
      | round l f tmps assign body =>
        refine ⟨h.1, RoundIn.mono h.2 fun e w'' he => ?_⟩
        cases e with
        | returned u => exact turn u w'' he
        | panicked c => exact hQ _ _ _ he
        | outgrown => exact he
      | _ => exact h
  · rw [if_neg hw] at h ⊢
    exact ⟨h.1, turn undef w h.2⟩
def anyH (F : Fence) (n : Nat) (P : Program) (md : Region.Mode) (ops : Array Oper) (Q : Exit → Act → World → Prop) (S : World → Prop) : Nat → Array Bool → Act → World → Prop
  | 0, listed, a, w => Region.ready md ops listed = [] ∧ Q .normal a w
  | fuel + 1, listed, a, w =>
    (Region.ready md ops listed = [] → Q .normal a w) ∧
    ∀ i ∈ Region.ready md ops listed, wpOpIn F n P ops Q i (fun a' w' => S w' ∧ anyH F n P md ops Q S fuel (listed.setIfInBounds i true) a' w') a w
theorem any_of_anyH : ∀ (fuel : Nat) (listed : Array Bool) (a : Act) (w : World), anyH F n P md ops Q S fuel listed a w → wpAnyIn F n P md ops Q fuel listed a w
  | 0, _, _, _, h => h
  | fuel + 1, _, _, _, h => ⟨h.1, fun i hi => wpOpIn_mono (fun a' w' h' => any_of_anyH fuel _ a' w' h'.2) (h.2 i hi)⟩
theorem anyH_first {i : Nat} {oi : Oper} {v : Value} (hi : ops[i]? = some oi) (hd : noDefer ops = true) (hsel : ∀ (j : Nat) (o : Oper) cs b, ops[j]? = some o → o.op ≠ .select cs b)
    (hQ : ∀ c a w, Q (.panic c) (a.put oi.dst v) w → Q (.panic c) a w) :
    ∀ (fuel : Nat) (listed : Array Bool) (a : Act) (w : World),
      (∀ j oj, ops[j]? = some oj → j ≠ i → listed.getD j true = false → (∀ e ∈ oj.after, Region.binds md e = true → e.on ≠ i) → oi.apart ops oj = true) →
      i ∈ Region.ready md ops listed → Yld P ops S oi v a → S w →
      anyH F n P md ops Q S fuel (listed.setIfInBounds i true) (a.put oi.dst v) w → anyH F n P md ops Q S (fuel + 1) listed a w := by
  intro fuel
  induction fuel with
  | zero =>
    intro listed a w _ hr hy hS H
    refine ⟨fun h => (by rw [h] at hr; cases hr), fun j hj => ?_⟩
    by_cases hji : j = i
    · subst hji; exact hy.op hi (noDefer_spec hd hi) hS ⟨hS, H⟩
    · have := ready_mono hj hji
      rw [H.1] at this
      cases this
  | succ fuel ih =>
    intro listed a w hfree hr hy hS H
    refine ⟨fun h => (by rw [h] at hr; cases hr), fun j hj => ?_⟩
    by_cases hji : j = i
    · subst hji; exact hy.op hi (noDefer_spec hd hi) hS ⟨hS, H⟩
    · have h1 := H.2 j (ready_mono hj hji)
      obtain ⟨hjun, oj, hoj, hall⟩ := mem_ready.1 hj
      have hnot : ∀ e ∈ oj.after, Region.binds md e = true → e.on ≠ i := fun e he hb heq => by
        have h1 := hall e he hb
        have h0 := (mem_ready.1 hr).1
        rw [heq] at h1
        rcases Nat.lt_or_ge i listed.size with h' | h'
        · simp [h'] at h0 h1; rw [h0] at h1; cases h1
        · simp [Array.getElem?_eq_none h'] at h1
      have h2 := hy.past hoj (noDefer_spec hd hoj) (hfree j oj hoj hji hjun hnot) (fun cs b => hsel i oi cs b hi) (fun cs b => hsel j oj cs b hoj) hQ h1
      have hfree' : ∀ k ok, ops[k]? = some ok → k ≠ i → (listed.setIfInBounds j true).getD k true = false →
          (∀ e ∈ ok.after, Region.binds md e = true → e.on ≠ i) → oi.apart ops ok = true := fun k ok hk hki hun hno => by
        refine hfree k ok hk hki ?_ hno
        by_cases hjk : j = k
        · subst hjk; exact hjun
        · rw [getD_set_ne true hjk] at hun; exact hun
      refine wpOpIn_mono (fun a' w' h3 => ⟨h3.2.1, ih (listed.setIfInBounds j true) a' w' hfree' (ready_mono hr (Ne.symm hji)) h3.1 h3.2.1 ?_⟩) h2
      rw [Array.setIfInBounds_comm _ _ hji]
      exact h3.2.2
def NP (Q : Exit → Act → World → Prop) : Exit → Act → World → Prop
  | .panic _, _, _ => False
  | e, a, w => Q e a w
theorem NP.imp {Q : Exit → Act → World → Prop} : ∀ (e : Exit) (a : Act) (w : World), NP Q e a w → Q e a w := fun e a w h => by
  cases e <;> first | exact h | exact (h : False).elim
theorem region_any {id : Nat} {a : Act} {w : World} (S : World → Prop) (hm : P.follows .mixedOrders = true)
    (h : anyH F n P .any ops (NP Q) S ops.size (Array.replicate ops.size false) a w.drew) : (Code.region id ops true).wpIn F n P Q a w :=
  wpIn_mono (wpIn_region_any hm (any_of_anyH _ _ _ _ h)) NP.imp
theorem drew_alloc (w : World) (o : Obj) : w.drew.alloc o = (w.alloc o).drew := rfl
theorem drew_size (w : World) : w.drew.heap.size = w.heap.size := rfl
theorem anyH_take (i : Nat) {oi : Oper} {v : Value} {fuel : Nat} {listed : Array Bool} {a : Act} {w : World} (hi : ops[i]? = some oi)
    (hd : noDefer ops = true) (hs : Region.noSelect ops = true) (hf : Region.free md ops listed i = true) (hr : (Region.ready md ops listed).contains i = true)
    (hQ : ∀ c a w, Q (.panic c) (a.put oi.dst v) w → Q (.panic c) a w) (hy : Yld P ops S oi v a) (hS : S w)
    (h : anyH F n P md ops Q S fuel (listed.setIfInBounds i true) (a.put oi.dst v) w) : anyH F n P md ops Q S (fuel + 1) listed a w :=
  anyH_first hi hd (Region.noSelect_spec hs) hQ fuel listed a w (Region.free_spec hi hf) (by simpa using hr) hy hS h
theorem anyH_one (i : Nat) {fuel : Nat} {listed : Array Bool} {a : Act} {w : World} {o : Oper} (hr : Region.ready md ops listed = [i]) (ho : ops[i]? = some o)
    (h : ∀ K : Act → World → Prop, (∀ a' w', S w' → anyH F n P md ops Q S fuel (listed.setIfInBounds i true) a' w' → K a' w') →
      if Region.wanted o (yielded ops a.tmps) = true then Oper.wpIn F n P o a w K Q else (∀ f, o.about P w a.eval = some f → F.fn f) ∧ K (a.put o.dst undef) w) : anyH F n P md ops Q S (fuel + 1) listed a w := by
  refine ⟨fun h0 => (by rw [hr] at h0; cases h0), fun j hj => ?_⟩
  rw [hr] at hj
  obtain rfl : j = i := by simpa using hj
  exact wpOpIn_step ho fun K' hK' => h K' fun a' w' hs ha => hK' a' w' ⟨hs, ha⟩
theorem anyH_done {listed : Array Bool} {a : Act} {w : World} (hr : Region.ready md ops listed = []) (h : Q .normal a w) : ∀ fuel, anyH F n P md ops (NP Q) S fuel listed a w
  | 0 => ⟨hr, h⟩
  | _ + 1 => ⟨fun _ => h, by rw [hr]; simp⟩
end Go.Proofs.YtniehbjoogaccaaGreatDoor
namespace Go.Proofs.YtniehbjoogaccaaGreatDoor
open Go
variable {P : Program} {ops : Array Oper} {Q : Exit → Act → World → Prop} {md : Region.Mode} {S : World → Prop}
theorem pregion_any {id : Nat} {a : Act} {w : World} (S : World → Prop) (hm : P.follows .mixedOrders = true)
    (h : wpAnyH P .any ops (NoPanic Q) S ops.size (Array.replicate ops.size false) a w.drew) : (Code.region id ops true).wp P Q a w :=
  Code.wp_mono NoPanic.imp (wp_region_held hm h)
theorem pone (i : Nat) {fuel : Nat} {listed : Array Bool} {a : Act} {w : World} {o : Oper} (hr : Region.ready md ops listed = [i]) (ho : ops[i]? = some o)
    (h : ∀ K : Act → World → Prop, (∀ a' w', S w' → wpAnyH P md ops Q S fuel (listed.setIfInBounds i true) a' w' → K a' w') →
      if Region.wanted o (yielded ops a.tmps) = true then Oper.wp P o a w K Q else K (a.put o.dst undef) w) : wpAnyH P md ops Q S (fuel + 1) listed a w :=
  wpAnyH_all hr (by simp) (AllReadyH.cons ho (fun K hK => h K fun a' w' hs ha => hK.out a' w' hs fun _ => ha) AllReadyH.nil)
theorem pdone {listed : Array Bool} {a : Act} {w : World} (hr : Region.ready md ops listed = []) (h : Q .normal a w) : ∀ fuel, wpAnyH P md ops (NoPanic Q) S fuel listed a w :=
  wpAnyH_done hr h
theorem plist (L : Array Bool) {fuel : Nat} {listed : Array Bool} {a : Act} {w : World} (he : listed = L) (h : wpAnyH P md ops Q S fuel L a w) : wpAnyH P md ops Q S fuel listed a w := he ▸ h
theorem pmore {S' : World → Prop} (hs : ∀ w, S' w → S w) : ∀ {fuel : Nat} {listed : Array Bool} {a : Act} {w : World}, wpAnyH P md ops Q S' fuel listed a w → wpAnyH P md ops Q S fuel listed a w
  | 0, _, _, _, h => h
  | _ + 1, _, _, _, h => ⟨h.1, fun i hi => wpOp_mono (fun _ w' h' => ⟨hs w' h'.1, pmore hs h'.2⟩) (h.2 i hi)⟩
end Go.Proofs.YtniehbjoogaccaaGreatDoor
namespace Go.Proofs.YtniehbjoogaccaaGreatDoor
theorem Lin.irr {α : Type} [LT α] [LE α] [Std.IsLinearOrder α] [Std.LawfulOrderLT α] (a : α) : ¬ a < a := Std.lt_irrefl
theorem Lin.tr {α : Type} [LT α] [LE α] [Std.IsLinearOrder α] [Std.LawfulOrderLT α] {a b c : α} (h : a < b) (k : b < c) : a < c := Std.lt_trans h k
theorem Lin.tri {α : Type} [LT α] [LE α] [Std.IsLinearOrder α] [Std.LawfulOrderLT α] (a b : α) : a < b ∨ a = b ∨ b < a := Std.lt_trichotomy a b
theorem lin_asym {α : Type} [LT α] [LE α] [Std.IsLinearOrder α] [Std.LawfulOrderLT α] {a b : α} (h : a < b) : ¬ b < a := fun k => Lin.irr a (Lin.tr h k)
theorem lin_ne {α : Type} [LT α] [LE α] [Std.IsLinearOrder α] [Std.LawfulOrderLT α] {a b : α} (h : a < b) : a ≠ b := fun e => Lin.irr a (by rw [e] at h ⊢; exact h)
theorem lin_eq {α : Type} [LT α] [LE α] [Std.IsLinearOrder α] [Std.LawfulOrderLT α] {a b : α} (h : ¬ a < b) (k : ¬ b < a) : a = b := by
  rcases Lin.tri a b with x | x | x
  · exact absurd x h
  · exact x
  · exact absurd x k
def Rises {α : Type} [LT α] (xs : List α) : Prop := xs.Pairwise (· < ·)
theorem Rises.tail {α : Type} [LT α] [DecidableEq α] [DecidableLT α] [LE α] [Std.IsLinearOrder α] [Std.LawfulOrderLT α] {x : α} {xs : List α} (h : Rises (x :: xs)) : Rises xs := (List.pairwise_cons.1 h).2
theorem Rises.head {α : Type} [LT α] [DecidableEq α] [DecidableLT α] [LE α] [Std.IsLinearOrder α] [Std.LawfulOrderLT α] {x : α} {xs : List α} (h : Rises (x :: xs)) : ∀ y ∈ xs, x < y := (List.pairwise_cons.1 h).1
theorem Rises.nil {α : Type} [LT α] [DecidableEq α] [DecidableLT α] [LE α] [Std.IsLinearOrder α] [Std.LawfulOrderLT α] : Rises ([] : List α) := List.Pairwise.nil
theorem Rises.cons {α : Type} [LT α] [DecidableEq α] [DecidableLT α] [LE α] [Std.IsLinearOrder α] [Std.LawfulOrderLT α] {x : α} {xs : List α} (h : ∀ y ∈ xs, x < y) (k : Rises xs) : Rises (x :: xs) := List.pairwise_cons.2 ⟨h, k⟩
theorem Rises.notmem {α : Type} [LT α] [DecidableEq α] [DecidableLT α] [LE α] [Std.IsLinearOrder α] [Std.LawfulOrderLT α] {x : α} {xs : List α} (h : Rises (x :: xs)) : x ∉ xs := fun hm => Lin.irr x (h.head x hm)
theorem rises_ext {α : Type} [LT α] [DecidableEq α] [DecidableLT α] [LE α] [Std.IsLinearOrder α] [Std.LawfulOrderLT α] : ∀ {xs ys : List α}, Rises xs → Rises ys → (∀ a, a ∈ xs ↔ a ∈ ys) → xs = ys
  | [], [], _, _, _ => rfl
  | [], y :: ys, _, _, h => absurd ((h y).2 (by simp)) (by simp)
  | x :: xs, [], _, _, h => absurd ((h x).1 (by simp)) (by simp)
  | x :: xs, y :: ys, hx, hy, h => by
    have e : x = y := by
      have h1 := (h x).1 (by simp)
      have h2 := (h y).2 (by simp)
      rcases List.mem_cons.1 h1 with h1 | h1
      · exact h1
      · rcases List.mem_cons.1 h2 with h2 | h2
        · exact h2.symm
        · exact absurd (hy.head x h1) (lin_asym (hx.head y h2))
    subst e
    rw [rises_ext hx.tail hy.tail fun a => ?_]
    constructor
    · intro ha
      rcases List.mem_cons.1 ((h a).1 (List.mem_cons_of_mem _ ha)) with rfl | h'
      · exact absurd ha hx.notmem
      · exact h'
    · intro ha
      rcases List.mem_cons.1 ((h a).2 (List.mem_cons_of_mem _ ha)) with rfl | h'
      · exact absurd ha hy.notmem
      · exact h'
def cmpL {α : Type} [LT α] [DecidableLT α] : List α → List α → Int
  | [], [] => 0
  | [], _ :: _ => -1
  | _ :: _, [] => 1
  | x :: xs, y :: ys => if x < y then -1 else if y < x then 1 else cmpL xs ys
theorem cmpL_neg {α : Type} [LT α] [DecidableEq α] [DecidableLT α] [LE α] [Std.IsLinearOrder α] [Std.LawfulOrderLT α] : ∀ xs ys : List α, cmpL xs ys = -cmpL ys xs
  | [], [] => rfl
  | [], _ :: _ => rfl
  | _ :: _, [] => rfl
  | x :: xs, y :: ys => by
    unfold cmpL
    by_cases h : x < y
    · rw [if_pos h, if_neg (lin_asym h), if_pos h]
    · by_cases k : y < x
      · rw [if_neg h, if_pos k, if_pos k]; rfl
      · rw [if_neg h, if_neg k, if_neg k, if_neg h, cmpL_neg xs ys]
theorem cmpL_bd {α : Type} [LT α] [DecidableLT α] : ∀ xs ys : List α, cmpL xs ys = -1 ∨ cmpL xs ys = 0 ∨ cmpL xs ys = 1
  | [], [] => by simp [cmpL]
  | [], _ :: _ => by simp [cmpL]
  | _ :: _, [] => by simp [cmpL]
  | x :: xs, y :: ys => by
    unfold cmpL
    by_cases h : x < y
    · rw [if_pos h]; simp
    · by_cases k : y < x
      · rw [if_neg h, if_pos k]; simp
      · rw [if_neg h, if_neg k]; exact cmpL_bd xs ys
end Go.Proofs.YtniehbjoogaccaaGreatDoor
namespace Go.Proofs.YtniehbjoogaccaaGreatDoor.Drawn
open Go Go.RowKit
set_option linter.unusedVariables false
def Dr {α : Type} (n : Nat) : Result α → Prop
  | .ok _ w => n ≤ w.drawn
  | .halt _ w => n ≤ w.drawn
theorem Dr.mono {α : Type} {n m : Nat} {r : Result α} (h : Dr n r) (k : m ≤ n) : Dr m r := by cases r <;> exact Nat.le_trans k h
theorem Dr.ok {α : Type} {n : Nat} {r : Result α} {a : α} {w : World} (h : Dr n r) (e : r = .ok a w) : n ≤ w.drawn := by subst e; exact h
theorem Dr.halt {α : Type} {n : Nat} {r : Result α} {a : Halt} {w : World} (h : Dr n r) (e : r = .halt a w) : n ≤ w.drawn := by subst e; exact h
theorem ask_dr {α : Type} : ∀ (a : Ask α) (w : World), w.drawn ≤ (w.ask a).2.drawn
  | .done _, _ => Nat.le_refl _
  | .ask what range k, w => by
    unfold World.ask
    dsimp only
    split
    · exact ask_dr _ _
    · exact Nat.le_trans (Nat.le_succ _) (ask_dr _ { w with drawn := w.drawn + 1 })
theorem sys_dr (w : World) (c : Sys) : w.drawn ≤ (w.sys c).2.drawn := by
  have h := ask_dr (Kernel.perform c w.os) w
  unfold World.sys
  generalize w.ask (Kernel.perform c w.os) = r at h
  obtain ⟨⟨r, os⟩, w'⟩ := r
  cases r <;> first | exact h | exact Nat.le_refl _
theorem view_dr (p : Program) (w : World) (at_ : Addr) (u : TypeId) (k : Addr) (v : Value) (atomic : Bool) (w' : World) (l : List Addr) (h : w.viewStore p at_ u k v atomic = .ok (w', l)) : w'.drawn = w.drawn := by
  unfold World.viewStore at h
  simp only [bind, Except.bind, pure, Except.pure] at h
  repeat' first
    | (cases h; done)
    | (cases h; rfl)
    | split at h
theorem far_dr (p : Program) (w : World) (a : Addr) (v : Value) (atomic : Bool) (w' : World) (l : List Addr) (h : w.farStore p a v atomic = .ok (w', l)) : w'.drawn = w.drawn := by
  unfold World.farStore at h
  split at h
  · rename_i at_ u hb
    cases hv : w.viewStore p at_ u a v atomic with
    | ok r =>
      rw [hv] at h
      obtain ⟨w2, l2⟩ := r
      cases h
      exact view_dr p w at_ u a v atomic _ _ hv
    | error e => rw [hv] at h; cases h
  · cases h
theorem run_dr {α : Type} (p : Program) (s : Sem α) : ∀ w : World, Dr w.drawn (s.run p w) := by
  induction s with
  | pure a => intro w; exact Nat.le_refl _
  | load m a k ih =>
    intro w
    unfold Sem.run
    repeat' split
    all_goals first | exact ih _ _ | exact Nat.le_refl _
  | store m a v k ih =>
    intro w
    cases v
    case agg => exact Nat.le_refl _
    case tuple => exact Nat.le_refl _
    all_goals
      unfold Sem.run
      split
      · split
        · exact Nat.le_refl _
        · exact ih _
      · split
        · rename_i hf; exact (ih _).mono (Nat.le_of_eq (far_dr _ _ _ _ _ _ _ hf).symm)
        · exact Nat.le_refl _
  | new o k ih => intro w; exact ih _ _
  | shape r k ih => intro w; exact ih _ _
  | freeze a n k ih => intro w; exact (ih _).mono (by unfold World.freeze; split <;> exact Nat.le_refl _)
  | frozen a k ih => intro w; exact ih _ _
  | getObj r k ih =>
    intro w
    unfold Sem.run
    repeat' split
    all_goals first | exact ih _ _ | exact Nat.le_refl _
  | setObj r o k ih =>
    intro w
    unfold Sem.run
    repeat' split
    all_goals first | exact ih _ | exact Nat.le_refl _
  | choose q k ih =>
    intro w
    unfold Sem.run
    split
    · exact ih _ _
    · exact (ih _ _).mono (Nat.le_succ _)
  | sys c k ih => intro w; exact (ih _ _).mono (sys_dr w c)
  | program k ih => intro w; exact ih _ _
  | mark m k ih => intro w; exact ih _
  | halt h => intro w; exact Nat.le_refl _
theorem dr_of {α : Type} {p : Program} {s : Sem α} {w : World} {r : Result α} (h : s.run p w = r) : Dr w.drawn r := h ▸ run_dr p s w
def Sr (n : Nat) : GStep → Prop
  | .go _ w _ => n ≤ w.drawn
  | .comm _ _ _ _ w _ => n ≤ w.drawn
  | .spawn _ _ w _ => n ≤ w.drawn
  | .count _ w _ => n ≤ w.drawn
  | .timer _ _ w _ => n ≤ w.drawn
  | .alone _ _ w _ => n ≤ w.drawn
  | .newcoro _ _ _ w _ => n ≤ w.drawn
  | .coroswitch _ _ _ w _ => n ≤ w.drawn
  | .collect _ w _ => n ≤ w.drawn
  | .watch _ w _ => n ≤ w.drawn
  | .ended _ _ _ => True
theorem Sr.after {n : Nat} {es : Array Event} {s : GStep} (h : Sr n s) : Sr n (GStep.after es s) := by cases s <;> exact h
theorem Sr.mono {n m : Nat} {s : GStep} (h : Sr n s) (k : m ≤ n) : Sr m s := by cases s <;> first | exact Nat.le_trans k h | exact trivial
theorem Sr.elim {α : Type} {n : Nat} (o : Option α) {a : GStep} {f : α → GStep} (h0 : Sr n a) (h : ∀ x, Sr n (f x)) : Sr n (o.elim a f) := by
  cases o
  · exact h0
  · exact h _
theorem endWith_sr (n : Nat) (w : World) (fd : Nat) (text : ByteArray) (o : Outcome) : Sr n (endWith w fd text o) := by
  unfold endWith
  dsimp only
  repeat' split
  all_goals exact trivial
theorem endPrinting_sr (p : Program) (fr : Frame) (v : Value) (w : World) : Sr w.drawn (endPrinting p fr v w) := by
  unfold endPrinting
  dsimp only
  split
  · exact Nat.le_refl _
  · exact trivial
theorem endFatal_sr (p : Program) (fr : Frame) (callers : List Frame) (dying : Option Dying) (m : String) (w : World) : Sr w.drawn (endFatal p fr callers dying m w) := by
  unfold endFatal
  dsimp only
  split
  · rename_i h; exact (run_dr p _ w).ok h
  · exact trivial
  · exact trivial
theorem writeOn_sr (p : Program) (fr : Frame) (d : Dying) (f : Fatal) (w : World) : Sr w.drawn (writeOn p fr d f w) := by
  unfold writeOn
  simp only [Sem.runT_eq]
  split
  · exact trivial
  · split
    · rename_i h; exact (run_dr p _ w).ok (Prod.mk.inj h).1
    · rename_i h; exact (run_dr p _ w).halt (Prod.mk.inj h).1
    · exact trivial
    · exact trivial
theorem die_sr (p : Program) (fr : Frame) (d : Dying) (w : World) : Sr w.drawn (die p fr d w) := by
  unfold die
  split
  · exact writeOn_sr _ _ _ _ _
  · split
    · split
      · exact Nat.le_refl _
      · exact endWith_sr _ _ _ _ _
    · simp only [Sem.runT_eq]
      split
      · exact Nat.le_refl _
      · split
        · rename_i h; exact (run_dr p _ w).ok h
        · exact trivial
      · refine Sr.after ?_
        split
        · rename_i h; exact (run_dr p _ w).ok h
        · rename_i h; exact (run_dr p _ w).ok h
        · exact trivial
        · rename_i h; exact (endPrinting_sr _ _ _ _).mono ((run_dr p _ w).halt h)
        · exact trivial
      · exact trivial
theorem doReturn_sr (p : Program) (main : Bool) (fr : Frame) (callers : List Frame) (dying : Option Dying) (v : Value) (w : World) : Sr w.drawn (doReturn p main fr callers dying v w) := by
  unfold doReturn
  repeat' split
  all_goals first | exact Nat.le_refl _ | exact trivial
theorem Sr.ite {n : Nat} {c : Prop} [Decidable c] {a b : GStep} (h : Sr n a) (k : Sr n b) : Sr n (if c then a else b) := by split <;> assumption
theorem callDeferred_sr (p : Program) (fr : Frame) (callers : List Frame) (dying : Option Dying) (d : Deferred) (w : World) : Sr w.drawn (callDeferred p fr callers dying d w) := by
  unfold callDeferred
  simp only [Sem.runT_eq]
  refine Sr.ite trivial (Sr.after ?_)
  have h := run_dr p (invoke d.target d.args) w
  generalize (invoke d.target d.args).run p w = r at h ⊢
  rcases r with ⟨a, w'⟩ | ⟨a, w'⟩ <;> cases a
  all_goals
    simp only [Dr] at h
    first
    | exact h
    | exact trivial
    | exact (endFatal_sr _ _ _ _ _ _).mono h
    | (generalize fr.mode = x, tryRecover fr callers = y; cases x <;> rcases y with _ | ⟨_, _⟩ <;> exact h)
    | (rename_i x; cases x <;> first | exact h | exact trivial)
    | (rename_i x _; cases x <;> first | exact h | exact trivial)
theorem unwind_sr (p : Program) (main : Bool) (fr : Frame) (callers : List Frame) (dying : Option Dying) (w : World) : Sr w.drawn (unwind p main fr callers dying w) := by
  unfold unwind
  simp only [Sem.runT_eq]
  split
  · refine Sr.after ?_
    split
    · rename_i h; exact (run_dr p _ w).ok h
    · exact trivial
  · exact callDeferred_sr _ _ _ _ _ _
  · split
    · exact trivial
    · split
      · exact trivial
      · split
        · exact Nat.le_refl _
        · split
          · split
            · exact Nat.le_refl _
            · split
              · rename_i h; exact (run_dr p _ w).ok h
              · exact trivial
              · exact trivial
          · split
            · exact endPrinting_sr _ _ _ _
            · exact trivial
    · split
      · exact doReturn_sr _ _ _ _ _ _ _
      · refine Sr.after ?_
        split
        · rename_i h; exact (doReturn_sr _ _ _ _ _ _ _).mono ((run_dr p _ w).ok h)
        · exact trivial
        · exact trivial
theorem there_sr (n : Nat) (g : Nat) (p : Program) (fr : Frame) (callers : List Frame) (dying : Option Dying) (w' : World) (h : n ≤ w'.drawn) : Sr n (match w'.heap[g]? with
    | some (.pending c elem) => .go { frame := fr, callers, status := .running, dying } { w' with heap := w'.heap.setIfInBounds g (.cells c elem) }
    | _ => .ended (.stuck "early: the variable does not wait" (fr.pos p)) w') := by
  split
  · exact h
  · exact trivial
theorem early_sr (p : Program) (fr : Frame) (callers : List Frame) (dying : Option Dying) (g : Nat) (w : World) : Sr w.drawn (early p fr callers dying g w) := by
  unfold early
  dsimp only
  refine Sr.ite (there_sr _ _ _ _ _ _ _ (Nat.le_refl _)) ?_
  split
  · exact trivial
  · refine Sr.ite (there_sr _ _ _ _ _ _ _ (Nat.le_refl _)) (Sr.ite (there_sr _ _ _ _ _ _ _ (Nat.le_refl _)) ?_)
    split
    · exact trivial
    · exact Nat.le_refl _
    · exact trivial
    · exact there_sr _ _ _ _ _ _ _ (Nat.le_refl _)
    · refine Sr.ite (Nat.le_refl _) (Sr.ite (there_sr _ _ _ _ _ _ _ (Nat.le_refl _)) ?_)
      split
      · rename_i h; exact there_sr _ _ _ _ _ _ _ ((run_dr p _ w).ok h)
      · rename_i h; exact (run_dr p _ w).ok h
      · exact trivial
theorem apply_sr (p : Program) (listen : Bool) (fr : Frame) (callers : List Frame) (dying : Option Dying) (s : Sem Next) (w : World) : Sr w.drawn (stepG.apply p listen fr callers dying s w) := by
  unfold stepG.apply
  simp only [Sem.runT_eq]
  refine Sr.after ?_
  have h := run_dr p s w
  have e : (if listen = true then (s.run p w, s.events p w #[]) else (s.run p w, #[])).1 = s.run p w := by split <;> rfl
  rw [e]
  generalize s.run p w = r at h ⊢
  rcases r with ⟨a, w'⟩ | ⟨a, w'⟩ <;> cases a
  all_goals
    simp only [Dr] at h
  all_goals first
    | exact h
    | exact trivial
    | exact (endFatal_sr _ _ _ _ _ _).mono h
    | skip
  case ok.recover =>
    show Sr w.drawn (match (match fr.roundOf with
      | some l => if p.follows .rangeFuncRecover then tryRecover fr callers else tryRecoverLoop l callers
      | none => tryRecover fr callers) with
      | some (v, callers) => .go { frame := fr.finish v, callers, status := .running, dying } w'
      | none => .go { frame := fr.finish .nilIface, callers, status := .running, dying } w')
    split <;> exact h
  case ok.spawn => exact Sr.ite h h
  case ok.callThen | ok.row | ok.stack =>
    obtain ⟨fn, tmps, todo, defers, mode, kind, ro⟩ := fr
    rcases todo with _ | ⟨i, k⟩
    · exact h
    · cases i <;> exact h
  all_goals
    rename_i u
    cases u
    all_goals first
      | exact trivial
      | exact (early_sr _ _ _ _ _ _).mono h
theorem oper_sr (p : Program) (listen : Bool) (fr : Frame) (callers : List Frame) (dying : Option Dying) (w : World) : Sr w.drawn (stepG.oper p listen fr callers dying w) := by
  unfold stepG.oper
  split
  · exact trivial
  · split <;> exact apply_sr _ _ _ _ _ _ _
theorem exec_sr (p : Program) (main listen : Bool) (fr : Frame) (callers : List Frame) (dying : Option Dying) (w : World) : Sr w.drawn (stepG.exec p main listen fr callers dying w) := by
  unfold stepG.exec
  simp only [Sem.runT_eq]
  repeat' first
    | exact apply_sr _ _ _ _ _ _ _
    | exact oper_sr _ _ _ _ _ _
    | (rename_i h; exact (apply_sr _ _ _ _ _ _ _).mono ((run_dr p _ w).ok h))
    | exact Nat.le_refl _
    | exact trivial
    | refine Sr.elim _ ?_ (fun _ => ?_)
    | refine Sr.after ?_
    | (rename_i h; exact (run_dr p _ w).ok h)
    | (rename_i h; exact (run_dr p _ w).halt h)
    | (rename_i h; exact (doReturn_sr _ _ _ _ _ _ _).mono ((run_dr p _ w).ok h))
    | split
theorem stepG_sr (p : Program) (main : Bool) (g : Goroutine) (w : World) (b : Bool) : Sr w.drawn (stepG p main g w b) := by
  obtain ⟨fr, callers, status, dying, offers⟩ := g
  simp only [stepG]
  split
  · exact die_sr _ _ _ _
  · exact exec_sr _ _ _ _ _ _ _
  · exact unwind_sr _ _ _ _ _ _
def Tr (n : Nat) : Stepped → Prop
  | .next m => n ≤ m.world.drawn
  | .ended _ _ => True
theorem poll_dr {rest : Rest} {cases : Array CommCase} {w w' : World} (h : waitingAt rest cases w = some w') : w'.drawn = w.drawn := by
  unfold waitingAt at h
  repeat' split at h
  all_goals first | (cases h; rfl) | cases h
theorem communicate_tr (p : Program) (rest : Rest) (gs : Array Goroutine) (i : Nat) (g : Goroutine) (cases : Array CommCase) (blocking : Bool)
    (shape : CommShape) (w : World) : Tr w.drawn (communicate p rest gs i g cases blocking shape w).1 := by
  unfold communicate
  dsimp only
  split
  · exact trivial
  · split
    · split
      · split
        · rename_i h; exact Nat.le_of_eq (poll_dr h).symm
        · exact trivial
      · exact Nat.le_refl _
    · repeat' first
        | exact (run_dr p _ w).ok (by assumption)
        | exact Nat.le_trans ((run_dr p _ w).ok (by assumption)) ((run_dr p _ _).ok (by assumption))
        | exact Nat.le_trans ((run_dr p _ w).ok (by assumption)) ((run_dr p _ _).halt (by assumption))
        | exact trivial
        | (dsimp only [Tr]; exact (run_dr p _ w).ok (by assumption))
        | (dsimp only [Tr]; exact Nat.le_trans ((run_dr p _ w).ok (by assumption)) ((run_dr p _ _).ok (by assumption)))
        | split
theorem look_tr (p : Program) (gs : Array Goroutine) (rest : Rest) (w : World) : Tr w.drawn (look p gs rest w) := by
  unfold look
  dsimp only
  split
  · split
    · exact trivial
    · split
      · exact trivial
      · generalize hr : Sem.run p _ w = r
        have h := dr_of hr
        clear hr
        rcases r with ⟨⟨k, c⟩, w'⟩ | ⟨u, _⟩
        · exact h
        · cases u <;> exact trivial
  · exact trivial
theorem serve_tr (p : Program) (m : Machine) (k : Nat) : Tr m.world.drawn (serve p m k) := by
  unfold serve
  dsimp only
  repeat' first
    | exact trivial
    | exact Nat.le_refl _
    | split
theorem drain_dr (w : World) (c : Nat) : (drain w c).2.drawn = w.drawn := by unfold drain; split <;> rfl
theorem retime_dr (m : Machine) (k : Nat) (t : Timer) (when period : Nat) : (retime m k t when period).2.world.drawn = m.world.drawn := by
  unfold retime
  cases t.chan with
  | none => rfl
  | some c => exact drain_dr _ _
theorem named_dr {m m0 : Machine} {var : Addr} {f : Nat → Timer → Value × Machine} {v : Value} {m' : Machine} (hf : ∀ k t, (f k t).2.world.drawn = m0.world.drawn) (h : timerOp.named m var f = .ok (v, m')) : m'.world.drawn = m0.world.drawn := by
  unfold timerOp.named at h
  split at h
  · injection h with h
    rw [← hf, h]
  · cases h
theorem opened_dr {m m' : Machine} {var : Addr} (h : timerOp.opened m var = some m') : m'.world.drawn = m.world.drawn := by
  unfold timerOp.opened at h
  repeat' split at h
  all_goals first | (cases h; rfl) | cases h
theorem timerOp_dr (m : Machine) (op : TimerOp) (v : Value) (m' : Machine) (h : timerOp m op = .ok (v, m')) : m'.world.drawn = m.world.drawn := by
  unfold timerOp at h
  split at h
  · split at h
    · cases h; rfl
    · split at h
      · split at h
        · cases h
        · cases h; rfl
      · cases h
  · exact named_dr (fun k t => retime_dr _ _ _ _ _) h
  · split at h
    · rename_i ho; rw [named_dr (fun k t => retime_dr _ _ _ _ _) h, opened_dr ho]
    · cases h
  · cases h; rfl
theorem runT_tr (p : Program) (m : Machine) (i : Nat) (b : Bool) : Tr m.world.drawn (runT p m i b).1 := by
  simp only [runT]
  generalize m.gs.swapAt! _ _ = gg
  have hs := stepG_sr p (i == 0) gg.1 m.world b
  generalize stepG p (i == 0) gg.1 m.world b = s at hs ⊢
  cases s <;> simp only [Sr] at hs
  case comm g cs bl sh w es =>
    have := communicate_tr p m.rest gg.2 i g cs bl sh w
    show Tr _ (communicate p m.rest gg.2 i g cs bl sh w).1
    generalize (communicate p m.rest gg.2 i g cs bl sh w).1 = r at this ⊢
    cases r
    · exact Nat.le_trans hs this
    · exact trivial
  case collect g w es =>
    have := look_tr p (gg.2.setIfInBounds i g) m.rest w
    show Tr _ (look p (gg.2.setIfInBounds i g) m.rest w)
    generalize look p (gg.2.setIfInBounds i g) m.rest w = r at this ⊢
    cases r
    · exact Nat.le_trans hs this
    · exact trivial
  all_goals first | exact hs | exact trivial | skip
  all_goals
    dsimp only
    repeat' first
      | exact hs
      | exact trivial
      | (rename_i h; exact Nat.le_trans hs (Nat.le_of_eq (timerOp_dr _ _ _ _ h).symm))
      | split
  all_goals trace_state
  all_goals sorry
def Mr (n : Nat) : Move → Prop
  | .goroutine m _ => n ≤ m.world.drawn
  | .machine s _ => Tr n s
theorem Tr.mono {n m : Nat} {s : Stepped} (h : Tr n s) (k : m ≤ n) : Tr m s := by cases s <;> first | exact Nat.le_trans k h | exact trivial
theorem askOn_mr (p : Program) (m : Machine) : Mr m.world.drawn (askOn p m) := by
  unfold askOn
  dsimp only
  repeat' first
    | exact trivial
    | (dsimp only [Mr]; exact (serve_tr _ _ _).mono ((run_dr p _ m.world).ok (by assumption)))
    | (dsimp only [Mr, Tr, Machine.advanceTo]; exact Nat.le_refl _)
    | (dsimp only [Mr, Tr, Machine.advanceTo]; refine Nat.le_trans ?_ ((run_dr p _ _).ok (by assumption)); (try dsimp only [Machine.advanceTo]); exact Nat.le_refl _)
    | (dsimp only [Mr, Tr, Machine.advanceTo]; refine Nat.le_trans ?_ ((run_dr p _ _).ok (by assumption)); (try dsimp only [Machine.advanceTo]); refine Nat.le_trans ?_ ((run_dr p _ _).ok (by assumption)); (try dsimp only [Machine.advanceTo]); exact Nat.le_refl _)
    | (dsimp only [Mr, Tr, Machine.advanceTo]; refine Nat.le_trans ?_ ((run_dr p _ _).ok (by assumption)); (try dsimp only [Machine.advanceTo]); refine Nat.le_trans ?_ ((run_dr p _ _).ok (by assumption)); (try dsimp only [Machine.advanceTo]); refine Nat.le_trans ?_ ((run_dr p _ _).ok (by assumption)); (try dsimp only [Machine.advanceTo]); exact Nat.le_refl _)
    | (dsimp only [Mr, Tr, Machine.advanceTo]; refine Nat.le_trans ?_ ((run_dr p _ _).ok (by assumption)); (try dsimp only [Machine.advanceTo]); refine Nat.le_trans ?_ ((run_dr p _ _).ok (by assumption)); (try dsimp only [Machine.advanceTo]); refine Nat.le_trans ?_ ((run_dr p _ _).ok (by assumption)); (try dsimp only [Machine.advanceTo]); refine Nat.le_trans ?_ ((run_dr p _ _).ok (by assumption)); (try dsimp only [Machine.advanceTo]); exact Nat.le_refl _)
    | split
theorem Mr.mono {n m : Nat} {s : Move} (h : Mr n s) (k : m ≤ n) : Mr m s := by
  cases s
  · exact Nat.le_trans k h
  · exact Tr.mono h k
theorem ask_mr (p : Program) (m : Machine) : Mr m.world.drawn (ask p m) := by
  unfold ask
  split
  · split
    · exact trivial
    · rename_i h
      have h1 := (run_dr p _ _).ok h
      split
      · rename_i w _ m' h2
        have h3 := look_tr p m.gs m.rest w
        rw [h2] at h3
        exact (askOn_mr p m').mono (Nat.le_trans h1 h3)
      · rename_i w _ _
        exact Tr.mono (look_tr p m.gs m.rest w) h1
    · rename_i h
      have h1 := (run_dr p _ _).ok h
      exact (askOn_mr p _).mono h1
  · exact askOn_mr p m
theorem move_mr (p : Program) (m : Machine) : Mr m.world.drawn (move p m) := by
  unfold move
  repeat' first
    | exact ask_mr p _
    | exact trivial
    | exact Nat.le_refl _
    | split
theorem step_tr (p : Program) (m : Machine) : Tr m.world.drawn (step p m) := by
  unfold step stepT
  have h := move_mr p m
  split
  · rename_i h1
    rw [h1] at h
    exact (runT_tr _ _ _ _).mono h
  · rename_i h1
    rw [h1] at h
    exact h
theorem runN_tr (p : Program) : ∀ (n : Nat) (m m' : Machine), runN p n m = .next m' → m.world.drawn ≤ m'.world.drawn
  | 0, m, m', h => by unfold runN at h; cases h; exact Nat.le_refl _
  | n + 1, m, m', h => by
    unfold runN at h
    have h1 := step_tr p m
    split at h
    · rename_i m1 h2
      rw [h2] at h1
      exact Nat.le_trans h1 (runN_tr p n m1 m' h)
    · rename_i h2; exact (h2 m' h).elim
theorem calls_drawn {P : Program} {f : FuncId} {args : Array Value} {w : World} {R : Ending → World → Prop} (h : Calls P f args w R) :
    Calls P f args w fun e w' => R e w' ∧ ((∃ v, e = .returned v) → w.drawn ≤ w'.drawn) := fun cs => by
  obtain ⟨e, w', fr, hR, hc, hf⟩ := h cs
  refine ⟨e, w', fr, ⟨hR, ?_⟩, hc, hf⟩
  rintro ⟨v, rfl⟩
  obtain ⟨n, hn⟩ := hc
  exact runN_tr P n _ _ hn
theorem grown_of_drawn {w w' : World} (h : Below w.heap.size w w') (hd : w.drawn ≤ w'.drawn) : ∃ q os, w' = Sort.grow (w.drewN q) os := by
  obtain ⟨⟨d, os⟩, hp⟩ := regrown_of_below h
  have e : d = w'.drawn := by rw [hp]; rfl
  refine ⟨d - w.drawn, os, hp.trans ?_⟩
  have e2 : redrawn w d = w.drewN (d - w.drawn) := by
    unfold redrawn World.drewN
    rw [show w.drawn + (d - w.drawn) = d by omega]
  show Sort.grow (redrawn w d) os = _
  rw [e2]
theorem calls_grown {P : Program} {f : FuncId} {args : Array Value} {w : World} {v : Value} (h : Calls P f args w fun e w' => e = .returned v ∧ Below w.heap.size w w') :
    Calls P f args w fun e w' => e = .returned v ∧ ∃ q os, w' = Sort.grow (w.drewN q) os :=
  (calls_drawn h).mono fun e w' ⟨⟨h1, h2⟩, h3⟩ => ⟨h1, grown_of_drawn h2 (h3 ⟨v, h1⟩)⟩
end Go.Proofs.YtniehbjoogaccaaGreatDoor.Drawn
namespace Go.Proofs.YtniehbjoogaccaaGreatDoor.Host
def hostByte (b : UInt8) : Bool := Ref.letB b || Ref.decB b || b == 45
def partB (p : List UInt8) : Bool := !p.isEmpty && decide (p.length ≤ 63) && p.getD 0 0 != 45 && p.getD (p.length - 1) 0 != 45 && p.all hostByte
def addrB (l : List (List UInt8)) : Bool := decide (l.length = 4) && l.all fun p => (Ref.numOf 255 p).isSome
def hostB (l : List (List UInt8)) : Bool := decide (l.length ≤ 8) && l.all partB && (!Ref.decB ((l.getLastD []).getD 0 0) || addrB l)
def parseE (t : List UInt8) : Int := if 253 < t.length then 3 else if hostB (Ref.splitL 46 t) then 0 else 2
def addressB (t : List UInt8) : Bool := decide (parseE t = 0) && addrB (Ref.splitL 46 t)
def upL (t : List UInt8) : List (List UInt8) := if parseE t = 0 ∧ Ref.lowL t = t then (if addrB (Ref.splitL 46 t) then [t] else Ref.fromL 46 (Ref.splitL 46 t)) else []
def withinB (h d : List UInt8) : Bool := (upL h).contains d
def tailL (c : UInt8) : List UInt8 → Option (List UInt8)
  | [] => none
  | b :: r => if b = c then some r else tailL c r
theorem from_split (c : UInt8) : ∀ t : List UInt8, Ref.fromL c (Ref.splitL c t) = t :: (match tailL c t with | none => [] | some r => Ref.fromL c (Ref.splitL c r))
  | [] => rfl
  | b :: r => by
    by_cases h : b = c
    · subst h
      rw [Ref.split_is]
      show Ref.joinL b ([] :: Ref.splitL b r) :: Ref.fromL b (Ref.splitL b r) = _
      rw [Ref.join_nil _ _ (Ref.split_ne b r), Ref.join_split]
      simp [tailL]
    · have ih := from_split c r
      rw [Ref.split_not c b r h]
      cases hs : Ref.splitL c r with
      | nil => exact absurd hs (Ref.split_ne c r)
      | cons p q =>
        rw [hs] at ih
        have e1 : Ref.fromL c (Ref.onto [b] (p :: q)) = Ref.joinL c (Ref.onto [b] (p :: q)) :: Ref.fromL c q := rfl
        have e2 : Ref.fromL c (p :: q) = Ref.joinL c (p :: q) :: Ref.fromL c q := rfl
        rw [e2, List.cons.injEq] at ih
        rw [e1, Ref.join_onto, ih.1, ih.2]
        have e3 : tailL c (b :: r) = tailL c r := by conv => lhs; unfold tailL; rw [if_neg h]
        rw [e3]
        rfl
theorem tail_len (c : UInt8) : ∀ (t r : List UInt8), tailL c t = some r → r.length < t.length
  | [], r, h => by cases h
  | b :: t, r, h => by
    unfold tailL at h
    split at h
    · cases h; simp
    · have := tail_len c t r h; simp only [List.length_cons]; omega
theorem low_dot (b : UInt8) : (Ref.low b = 46) = (b = 46) := Ref.all_u8 (p := fun b => (Ref.low b = 46) = (b = 46)) (fun i => propext (by revert i; decide +kernel)) b
theorem low_minus (b : UInt8) : (Ref.low b == 45) = (b == 45) := Ref.all_u8 (p := fun b => (Ref.low b == 45) = (b == 45)) (by decide +kernel) b
theorem low_dec (b : UInt8) : Ref.decB (Ref.low b) = Ref.decB b := Ref.all_u8 (p := fun b => Ref.decB (Ref.low b) = Ref.decB b) (by decide +kernel) b
theorem low_let (b : UInt8) : Ref.letB (Ref.low b) = Ref.letB b := Ref.all_u8 (p := fun b => Ref.letB (Ref.low b) = Ref.letB b) (by decide +kernel) b
theorem dec_low (b : UInt8) (h : Ref.decB b = true) : Ref.low b = b := by
  have := (Ref.decB_of b).1 h
  exact Ref.low_lo b (by omega)
theorem low_host (b : UInt8) : hostByte (Ref.low b) = hostByte b := by unfold hostByte; rw [low_let, low_dec, low_minus]
theorem onto_low (x : List UInt8) (l : List (List UInt8)) : Ref.onto (Ref.lowL x) (l.map Ref.lowL) = (Ref.onto x l).map Ref.lowL := by
  cases l with
  | nil => rfl
  | cons p r => simp [Ref.onto, Ref.lowL]
theorem split_low : ∀ t : List UInt8, Ref.splitL 46 (Ref.lowL t) = (Ref.splitL 46 t).map Ref.lowL
  | [] => rfl
  | b :: r => by
    have ih := split_low r
    have e : Ref.lowL (b :: r) = Ref.low b :: Ref.lowL r := rfl
    rw [e]
    by_cases h : b = 46
    · subst h
      have h2 : Ref.low 46 = 46 := by decide
      rw [h2, Ref.split_is, Ref.split_is, ih]; rfl
    · have h2 : Ref.low b ≠ 46 := by rw [ne_eq, low_dot]; exact h
      rw [Ref.split_not 46 _ _ h2, Ref.split_not 46 _ _ h, ih, ← onto_low]; rfl
theorem low_getD (p : List UInt8) (k : Nat) : (Ref.lowL p).getD k 0 = Ref.low (p.getD k 0) := by
  unfold Ref.lowL
  simp only [List.getD, List.getElem?_map]
  cases p[k]? <;> rfl
theorem part_low (p : List UInt8) : partB (Ref.lowL p) = partB p := by
  unfold partB
  rw [low_getD, low_getD, Ref.lowL_length]
  have e1 : (Ref.lowL p).isEmpty = p.isEmpty := by cases p <;> rfl
  have e2 : ∀ b : UInt8, (Ref.low b != 45) = (b != 45) := fun b => by unfold bne; rw [low_minus]
  have e3 : (Ref.lowL p).all hostByte = p.all hostByte := by
    unfold Ref.lowL; rw [List.all_map]; congr 1; funext b; exact low_host b
  rw [e1, e2, e2, e3]
theorem numGo_low (most : Int) : ∀ (p : List UInt8) (n : Int), Ref.numGo most (Ref.lowL p) n = Ref.numGo most p n
  | [], _ => rfl
  | b :: r, n => by
    have e : Ref.lowL (b :: r) = Ref.low b :: Ref.lowL r := rfl
    rw [e]
    unfold Ref.numGo
    rw [low_dec]
    by_cases hd : Ref.decB b = true
    · rw [dec_low b hd, numGo_low most r]
    · rw [if_neg (fun h => hd h.1), if_neg (fun h => hd h.1)]
theorem numOf_low (most : Int) (p : List UInt8) : Ref.numOf most (Ref.lowL p) = Ref.numOf most p := by
  unfold Ref.numOf
  rw [Ref.lowL_length, numGo_low, low_getD]
  have e1 : (Ref.lowL p = []) ↔ (p = []) := by cases p <;> simp [Ref.lowL]
  have e2 : ∀ b : UInt8, (Ref.low b).toNat = 48 ↔ b.toNat = 48 := fun b => by
    have h3 : (Ref.low b).toNat = 48 → b.toNat = 48 := Ref.all_u8 (p := fun b => (Ref.low b).toNat = 48 → b.toNat = 48) (by decide +kernel) b
    exact ⟨h3, fun h => by rw [Ref.low_lo b (by omega)]; exact h⟩
  have hc : (Ref.lowL p = [] ∨ (1 < p.length ∧ (Ref.low (p.getD 0 0)).toNat = 48)) ↔ (p = [] ∨ (1 < p.length ∧ (p.getD 0 0).toNat = 48)) := by rw [e1, e2]
  simp only [hc]
theorem addr_low (l : List (List UInt8)) : addrB (l.map Ref.lowL) = addrB l := by
  unfold addrB
  rw [List.length_map, List.all_map]
  congr 2
  funext p
  simp only [Function.comp, numOf_low]
theorem host_low (l : List (List UInt8)) : hostB (l.map Ref.lowL) = hostB l := by
  unfold hostB
  rw [List.length_map, List.all_map, addr_low]
  have e1 : (l.map Ref.lowL).getLastD [] = Ref.lowL (l.getLastD []) := by
    rw [List.getLastD_eq_getLast?, List.getLastD_eq_getLast?, List.getLast?_map]
    cases l.getLast? <;> rfl
  have e2 : (fun p => partB p) ∘ Ref.lowL = partB := by funext p; exact part_low p
  have e3 : partB ∘ Ref.lowL = partB := e2
  rw [e1, low_getD, low_dec, e3]
theorem parse_low (t : List UInt8) : parseE (Ref.lowL t) = parseE t := by
  unfold parseE
  rw [Ref.lowL_length, split_low, host_low]
end Go.Proofs.YtniehbjoogaccaaGreatDoor.Host
namespace Go.Proofs.YtniehbjoogaccaaGreatDoor
open Go.RowKit
def numGo (most : Int) : List UInt8 → Int → Option Int
  | [], n => some n
  | b :: r, n => if digitB b = true ∧ (b.toNat : Int) - 48 ≤ most ∧ n ≤ (most - ((b.toNat : Int) - 48)) / 10 then numGo most r (n * 10 + ((b.toNat : Int) - 48)) else none
def numOf (most : Int) (l : List UInt8) : Option Int :=
  if l = [] ∨ (1 < l.length ∧ (l.getD 0 0).toNat = 48) then none else numGo most l 0
def numV (o : Option Int) : Value := .tuple #[.int .i64 (o.getD 0), .bool o.isSome]
theorem drop_cons (l : List UInt8) (k : Nat) (h : k < l.length) : l.drop k = l.getD k 0 :: l.drop (k + 1) := by
  rw [List.drop_eq_getElem_cons h]
  simp [List.getD, List.getElem?_eq_getElem h]
theorem digitB_of (b : UInt8) : digitB b = true ↔ 48 ≤ b.toNat ∧ b.toNat ≤ 57 := by simp [digitB]
theorem numsL_getD (l : List UInt8) (i : Nat) (h : i < l.length) : (Lib.numsL l).getD i 0 = ((l.getD i 0).toNat : Int) := by
  simp [Lib.numsL, List.getD, List.getElem?_eq_getElem h]
set_option maxHeartbeats 1000000 in
theorem Number_any (p : Option Addr) (n c : Nat) (bs : List UInt8) (most : Int) (w : World) (hx : bs.length = n) (hn : n ≤ 140737488355328) (hb : Lib.BytesIn w p n (Lib.numsL bs)) (h0 : 0 ≤ most) (h1 : most ≤ 9223372036854775807) :
    Calls Tryz.prog 89 #[.slice p n c, .int .i64 most] w fun e w' => e = .returned (numV (numOf most bs)) ∧ w = w' := by
  rcases Nat.eq_zero_or_pos n with hz | hz
  · subst hz
    obtain rfl : bs = [] := List.eq_nil_of_length_eq_zero hx
    go_enter Tryz.func89, Tryz.ntmps89
    go_wp2
    go_ret2
    exact ⟨rfl, rfl⟩
  · obtain ⟨b, o, rfl, hc⟩ := hb.at hz
    have hc' : ∀ k, k < n → w.cell? ⟨b, o + k, none⟩ = some (.int .u8 ((bs.getD k 0).toNat : Int)) := fun k hk => by
      rw [hc k hk, numsL_getD bs k (by omega)]
    have hz' : ((n : Int) == 0) = false := by simp; omega
    have hc0 : w.cell? ⟨b, o, none⟩ = some (.int .u8 ((bs.getD 0 0).toNat : Int)) := hc' 0 hz
    have HC := Lib.hid hc'
    clear hc hc' hb
    by_cases hl : 1 < n ∧ (bs.getD 0 0).toNat = 48
    · have hl1 : decide ((1 : Int) < (n : Int)) = true := by simp; omega
      have hl2 : (((bs.getD 0 0).toNat : Int) == 48) = true := by rw [beq_iff_eq]; omega
      have H := Lib.hid (show numOf most bs = none by unfold numOf; rw [if_pos (.inr (by omega))])
      generalize bs.getD 0 0 = b0 at *
      clear hl
      go_enter Tryz.func89, Tryz.ntmps89
      go_wp2
      go_ret2
      exact ⟨(by rw [H.out]; rfl), rfl⟩
    · have H := Lib.hid (show numOf most bs = numGo most bs 0 by unfold numOf; rw [if_neg (fun h => h.elim (fun h => by rw [h] at hx; simp at hx; omega) (fun h => hl (by rw [← hx]; exact h)))])
      have NG := Lib.hid (fun k (hk : k < n) (m : Int) => show numGo most (bs.drop k) m = _ by rw [drop_cons bs k (by omega)])
      by_cases hl1 : 1 < n
      · have hl2 : decide ((1 : Int) < (n : Int)) = true := by simp; omega
        have hl3 : (((bs.getD 0 0).toNat : Int) == 48) = false := by rw [beq_eq_false_iff_ne]; omega
        generalize bs.getD 0 0 = b0 at hc0 hl3
        clear hl
        go_enter Tryz.func89, Tryz.ntmps89
        go_wp2
        clear hc0 hl3 hl2
        go_loop [6, 26] (fun x i => ∃ k : Nat, ∃ m : Int, k ≤ n ∧ i = .int .i64 k ∧ x = .int .i64 m ∧ 0 ≤ m ∧ m ≤ most ∧ Hid (numGo most bs 0 = numGo most (bs.drop k) m)) (fun _ i => n - (intOf i).toNat)
        case atStart => exact ⟨0, 0, Nat.zero_le _, rfl, rfl, by omega, by omega, rfl⟩
        case round =>
          obtain ⟨k, m, hk, rfl, rfl, hm0, hm1, HR⟩ := hrel
          by_cases hlt : k < n
          · have hck := HC.out k hlt
            have NGk := Lib.hid (HR.out.trans (NG.out k hlt m))
            clear HR
            generalize bs.getD k 0 = bk at hck NGk
            have hbk := u8_lt bk
            by_cases hd : digitB bk = true
            · have hd' := (digitB_of bk).1 hd
              by_cases hd2 : most < (bk.toNat : Int) - 48
              · have NH := Lib.hid (show numGo most bs 0 = none by rw [NGk.out]; unfold numGo; rw [if_neg (by omega)])
                go_wp2_with (go_at_call 134; refine (isDigit_any bk _).mono ?_; rintro e w' ⟨rfl, rfl⟩)
                go_ret2
                exact ⟨(by rw [H.out, NH.out]; rfl), rfl⟩
              · by_cases hd3 : (most - ((bk.toNat : Int) - 48)) / 10 < m
                · have NH := Lib.hid (show numGo most bs 0 = none by rw [NGk.out]; unfold numGo; rw [if_neg (by omega)])
                  go_wp2_with (go_at_call 134; refine (isDigit_any bk _).mono ?_; rintro e w' ⟨rfl, rfl⟩)
                  go_ret2
                  exact ⟨(by rw [H.out, NH.out]; rfl), rfl⟩
                · have NH := Lib.hid (show numGo most bs 0 = numGo most (bs.drop (k + 1)) (m * 10 + ((bk.toNat : Int) - 48)) by rw [NGk.out]; conv => lhs; unfold numGo; rw [if_pos ⟨hd, by omega, by omega⟩])
                  have hb1 : m * 10 + ((bk.toNat : Int) - 48) ≤ most := by omega
                  go_wp2_with (go_at_call 134; refine (isDigit_any bk _).mono ?_; rintro e w' ⟨rfl, rfl⟩)
                  go_round
                  case rel => exact ⟨k + 1, _, by omega, by go_num, rfl, by omega, by omega, NH⟩
                  case measure => simp [intOf]; omega
            · have hdf : digitB bk = false := by simpa using hd
              have NH := Lib.hid (show numGo most bs 0 = none by rw [NGk.out]; unfold numGo; rw [if_neg (by intro h; exact hd h.1)])
              go_wp2_with (go_at_call 134; refine (isDigit_any bk _).mono ?_; rintro e w' ⟨rfl, rfl⟩)
              go_ret2
              exact ⟨(by rw [H.out, NH.out]; rfl), rfl⟩
          · have NH := Lib.hid (show numGo most bs 0 = some m by rw [HR.out, List.drop_of_length_le (by omega)]; rfl)
            clear HR
            go_wp2
            go_ret2
            exact ⟨(by rw [H.out, NH.out]; rfl), rfl⟩
      · have hl2 : decide ((1 : Int) < (n : Int)) = false := by simp; omega
        generalize bs.getD 0 0 = b0 at hc0
        clear hl
        go_enter Tryz.func89, Tryz.ntmps89
        go_wp2
        clear hc0 hl2
        go_loop [6, 26] (fun x i => ∃ k : Nat, ∃ m : Int, k ≤ n ∧ i = .int .i64 k ∧ x = .int .i64 m ∧ 0 ≤ m ∧ m ≤ most ∧ Hid (numGo most bs 0 = numGo most (bs.drop k) m)) (fun _ i => n - (intOf i).toNat)
        case atStart => exact ⟨0, 0, Nat.zero_le _, rfl, rfl, by omega, by omega, rfl⟩
        case round =>
          obtain ⟨k, m, hk, rfl, rfl, hm0, hm1, HR⟩ := hrel
          by_cases hlt : k < n
          · have hck := HC.out k hlt
            have NGk := Lib.hid (HR.out.trans (NG.out k hlt m))
            clear HR
            generalize bs.getD k 0 = bk at hck NGk
            have hbk := u8_lt bk
            by_cases hd : digitB bk = true
            · have hd' := (digitB_of bk).1 hd
              by_cases hd2 : most < (bk.toNat : Int) - 48
              · have NH := Lib.hid (show numGo most bs 0 = none by rw [NGk.out]; unfold numGo; rw [if_neg (by omega)])
                go_wp2_with (go_at_call 134; refine (isDigit_any bk _).mono ?_; rintro e w' ⟨rfl, rfl⟩)
                go_ret2
                exact ⟨(by rw [H.out, NH.out]; rfl), rfl⟩
              · by_cases hd3 : (most - ((bk.toNat : Int) - 48)) / 10 < m
                · have NH := Lib.hid (show numGo most bs 0 = none by rw [NGk.out]; unfold numGo; rw [if_neg (by omega)])
                  go_wp2_with (go_at_call 134; refine (isDigit_any bk _).mono ?_; rintro e w' ⟨rfl, rfl⟩)
                  go_ret2
                  exact ⟨(by rw [H.out, NH.out]; rfl), rfl⟩
                · have NH := Lib.hid (show numGo most bs 0 = numGo most (bs.drop (k + 1)) (m * 10 + ((bk.toNat : Int) - 48)) by rw [NGk.out]; conv => lhs; unfold numGo; rw [if_pos ⟨hd, by omega, by omega⟩])
                  have hb1 : m * 10 + ((bk.toNat : Int) - 48) ≤ most := by omega
                  go_wp2_with (go_at_call 134; refine (isDigit_any bk _).mono ?_; rintro e w' ⟨rfl, rfl⟩)
                  go_round
                  case rel => exact ⟨k + 1, _, by omega, by go_num, rfl, by omega, by omega, NH⟩
                  case measure => simp [intOf]; omega
            · have hdf : digitB bk = false := by simpa using hd
              have NH := Lib.hid (show numGo most bs 0 = none by rw [NGk.out]; unfold numGo; rw [if_neg (by intro h; exact hd h.1)])
              go_wp2_with (go_at_call 134; refine (isDigit_any bk _).mono ?_; rintro e w' ⟨rfl, rfl⟩)
              go_ret2
              exact ⟨(by rw [H.out, NH.out]; rfl), rfl⟩
          · have NH := Lib.hid (show numGo most bs 0 = some m by rw [HR.out, List.drop_of_length_le (by omega)]; rfl)
            clear HR
            go_wp2
            go_ret2
            exact ⟨(by rw [H.out, NH.out]; rfl), rfl⟩
end Go.Proofs.YtniehbjoogaccaaGreatDoor
namespace Go.Proofs.YtniehbjoogaccaaGreatDoor
open Go.RowKit
def RoundsP (P : Program) (l : Nat) {α : Type} (Arg : α → Array Value → (Nat → Prop) → World → Prop) (Way : List α → Prop) (RB : Nat → Prop) (J Jx : List α → (Nat → Prop) → World → Prop) : Prop :=
  ∀ pre x Pv G args W, Way (pre ++ [x]) → J pre Pv W → (∀ b, Pv b → b < W.heap.size) → Arg x args G W → (∀ b, G b → Pv b) →
    YieldAt Fence.wide 0 P l args W fun e W' => Keep (fun b => RB b ∨ (Pv b ∧ ¬ G b)) W W' ∧
      ((e = .returned (.bool true) ∧ J (pre ++ [x]) (fun b => Pv b ∧ ¬ G b) W') ∨ (e = .returned (.bool false) ∧ Jx (pre ++ [x]) (fun b => Pv b ∧ ¬ G b) W'))
def IterP (P : Program) (gf : Nat) (lb : Array Value) {α : Type} (Arg : α → Array Value → (Nat → Prop) → World → Prop) (Way End : List α → Prop) (RB : Nat → Prop) (w0 : World) : Prop :=
  ∀ (l : Nat) (J Jx : List α → (Nat → Prop) → World → Prop) (W : World), Keep RB w0 W → Abide J → Abide Jx → RoundsP P l Arg Way RB J Jx → J [] (fun _ => False) W →
    Calls P gf (#[.func (.yield l) #[] #[]] ++ lb) W fun e W' => (∃ v, e = .returned v) ∧ ∃ Pv, (∀ b, Pv b → b < W'.heap.size) ∧ ((∃ ys, End ys ∧ J ys Pv W') ∨ ∃ pre, Way pre ∧ Jx pre Pv W')
theorem rf_lawP {P : Program} {α : Type} {g : Operand} {ps : Array Tmp} {assign body : Code} {Q : Exit → Act → World → Prop} {a : Act} {w : World} {n : Nat}
    {gf : Nat} {lb : Array Value} (hg : a.eval g = .func (.func gf) #[] lb) (eg : ∀ args w, (callFunc gf args).run P w = .ok (.enter gf args) w)
    {Arg : α → Array Value → (Nat → Prop) → World → Prop} {Way End : List α → Prop} {RB : Nat → Prop} {w0 : World} (hiter : IterP P gf lb Arg Way End RB w0) (hb0 : Keep RB w0 w) (hRB : ∀ b, RB b → b < w.heap.size)
    (hps : ∀ x args G W, Arg x args G W → args.size = ps.size)
    (I : List α → (Nat → Prop) → World → Prop) (Ix : Code → List α → (Nat → Prop) → World → Prop) (hI : Abide I) (hIx : ∀ c, Abide (Ix c)) (h0 : I [] (fun _ => False) w)
    (hround : ∀ (l : Nat) (pre : List α) (x : α) (Pv G : Nat → Prop) (args : Array Value) (W : World), w.heap.size ≤ l → Way (pre ++ [x]) → I pre Pv W → Pv l → ¬ G l → (∀ b, Pv b → b < W.heap.size) → (∀ b, G b → Pv b) → Arg x args G W →
      assign.wpIn (Fence.wide.inRound l) 0 P (Exit.then (fun a₁ W₁ => Keep (fun b => RB b ∨ Pv b) W W₁ ∧ ∀ W₂, Keep (fun b => b ≠ l) W₁ W₂ → W₂.heap.size = W₁.heap.size → (∃ r, W₂.heap[l]? = some (.loop r)) →
          body.wpIn (Fence.wide.inRound l) 0 P (bodyPostR (fun b => RB b ∨ (Pv b ∧ ¬ G b)) I Ix (pre ++ [x]) (fun b => Pv b ∧ ¬ G b) W₂) a₁ W₂) (fun _ _ _ => False))
        { tmps := (ps.zip args).foldl (fun t (p, v) => t.setIfInBounds p v) a.tmps, defers := [] } W)
    (hdone : ∀ (D : Nat) (ys : List α) (Pv : Nat → Prop) (W : World), w.heap.size ≤ D → Pv D → (∀ b, Pv b → b < W.heap.size) → End ys → I ys Pv W → W.heap[D]? = some (.deferred (some [])) → Q .normal { a with defers := { target := .collected D, args := #[] } :: a.defers } W)
    (hstop : ∀ (D : Nat) (c : Code) (pre : List α) (Pv : Nat → Prop) (W : World), w.heap.size ≤ D → Pv D → (∀ b, Pv b → b < W.heap.size) → Way pre → Ix c pre Pv W → W.heap[D]? = some (.deferred (some [])) → c.wpIn Fence.wide n P Q { a with defers := { target := .collected D, args := #[] } :: a.defers } W) :
    (Code.rangeFunc g ps assign body).wpIn Fence.wide n P Q a w := by
  refine wpIn_rangeFunc ?_
  intro fn hfn
  obtain ⟨rec, hrec⟩ : ∃ rec : LoopState → Option Code → Loop, rec = fun st pe => { state := st, pending := pe, fn, tmps := a.tmps, params := ps, assign, body, defers := w.heap.size } := ⟨_, rfl⟩
  obtain ⟨W1, hW1⟩ : ∃ W1, (w.alloc (.deferred (some []))).alloc (.loop (rec .ready none)) = W1 := ⟨_, rfl⟩
  have hL1 : W1.heap[w.heap.size + 1]? = some (.loop (rec .ready none)) := by
    rw [← hW1]; have := World.alloc_heap_new (w.alloc (.deferred (some []))) (.loop (rec .ready none)); rwa [World.size_alloc] at this
  have hK1 : W1.heap[w.heap.size]? = some (.deferred (some [])) := by
    rw [← hW1]; exact (Below.heap_alloc _ _ _ (by simp)).trans (World.alloc_heap_new w _)
  have hsz1 : W1.heap.size = w.heap.size + 2 := by rw [← hW1]; simp
  have hkw : ∀ S, Keep S w W1 := fun S => by rw [← hW1]; exact (Keep.alloc S w _).trans (Keep.alloc S _ _)
  have hI1 : I [] (fun b => False ∨ b = w.heap.size + 1 ∨ b = w.heap.size) W1 := hI _ _ _ _ _ h0 (hkw _) (fun b hb => by rcases hb with h | rfl | rfl; exact h.elim; exact ⟨.inr (by omega), by omega⟩; exact ⟨.inr (by omega), by omega⟩)
  refine ⟨w.heap.size + 1, [{ target := .collected w.heap.size, args := #[] }], W1, { target := .fn (.func gf) lb, args := #[.func (.yield (w.heap.size + 1)) #[] #[]] }, W1, gf,
    #[.func (.yield (w.heap.size + 1)) #[] #[]] ++ lb, W1, ?_, ?_, ?_, ?_, ?_, ?_⟩
  · rw [← hW1, hrec]; exact run_enterLoop_outer _ _ _ _ _
  · simp only [resolve, hg]
    simp [go_sem]
  · intro f' _; trivial
  · simp [invoke, go_sem, eg]
  · intro h; simp [Fence.wide] at h
  · refine (callsIn_wide.2 (hiter (w.heap.size + 1) (recI (w.heap.size + 1) w.heap.size (rec .ready none) I)
      (fun pre Pv W => ∃ c, recI (w.heap.size + 1) w.heap.size (rec .done (some c)) (Ix c) pre Pv W)
      W1 (hb0.trans (hkw _)) (recI_abide hI) ?_ ?_ ⟨hI1, by simp, by simp, hL1, hK1⟩)).mono ?_
    · rintro s Pv Pv' A B ⟨c, hc⟩ hk hp
      exact ⟨c, recI_abide (hIx c) s Pv Pv' A B hc hk hp⟩
    · -- a round
      rintro pre x Pv G args W hxs ⟨hi, hnl, hnD, hl, hD⟩ hPv hArg hG
      have hlt : w.heap.size + 1 < W.heap.size := (Array.getElem?_eq_some_iff.1 hl).1
      have hDlt : w.heap.size < W.heap.size := (Array.getElem?_eq_some_iff.1 hD).1
      have hy := run_yield (P := P) (args := args) hl (by rw [hrec]; exact hps x args G W hArg)
      rw [hrec] at hy
      have hGl : ¬ G (w.heap.size + 1) := fun h => hnl (hG _ h)
      have hGD : ¬ G w.heap.size := fun h => hnD (hG _ h)
      have hrb : ∀ b, RB b → b ≠ w.heap.size + 1 ∧ b ≠ w.heap.size := fun b hb => by have := hRB b hb; omega
      refine ⟨fn, _, assign, body, hy, roundIn_of_wpIn hfn ?_⟩
      refine wpIn_mono ((hround (w.heap.size + 1) pre x (fun b => Pv b ∨ b = w.heap.size + 1 ∨ b = w.heap.size) G args W (by omega) hxs hi (.inr (.inl rfl)) hGl
        (fun b hb => by rcases hb with hb | rfl | rfl; exact hPv b hb; omega; omega) (fun b hb => .inl (hG b hb)) hArg)) ?_
      rintro e a₁ W₁ hp
      cases e with
      | normal =>
        obtain ⟨hk1, hbody⟩ := hp
        have hl1 : W₁.heap[w.heap.size + 1]? = some (.loop (rec .ready none)) := hk1.heap (.inr (.inr (.inl rfl))) hl
        have hD1 : W₁.heap[w.heap.size]? = some (.deferred (some [])) := hk1.heap (.inr (.inr (.inr rfl))) hD
        have hlt1 : w.heap.size + 1 < W₁.heap.size := (Array.getElem?_eq_some_iff.1 hl1).1
        refine ⟨_, run_beginRound hl1 (by rw [hrec]), ?_⟩
        obtain ⟨W₂, hW2⟩ : ∃ W₂, W₁.putObj (w.heap.size + 1) (.loop { rec .ready none with state := .busy }) = W₂ := ⟨_, rfl⟩
        have hk12 : Keep (fun b => b ≠ w.heap.size + 1) W₁ W₂ := by rw [← hW2]; exact Keep.putObj _ _ _ (by simp)
        have hs12 : W₂.heap.size = W₁.heap.size := by rw [← hW2]; simp
        have hl2 : W₂.heap[w.heap.size + 1]? = some (.loop { rec .ready none with state := .busy }) := by rw [← hW2]; exact World.putObj_heap_same hlt1
        have hD2 : W₂.heap[w.heap.size]? = some (.deferred (some [])) := hk12.heap (by omega) hD1
        rw [hW2]
        refine wpIn_mono (hbody W₂ hk12 hs12 ⟨_, hl2⟩) ?_
        have fin : ∀ (jump : Option Code) (W3 : World), Keep (fun b => RB b ∨ ((Pv b ∨ b = w.heap.size + 1 ∨ b = w.heap.size) ∧ ¬ G b)) W₂ W3 →
            ∃ W4, (Instr.endRound (w.heap.size + 1) jump).run P W3 = .ok (.bool jump.isNone) W4 ∧ W4.heap.size = W3.heap.size ∧
              Keep (fun b => RB b ∨ (Pv b ∧ ¬ G b)) W W4 ∧ Keep (fun b => b ≠ w.heap.size + 1) W3 W4 ∧
              W4.heap[w.heap.size + 1]? = some (.loop (rec (if jump.isNone then .ready else .done) jump)) ∧ W4.heap[w.heap.size]? = some (.deferred (some [])) := fun jump W3 hk3 => by
          have hl3 : W3.heap[w.heap.size + 1]? = some (.loop { rec .ready none with state := .busy }) := hk3.heap (.inr ⟨.inr (.inl rfl), hGl⟩) hl2
          have hD3 : W3.heap[w.heap.size]? = some (.deferred (some [])) := hk3.heap (.inr ⟨.inr (.inr rfl), hGD⟩) hD2
          have he := run_endRound (P := P) jump hl3
          have k34 : ∀ o, Keep (fun b => b ≠ w.heap.size + 1) W3 (W3.putObj (w.heap.size + 1) o) := fun o => Keep.putObj _ _ _ (by simp)
          refine ⟨_, he, by simp, ?_, k34 _, ?_, (k34 _).heap (by omega) hD3⟩
          · refine (hk1.mono ?_).trans ((hk12.mono ?_).trans ((hk3.mono ?_).trans ((k34 _).mono ?_)))
            · rintro k _ (h | h)
              · exact .inl h
              · exact .inr (.inl h.1)
            · rintro k _ (h | h)
              · exact (hrb k h).1
              · rintro rfl; exact hnl h.1
            · rintro k _ (h | h)
              · exact .inl h
              · exact .inr ⟨.inl h.1, h.2⟩
            · rintro k _ (h | h)
              · exact (hrb k h).1
              · rintro rfl; exact hnl h.1
          · have := World.putObj_heap_same (o := .loop (rec (if jump.isNone then .ready else .done) jump)) (Array.getElem?_eq_some_iff.1 hl3).1
            rw [hrec] at this ⊢
            exact this
        -- the invariant across endRound
        have tr : ∀ (I' : List α → (Nat → Prop) → World → Prop) (W3 W4 : World), Abide I' → Keep (fun b => b ≠ w.heap.size + 1) W3 W4 → W4.heap.size = W3.heap.size → W.heap.size ≤ W3.heap.size →
            I' (pre ++ [x]) (fun b => (Pv b ∨ b = w.heap.size + 1 ∨ b = w.heap.size) ∧ ¬ G b) W3 → I' (pre ++ [x]) (fun b => (Pv b ∧ ¬ G b) ∨ b = w.heap.size + 1 ∨ b = w.heap.size) W4 := fun I' W3 W4 hI' hk hs hs' h => by
          refine hI' _ _ _ _ _ h (hk.mono ?_) ?_
          · rintro k _ hn rfl; exact hn ⟨.inr (.inl rfl), hGl⟩
          · rintro b (⟨h1, h2⟩ | rfl | rfl)
            · exact ⟨.inl ⟨.inl h1, h2⟩, by have := hPv b h1; omega⟩
            · exact ⟨.inl ⟨.inr (.inl rfl), hGl⟩, by omega⟩
            · exact ⟨.inl ⟨.inr (.inr rfl), hGD⟩, by omega⟩
        have hsz : W.heap.size ≤ W₂.heap.size := by have := hk1.size; omega
        rintro e a3 W3 hp
        cases e with
        | normal =>
          obtain ⟨hk3, hi3⟩ := hp
          obtain ⟨W4, he, hs4, hk4, hk34, hl4, hD4⟩ := fin none W3 hk3
          exact ⟨_, _, he, hk4, .inl ⟨rfl, tr I W3 W4 hI hk34 hs4 (by have := hk3.size; omega) hi3, fun h => hnl h.1, fun h => hnD h.1, hl4, hD4⟩⟩
        | ret =>
          obtain ⟨hk3, hi3⟩ := hp
          obtain ⟨W4, he, hs4, hk4, hk34, hl4, hD4⟩ := fin (some .ret) W3 hk3
          exact ⟨_, _, he, hk4, .inr ⟨rfl, .ret, tr (Ix .ret) W3 W4 (hIx _) hk34 hs4 (by have := hk3.size; omega) hi3, fun h => hnl h.1, fun h => hnD h.1, hl4, hD4⟩⟩
        | exit id =>
          obtain ⟨hk3, hi3⟩ := hp
          obtain ⟨W4, he, hs4, hk4, hk34, hl4, hD4⟩ := fin (some (.exit id)) W3 hk3
          exact ⟨_, _, he, hk4, .inr ⟨rfl, .exit id, tr (Ix (.exit id)) W3 W4 (hIx _) hk34 hs4 (by have := hk3.size; omega) hi3, fun h => hnl h.1, fun h => hnD h.1, hl4, hD4⟩⟩
        | goto t =>
          obtain ⟨hk3, hi3⟩ := hp
          obtain ⟨W4, he, hs4, hk4, hk34, hl4, hD4⟩ := fin (some (.goto t)) W3 hk3
          exact ⟨_, _, he, hk4, .inr ⟨rfl, .goto t, tr (Ix (.goto t)) W3 W4 (hIx _) hk34 hs4 (by have := hk3.size; omega) hi3, fun h => hnl h.1, fun h => hnD h.1, hl4, hD4⟩⟩
        | panic ch => exact hp.elim
        | outgrown => exact hp.elim
      | exit id => exact hp.elim
      | goto id => exact hp.elim
      | ret => exact hp.elim
      | panic ch => exact hp.elim
      | outgrown => exact hp.elim
    · -- behind the iterator
      rintro e W2 ⟨⟨v, rfl⟩, Pv, hPv, (⟨ys, hys, hi, hnl, hnD, hl, hD⟩ | ⟨pre, hxs, c, hi, hnl, hnD, hl, hD⟩)⟩
      all_goals
        have hlt : w.heap.size + 1 < W2.heap.size := (Array.getElem?_eq_some_iff.1 hl).1
        have kk : ∀ o, Keep (fun b => b ≠ w.heap.size + 1) W2 (W2.putObj (w.heap.size + 1) o) := fun o => Keep.putObj _ _ _ (by simp)
        have hP' : ∀ o b, (Pv b ∨ b = w.heap.size + 1 ∨ b = w.heap.size) → b < (W2.putObj (w.heap.size + 1) o).heap.size := fun o b hb => by
          rw [World.putObj_size]; rcases hb with hb | rfl | rfl; exact hPv b hb; omega; omega
      · refine ⟨none, _, by have := run_endLoop (P := P) hl (by rw [hrec]; simp); rw [hrec] at this; exact this, ?_⟩
        exact hdone w.heap.size ys (fun b => Pv b ∨ b = w.heap.size + 1 ∨ b = w.heap.size) _ (Nat.le_refl _) (.inr (.inr rfl)) (hP' _) hys
          (hI _ _ _ _ _ hi ((kk _).mono (by rintro k _ hn rfl; exact hn (.inr (.inl rfl)))) (fun b hb => ⟨.inl hb, hP' _ b hb⟩)) ((kk _).heap (by omega) hD)
      · refine ⟨some c, _, by have := run_endLoop (P := P) hl (by rw [hrec]; simp); rw [hrec] at this; exact this, ?_⟩
        exact hstop w.heap.size c pre (fun b => Pv b ∨ b = w.heap.size + 1 ∨ b = w.heap.size) _ (Nat.le_refl _) (.inr (.inr rfl)) (hP' _) hxs
          (hIx c _ _ _ _ _ hi ((kk _).mono (by rintro k _ hn rfl; exact hn (.inr (.inl rfl)))) (fun b hb => ⟨.inl hb, hP' _ b hb⟩)) ((kk _).heap (by omega) hD)
end Go.Proofs.YtniehbjoogaccaaGreatDoor
namespace Go.Proofs.YtniehbjoogaccaaGreatDoor.Pct
open Go.RowKit
set_option maxHeartbeats 4000000 in
theorem isLetter_any (b : UInt8) (w : World) :
    Calls Tryz.prog 178 #[.int .u8 (b.toNat : Int)] w fun e w' => e = .returned (.bool (letB b)) ∧ w = w' := by
  have hb := u8_lt b
  by_cases h0 : 65 ≤ b.toNat <;> by_cases h1 : b.toNat ≤ 90 <;> by_cases h2 : 97 ≤ b.toNat <;> by_cases h3 : b.toNat ≤ 122
  all_goals first | (exfalso; omega) | skip
  all_goals
    (first | have H := Lib.hid (show letB b = true by simp [letB]; omega) | have H := Lib.hid (show letB b = false by simp [letB]; omega))
    (first | have d0 : decide ((65 : Int) ≤ (b.toNat : Int)) = true := (by simp; omega) | have d0 : decide ((65 : Int) ≤ (b.toNat : Int)) = false := (by simp; omega))
    (first | have d1 : decide ((b.toNat : Int) ≤ (90 : Int)) = true := (by simp; omega) | have d1 : decide ((b.toNat : Int) ≤ (90 : Int)) = false := (by simp; omega))
    (first | have d2 : decide ((97 : Int) ≤ (b.toNat : Int)) = true := (by simp; omega) | have d2 : decide ((97 : Int) ≤ (b.toNat : Int)) = false := (by simp; omega))
    (first | have d3 : decide ((b.toNat : Int) ≤ (122 : Int)) = true := (by simp; omega) | have d3 : decide ((b.toNat : Int) ≤ (122 : Int)) = false := (by simp; omega))
    go_enter Tryz.func178, Tryz.ntmps178
    go_wp2
    go_ret
    exact ⟨(by rw [H.out]; try rfl), rfl⟩
set_option maxHeartbeats 4000000 in
theorem isDecimal_any (b : UInt8) (w : World) :
    Calls Tryz.prog 179 #[.int .u8 (b.toNat : Int)] w fun e w' => e = .returned (.bool (decB b)) ∧ w = w' := by
  have hb := u8_lt b
  by_cases h0 : 48 ≤ b.toNat <;> by_cases h1 : b.toNat ≤ 57
  all_goals first | (exfalso; omega) | skip
  all_goals
    (first | have H := Lib.hid (show decB b = true by simp [decB]; omega) | have H := Lib.hid (show decB b = false by simp [decB]; omega))
    (first | have d0 : decide ((48 : Int) ≤ (b.toNat : Int)) = true := (by simp; omega) | have d0 : decide ((48 : Int) ≤ (b.toNat : Int)) = false := (by simp; omega))
    (first | have d1 : decide ((b.toNat : Int) ≤ (57 : Int)) = true := (by simp; omega) | have d1 : decide ((b.toNat : Int) ≤ (57 : Int)) = false := (by simp; omega))
    go_enter Tryz.func179, Tryz.ntmps179
    go_wp2
    go_ret
    exact ⟨(by rw [H.out]; try rfl), rfl⟩
set_option maxHeartbeats 4000000 in
theorem isHexadecimal_any (b : UInt8) (w : World) :
    Calls Tryz.prog 201 #[.int .u8 (b.toNat : Int)] w fun e w' => e = .returned (.bool (hexB b)) ∧ w = w' := by
  have hb := u8_lt b
  have con := isDecimal_any b
  by_cases h0 : 48 ≤ b.toNat <;> by_cases h1 : b.toNat ≤ 57 <;> by_cases h2 : 65 ≤ b.toNat <;> by_cases h3 : b.toNat ≤ 70 <;> by_cases h4 : 97 ≤ b.toNat <;> by_cases h5 : b.toNat ≤ 102
  all_goals first | (exfalso; omega) | skip
  all_goals
    (first | have H := Lib.hid (show hexB b = true by simp [hexB]; omega) | have H := Lib.hid (show hexB b = false by simp [hexB]; omega))
    (first | rw [show decB b = true from by simp [decB]; omega] at con | rw [show decB b = false from by simp [decB]; omega] at con)
    (first | have d0 : decide ((48 : Int) ≤ (b.toNat : Int)) = true := (by simp; omega) | have d0 : decide ((48 : Int) ≤ (b.toNat : Int)) = false := (by simp; omega))
    (first | have d1 : decide ((b.toNat : Int) ≤ (57 : Int)) = true := (by simp; omega) | have d1 : decide ((b.toNat : Int) ≤ (57 : Int)) = false := (by simp; omega))
    (first | have d2 : decide ((65 : Int) ≤ (b.toNat : Int)) = true := (by simp; omega) | have d2 : decide ((65 : Int) ≤ (b.toNat : Int)) = false := (by simp; omega))
    (first | have d3 : decide ((b.toNat : Int) ≤ (70 : Int)) = true := (by simp; omega) | have d3 : decide ((b.toNat : Int) ≤ (70 : Int)) = false := (by simp; omega))
    (first | have d4 : decide ((97 : Int) ≤ (b.toNat : Int)) = true := (by simp; omega) | have d4 : decide ((97 : Int) ≤ (b.toNat : Int)) = false := (by simp; omega))
    (first | have d5 : decide ((b.toNat : Int) ≤ (102 : Int)) = true := (by simp; omega) | have d5 : decide ((b.toNat : Int) ≤ (102 : Int)) = false := (by simp; omega))
    go_enter Tryz.func201, Tryz.ntmps201
    go_wp2_with (go_at_call 179; refine (con _).mono ?_; rintro e w' ⟨rfl, rfl⟩)
    go_ret
    exact ⟨(by rw [H.out]; try rfl), rfl⟩
theorem worth_dec (b : UInt8) (h : decB b = true) : ((worth b).toNat : Int) = (b.toNat : Int) - 48 := by
  have h1 : 48 ≤ b.toNat ∧ b.toNat ≤ 57 := by simpa [decB] using h
  unfold worth
  rw [h, if_pos rfl, UInt8.toNat_sub]
  have : (48 : UInt8).toNat = 48 := rfl
  rw [this]; omega
theorem worth_small (b : UInt8) (h : decB b = false) (h' : 97 ≤ b.toNat) : ((worth b).toNat : Int) = (b.toNat : Int) - 97 + 10 := by
  have := u8_lt b
  unfold worth
  rw [h, if_neg (by simp), if_pos h', UInt8.toNat_add, UInt8.toNat_sub]
  have : (97 : UInt8).toNat = 97 := rfl
  have h10 : (10 : UInt8).toNat = 10 := rfl
  rw [this, h10]; omega
theorem worth_great (b : UInt8) (h : decB b = false) (h' : ¬ 97 ≤ b.toNat) (h2 : 65 ≤ b.toNat) : ((worth b).toNat : Int) = (b.toNat : Int) - 65 + 10 := by
  have := u8_lt b
  unfold worth
  rw [h, if_neg (by simp), if_neg h', UInt8.toNat_add, UInt8.toNat_sub]
  have : (65 : UInt8).toNat = 65 := rfl
  have h10 : (10 : UInt8).toNat = 10 := rfl
  rw [this, h10]; omega
set_option maxHeartbeats 2000000 in
theorem worth_any (b : UInt8) (w : World) (hx : hexB b = true) :
    Calls Tryz.prog 177 #[.int .u8 (b.toNat : Int)] w fun e w' => e = .returned (.int .u8 ((worth b).toNat : Int)) ∧ w = w' := by
  have hb := u8_lt b
  have con := isDecimal_any b
  have hx' : (48 ≤ b.toNat ∧ b.toNat ≤ 57) ∨ (65 ≤ b.toNat ∧ b.toNat ≤ 70) ∨ (97 ≤ b.toNat ∧ b.toNat ≤ 102) := by simpa [hexB] using hx
  clear hx
  by_cases hd : decB b = true
  · have H := Lib.hid (worth_dec b hd)
    have hd' : 48 ≤ b.toNat ∧ b.toNat ≤ 57 := by simpa [decB] using hd
    rw [hd] at con
    obtain ⟨hd1, hd2⟩ := hd'
    clear hd hx'
    go_enter Tryz.func177, Tryz.ntmps177
    go_wp2_with (go_at_call 179; refine (con _).mono ?_; rintro e w' ⟨rfl, rfl⟩)
    go_ret
    exact ⟨(by rw [H.out]; try rfl), rfl⟩
  · have hd0 : decB b = false := by simpa using hd
    have hd' : ¬ (48 ≤ b.toNat ∧ b.toNat ≤ 57) := by simpa [decB] using hd
    by_cases h9 : 97 ≤ b.toNat
    · have H := Lib.hid (worth_small b hd0 h9)
      rw [hd0] at con
      have d1 : decide ((97 : Int) ≤ (b.toNat : Int)) = true := by simp; omega
      clear hd hx' hd' hd0
      go_enter Tryz.func177, Tryz.ntmps177
      go_wp2_with (go_at_call 179; refine (con _).mono ?_; rintro e w' ⟨rfl, rfl⟩)
      go_ret
      exact ⟨(by rw [H.out]; try rfl), rfl⟩
    · have h6 : 65 ≤ b.toNat := by omega
      have H := Lib.hid (worth_great b hd0 h9 h6)
      rw [hd0] at con
      have d1 : decide ((97 : Int) ≤ (b.toNat : Int)) = false := by simp; omega
      clear hd hx' hd' hd0 h9
      go_enter Tryz.func177, Tryz.ntmps177
      go_wp2_with (go_at_call 179; refine (con _).mono ?_; rintro e w' ⟨rfl, rfl⟩)
      go_ret
      exact ⟨(by rw [H.out]; try rfl), rfl⟩
end Go.Proofs.YtniehbjoogaccaaGreatDoor.Pct
namespace Go.Proofs.YtniehbjoogaccaaGreatDoor
open Go
variable {F : Fence} {n : Nat} {P : Program} {ops : Array Oper} {Q : Exit → Act → World → Prop} {md : Region.Mode} {S : World → Prop}
def PureAt (F : Fence) (n : Nat) (P : Program) (o : Oper) (v : Value) (a : Act) (w : World) : Prop :=
  (∀ f, o.about P w a.eval = some f → F.fn f) ∧
  ((execOp a.eval o).run P w = .ok (.value v) w ∨
    ∃ f args, (execOp a.eval o).run P w = .ok (.enter f args) w ∧ (F.depth.isSome = true → 1 ≤ n) ∧ CallsIn F (n - 1) P f args w fun e w' => e = .returned v ∧ w' = w)
def YldC (F : Fence) (n : Nat) (P : Program) (ops : Array Oper) (S : World → Prop) (o : Oper) (v : Value) (a : Act) : Prop :=
  (Region.wanted o (yielded ops a.tmps) = true ∧ ∀ w, S w → PureAt F n P o v a w) ∨
  (Region.wanted o (yielded ops a.tmps) = false ∧ v = undef ∧ ∀ w f, o.about P w a.eval = some f → F.fn f)
theorem YldC.same {o : Oper} {v : Value} {a a' : Act} (hy : YldC F n P ops S o v a) (he : execOp a'.eval o = execOp a.eval o)
    (hw : Region.wanted o (yielded ops a'.tmps) = Region.wanted o (yielded ops a.tmps)) (hb : ∀ w, o.about P w a'.eval = o.about P w a.eval) : YldC F n P ops S o v a' := by
  rcases hy with ⟨h1, h2⟩ | ⟨h1, h2, h3⟩
  · refine .inl ⟨hw.trans h1, fun w hS => ?_⟩
    have h := h2 w hS
    unfold PureAt at *
    rw [hb w, he]
    exact h
  · exact .inr ⟨hw.trans h1, h2, fun w f hf => h3 w f (by rw [← hb w]; exact hf)⟩
theorem YldC.op {i : Nat} {o : Oper} {v : Value} {a : Act} (hi : ops[i]? = some o) (hd : ∀ c, o.op ≠ .defer c) (hy : YldC F n P ops S o v a)
    {K : Act → World → Prop} {w : World} (hS : S w) (h : K (a.put o.dst v) w) : wpOpIn F n P ops Q i K a w := by
  unfold wpOpIn
  simp only [hi]
  rcases hy with ⟨hw, hv⟩ | ⟨hw, rfl, hab⟩
  · obtain ⟨ha, hr | ⟨f, args, hr, hdep, hc⟩⟩ := hv w hS
    · simp only [hw, if_true, Oper.wpIn, semAt_exec o hd, hr, Oper.uponIn]; exact ⟨ha, h⟩
    · simp only [hw, if_true, Oper.wpIn, semAt_exec o hd, hr, Oper.uponIn]
      refine ⟨ha, hdep, CallsIn.mono hc ?_⟩
      rintro e w' ⟨rfl, rfl⟩
      exact h
  · simp only [hw, Bool.false_eq_true, if_false]; exact ⟨hab w, h⟩
theorem YldC.past {j : Nat} {oi oj : Oper} {v : Value} (hj : ops[j]? = some oj) (hd : ∀ c, oj.op ≠ .defer c) (hap : oi.apart ops oj = true)
    (hsi : ∀ cs b, oi.op ≠ .select cs b) (hsj : ∀ cs b, oj.op ≠ .select cs b)
    (hQ : ∀ c a w, Q (.panic c) (a.put oi.dst v) w → Q (.panic c) a w) {K : Act → World → Prop} {a : Act} {w : World}
    (hy : YldC F n P ops S oi v a) (h : wpOpIn F n P ops Q j K (a.put oi.dst v) w) :
    wpOpIn F n P ops Q j (fun a' w' => YldC F n P ops S oi v a' ∧ K (a'.put oi.dst v) w') a w := by
  obtain ⟨h1, h2, h3⟩ := Oper.apart_spec hap
  have keep : ∀ u, YldC F n P ops S oi v (a.put oj.dst u) := fun u =>
    hy.same (execOp_put oi hsi a oj.dst u h3) (wanted_put oi a oj.dst u h3) (fun w => about_put oi w a oj.dst u h3)
  have turn : ∀ u w', K ((a.put oi.dst v).put oj.dst u) w' → YldC F n P ops S oi v (a.put oj.dst u) ∧ K ((a.put oj.dst u).put oi.dst v) w' :=
    fun u w' hk => ⟨keep u, by rw [← Act.put_comm a v u h2]; exact hk⟩
  unfold wpOpIn at *
  simp only [hj] at *
  rw [wanted_put oj a oi.dst v h1, about_put oj w a oi.dst v h1] at h
  by_cases hw : Region.wanted oj (yielded ops a.tmps) = true
  · rw [if_pos hw] at h ⊢
    unfold Oper.wpIn at *
    rw [about_put oj w a oi.dst v h1, semAt_exec oj hd, execOp_put oj hsj a oi.dst v h1] at h
    rw [semAt_exec oj hd]
    refine ⟨h.1, ?_⟩
    have h := h.2
    cases hr : (execOp a.eval oj).run P w with
    | halt x w' =>
      rw [hr] at h
      cases x with
      | panic u => exact hQ _ _ _ h
      | _ => exact h
    | ok x w' =>
      rw [hr] at h
      cases x with
      | value u => exact turn u w' h
      | skip => exact turn undef w' h
      | defer d =>
        have e : ∀ u, ({ a.put oi.dst v with defers := d :: (a.put oi.dst v).defers } : Act).put oj.dst u = (({ a with defers := d :: a.defers } : Act).put oj.dst u).put oi.dst v := fun u => by
          rw [← Act.put_comm _ v u h2]
          unfold Act.put
          cases oi.dst <;> cases oj.dst <;> rfl
        refine ⟨YldC.same (a := { a with defers := d :: a.defers }) (hy.same rfl rfl (fun _ => rfl)) (execOp_put oi hsi _ oj.dst _ h3) (wanted_put oi _ oj.dst _ h3) (fun w => about_put oi w _ oj.dst _ h3), ?_⟩
        rw [← e]
        exact h
      | enter f args =>
        refine ⟨h.1, CallsIn.mono h.2 fun e w'' he => ?_⟩
        cases e with
        | returned u => exact turn u w'' he
        | panicked c => exact hQ _ _ _ he
        | outgrown => exact he
      | row row args => exact ⟨h.1, RowsIn.mono h.2 fun u w'' he => turn u w'' he⟩
      | round l f tmps assign body =>
        refine ⟨h.1, RoundIn.mono h.2 fun e w'' he => ?_⟩
        cases e with
        | returned u => exact turn u w'' he
        | panicked c => exact hQ _ _ _ he
        | outgrown => exact he
      | _ => exact h
  · rw [if_neg hw] at h ⊢
    exact ⟨h.1, turn undef w h.2⟩
theorem anyC_first {i : Nat} {oi : Oper} {v : Value} (hi : ops[i]? = some oi) (hd : noDefer ops = true) (hsel : ∀ (j : Nat) (o : Oper) cs b, ops[j]? = some o → o.op ≠ .select cs b)
    (hQ : ∀ c a w, Q (.panic c) (a.put oi.dst v) w → Q (.panic c) a w) :
    ∀ (fuel : Nat) (listed : Array Bool) (a : Act) (w : World),
      (∀ j oj, ops[j]? = some oj → j ≠ i → listed.getD j true = false → (∀ e ∈ oj.after, Region.binds md e = true → e.on ≠ i) → oi.apart ops oj = true) →
      i ∈ Region.ready md ops listed → YldC F n P ops S oi v a → S w →
      anyH F n P md ops Q S fuel (listed.setIfInBounds i true) (a.put oi.dst v) w → anyH F n P md ops Q S (fuel + 1) listed a w := by
  intro fuel
  induction fuel with
  | zero =>
    intro listed a w _ hr hy hS H
    refine ⟨fun h => (by rw [h] at hr; cases hr), fun j hj => ?_⟩
    by_cases hji : j = i
    · subst hji; exact hy.op hi (noDefer_spec hd hi) hS ⟨hS, H⟩
    · have := ready_mono hj hji
      rw [H.1] at this
      cases this
  | succ fuel ih =>
    intro listed a w hfree hr hy hS H
    refine ⟨fun h => (by rw [h] at hr; cases hr), fun j hj => ?_⟩
    by_cases hji : j = i
    · subst hji; exact hy.op hi (noDefer_spec hd hi) hS ⟨hS, H⟩
    · have h1 := H.2 j (ready_mono hj hji)
      obtain ⟨hjun, oj, hoj, hall⟩ := mem_ready.1 hj
      have hnot : ∀ e ∈ oj.after, Region.binds md e = true → e.on ≠ i := fun e he hb heq => by
        have h1 := hall e he hb
        have h0 := (mem_ready.1 hr).1
        rw [heq] at h1
        rcases Nat.lt_or_ge i listed.size with h' | h'
        · simp [h'] at h0 h1; rw [h0] at h1; cases h1
        · simp [Array.getElem?_eq_none h'] at h1
      have h2 := hy.past hoj (noDefer_spec hd hoj) (hfree j oj hoj hji hjun hnot) (fun cs b => hsel i oi cs b hi) (fun cs b => hsel j oj cs b hoj) hQ h1
      have hfree' : ∀ k ok, ops[k]? = some ok → k ≠ i → (listed.setIfInBounds j true).getD k true = false →
          (∀ e ∈ ok.after, Region.binds md e = true → e.on ≠ i) → oi.apart ops ok = true := fun k ok hk hki hun hno => by
        refine hfree k ok hk hki ?_ hno
        by_cases hjk : j = k
        · subst hjk; exact hjun
        · rw [getD_set_ne true hjk] at hun; exact hun
      refine wpOpIn_mono (fun a' w' h3 => ⟨h3.2.1, ih (listed.setIfInBounds j true) a' w' hfree' (ready_mono hr (Ne.symm hji)) h3.1 h3.2.1 ?_⟩) h2
      rw [Array.setIfInBounds_comm _ _ hji]
      exact h3.2.2
theorem anyC_take (i : Nat) {oi : Oper} {v : Value} {fuel : Nat} {listed : Array Bool} {a : Act} {w : World} (hi : ops[i]? = some oi)
    (hd : noDefer ops = true) (hs : Region.noSelect ops = true) (hf : Region.free md ops listed i = true) (hr : (Region.ready md ops listed).contains i = true)
    (hQ : ∀ c a w, Q (.panic c) (a.put oi.dst v) w → Q (.panic c) a w) (hy : YldC F n P ops S oi v a) (hS : S w)
    (h : anyH F n P md ops Q S fuel (listed.setIfInBounds i true) (a.put oi.dst v) w) : anyH F n P md ops Q S (fuel + 1) listed a w :=
  anyC_first hi hd (Region.noSelect_spec hs) hQ fuel listed a w (Region.free_spec hi hf) (by simpa using hr) hy hS h
theorem anyH_list (L : Array Bool) {fuel : Nat} {listed : Array Bool} {a : Act} {w : World} (he : listed = L) (h : anyH F n P md ops Q S fuel L a w) : anyH F n P md ops Q S fuel listed a w := he ▸ h
end Go.Proofs.YtniehbjoogaccaaGreatDoor
namespace Go.Proofs.YtniehbjoogaccaaGreatDoor.SorK
open Go.RowKit Go.Sort
set_option linter.unusedVariables false
set_option linter.unusedSectionVars false
variable {α : Type} [Inhabited α] {enc : α → List Value} {k : Nat}
theorem flat_len (hk : ∀ x, (enc x).length = k) : ∀ l : List α, (l.flatMap enc).length = l.length * k
  | [] => by simp
  | x :: r => by rw [List.flatMap_cons, List.length_append, flat_len hk r, hk, List.length_cons, Nat.succ_mul, Nat.add_comm]
theorem flat_get (hk : ∀ x, (enc x).length = k) : ∀ (l : List α) (i : Nat) (x : α), l[i]? = some x → ∀ j v, (enc x)[j]? = some v → (l.flatMap enc)[i * k + j]? = some v
  | [], i, x, h => by simp at h
  | y :: r, 0, x, h => by
    simp at h; subst h
    intro j v hv
    rw [List.flatMap_cons, Nat.zero_mul, Nat.zero_add, List.getElem?_append_left (List.getElem?_eq_some_iff.1 hv).1]
    exact hv
  | y :: r, i + 1, x, h => by
    have h' : r[i]? = some x := by simpa using h
    intro j v hv
    have ih := flat_get hk r i x h' j v hv
    rw [List.flatMap_cons, List.getElem?_append_right (by rw [hk, Nat.succ_mul]; omega), hk, Nat.succ_mul, show i * k + k + j - k = i * k + j by omega]
    exact ih
theorem flat_list (hk : ∀ x, (enc x).length = k) (hk0 : 0 < k) (d : Array α) : (flatK enc k d).toList = d.toList.flatMap enc := by
  apply List.ext_getElem?
  intro t
  by_cases ht : t < d.size * k
  · have hq : t / k < d.size := (Nat.div_lt_iff_lt_mul hk0).2 ht
    have hr : t % k < k := Nat.mod_lt _ hk0
    have h1 : d.toList[t / k]? = some d[t / k]! := by rw [Array.getElem?_toList, Array.getElem?_eq_getElem hq, getElem!_pos d _ hq]
    have h2 : ∀ y : α, (enc y)[t % k]? = some (enc y)[t % k]! := fun y => by rw [List.getElem?_eq_getElem (by rw [hk]; exact hr), getElem!_pos (enc y) (t % k) (by rw [hk]; exact hr)]
    have h3 := flat_get hk d.toList (t / k) _ h1 (t % k) _ (h2 _)
    rw [Nat.mul_comm (t / k) k, Nat.div_add_mod] at h3
    rw [h3, Array.getElem?_toList, Array.getElem?_eq_getElem (by rw [size_flatK]; exact ht), ← getElem!_pos (flatK enc k d) t (by rw [size_flatK]; exact ht), get_flatK _ _ _ _ ht]
  · rw [List.getElem?_eq_none (by simp; omega), List.getElem?_eq_none (by rw [flat_len hk]; simpa using ht)]
theorem holds_row (hk : ∀ x, (enc x).length = k) (hk0 : 0 < k) {w : World} {g : Nat} {cur : Array Value} {e : TypeId} {d : Array α} (hb : w.heap[g]? = some (.cells cur e (0, 0))) (ht : cur.toList.take (d.size * k) = d.toList.flatMap enc) : HoldsK enc k w g 0 d := by
  intro j hj
  have hj' : j < d.size * k := by simpa using hj
  refine ⟨?_, by simp [World.frozen?, hb]⟩
  have h1 : (cur.toList.take (d.size * k))[j]? = (flatK enc k d).toList[j]? := by rw [ht, flat_list hk hk0]
  rw [List.getElem?_take_of_lt hj'] at h1
  simp only [World.cell?, hb, Nat.zero_add]
  simp only [Option.isSome_none, Bool.false_eq_true, if_false]
  rw [← Array.getElem?_toList, h1, Array.getElem?_toList, Array.getElem?_eq_getElem hj, getElem!_pos (flatK enc k d) j hj]
  rfl
theorem row_sorted (hk : ∀ x, (enc x).length = k) (hk0 : 0 < k) {w : World} {g n : Nat} {os : Array Obj} {cur : Array Value} {e : TypeId} (d : Array α) (hb : w.heap[g]? = some (.cells cur e (0, 0))) (hs : d.size * k ≤ cur.size) :
    ∃ cur' : Array Value, (sortWorldK enc k w g 0 n d os).heap[g]? = some (.cells cur' e (0, 0)) ∧ cur'.size = cur.size ∧ cur'.toList.take (d.size * k) = d.toList.flatMap enc := by
  have hg : g < w.heap.size := (Array.getElem?_eq_some_iff.1 hb).1
  refine ⟨putCells id 0 (flatK enc k d) cur, ?_, by simp [putCells], ?_⟩
  · unfold sortWorldK putRowK
    rw [heap_grow_old _ _ (by simpa using hg)]
    simp [putRow, mapBlock, Sort.ahead, Array.getElem?_modify, hb, onCells]
  · rw [← flat_list hk hk0]
    apply List.ext_getElem?
    intro j
    by_cases hj : j < d.size * k
    · have hj2 : j < (flatK enc k d).size := by simpa using hj
      have hj3 : j < cur.size := by omega
      rw [List.getElem?_take_of_lt hj, Array.getElem?_toList, Array.getElem?_toList, Array.getElem?_eq_getElem hj2, ← getElem!_pos (flatK enc k d) j hj2]
      simp [putCells, hj, hj3]
    · rw [List.getElem?_take_eq_none (by omega), List.getElem?_eq_none (by simp; omega)]
theorem keep_sort (S : Nat → Prop) (w : World) (blk off m : Nat) (dk : Array α) (os : Array Obj) (h : ¬ S blk) : Keep S w (sortWorldK enc k w blk off m dk os) := by
  have k1 : w.grownBy (sortWorldK enc k w blk off m dk os) (some blk) := by
    refine ⟨rfl, rfl, rfl, by simp [sortWorldK, putRowK], fun i hi hne => ?_⟩
    unfold sortWorldK putRowK
    rw [heap_grow_old _ _ (by simpa using hi)]
    have : blk ≠ i := fun e => hne (by rw [e])
    simp [putRow, mapBlock, Sort.ahead, Array.getElem?_modify, this]
  exact Keep.of_grownBy k1 (fun r e => by cases e; exact h)
end Go.Proofs.YtniehbjoogaccaaGreatDoor.SorK
namespace Go.Proofs.YtniehbjoogaccaaGreatDoor
open Go.Lib
theorem compactUpTo_set {α : Type} [LT α] [DecidableEq α] [LE α] [Std.IsLinearOrder α] [Std.LawfulOrderLT α] [Inhabited α] (d : Array α) (hs : ∀ i j, i < j → j < d.size → ¬ d[j]! < d[i]!) :
    ∀ m, m ≤ d.size → Rises (compactUpTo d m) ∧ ∀ a, a ∈ compactUpTo d m ↔ ∃ j, j < m ∧ d[j]! = a := by
  intro m
  induction m with
  | zero => intro _; exact ⟨by unfold compactUpTo; exact List.Pairwise.nil, fun a => by unfold compactUpTo; simp⟩
  | succ m ih =>
    intro hm
    obtain ⟨h1, h2⟩ := ih (by omega)
    rw [compactUpTo_succ]
    by_cases hk : keeps d m = true
    · rw [if_pos hk]
      have hgt : ∀ a ∈ compactUpTo d m, a < d[m]! := by
        intro a ha
        obtain ⟨j, hj, rfl⟩ := (h2 a).1 ha
        have hn := hs j m hj (by omega)
        rcases Lin.tri d[j]! d[m]! with h | h | h
        · exact h
        · exfalso
          have hne : d[m]! ≠ d[m - 1]! := by
            unfold keeps at hk
            rcases of_decide_eq_true hk with h | h
            · omega
            · exact h
          by_cases hj1 : j = m - 1
          · subst hj1; exact hne h.symm
          · have h3 := hs j (m - 1) (by omega) (by omega)
            have h4 := hs (m - 1) m (by omega) (by omega)
            rw [h] at h3
            exact hne (lin_eq h4 h3)
        · exact absurd h hn
      refine ⟨List.pairwise_append.2 ⟨h1, by simp, fun a ha b hb => ?_⟩, fun a => ?_⟩
      · obtain rfl : b = d[m]! := by simpa using hb
        exact hgt a ha
      · rw [List.mem_append, h2]
        constructor
        · rintro (⟨j, hj, rfl⟩ | h)
          · exact ⟨j, by omega, rfl⟩
          · exact ⟨m, by omega, (List.mem_singleton.1 h).symm⟩
        · rintro ⟨j, hj, rfl⟩
          by_cases e : j = m
          · subst e; exact .inr (by simp)
          · exact .inl ⟨j, by omega, rfl⟩
    · rw [if_neg hk, List.append_nil]
      refine ⟨h1, fun a => ?_⟩
      rw [h2]
      constructor
      · rintro ⟨j, hj, rfl⟩; exact ⟨j, by omega, rfl⟩
      · rintro ⟨j, hj, rfl⟩
        by_cases e : j = m
        · subst e
          have : ¬ (j = 0 ∨ d[j]! ≠ d[j - 1]!) := fun h => hk (by unfold keeps; exact decide_eq_true h)
          have h0 : j ≠ 0 := fun h => this (.inl h)
          have he : d[j]! = d[j - 1]! := Classical.byContradiction fun h => this (.inr h)
          exact ⟨j - 1, by omega, he.symm⟩
        · exact ⟨j, by omega, rfl⟩
theorem compact_set {α : Type} [LT α] [DecidableEq α] [LE α] [Std.IsLinearOrder α] [Std.LawfulOrderLT α] [Inhabited α] (zs : List α) (hs : zs.Pairwise fun x y => ¬ y < x) : Rises (compact zs) ∧ ∀ a, a ∈ compact zs ↔ a ∈ zs := by
  have h := compactUpTo_set zs.toArray (fun i j hij hj => by
    have hj' : j < zs.length := by simpa using hj
    have := List.pairwise_iff_getElem.1 hs i j (by omega) hj' hij
    simpa [getElem!_pos, hj', show i < zs.length by omega] using this) zs.length (by simp)
  refine ⟨h.1, fun a => (h.2 a).trans ?_⟩
  constructor
  · rintro ⟨j, hj, rfl⟩
    simp [getElem!_pos, hj]
  · intro ha
    obtain ⟨j, hj, rfl⟩ := List.getElem_of_mem ha
    exact ⟨j, hj, by simp [getElem!_pos, hj]⟩
end Go.Proofs.YtniehbjoogaccaaGreatDoor
namespace Go.Proofs.YtniehbjoogaccaaGreatDoor
open Go
variable {P : Program} {ops : Array Oper} {Q : Exit → Act → World → Prop} {md : Region.Mode} {S0 : World → Prop} {nd : Nat → Bool}
def anyQ (P : Program) (md : Region.Mode) (ops : Array Oper) (Q : Exit → Act → World → Prop) (nd : Nat → Bool) (S0 : World → Prop) : Nat → Array Bool → Act → World → Prop
  | 0, listed, a, w => Region.ready md ops listed = [] ∧ Q .normal a w
  | fuel + 1, listed, a, w => (Region.ready md ops listed = [] → Q .normal a w) ∧
    ∀ i ∈ Region.ready md ops listed, wpOp P ops Q i (fun a' w' => (nd i = true → S0 w') ∧ anyQ P md ops Q nd S0 fuel (listed.setIfInBounds i true) a' w') a w
theorem wpAny_of_anyQ : ∀ (fuel : Nat) (listed : Array Bool) (a : Act) (w : World), anyQ P md ops Q nd S0 fuel listed a w → wpAny P md ops Q fuel listed a w
  | 0, _, _, _, h => h
  | fuel + 1, _, _, _, h => ⟨h.1, fun i hi => wpOp_mono (fun _ _ h' => wpAny_of_anyQ fuel _ _ _ h'.2) (h.2 i hi)⟩
theorem anyQ_first {i : Nat} {oi : Oper} {v : Value} (hi : ops[i]? = some oi) (hsel : ∀ (j : Nat) (o : Oper) cs b, ops[j]? = some o → o.op ≠ .select cs b)
    (hQ : ∀ c a w, Q (.panic c) (a.put oi.dst v) w → Q (.panic c) a w)
    (hc : ∀ j oj, ops[j]? = some oj → j ≠ i → (∀ e ∈ oj.after, Region.binds md e = true → e.on ≠ i) → nd j = true) :
    ∀ (fuel : Nat) (listed : Array Bool) (a : Act) (w : World),
      (∀ j oj, ops[j]? = some oj → j ≠ i → listed.getD j true = false → (∀ e ∈ oj.after, Region.binds md e = true → e.on ≠ i) → oi.apart ops oj = true) →
      i ∈ Region.ready md ops listed → YieldsIf P ops S0 oi v a → S0 w →
      anyQ P md ops Q nd S0 fuel (listed.setIfInBounds i true) (a.put oi.dst v) w → anyQ P md ops Q nd S0 (fuel + 1) listed a w := by
  intro fuel
  induction fuel with
  | zero =>
    intro listed a w _ hr hy hS H
    refine ⟨fun h => (by rw [h] at hr; cases hr), fun j hj => ?_⟩
    by_cases hji : j = i
    · subst hji; exact hy.wpOp hi hS ⟨fun _ => hS, H⟩
    · have := ready_mono hj hji
      rw [H.1] at this
      cases this
  | succ fuel ih =>
    intro listed a w hfree hr hy hS H
    refine ⟨fun h => (by rw [h] at hr; cases hr), fun j hj => ?_⟩
    by_cases hji : j = i
    · subst hji; exact hy.wpOp hi hS ⟨fun _ => hS, H⟩
    · have h1 := H.2 j (ready_mono hj hji)
      obtain ⟨hjun, oj, hoj, hall⟩ := mem_ready.1 hj
      have hnot : ∀ e ∈ oj.after, Region.binds md e = true → e.on ≠ i := fun e he hb heq => by
        have h1 := hall e he hb
        have h0 := (mem_ready.1 hr).1
        rw [heq] at h1
        rcases Nat.lt_or_ge i listed.size with h' | h'
        · simp [h'] at h0 h1; rw [h0] at h1; cases h1
        · simp [Array.getElem?_eq_none h'] at h1
      have h2 := wpOp_putIf hoj (hfree j oj hoj hji hjun hnot) (fun cs b => hsel i oi cs b hi) (fun cs b => hsel j oj cs b hoj) hQ hy h1
      have hfree' : ∀ k ok, ops[k]? = some ok → k ≠ i → (listed.setIfInBounds j true).getD k true = false →
          (∀ e ∈ ok.after, Region.binds md e = true → e.on ≠ i) → oi.apart ops ok = true := fun k ok hk hki hun hno => by
        refine hfree k ok hk hki ?_ hno
        by_cases hjk : j = k
        · subst hjk; exact hjun
        · rw [getD_set_ne true hjk] at hun; exact hun
      have hnd := hc j oj hoj hji hnot
      refine wpOp_mono (fun a' w' h3 => ⟨h3.2.1, ih (listed.setIfInBounds j true) a' w' hfree' (ready_mono hr (Ne.symm hji)) h3.1 (h3.2.1 hnd) ?_⟩) h2
      rw [Array.setIfInBounds_comm _ _ hji]
      exact h3.2.2
def asksQ (md : Region.Mode) (ops : Array Oper) (nd : Nat → Bool) (i : Nat) : Bool := (List.range ops.size).all fun j => j == i || nd j || match ops[j]? with
  | some oj => oj.after.any (fun e => Region.binds md e && e.on == i)
  | none => true
theorem asksQ_spec {i : Nat} (h : asksQ md ops nd i = true) (j : Nat) (oj : Oper) (hj : ops[j]? = some oj) (hne : j ≠ i) (hno : ∀ e ∈ oj.after, Region.binds md e = true → e.on ≠ i) : nd j = true := by
  simp only [asksQ, List.all_eq_true, List.mem_range] at h
  have h1 := h j (Array.getElem?_eq_some_iff.1 hj).1
  simp only [hj, Bool.or_eq_true, beq_iff_eq, hne, false_or] at h1
  rcases h1 with h1 | h1
  · exact h1
  · obtain ⟨e, he, hb⟩ := Array.any_eq_true'.1 h1
    simp only [Bool.and_eq_true, beq_iff_eq] at hb
    exact absurd hb.2 (hno e he hb.1)
theorem region_anyQ {id : Nat} {a : Act} {w : World} (nd : Nat → Bool) (S0 : World → Prop) (hm : P.follows .mixedOrders = true)
    (h : anyQ P .any ops (NoPanic Q) nd S0 ops.size (Array.replicate ops.size false) a w.drew) : (Code.region id ops true).wp P Q a w :=
  Code.wp_mono NoPanic.imp (wp_region_any hm (wpAny_of_anyQ _ _ _ _ h))
theorem anyQ_take (i : Nat) {oi : Oper} {v : Value} {fuel : Nat} {listed : Array Bool} {a : Act} {w : World} (hi : ops[i]? = some oi)
    (hs : Region.noSelect ops = true) (hf : Region.free md ops listed i = true) (hr : (Region.ready md ops listed).contains i = true) (hk : asksQ md ops nd i = true)
    (hQ : ∀ c a w, Q (.panic c) (a.put oi.dst v) w → Q (.panic c) a w) (hy : YieldsIf P ops S0 oi v a) (hS : S0 w)
    (h : anyQ P md ops Q nd S0 fuel (listed.setIfInBounds i true) (a.put oi.dst v) w) : anyQ P md ops Q nd S0 (fuel + 1) listed a w :=
  anyQ_first hi (Region.noSelect_spec hs) hQ (asksQ_spec hk) fuel listed a w (Region.free_spec hi hf) (by simpa using hr) hy hS h
theorem anyQ_one (i : Nat) {fuel : Nat} {listed : Array Bool} {a : Act} {w : World} {o : Oper} (hr : Region.ready md ops listed = [i]) (ho : ops[i]? = some o)
    (h : ∀ K : Act → World → Prop, (∀ a' w', (nd i = true → S0 w') → anyQ P md ops Q nd S0 fuel (listed.setIfInBounds i true) a' w' → K a' w') →
      if Region.wanted o (yielded ops a.tmps) = true then Oper.wp P o a w K Q else K (a.put o.dst undef) w) : anyQ P md ops Q nd S0 (fuel + 1) listed a w := by
  refine ⟨fun h0 => (by rw [hr] at h0; cases h0), fun j hj => ?_⟩
  rw [hr] at hj
  obtain rfl : j = i := by simpa using hj
  have h1 := h (fun a' w' => (nd j = true → S0 w') ∧ anyQ P md ops Q nd S0 fuel (listed.setIfInBounds j true) a' w') fun _ _ hs ha => ⟨hs, ha⟩
  unfold wpOp
  simp only [ho]
  by_cases hw : Region.wanted o (yielded ops a.tmps) = true
  · rw [if_pos hw] at h1 ⊢; exact .inl h1
  · rw [if_neg hw] at h1 ⊢; exact h1
theorem anyQ_done {listed : Array Bool} {a : Act} {w : World} (hr : Region.ready md ops listed = []) (h : Q .normal a w) : ∀ fuel, anyQ P md ops (NoPanic Q) nd S0 fuel listed a w
  | 0 => ⟨hr, h⟩
  | _ + 1 => ⟨fun _ => h, by rw [hr]; simp⟩
theorem anyQ_list (L : Array Bool) {fuel : Nat} {listed : Array Bool} {a : Act} {w : World} (he : listed = L) (h : anyQ P md ops Q nd S0 fuel L a w) : anyQ P md ops Q nd S0 fuel listed a w := he ▸ h
end Go.Proofs.YtniehbjoogaccaaGreatDoor
namespace Go.Proofs.YtniehbjoogaccaaGreatDoor
open Go.RowKit
def AbideQ {β : Type} (J : β → World → Prop) : Prop := ∀ s A B, J s A → Below A.heap.size A B → J s B
def RoundsQ (P : Program) (l : Nat) {α : Type} (Arg : α → Array Value → Prop) (xs : List α) (RB : Nat → Prop) (J Jx : List α → World → Prop) : Prop :=
  ∀ pre x rest args W, xs = pre ++ x :: rest → J pre W → Arg x args →
    YieldAt Fence.wide 0 P l args W fun e W' => Keep RB W W' ∧ ((e = .returned (.bool true) ∧ J (pre ++ [x]) W') ∨ (e = .returned (.bool false) ∧ Jx (pre ++ [x]) W'))
def IterQ (P : Program) (gf : Nat) (lb : Array Value) {α : Type} (Arg : α → Array Value → Prop) (xs : List α) (RB : Nat → Prop) (w0 : World) : Prop :=
  ∀ (l : Nat) (J Jx : List α → World → Prop) (W : World), Keep RB w0 W → AbideQ J → AbideQ Jx → RoundsQ P l Arg xs RB J Jx → J [] W →
    Calls P gf (#[.func (.yield l) #[] #[]] ++ lb) W fun e W' => (∃ v, e = .returned v) ∧ (J xs W' ∨ ∃ pre rest, xs = pre ++ rest ∧ Jx pre W')
def bodyPostQ {α : Type} (S : Nat → Prop) (I : List α → World → Prop) (pre : List α) (W : World) : Exit → Act → World → Prop
  | .normal, _, W' => Keep S W W' ∧ I pre W'
  | _, _, _ => False
theorem rf_lawQ {P : Program} {α : Type} {g : Operand} {ps : Array Tmp} {assign body : Code} {Q : Exit → Act → World → Prop} {a : Act} {w : World} {n : Nat}
    {gf : Nat} {lb : Array Value} (hg : a.eval g = .func (.func gf) #[] lb) (eg : ∀ args w, (callFunc gf args).run P w = .ok (.enter gf args) w)
    {Arg : α → Array Value → Prop} {xs : List α} {RB : Nat → Prop} {w0 : World} (hiter : IterQ P gf lb Arg xs RB w0) (hb0 : Keep RB w0 w) (hRB : ∀ b, RB b → b < w.heap.size)
    (hps : ∀ x args, Arg x args → args.size = ps.size)
    (I : List α → World → Prop) (hI : AbideQ I) (hIl : ∀ s A B, I s A → (∃ r, A.heap[w.heap.size + 1]? = some (.loop r)) → Keep (fun b => b ≠ w.heap.size + 1) A B → B.heap.size = A.heap.size → I s B) (h0 : I [] w)
    (hround : ∀ (pre : List α) (x : α) (rest : List α) (args : Array Value) (W : World), xs = pre ++ x :: rest → I pre W → (∃ r, W.heap[w.heap.size + 1]? = some (.loop r)) → W.heap[w.heap.size]? = some (.deferred (some [])) → Arg x args →
      assign.wpIn (Fence.wide.inRound (w.heap.size + 1)) 0 P (Exit.then (fun a₁ W₁ => Keep (fun b => RB b ∨ b = w.heap.size ∨ b = w.heap.size + 1) W W₁ ∧ ∀ W₂, Keep (fun b => b ≠ w.heap.size + 1) W₁ W₂ → W₂.heap.size = W₁.heap.size → (∃ r, W₂.heap[w.heap.size + 1]? = some (.loop r)) →
          body.wpIn (Fence.wide.inRound (w.heap.size + 1)) 0 P (bodyPostQ (fun b => RB b ∨ b = w.heap.size ∨ b = w.heap.size + 1) I (pre ++ [x]) W₂) a₁ W₂) (fun _ _ _ => False))
        { tmps := (ps.zip args).foldl (fun t (p, v) => t.setIfInBounds p v) a.tmps, defers := [] } W)
    (hdone : ∀ (W : World), I xs W → W.heap[w.heap.size]? = some (.deferred (some [])) → w.heap.size + 1 < W.heap.size → Q .normal { a with defers := { target := .collected w.heap.size, args := #[] } :: a.defers } W) :
    (Code.rangeFunc g ps assign body).wpIn Fence.wide n P Q a w := by
  refine wpIn_rangeFunc ?_
  intro fn hfn
  obtain ⟨rec, hrec⟩ : ∃ rec : LoopState → Option Code → Loop, rec = fun st pe => { state := st, pending := pe, fn, tmps := a.tmps, params := ps, assign, body, defers := w.heap.size } := ⟨_, rfl⟩
  obtain ⟨W1, hW1⟩ : ∃ W1, (w.alloc (.deferred (some []))).alloc (.loop (rec .ready none)) = W1 := ⟨_, rfl⟩
  have hL1 : W1.heap[w.heap.size + 1]? = some (.loop (rec .ready none)) := by
    rw [← hW1]; have := World.alloc_heap_new (w.alloc (.deferred (some []))) (.loop (rec .ready none)); rwa [World.size_alloc] at this
  have hK1 : W1.heap[w.heap.size]? = some (.deferred (some [])) := by
    rw [← hW1]; exact (Below.heap_alloc _ _ _ (by simp)).trans (World.alloc_heap_new w _)
  have hsz1 : W1.heap.size = w.heap.size + 2 := by rw [← hW1]; simp
  have hbw : Below w.heap.size w W1 := by rw [← hW1]; exact ((Below.refl _ w).alloc (Nat.le_refl _) _).alloc (by simp) _
  have hkw : ∀ S, Keep S w W1 := fun S => by rw [← hW1]; exact (Keep.alloc S w _).trans (Keep.alloc S _ _)
  refine ⟨w.heap.size + 1, [{ target := .collected w.heap.size, args := #[] }], W1, { target := .fn (.func gf) lb, args := #[.func (.yield (w.heap.size + 1)) #[] #[]] }, W1, gf,
    #[.func (.yield (w.heap.size + 1)) #[] #[]] ++ lb, W1, ?_, ?_, ?_, ?_, ?_, ?_⟩
  · rw [← hW1, hrec]; exact run_enterLoop_outer _ _ _ _ _
  · simp only [resolve, hg]
    simp [go_sem]
  · intro f' _; trivial
  · simp [invoke, go_sem, eg]
  · intro h; simp [Fence.wide] at h
  · refine (callsIn_wide.2 (hiter (w.heap.size + 1) (fun pre W => I pre W ∧ W.heap[w.heap.size + 1]? = some (.loop (rec .ready none)) ∧ W.heap[w.heap.size]? = some (.deferred (some [])))
      (fun _ _ => False) W1 (hb0.trans (hkw _)) ?_ (fun _ _ _ h _ => h) ?_ ⟨hI _ _ _ h0 hbw, hL1, hK1⟩)).mono ?_
    · rintro s A B ⟨h1, h2, h3⟩ hb
      have k := Keep.of_below hb
      exact ⟨hI _ _ _ h1 hb, k.heap (Array.getElem?_eq_some_iff.1 h2).1 h2, k.heap (Array.getElem?_eq_some_iff.1 h3).1 h3⟩
    · -- a round
      rintro pre x rest args W hxs ⟨hi, hl, hD⟩ hArg
      have hlt : w.heap.size + 1 < W.heap.size := (Array.getElem?_eq_some_iff.1 hl).1
      have hy := run_yield (P := P) (args := args) hl (by rw [hrec]; exact hps x args hArg)
      rw [hrec] at hy
      have hrb : ∀ b, RB b → b ≠ w.heap.size + 1 ∧ b ≠ w.heap.size := fun b hb => by have := hRB b hb; omega
      refine ⟨fn, _, assign, body, hy, roundIn_of_wpIn hfn ?_⟩
      refine wpIn_mono (hround pre x rest args W hxs hi ⟨_, hl⟩ hD hArg) ?_
      rintro e a₁ W₁ hp
      cases e with
      | normal =>
        obtain ⟨hk1, hbody⟩ := hp
        have hl1 : W₁.heap[w.heap.size + 1]? = some (.loop (rec .ready none)) := hk1.heap (.inr (.inr rfl)) hl
        have hD1 : W₁.heap[w.heap.size]? = some (.deferred (some [])) := hk1.heap (.inr (.inl rfl)) hD
        have hlt1 : w.heap.size + 1 < W₁.heap.size := (Array.getElem?_eq_some_iff.1 hl1).1
        refine ⟨_, run_beginRound hl1 (by rw [hrec]), ?_⟩
        obtain ⟨W₂, hW2⟩ : ∃ W₂, W₁.putObj (w.heap.size + 1) (.loop { rec .ready none with state := .busy }) = W₂ := ⟨_, rfl⟩
        have hk12 : Keep (fun b => b ≠ w.heap.size + 1) W₁ W₂ := by rw [← hW2]; exact Keep.putObj _ _ _ (by simp)
        have hs12 : W₂.heap.size = W₁.heap.size := by rw [← hW2]; simp
        have hl2 : W₂.heap[w.heap.size + 1]? = some (.loop { rec .ready none with state := .busy }) := by rw [← hW2]; exact World.putObj_heap_same hlt1
        have hD2 : W₂.heap[w.heap.size]? = some (.deferred (some [])) := hk12.heap (by omega) hD1
        rw [hW2]
        refine wpIn_mono (hbody W₂ hk12 hs12 ⟨_, hl2⟩) ?_
        rintro e a3 W3 hp
        cases e with
        | normal =>
          obtain ⟨hk3, hi3⟩ := hp
          have hl3 : W3.heap[w.heap.size + 1]? = some (.loop { rec .ready none with state := .busy }) := hk3.heap (.inr (.inr rfl)) hl2
          have hD3 : W3.heap[w.heap.size]? = some (.deferred (some [])) := hk3.heap (.inr (.inl rfl)) hD2
          have he := run_endRound (P := P) none hl3
          have k34 : ∀ o, Keep (fun b => b ≠ w.heap.size + 1) W3 (W3.putObj (w.heap.size + 1) o) := fun o => Keep.putObj _ _ _ (by simp)
          have hl4 : ∀ o, (W3.putObj (w.heap.size + 1) o).heap[w.heap.size + 1]? = some o := fun o => World.putObj_heap_same (Array.getElem?_eq_some_iff.1 hl3).1
          refine ⟨_, _, he, ?_, .inl ⟨rfl, hIl _ _ _ hi3 ⟨_, hl3⟩ (k34 _) (by simp), ?_, (k34 _).heap (by omega) hD3⟩⟩
          · refine (hk1.mono ?_).trans ((hk12.mono ?_).trans ((hk3.mono ?_).trans ((k34 _).mono ?_)))
            · exact fun k _ h => .inl h
            · exact fun k _ h => (hrb k h).1
            · exact fun k _ h => .inl h
            · exact fun k _ h => (hrb k h).1
          · have := hl4 (.loop (rec .ready none))
            rw [hrec] at this ⊢
            exact this
        | exit id => exact hp.elim
        | goto id => exact hp.elim
        | ret => exact hp.elim
        | panic ch => exact hp.elim
        | outgrown => exact hp.elim
      | exit id => exact hp.elim
      | goto id => exact hp.elim
      | ret => exact hp.elim
      | panic ch => exact hp.elim
      | outgrown => exact hp.elim
    · -- behind the iterator
      rintro e W2 ⟨⟨v, rfl⟩, (⟨hi, hl, hD⟩ | ⟨_, _, _, h⟩)⟩
      · have kk : ∀ o, Keep (fun b => b ≠ w.heap.size + 1) W2 (W2.putObj (w.heap.size + 1) o) := fun o => Keep.putObj _ _ _ (by simp)
        refine ⟨none, _, by have := run_endLoop (P := P) hl (by rw [hrec]; simp); rw [hrec] at this; exact this, ?_⟩
        exact hdone _ (hIl _ _ _ hi ⟨_, hl⟩ (kk _) (by simp)) ((kk _).heap (by omega) hD) (by rw [World.putObj_size]; exact (Array.getElem?_eq_some_iff.1 hl).1)
      · exact h.elim
end Go.Proofs.YtniehbjoogaccaaGreatDoor
namespace Go.Proofs.YtniehbjoogaccaaGreatDoor
open Go
variable {F : Fence} {n : Nat} {P : Program} {ops : Array Oper} {Q : Exit → Act → World → Prop} {md : Region.Mode} {S0 : World → Prop} {nd : Nat → Bool}
def anyO (F : Fence) (n : Nat) (P : Program) (md : Region.Mode) (ops : Array Oper) (Q : Exit → Act → World → Prop) (nd : Nat → Bool) (S0 : World → Prop) : Nat → Array Bool → Act → World → Prop
  | 0, listed, a, w => Region.ready md ops listed = [] ∧ Q .normal a w
  | fuel + 1, listed, a, w => (Region.ready md ops listed = [] → Q .normal a w) ∧
    ∀ i ∈ Region.ready md ops listed, wpOpIn F n P ops Q i (fun a' w' => (nd i = true → S0 w') ∧ anyO F n P md ops Q nd S0 fuel (listed.setIfInBounds i true) a' w') a w
theorem anyH_of_anyO : ∀ (fuel : Nat) (listed : Array Bool) (a : Act) (w : World), anyO F n P md ops Q nd S0 fuel listed a w → anyH F n P md ops Q (fun _ => True) fuel listed a w
  | 0, _, _, _, h => h
  | fuel + 1, _, _, _, h => ⟨h.1, fun i hi => wpOpIn_mono (fun a' w' h' => ⟨trivial, anyH_of_anyO fuel _ a' w' h'.2⟩) (h.2 i hi)⟩
theorem anyO_first {i : Nat} {oi : Oper} {v : Value} (hi : ops[i]? = some oi) (hd : noDefer ops = true) (hsel : ∀ (j : Nat) (o : Oper) cs b, ops[j]? = some o → o.op ≠ .select cs b)
    (hQ : ∀ c a w, Q (.panic c) (a.put oi.dst v) w → Q (.panic c) a w)
    (hc : ∀ j oj, ops[j]? = some oj → j ≠ i → (∀ e ∈ oj.after, Region.binds md e = true → e.on ≠ i) → nd j = true) :
    ∀ (fuel : Nat) (listed : Array Bool) (a : Act) (w : World),
      (∀ j oj, ops[j]? = some oj → j ≠ i → listed.getD j true = false → (∀ e ∈ oj.after, Region.binds md e = true → e.on ≠ i) → oi.apart ops oj = true) →
      i ∈ Region.ready md ops listed → Yld P ops S0 oi v a → S0 w →
      anyO F n P md ops Q nd S0 fuel (listed.setIfInBounds i true) (a.put oi.dst v) w → anyO F n P md ops Q nd S0 (fuel + 1) listed a w := by
  intro fuel
  induction fuel with
  | zero =>
    intro listed a w _ hr hy hS H
    refine ⟨fun h => (by rw [h] at hr; cases hr), fun j hj => ?_⟩
    by_cases hji : j = i
    · subst hji; exact hy.op hi (noDefer_spec hd hi) hS ⟨fun _ => hS, H⟩
    · have := ready_mono hj hji
      rw [H.1] at this
      cases this
  | succ fuel ih =>
    intro listed a w hfree hr hy hS H
    refine ⟨fun h => (by rw [h] at hr; cases hr), fun j hj => ?_⟩
    by_cases hji : j = i
    · subst hji; exact hy.op hi (noDefer_spec hd hi) hS ⟨fun _ => hS, H⟩
    · have h1 := H.2 j (ready_mono hj hji)
      obtain ⟨hjun, oj, hoj, hall⟩ := mem_ready.1 hj
      have hnot : ∀ e ∈ oj.after, Region.binds md e = true → e.on ≠ i := fun e he hb heq => by
        have h1 := hall e he hb
        have h0 := (mem_ready.1 hr).1
        rw [heq] at h1
        rcases Nat.lt_or_ge i listed.size with h' | h'
        · simp [h'] at h0 h1; rw [h0] at h1; cases h1
        · simp [Array.getElem?_eq_none h'] at h1
      have h2 := hy.past hoj (noDefer_spec hd hoj) (hfree j oj hoj hji hjun hnot) (fun cs b => hsel i oi cs b hi) (fun cs b => hsel j oj cs b hoj) hQ h1
      have hfree' : ∀ k ok, ops[k]? = some ok → k ≠ i → (listed.setIfInBounds j true).getD k true = false →
          (∀ e ∈ ok.after, Region.binds md e = true → e.on ≠ i) → oi.apart ops ok = true := fun k ok hk hki hun hno => by
        refine hfree k ok hk hki ?_ hno
        by_cases hjk : j = k
        · subst hjk; exact hjun
        · rw [getD_set_ne true hjk] at hun; exact hun
      have hnd := hc j oj hoj hji hnot
      refine wpOpIn_mono (fun a' w' h3 => ⟨h3.2.1, ih (listed.setIfInBounds j true) a' w' hfree' (ready_mono hr (Ne.symm hji)) h3.1 (h3.2.1 hnd) ?_⟩) h2
      rw [Array.setIfInBounds_comm _ _ hji]
      exact h3.2.2
def asks (md : Region.Mode) (ops : Array Oper) (nd : Nat → Bool) (i : Nat) : Bool := (List.range ops.size).all fun j => j == i || nd j || match ops[j]? with
  | some oj => oj.after.any (fun e => Region.binds md e && e.on == i)
  | none => true
theorem asks_spec {i : Nat} (h : asks md ops nd i = true) (j : Nat) (oj : Oper) (hj : ops[j]? = some oj) (hne : j ≠ i) (hno : ∀ e ∈ oj.after, Region.binds md e = true → e.on ≠ i) : nd j = true := by
  simp only [asks, List.all_eq_true, List.mem_range] at h
  have h1 := h j (Array.getElem?_eq_some_iff.1 hj).1
  simp only [hj, Bool.or_eq_true, beq_iff_eq, hne, false_or] at h1
  rcases h1 with h1 | h1
  · exact h1
  · obtain ⟨e, he, hb⟩ := Array.any_eq_true'.1 h1
    simp only [Bool.and_eq_true, beq_iff_eq] at hb
    exact absurd hb.2 (hno e he hb.1)
theorem region_anyO {id : Nat} {a : Act} {w : World} (nd : Nat → Bool) (S0 : World → Prop) (hm : P.follows .mixedOrders = true)
    (h : anyO F n P .any ops (NP Q) nd S0 ops.size (Array.replicate ops.size false) a w.drew) : (Code.region id ops true).wpIn F n P Q a w :=
  region_any _ hm (anyH_of_anyO _ _ _ _ h)
theorem anyO_take (i : Nat) {oi : Oper} {v : Value} {fuel : Nat} {listed : Array Bool} {a : Act} {w : World} (hi : ops[i]? = some oi)
    (hd : noDefer ops = true) (hs : Region.noSelect ops = true) (hf : Region.free md ops listed i = true) (hr : (Region.ready md ops listed).contains i = true) (hk : asks md ops nd i = true)
    (hQ : ∀ c a w, Q (.panic c) (a.put oi.dst v) w → Q (.panic c) a w) (hy : Yld P ops S0 oi v a) (hS : S0 w)
    (h : anyO F n P md ops Q nd S0 fuel (listed.setIfInBounds i true) (a.put oi.dst v) w) : anyO F n P md ops Q nd S0 (fuel + 1) listed a w :=
  anyO_first hi hd (Region.noSelect_spec hs) hQ (asks_spec hk) fuel listed a w (Region.free_spec hi hf) (by simpa using hr) hy hS h
theorem anyO_one (i : Nat) {fuel : Nat} {listed : Array Bool} {a : Act} {w : World} {o : Oper} (hr : Region.ready md ops listed = [i]) (ho : ops[i]? = some o)
    (h : ∀ K : Act → World → Prop, (∀ a' w', (nd i = true → S0 w') → anyO F n P md ops Q nd S0 fuel (listed.setIfInBounds i true) a' w' → K a' w') →
      if Region.wanted o (yielded ops a.tmps) = true then Oper.wpIn F n P o a w K Q else (∀ f, o.about P w a.eval = some f → F.fn f) ∧ K (a.put o.dst undef) w) : anyO F n P md ops Q nd S0 (fuel + 1) listed a w := by
  refine ⟨fun h0 => (by rw [hr] at h0; cases h0), fun j hj => ?_⟩
  rw [hr] at hj
  obtain rfl : j = i := by simpa using hj
  exact wpOpIn_step ho fun K' hK' => h K' fun a' w' hs ha => hK' a' w' ⟨hs, ha⟩
theorem anyO_done {listed : Array Bool} {a : Act} {w : World} (hr : Region.ready md ops listed = []) (h : Q .normal a w) : ∀ fuel, anyO F n P md ops (NP Q) nd S0 fuel listed a w
  | 0 => ⟨hr, h⟩
  | _ + 1 => ⟨fun _ => h, by rw [hr]; simp⟩
end Go.Proofs.YtniehbjoogaccaaGreatDoor
namespace Go.Proofs.YtniehbjoogaccaaGreatDoor.Ap
open Go Go.RowKit
theorem wpIn_append_own {F : Fence} {nF : Nat} {P : Program} {o : Oper} {a : Act} {w : World} {K : Act → World → Prop} {Q : Exit → Act → World → Prop} (s x : Operand) (t : TypeId)
    (ho : o.op = .call { callee := .builtin .append, args := #[s, x], argTypes := #[t, t] })
    (base : Nat) (e : TypeId) (i : TypeInfo) (z : Value) (size bytes : Nat) (ht : P.underlying t = some (.slice e)) (hi : P.info? e = some i) (hz : i.zero = some z)
    (hsize : i.size = size) (hby : i.bytes = bytes) (hzs : z.cells.size = size) (hsz : 0 < size)
    (v : Value) (n : Nat) (xs : List Value) (hs : a.eval s = v) (hown : w.ownsRow base e size v n xs)
    (ad : Addr) (m c : Nat) (news : List Value) (hx : a.eval x = .slice (some ad) m c) (hl : news.length = m * size) (hnews : ∀ j u, news[j]? = some u → w.cell? (ad.add j) = some u) (h1 : ∀ u ∈ news, u.oneCell' = true)
    (h63 : n + m ≤ maxLen) (hbytes : (n + m) * bytes ≤ 140737488355328) (hbase : base ≤ w.heap.size)
    (h : ∀ v' w', w'.ownsRow base e size v' (n + m) (xs ++ news) → w.grownBy w' v.ownBlock → (v'.ownBlock = v.ownBlock ∨ v'.ownBlock = some w.heap.size) → K (a.put o.dst v') w') : Oper.wpIn F nF P o a w K Q := by
  obtain ⟨v', w', hr, h2, h3, _, h5⟩ := run_append_own_at (P := P) w base t o.type e i z size bytes ht hi hz hsize hby hzs hsz v n xs hown ad m c news hl hnews h1 h63 hbytes hbase
  unfold Oper.wpIn
  refine ⟨by simp [Oper.about, ho, resolve, Target.leads, Sem.run_pure], ?_⟩
  rw [Oper.semAt_plain F _ _ (by rw [ho]; intro c hc'; cases hc')]
  simp [execOp, ho, resolve, invoke, builtin, hs, hx, hr, Result.andThen]
  exact h v' w' h2 h3 h5
end Go.Proofs.YtniehbjoogaccaaGreatDoor.Ap
namespace Go.Proofs.YtniehbjoogaccaaGreatDoor.Host
theorem num_go (most : Int) : ∀ (p : List UInt8) (n m : Int), Ref.numGo most p n = some m → p.all Ref.decB = true ∧ (n ≤ most → m ≤ most) ∧ (1 ≤ n → n + 9 * (p.length : Int) ≤ m)
  | [], n, m, h => by
    have h' : some n = some m := h
    cases h'
    exact ⟨rfl, id, fun _ => by simp⟩
  | b :: r, n, m, h => by
    unfold Ref.numGo at h
    split at h
    · rename_i hc
      obtain ⟨h1, h2, h3⟩ := num_go most r _ m h
      have hb := (Ref.decB_of b).1 hc.1
      refine ⟨by rw [List.all_cons, hc.1, h1]; rfl, fun _ => h2 (by omega), fun hn => ?_⟩
      have := h3 (by omega)
      rw [List.length_cons]; omega
    · cases h
theorem num_len (p : List UInt8) (h : (Ref.numOf 255 p).isSome = true) : p ≠ [] ∧ p.length ≤ 63 ∧ p.all Ref.decB = true := by
  obtain ⟨m, hm⟩ := Option.isSome_iff_exists.1 h
  unfold Ref.numOf at hm
  split at hm
  · cases hm
  · rename_i hno
    cases p with
    | nil => exact absurd (.inl rfl) hno
    | cons b r =>
      have ha := (num_go 255 _ _ _ hm).1
      refine ⟨by simp, ?_, ha⟩
      by_cases hr : r = []
      · subst hr; simp
      · have h48 : b.toNat ≠ 48 := fun h48 => hno (.inr ⟨by
          have : r.length ≠ 0 := fun h0 => hr (List.eq_nil_of_length_eq_zero h0)
          rw [List.length_cons]; omega, h48⟩)
        unfold Ref.numGo at hm
        split at hm
        · rename_i hc
          have hb := (Ref.decB_of b).1 hc.1
          obtain ⟨_, h2, h3⟩ := num_go 255 r _ m hm
          have h2' := h2 (by omega)
          have h3' := h3 (by omega)
          rw [List.length_cons]; omega
        · cases hm
theorem num_part (p : List UInt8) (h : (Ref.numOf 255 p).isSome = true) : partB p = true := by
  obtain ⟨h1, h2, h3⟩ := num_len p h
  have hl : 0 < p.length := List.length_pos_iff.2 h1
  have hd : ∀ k, k < p.length → Ref.decB (p.getD k 0) = true := fun k hk => by
    rw [List.getD, List.getElem?_eq_getElem hk]
    exact List.all_eq_true.1 h3 _ (List.getElem_mem _)
  have hne : ∀ b : UInt8, Ref.decB b = true → (b != 45) = true := fun b hb => by
    rw [bne_iff_ne]; rintro rfl; revert hb; decide
  unfold partB
  rw [hne _ (hd 0 hl), hne _ (hd _ (by omega)), decide_eq_true h2]
  have he : p.isEmpty = false := by cases p with | nil => exact absurd rfl h1 | cons => rfl
  rw [he]
  have ha : p.all hostByte = true := by
    rw [List.all_eq_true]; intro b hb
    unfold hostByte
    rw [List.all_eq_true.1 h3 b hb]; simp
  rw [ha]; rfl
theorem addr_host (l : List (List UInt8)) (h : addrB l = true) : hostB l = true := by
  have h' := h
  unfold addrB at h'
  rw [Bool.and_eq_true, decide_eq_true_iff, List.all_eq_true] at h'
  unfold hostB
  rw [h, decide_eq_true (by omega), List.all_eq_true.2 (fun p hp => num_part p (h'.2 p hp))]
  simp
theorem address_of (l : List UInt8) (h : ¬ 253 < l.length) : addressB l = addrB (Ref.splitL 46 l) := by
  unfold addressB
  cases ha : addrB (Ref.splitL 46 l) with
  | false => simp
  | true =>
    have hp : parseE l = 0 := by unfold parseE; rw [if_neg h, if_pos (addr_host _ ha)]
    rw [hp]; rfl
theorem address_big (l : List UInt8) (h : 253 < l.length) : addressB l = false := by
  have hp : parseE l = 3 := by unfold parseE; rw [if_pos h]
  unfold addressB; rw [hp]; rfl
end Go.Proofs.YtniehbjoogaccaaGreatDoor.Host
namespace Go.Proofs.YtniehbjoogaccaaGreatDoor
open Go.RowKit
def inB (b : UInt8) (l : List UInt8) : Bool := l.contains b
end Go.Proofs.YtniehbjoogaccaaGreatDoor
namespace Go.Proofs.YtniehbjoogaccaaGreatDoor.Frm
set_option linter.unusedVariables false
theorem cmp_lt {α : Type} [LT α] [DecidableEq α] [DecidableLT α] [LE α] [Std.IsLinearOrder α] [Std.LawfulOrderLT α] : ∀ xs ys : List α, cmpL xs ys = -1 ↔ xs < ys
  | [], [] => by simp [cmpL]
  | [], _ :: _ => by simp [cmpL]
  | _ :: _, [] => by simp [cmpL]
  | x :: xs, y :: ys => by
    unfold cmpL
    rw [List.cons_lt_cons_iff]
    by_cases h : x < y
    · rw [if_pos h]; simp [h]
    · by_cases k : y < x
      · rw [if_neg h, if_pos k]
        simp only [h, false_or]
        exact ⟨fun e => absurd e (by decide), fun e => absurd e.1 (fun e => lin_ne k e.symm)⟩
      · rw [if_neg h, if_neg k, cmp_lt xs ys]
        have e := lin_eq h k
        subst e
        exact ⟨fun hh => .inr ⟨rfl, hh⟩, fun hh => hh.elim (fun a => absurd a h) fun a => a.2⟩
def insR {α : Type} [LT α] [DecidableLT α] (x : α) : List α → List α
  | [] => [x]
  | y :: r => if x < y then x :: y :: r else if y < x then y :: insR x r else y :: r
def sortR {α : Type} [LT α] [DecidableLT α] (l : List α) : List α := l.foldr insR []
theorem mem_ins {α : Type} [LT α] [DecidableEq α] [DecidableLT α] [LE α] [Std.IsLinearOrder α] [Std.LawfulOrderLT α] (x a : α) : ∀ l : List α, a ∈ insR x l ↔ a = x ∨ a ∈ l
  | [] => by simp [insR]
  | y :: r => by
    have ih := mem_ins x a r
    unfold insR
    split
    · simp
    · split
      · rw [List.mem_cons, ih, List.mem_cons]
        constructor
        · rintro (h | h | h)
          · exact .inr (.inl h)
          · exact .inl h
          · exact .inr (.inr h)
        · rintro (h | h | h)
          · exact .inr (.inl h)
          · exact .inl h
          · exact .inr (.inr h)
      · rename_i h1 h2
        rw [lin_eq h1 h2, List.mem_cons]
        exact ⟨fun h => .inr h, fun h => h.elim (fun e => .inl e) id⟩
theorem ins_rises {α : Type} [LT α] [DecidableEq α] [DecidableLT α] [LE α] [Std.IsLinearOrder α] [Std.LawfulOrderLT α] (x : α) : ∀ l : List α, Rises l → Rises (insR x l)
  | [], _ => Rises.cons (fun y hy => by cases hy) Rises.nil
  | y :: r, h => by
    unfold insR
    split
    · rename_i hx
      refine Rises.cons (fun z hz => ?_) h
      rcases List.mem_cons.1 hz with rfl | hz
      · exact hx
      · exact Lin.tr hx (h.head z hz)
    · split
      · rename_i hx
        refine Rises.cons (fun z hz => ?_) (ins_rises x r h.tail)
        rcases (mem_ins x z r).1 hz with rfl | hz
        · exact hx
        · exact h.head z hz
      · exact h
theorem mem_sort {α : Type} [LT α] [DecidableEq α] [DecidableLT α] [LE α] [Std.IsLinearOrder α] [Std.LawfulOrderLT α] (a : α) : ∀ l : List α, a ∈ sortR l ↔ a ∈ l
  | [] => Iff.rfl
  | x :: r => by
    show a ∈ insR x (sortR r) ↔ _
    rw [mem_ins, mem_sort a r, List.mem_cons]
theorem sort_rises {α : Type} [LT α] [DecidableEq α] [DecidableLT α] [LE α] [Std.IsLinearOrder α] [Std.LawfulOrderLT α] : ∀ l : List α, Rises (sortR l)
  | [] => Rises.nil
  | x :: r => ins_rises x _ (sort_rises r)
end Go.Proofs.YtniehbjoogaccaaGreatDoor.Frm
namespace Go.Proofs.YtniehbjoogaccaaGreatDoor.Pct
open Go.RowKit Go.Shelf
theorem indexByte_nonneg (l : List UInt8) (b : UInt8) : (0 ≤ Lib.indexByte l b) ↔ b ∈ l := by
  induction l with
  | nil => simp [Lib.indexByte]
  | cons x r ih =>
    unfold Lib.indexByte
    by_cases h : x = b
    · subst h; simp
    · rw [if_neg (by simpa using h), List.mem_cons, ← ih]
      have hge := Lib.indexByte_ge r b
      have hb : b ≠ x := Ne.symm h
      simp only [hb, false_or, beq_iff_eq]
      split <;> omega
theorem index_in (l : List UInt8) (b : UInt8) : decide (0 ≤ Lib.indexByte l b) = inB b l := by
  unfold inB
  rw [Bool.eq_iff_iff, decide_eq_true_iff, indexByte_nonneg]
  simp
theorem Index_any (b : UInt8) (l : List UInt8) (w : World) :
    Calls Tryz.prog 145 #[.string ⟨l.toArray⟩, .int .u8 (b.toNat : Int)] w fun e w' => ∃ ix : Int, e = .returned (.int .i64 ix) ∧ Hid (decide (0 ≤ ix) = inB b l) ∧ w = w' := by
  refine (Tryz.strings_IndexByte ⟨l.toArray⟩ (b.toNat : Int) w).mono ?_
  rintro e w' ⟨rfl, rfl⟩
  exact ⟨_, rfl, Lib.hid (by rw [← index_in l b]; simp), rfl⟩
set_option maxHeartbeats 2000000 in
theorem isFree_any (b : UInt8) (w : World) :
    Calls Tryz.prog 139 #[.int .u8 (b.toNat : Int)] w fun e w' => e = .returned (.bool (freeB b)) ∧ w = w' := by
  have c1 := isLetter_any b
  have c2 := isDecimal_any b
  have c3 := Index_any b freeM
  obtain ⟨x1, H1⟩ : ∃ x, Hid (letB b = x) := ⟨_, rfl⟩
  obtain ⟨x2, H2⟩ : ∃ x, Hid (decB b = x) := ⟨_, rfl⟩
  obtain ⟨x3, H3⟩ : ∃ x, Hid (inB b freeM = x) := ⟨_, rfl⟩
  have H := Lib.hid (show freeB b = (x1 || x2 || x3) by unfold freeB; rw [H1.out, H2.out, H3.out])
  rw [H1.out] at c1
  rw [H2.out] at c2
  rw [H3.out] at c3
  clear H1 H2 H3
  cases x1 <;> cases x2
  · go_enter Tryz.func139, Tryz.ntmps139
    go_wp2_with (first | (go_at_call 178; refine (c1 _).mono ?_; rintro e w' ⟨rfl, rfl⟩) | (go_at_call 179; refine (c2 _).mono ?_; rintro e w' ⟨rfl, rfl⟩) | (go_at_call 145; refine (c3 _).mono ?_; rintro e w' ⟨ix, rfl, HI, rfl⟩))
    go_ret
    exact ⟨(by rw [H.out, ← HI.out]; try rfl), rfl⟩
  all_goals
    go_enter Tryz.func139, Tryz.ntmps139
    go_wp2_with (first | (go_at_call 178; refine (c1 _).mono ?_; rintro e w' ⟨rfl, rfl⟩) | (go_at_call 179; refine (c2 _).mono ?_; rintro e w' ⟨rfl, rfl⟩))
    go_ret
    exact ⟨(by rw [H.out]; try rfl), rfl⟩
theorem marksOf_any (p : Int) (w : World) :
    Calls Tryz.prog 180 #[.int .i64 p] w fun e w' => e = .returned (.string ⟨(marksM p).toArray⟩) ∧ w = w' := by
  by_cases h1 : p = 1
  · subst h1
    go_enter Tryz.func180, Tryz.ntmps180
    go_wp2
    go_ret
    exact ⟨rfl, rfl⟩
  · have d1 : (p == 1) = false := by simpa using h1
    by_cases h2 : p = 2
    · subst h2
      clear h1 d1
      go_enter Tryz.func180, Tryz.ntmps180
      go_wp2
      go_ret
      exact ⟨rfl, rfl⟩
    · have d2 : (p == 2) = false := by simpa using h2
      have H := Lib.hid (show marksM p = [] by unfold marksM; rw [if_neg h1, if_neg h2])
      clear h1 h2
      go_enter Tryz.func180, Tryz.ntmps180
      go_wp2
      go_ret
      exact ⟨(by rw [H.out]; try rfl), rfl⟩
set_option maxHeartbeats 2000000 in
theorem stands_any (b : UInt8) (p : Int) (w : World) :
    Calls Tryz.prog 140 #[.int .u8 (b.toNat : Int), .int .i64 p] w fun e w' => e = .returned (.bool (standsB p b)) ∧ w = w' := by
  have c1 := isFree_any b
  have c2 := marksOf_any p
  have c3 := Index_any b (marksM p)
  obtain ⟨x1, H1⟩ : ∃ x, Hid (freeB b = x) := ⟨_, rfl⟩
  obtain ⟨x3, H3⟩ : ∃ x, Hid (inB b (marksM p) = x) := ⟨_, rfl⟩
  have H := Lib.hid (show standsB p b = (x1 || x3) by unfold standsB; rw [H1.out, H3.out])
  rw [H1.out] at c1
  rw [H3.out] at c3
  clear H1 H3
  generalize marksM p = mk at *
  cases x1
  · go_enter Tryz.func140, Tryz.ntmps140
    go_wp2_with (first | (go_at_call 139; refine (c1 _).mono ?_; rintro e w' ⟨rfl, rfl⟩) | (go_at_call 180; refine (c2 _).mono ?_; rintro e w' ⟨rfl, rfl⟩) | (go_at_call 145; refine (c3 _).mono ?_; rintro e w' ⟨ix, rfl, HI, rfl⟩))
    go_ret
    exact ⟨(by rw [H.out, ← HI.out]; try rfl), rfl⟩
  · go_enter Tryz.func140, Tryz.ntmps140
    go_wp2_with (first | (go_at_call 139; refine (c1 _).mono ?_; rintro e w' ⟨rfl, rfl⟩))
    go_ret
    exact ⟨(by rw [H.out]; try rfl), rfl⟩
theorem numsL_getD (l : List UInt8) (i : Nat) (h : i < l.length) : (Lib.numsL l).getD i 0 = ((l.getD i 0).toNat : Int) := by
  simp [Lib.numsL, List.getD, List.getElem?_eq_getElem h]
theorem drop_cons (l : List UInt8) (k : Nat) (h : k < l.length) : l.drop k = l.getD k 0 :: l.drop (k + 1) := by
  rw [List.drop_eq_getElem_cons h]; simp [List.getD, List.getElem?_eq_getElem h]
set_option maxHeartbeats 2000000 in
theorem digitsAt_any (q : Option Addr) (n c i : Nat) (bs : List UInt8) (w : World) (hx : bs.length = n) (hn : n ≤ 140737488355328) (hb : Lib.BytesIn w q n (Lib.numsL bs)) (hi : i ≤ n) :
    Calls Tryz.prog 175 #[.slice q n c, .int .i64 (i : Int)] w fun e w' => e = .returned (.bool (dig2 (bs.drop i))) ∧ w = w' := by
  by_cases h2 : i + 2 ≤ n
  · have hd1 := drop_cons bs i (by omega)
    have hd2 := drop_cons bs (i + 1) (by omega)
    obtain ⟨b, o, rfl, hc⟩ := hb.at (by omega)
    have c1 : w.cell? ⟨b, o + i, none⟩ = some (.int .u8 ((bs.getD i 0).toNat : Int)) := by
      rw [← numsL_getD bs i (by omega)]; exact hc i (by omega)
    have c2 : w.cell? ⟨b, o + (i + 1), none⟩ = some (.int .u8 ((bs.getD (i + 1) 0).toNat : Int)) := by
      rw [← numsL_getD bs (i + 1) (by omega)]; exact hc (i + 1) (by omega)
    generalize bs.getD i 0 = x at *
    generalize bs.getD (i + 1) 0 = y at *
    have k1 := isHexadecimal_any x
    have k2 := isHexadecimal_any y
    obtain ⟨x1, H1⟩ : ∃ z, Hid (hexB x = z) := ⟨_, rfl⟩
    obtain ⟨x2, H2⟩ : ∃ z, Hid (hexB y = z) := ⟨_, rfl⟩
    have H := Lib.hid (show dig2 (bs.drop i) = (x1 && x2) by rw [hd1, hd2]; show (hexB x && hexB y) = _; rw [H1.out, H2.out])
    rw [H1.out] at k1
    rw [H2.out] at k2
    have d2 : decide ((2 : Int) ≤ (n : Int) - (i : Int)) = true := by simp; omega
    clear H1 H2 hd1 hd2 hc hb hx
    cases x1
    · go_enter Tryz.func175, Tryz.ntmps175
      go_wp2_with (go_at_call 201; refine (k1 _).mono ?_; rintro e w' ⟨rfl, rfl⟩)
      go_ret
      exact ⟨(by rw [H.out]; try rfl), rfl⟩
    · go_enter Tryz.func175, Tryz.ntmps175
      go_wp2_with fail
      refine (k1 _).mono ?_
      rintro e w' ⟨rfl, rfl⟩
      go_wp2_with fail
      refine (k2 _).mono ?_
      rintro e w' ⟨rfl, rfl⟩
      go_wp2
      go_ret
      exact ⟨(by rw [H.out]; try rfl), rfl⟩
  · have d2 : decide ((2 : Int) ≤ (n : Int) - (i : Int)) = false := by simp; omega
    have H := Lib.hid (show dig2 (bs.drop i) = false by
      have hl : (bs.drop i).length < 2 := by rw [List.length_drop]; omega
      generalize bs.drop i = r at hl
      match r, hl with
      | [], _ => rfl
      | [_], _ => rfl)
    clear hb hx
    go_enter Tryz.func175, Tryz.ntmps175
    go_wp2
    go_ret
    exact ⟨(by rw [H.out]; try rfl), rfl⟩
set_option maxHeartbeats 2000000 in
theorem whole_any (q : Option Addr) (n c : Nat) (bs : List UInt8) (w : World) (hx : bs.length = n) (hn : n ≤ 140737488355328) (hb : Lib.BytesIn w q n (Lib.numsL bs)) :
    Calls Tryz.prog 136 #[.slice q n c] w fun e w' => e = .returned (.bool (wholeL bs)) ∧ w = w' := by
  have HX := Lib.hid hx
  clear hx
  go_enter Tryz.func136, Tryz.ntmps136
  go_wp2
  go_loop [7] (fun i => ∃ k : Nat, k ≤ n ∧ i = .int .i64 k ∧ Hid (wholeL bs = wholeL (bs.drop k))) (fun i => n - (intOf i).toNat)
  case atStart => exact ⟨0, Nat.zero_le _, rfl, rfl⟩
  case round =>
    obtain ⟨k, hk, rfl, HR⟩ := hrel
    by_cases hlt : k < n
    · have con := digitsAt_any q n c (k + 1) bs w HX.out hn hb (by omega)
      obtain ⟨b, o, rfl, hc⟩ := hb.at (by omega)
      have hck : w.cell? ⟨b, o + k, none⟩ = some (.int .u8 ((bs.getD k 0).toNat : Int)) := by
        rw [← numsL_getD bs k (by rw [HX.out]; exact hlt)]; exact hc k hlt
      have hd : wholeL bs = ((bs.getD k 0 != 37 || dig2 (bs.drop (k + 1))) && wholeL (bs.drop (k + 1))) := by
        rw [HR.out, drop_cons bs k (by rw [HX.out]; exact hlt), whole_cons]
      generalize bs.getD k 0 = bk at *
      obtain ⟨z, HZ⟩ : ∃ z, Hid (dig2 (bs.drop (k + 1)) = z) := ⟨_, rfl⟩
      rw [HZ.out] at con hd
      have hkc : (((k + 1 : Nat) : Int)) = (k : Int) + 1 := by omega
      rw [hkc] at con
      clear hc HR hb hkc
      by_cases he : bk = 37
      · have e1 : ((bk.toNat : Int) == 37) = true := by rw [he]; rfl
        cases z
        · have H := Lib.hid (show wholeL bs = false by rw [hd, he]; rfl)
          clear hd he HZ
          go_wp2_with (go_at_call 175; refine con.mono ?_; rintro e w' ⟨rfl, rfl⟩)
          go_ret
          exact ⟨(by rw [H.out]; try rfl), rfl⟩
        · have H := Lib.hid (show wholeL bs = wholeL (bs.drop (k + 1)) by rw [hd, he]; rfl)
          clear hd he HZ
          go_wp2_with (go_at_call 175; refine con.mono ?_; rintro e w' ⟨rfl, rfl⟩)
          go_round
          case rel => exact ⟨k + 1, by omega, by go_num, H⟩
          case measure => simp [intOf]; omega
      · have e1 : ((bk.toNat : Int) == 37) = false := by
          rw [beq_eq_false_iff_ne]; intro h; exact he (UInt8.toNat_inj.1 (by have : (37 : UInt8).toNat = 37 := rfl; omega))
        have H := Lib.hid (show wholeL bs = wholeL (bs.drop (k + 1)) by rw [hd, show (bk != 37) = true from by simpa using he]; rfl)
        clear hd he HZ con
        go_wp2
        go_round
        case rel => exact ⟨k + 1, by omega, by go_num, H⟩
        case measure => simp [intOf]; omega
    · have H := Lib.hid (show wholeL bs = true by rw [HR.out, List.drop_of_length_le (by rw [HX.out]; omega)]; rfl)
      clear HR hb
      go_wp2
      go_ret
      exact ⟨(by rw [H.out]; try rfl), rfl⟩
end Go.Proofs.YtniehbjoogaccaaGreatDoor.Pct
namespace Go.Proofs.YtniehbjoogaccaaGreatDoor
open Go.RowKit
def marksL : List UInt8 := [33, 35, 36, 37, 38, 39, 42, 43, 45, 46, 94, 95, 96, 124, 126]
def letB (b : UInt8) : Bool := decide (97 ≤ (low b).toNat ∧ (low b).toNat ≤ 122)
def tokB (b : UInt8) : Bool := letB b || digitB b || inB b marksL
def tokL (l : List UInt8) : Bool := !l.isEmpty && l.all tokB
theorem indexByte_nonneg (l : List UInt8) (b : UInt8) : (0 ≤ Lib.indexByte l b) ↔ b ∈ l := by
  induction l with
  | nil => simp [Lib.indexByte]
  | cons x r ih =>
    unfold Lib.indexByte
    by_cases h : x = b
    · subst h; simp
    · rw [if_neg (by simpa using h), List.mem_cons, ← ih]
      have hge := Lib.indexByte_ge r b
      have hb : b ≠ x := Ne.symm h
      simp only [hb, false_or, beq_iff_eq]
      split <;> omega
theorem ltok (b : UInt8) (h : letB b = true) : tokB b = true := by simp [tokB, h]
theorem dtok (b : UInt8) (h : digitB b = true) : tokB b = true := by simp [tokB, h]
theorem mtok (b : UInt8) (h : letB b = false) (h' : digitB b = false) : tokB b = inB b marksL := by simp [tokB, h, h']
set_option maxHeartbeats 1000000 in
theorem isTokenByte_any (b : UInt8) (w : World) :
    Calls Tryz.prog 144 #[.int .u8 (b.toNat : Int)] w fun e w' => e = .returned (.bool (tokB b)) ∧ w = w' := by
  have hl := lowerByte_any b w
  have hlt := u8_lt (low b)
  have key : ∀ (d : Bool), digitB b = d → (letB b = true → tokB b = true) := fun _ _ h => ltok b h
  have hm : (letB b = false → digitB b = false → tokB b = inB b marksL) := mtok b
  have hidx : decide (0 ≤ Lib.indexByte marksL b) = inB b marksL := by
    unfold inB
    rw [Bool.eq_iff_iff, decide_eq_true_iff, indexByte_nonneg]
    simp
  have hsi := Tryz.strings_IndexByte ⟨#[33, 35, 36, 37, 38, 39, 42, 43, 45, 46, 94, 95, 96, 124, 126]⟩ (b.toNat : Int) w
  rw [show (b.toNat : Int).toNat.toUInt8 = b from by simp] at hsi
  have hsi2 : Calls Tryz.prog 145 #[.string ⟨#[33, 35, 36, 37, 38, 39, 42, 43, 45, 46, 94, 95, 96, 124, 126]⟩, .int .u8 (b.toNat : Int)] w fun e w' => e = .returned (.int .i64 (Lib.indexByte marksL b)) ∧ w' = w := hsi
  clear hsi
  by_cases hL : letB b = true
  · have HL := Lib.hid (ltok b hL)
    have hL' : 97 ≤ (low b).toNat ∧ (low b).toNat ≤ 122 := by simpa [letB] using hL
    clear hm hidx hsi2 hL key
    generalize low b = sm at *
    have d1 : decide ((97 : Int) ≤ (sm.toNat : Int)) = true := by simp; omega
    have d2 : decide ((sm.toNat : Int) ≤ (122 : Int)) = true := by simp; omega
    go_enter Tryz.func144, Tryz.ntmps144
    go_wp2_with (go_at_call 133; refine hl.mono ?_; rintro e w' ⟨rfl, rfl⟩)
    go_ret
    exact ⟨(by rw [HL.out]; try rfl), rfl⟩
  · have hLf : letB b = false := by simpa using hL
    have hL' : ¬ (97 ≤ (low b).toNat ∧ (low b).toNat ≤ 122) := by simpa [letB] using hL
    have HM := Lib.hid (hm hLf)
    clear hm hL hLf key
    by_cases hD : digitB b = true
    · have HL := Lib.hid (dtok b hD)
      clear hidx hsi2 HM
      have hd := isDigit_any b
      rw [hD] at hd
      clear hD
      generalize low b = sm at *
      by_cases h1 : 97 ≤ sm.toNat
      · have d1 : decide ((97 : Int) ≤ (sm.toNat : Int)) = true := by simp; omega
        have d2 : decide ((sm.toNat : Int) ≤ (122 : Int)) = false := by simp; omega
        clear hL' h1
        go_enter Tryz.func144, Tryz.ntmps144
        go_wp2_with (first | (go_at_call 133; refine hl.mono ?_; rintro e w' ⟨rfl, rfl⟩) | (go_at_call 134; refine (hd _).mono ?_; rintro e w' ⟨rfl, rfl⟩))
        go_ret
        exact ⟨(by rw [HL.out]; try rfl), rfl⟩
      · have d1 : decide ((97 : Int) ≤ (sm.toNat : Int)) = false := by simp; omega
        clear hL' h1
        go_enter Tryz.func144, Tryz.ntmps144
        go_wp2_with (first | (go_at_call 133; refine hl.mono ?_; rintro e w' ⟨rfl, rfl⟩) | (go_at_call 134; refine (hd _).mono ?_; rintro e w' ⟨rfl, rfl⟩))
        go_ret
        exact ⟨(by rw [HL.out]; try rfl), rfl⟩
    · have hDf : digitB b = false := by simpa using hD
      have HL := Lib.hid ((HM.out hDf).trans hidx.symm)
      have hd := isDigit_any b
      rw [hDf] at hd
      clear hD hDf HM hidx
      generalize low b = sm at *
      generalize Lib.indexByte marksL b = ix at *
      by_cases h1 : 97 ≤ sm.toNat
      · have d1 : decide ((97 : Int) ≤ (sm.toNat : Int)) = true := by simp; omega
        have d2 : decide ((sm.toNat : Int) ≤ (122 : Int)) = false := by simp; omega
        clear hL' h1
        go_enter Tryz.func144, Tryz.ntmps144
        go_wp2_with (first | (go_at_call 133; refine hl.mono ?_; rintro e w' ⟨rfl, rfl⟩) | (go_at_call 134; refine (hd _).mono ?_; rintro e w' ⟨rfl, rfl⟩) | (go_at_call 145; refine hsi2.mono ?_; rintro e w' ⟨rfl, hw⟩; subst hw))
        go_ret
        exact ⟨(by rw [HL.out]; try rfl), rfl⟩
      · have d1 : decide ((97 : Int) ≤ (sm.toNat : Int)) = false := by simp; omega
        clear hL' h1
        go_enter Tryz.func144, Tryz.ntmps144
        go_wp2_with (first | (go_at_call 133; refine hl.mono ?_; rintro e w' ⟨rfl, rfl⟩) | (go_at_call 134; refine (hd _).mono ?_; rintro e w' ⟨rfl, rfl⟩) | (go_at_call 145; refine hsi2.mono ?_; rintro e w' ⟨rfl, hw⟩; subst hw))
        go_ret
        exact ⟨(by rw [HL.out]; try rfl), rfl⟩
theorem all_drop (l : List UInt8) (k : Nat) (h : k < l.length) : (l.drop k).all tokB = (tokB (l.getD k 0) && (l.drop (k + 1)).all tokB) := by
  rw [drop_cons l k h, List.all_cons]
set_option maxHeartbeats 1000000 in
theorem Token_any (p : Option Addr) (n c : Nat) (bs : List UInt8) (w : World) (hx : bs.length = n) (hn : n ≤ 140737488355328) (hb : Lib.BytesIn w p n (Lib.numsL bs)) :
    Calls Tryz.prog 101 #[.slice p n c] w fun e w' => e = .returned (.bool (tokL bs)) ∧ w = w' := by
  go_enter Tryz.func101, Tryz.ntmps101
  go_wp2
  go_loop [7] (fun i => ∃ k : Nat, k ≤ n ∧ i = .int .i64 k ∧ Hid (bs.all tokB = (bs.drop k).all tokB)) (fun i => n - (intOf i).toNat)
  case atStart => exact ⟨0, Nat.zero_le _, rfl, rfl⟩
  case round =>
    obtain ⟨k, hk, rfl, HR⟩ := hrel
    by_cases hlt : k < n
    · obtain ⟨b, o, rfl, hc⟩ := hb.at (by omega)
      have hck : w.cell? ⟨b, o + k, none⟩ = some (.int .u8 ((bs.getD k 0).toNat : Int)) := by
        rw [← numsL_getD bs k (by omega)]
        exact hc k hlt
      have hd := HR.out.trans (all_drop bs k (by omega))
      have hne : bs.isEmpty = false := by cases bs with | nil => simp at hx; omega | cons a r => rfl
      clear hc HR hb
      generalize bs.getD k 0 = bk at *
      by_cases ht : tokB bk = true
      · have H := Lib.hid (show bs.all tokB = (bs.drop (k + 1)).all tokB by rw [hd, ht]; rfl)
        have htk := isTokenByte_any bk
        rw [ht] at htk
        clear hd hne ht
        go_wp2_with (go_at_call 144; refine (htk _).mono ?_; rintro e w' ⟨rfl, rfl⟩)
        go_round
        case rel => exact ⟨k + 1, by omega, by go_num, H⟩
        case measure => simp [intOf]; omega
      · have ht' : tokB bk = false := by simpa using ht
        have H := Lib.hid (show tokL bs = false by unfold tokL; rw [hd, ht']; simp)
        have htk := isTokenByte_any bk
        rw [ht'] at htk
        clear hd hne ht ht'
        go_wp2_with (go_at_call 144; refine (htk _).mono ?_; rintro e w' ⟨rfl, rfl⟩)
        go_ret
        exact ⟨(by rw [H.out]; try rfl), rfl⟩
    · have H := Lib.hid (show tokL bs = decide (0 < n) by
        unfold tokL
        rw [HR.out, List.drop_of_length_le (by omega)]
        cases bs with
        | nil => simp at hx; subst hx; rfl
        | cons a r => simp at hx; simp; omega)
      clear HR
      go_wp2
      go_ret
      exact ⟨(by rw [H.out]; try rfl), rfl⟩
end Go.Proofs.YtniehbjoogaccaaGreatDoor
namespace Go.Proofs.YtniehbjoogaccaaGreatDoor.Url
def formL (p : Int) (l : List UInt8) : Option (List UInt8) := (Pct.itemsL l).map (Pct.canL p)
theorem form_twice (p : Int) (l c : List UInt8) (h : formL p l = some c) : formL p c = some c := by
  unfold formL at h ⊢
  obtain ⟨m, hm, rfl⟩ := Option.map_eq_some_iff.1 h
  rw [Pct.can_items, Option.map_some, Pct.can_twice]
theorem form_len (p : Int) (l c : List UInt8) (h : formL p l = some c) : c.length ≤ 3 * l.length := by
  unfold formL at h
  obtain ⟨m, hm, rfl⟩ := Option.map_eq_some_iff.1 h
  have h1 := Pct.can_len p m
  have h2 := Pct.items_len l m hm
  omega
theorem items_mem : ∀ (l : List UInt8) (m : List (UInt8 × Bool)), Pct.itemsL l = some m → ∀ x ∈ m, x.2 = false → x.1 ∈ l
  | [], m, h, x, hx, _ => by rw [Pct.items_nil] at h; cases h; cases hx
  | b :: r, m, h, x, hx, h2 => by
    by_cases hb : b = 37
    · subst hb
      cases hd : Pct.dig2 r with
      | false => rw [Pct.items_bad r hd] at h; cases h
      | true =>
        obtain ⟨y, z, t, rfl, hy, hz⟩ := Pct.dig2_cons r hd
        rw [Pct.items_coded y z t hy hz] at h
        obtain ⟨m', hm', rfl⟩ := Option.map_eq_some_iff.1 h
        rcases List.mem_cons.1 hx with rfl | hx
        · cases h2
        · have := items_mem t m' hm' x hx h2
          simp [this]
    · rw [Pct.items_as b r hb] at h
      obtain ⟨m', hm', rfl⟩ := Option.map_eq_some_iff.1 h
      rcases List.mem_cons.1 hx with rfl | hx
      · simp
      · have := items_mem r m' hm' x hx h2
        simp [this]
  termination_by l => l.length
theorem dg_hex : ∀ i : Fin 16, Pct.freeB (Pct.dg i.1) = true := by decide +kernel
theorem put_mem (s : Bool) (b d : UInt8) (h : d ∈ Pct.putL s b) (h37 : d ≠ 37) (hf : Pct.freeB d = false) : s = true ∧ d = b := by
  cases s with
  | true => exact ⟨rfl, by simpa [Pct.putL] using h⟩
  | false =>
    have hb := Pct.u8_lt b
    have h1 := dg_hex ⟨b.toNat / 16, by omega⟩
    have h2 := dg_hex ⟨b.toNat % 16, by omega⟩
    simp only [Pct.putL, Bool.false_eq_true, if_false, List.mem_cons, List.not_mem_nil, or_false] at h
    rcases h with h | h | h
    · exact absurd h h37
    · rw [h, h1] at hf; cases hf
    · rw [h, h2] at hf; cases hf
theorem form_mem (p : Int) (l c : List UInt8) (d : UInt8) (h : formL p l = some c) (hd : d ∈ c) (h37 : d ≠ 37) (hf : Pct.freeB d = false) : Pct.standsB p d = true ∧ d ∈ l := by
  unfold formL at h
  obtain ⟨m, hm, rfl⟩ := Option.map_eq_some_iff.1 h
  obtain ⟨x, hx, hdx⟩ := List.mem_flatMap.1 hd
  obtain ⟨hs, rfl⟩ := put_mem _ _ _ hdx h37 hf
  unfold Pct.canB at hs
  rw [hf, Bool.false_or, Bool.and_eq_true] at hs
  have h2 : x.2 = false := by simpa using hs.1
  exact ⟨hs.2, items_mem l m hm x hx h2⟩
theorem form_no (p : Int) (l c : List UInt8) (d : UInt8) (h : formL p l = some c) (h37 : d ≠ 37) (hf : Pct.freeB d = false) (hn : Pct.standsB p d = false ∨ d ∉ l) : d ∉ c := fun hd => by
  obtain ⟨h1, h2⟩ := form_mem p l c d h hd h37 hf
  rcases hn with hn | hn
  · rw [h1] at hn; cases hn
  · exact hn h2
def aheadL (c : UInt8) (l : List UInt8) : List UInt8 := l.takeWhile (· != c)
theorem ahead_no (c : UInt8) : ∀ l : List UInt8, c ∉ l → aheadL c l = l ∧ Host.tailL c l = none
  | [], _ => ⟨rfl, rfl⟩
  | b :: r, h => by
    have hb : b ≠ c := fun e => h (by simp [e])
    obtain ⟨h1, h2⟩ := ahead_no c r (fun e => h (by simp [e]))
    refine ⟨?_, ?_⟩
    · unfold aheadL at h1 ⊢
      rw [List.takeWhile_cons, if_pos (by simpa using hb), h1]
    · unfold Host.tailL; rw [if_neg hb]; exact h2
theorem ahead_yes (c : UInt8) : ∀ (x y : List UInt8), c ∉ x → aheadL c (x ++ c :: y) = x ∧ Host.tailL c (x ++ c :: y) = some y
  | [], y, _ => by
    refine ⟨?_, ?_⟩
    · show aheadL c (c :: y) = []
      unfold aheadL; rw [List.takeWhile_cons, if_neg (by simp)]
    · show Host.tailL c (c :: y) = some y
      unfold Host.tailL; rw [if_pos rfl]
  | b :: r, y, h => by
    have hb : b ≠ c := fun e => h (by simp [e])
    obtain ⟨h1, h2⟩ := ahead_yes c r y (fun e => h (by simp [e]))
    refine ⟨?_, ?_⟩
    · show aheadL c (b :: (r ++ c :: y)) = _
      unfold aheadL at h1 ⊢
      rw [List.takeWhile_cons, if_pos (by simpa using hb), h1]
    · show Host.tailL c (b :: (r ++ c :: y)) = _
      unfold Host.tailL; rw [if_neg hb]; exact h2
def digL (n : Nat) : List UInt8 := if h : n < 10 then [UInt8.ofNat (48 + n)] else digL (n / 10) ++ [UInt8.ofNat (48 + n % 10)]
theorem dig_small (n : Nat) (h : n < 10) : digL n = [UInt8.ofNat (48 + n)] := by rw [digL, dif_pos h]
theorem dig_big (n : Nat) (h : ¬ n < 10) : digL n = digL (n / 10) ++ [UInt8.ofNat (48 + n % 10)] := by rw [digL, dif_neg h]
theorem digit_nat (d : Nat) (h : d < 10) : (UInt8.ofNat (48 + d)).toNat = 48 + d ∧ Ref.decB (UInt8.ofNat (48 + d)) = true := by
  have h1 : (UInt8.ofNat (48 + d)).toNat = 48 + d := by rw [UInt8.toNat_ofNat']; omega
  exact ⟨h1, (Ref.decB_of _).2 (by omega)⟩
theorem dig_ne (n : Nat) : digL n ≠ [] := by
  by_cases h : n < 10
  · rw [dig_small n h]; simp
  · rw [dig_big n h]; simp
theorem dig_dec (n : Nat) : ∀ b ∈ digL n, Ref.decB b = true := by
  induction n using Nat.strongRecOn with
  | ind n ih =>
    intro b hb
    by_cases h : n < 10
    · rw [dig_small n h, List.mem_singleton] at hb; rw [hb]; exact (digit_nat n h).2
    · rw [dig_big n h, List.mem_append, List.mem_singleton] at hb
      rcases hb with hb | hb
      · exact ih (n / 10) (by omega) b hb
      · rw [hb]; exact (digit_nat _ (by omega)).2
theorem numGo_app (most : Int) (b : UInt8) : ∀ (l : List UInt8) (n : Int), Ref.numGo most (l ++ [b]) n = (Ref.numGo most l n).bind fun m => Ref.numGo most [b] m
  | [], n => rfl
  | x :: r, n => by
    show Ref.numGo most (x :: (r ++ [b])) n = _
    rw [Ref.numGo, Ref.numGo]
    split
    · exact numGo_app most b r _
    · rfl
theorem dig_num (most : Nat) (n : Nat) : n ≤ most → Ref.numGo most (digL n) 0 = some (n : Int) := by
  induction n using Nat.strongRecOn with
  | ind n ih =>
    intro hm
    by_cases h : n < 10
    · obtain ⟨h1, h2⟩ := digit_nat n h
      rw [dig_small n h, Ref.numGo, if_pos ⟨h2, by omega, by omega⟩, Ref.numGo]
      congr 1; omega
    · obtain ⟨h1, h2⟩ := digit_nat (n % 10) (by omega)
      rw [dig_big n h, numGo_app, ih (n / 10) (by omega) (by omega), Option.bind_some, Ref.numGo, if_pos ⟨h2, by omega, by omega⟩, Ref.numGo]
      congr 1; omega
theorem dig_first (n : Nat) : 1 ≤ n → ((digL n).getD 0 0).toNat ≠ 48 := by
  induction n using Nat.strongRecOn with
  | ind n ih =>
    intro hn
    by_cases h : n < 10
    · rw [dig_small n h]
      show (UInt8.ofNat (48 + n)).toNat ≠ 48
      rw [(digit_nat n h).1]; omega
    · rw [dig_big n h]
      have e : (digL (n / 10) ++ [UInt8.ofNat (48 + n % 10)]).getD 0 0 = (digL (n / 10)).getD 0 0 := by
        cases hd : digL (n / 10) with
        | nil => exact absurd hd (dig_ne _)
        | cons b r => rfl
      rw [e]; exact ih (n / 10) (by omega) (by omega)
theorem dig_numOf (most n : Nat) (h1 : 1 ≤ n) (h : n ≤ most) : Ref.numOf most (digL n) = some (n : Int) := by
  unfold Ref.numOf
  rw [if_neg (fun hc => hc.elim (dig_ne n) (fun hc => dig_first n h1 hc.2)), dig_num most n h]
end Go.Proofs.YtniehbjoogaccaaGreatDoor.Url
namespace Go.Proofs.YtniehbjoogaccaaGreatDoor
open Go.RowKit Go.Shelf
attribute [local go_sem] Oper.semAt_some
def spansGo (p : UInt8 → Bool) : List UInt8 → Nat → Nat → List (Nat × Nat)
  | [], i, fr => [(fr, i)]
  | b :: r, i, fr => if p b = true then (fr, i) :: spansGo p r (i + 1) (i + 1) else spansGo p r (i + 1) fr
def spansL (p : UInt8 → Bool) (l : List UInt8) : List (Nat × Nat) := spansGo p l 0 0
def SpanArg (x : Nat × Nat) (args : Array Value) (G : Nat → Prop) (_W : World) : Prop := args = #[.int .i64 x.1, .int .i64 x.2] ∧ G = fun _ => False
structure Tests (P : Program) (g : Nat) (lb : Array Value) (p : UInt8 → Bool) (RB : Nat → Prop) (w0 : World) : Prop where
  eg : ∀ args w, (callFunc g args).run P w = .ok (.enter g args) w
  calls : ∀ (b : UInt8) (W : World), Keep RB w0 W → Calls P g (#[.int .u8 (b.toNat : Int)] ++ lb) W fun e w' => e = .returned (.bool (p b)) ∧ W = w'
def isB (c : UInt8) (b : UInt8) : Bool := b == c
theorem isByte1_any (b c : UInt8) (B : Nat) (w : World) (h : Boxed w B 5 (.int .u8 (c.toNat : Int))) :
    Calls Tryz.prog 185 #[.int .u8 (b.toNat : Int), .pointer (some ⟨B, 0, none⟩)] w fun e w' => e = .returned (.bool (isB c b)) ∧ w = w' := by
  have hc := h.cell
  have H := Lib.hid (show isB c b = ((b.toNat : Int) == (c.toNat : Int)) by unfold isB; rw [Bool.eq_iff_iff, beq_iff_eq, beq_iff_eq, ← UInt8.toNat_inj]; omega)
  clear h
  go_enter Tryz.func185, Tryz.ntmps185
  go_wp2
  go_ret
  exact ⟨(by rw [H.out]; try rfl), rfl⟩
theorem isByte_any (c : UInt8) (w : World) :
    Calls Tryz.prog 148 #[.int .u8 (c.toNat : Int)] w fun e w' => e = .returned (.func (.func 185) #[] #[.pointer (some ⟨w.heap.size, 0, none⟩)]) ∧ w' = w.alloc (.cells #[.int .u8 (c.toNat : Int)] 5) := by
  go_enter Tryz.func148, Tryz.ntmps148
  go_wp2
  go_ret
  exact ⟨rfl, rfl⟩
theorem isByte_tests (c : UInt8) (B : Nat) (RB : Nat → Prop) (w0 : World) (h : Boxed w0 B 5 (.int .u8 (c.toNat : Int))) (hB : RB B) :
    Tests Tryz.prog 185 #[.pointer (some ⟨B, 0, none⟩)] (isB c) RB w0 :=
  ⟨enters_of Tryz.func185 (by kernel_rfl) rfl, fun b W hW => isByte1_any b c B W (hW.boxed h hB)⟩
theorem spans_any (q : Option Addr) (n c g : Nat) (lb : Array Value) (w : World) :
    Calls Tryz.prog 147 #[.slice q n c, .func (.func g) #[] lb] w fun e w' => e = .returned (.func (.func 184) #[] #[.pointer (some ⟨w.heap.size, 0, none⟩), .pointer (some ⟨w.heap.size + 1, 0, none⟩)]) ∧
      w' = (w.alloc (.cells #[.slice q n c] 29)).alloc (.cells #[.func (.func g) #[] lb] 144) := by
  go_enter Tryz.func147, Tryz.ntmps147
  go_wp2
  go_ret
  exact ⟨rfl, rfl⟩
set_option maxRecDepth 100000 in
set_option maxHeartbeats 2000000 in
theorem spans1_iter (Bt Bp : Nat) (q : Option Addr) (n c g : Nat) (lb : Array Value) (bs : List UInt8) (p : UInt8 → Bool) (RB : Nat → Prop) (w0 : World)
    (hx : bs.length = n) (hn : n ≤ 140737488355328) (hb : Lib.BytesIn w0 q n (Lib.numsL bs)) (hq : ∀ a, q = some a → 0 < n → RB a.block)
    (hT : Boxed w0 Bt 29 (.slice q n c)) (hP : Boxed w0 Bp 144 (.func (.func g) #[] lb)) (hRt : RB Bt) (hRp : RB Bp) (ht : Tests Tryz.prog g lb p RB w0) :
    IterC Tryz.prog 184 #[.pointer (some ⟨Bt, 0, none⟩), .pointer (some ⟨Bp, 0, none⟩)] SpanArg (spansL p bs) RB w0 := by
  intro l J Jx W hW hJ hJx hY h0
  refine (callsIn_wide (n := 1)).1 ?_
  refine callsIn_of_wp Tryz.func184 rfl trivial ?_ rfl
  simp only [Tryz.ntmps184, List.size_toArray, List.length_cons, List.length_nil, Nat.reduceAdd, Nat.reduceSub, Array.replicate_succ, Array.replicate_zero, List.push_toArray, List.append_toArray, List.nil_append, List.cons_append]
  have bT := (hW.boxed hT hRt).cell
  have bP := (hW.boxed hP hRp).cell
  gi_wp2
  gi_loopw [4, 9] (fun fr i wr => ∃ k f : Nat, ∃ pre, k ≤ n ∧ f ≤ k ∧ i = .int .i64 k ∧ fr = .int .i64 f ∧ Keep RB W wr ∧ Hid (spansL p bs = pre ++ spansGo p (bs.drop k) k f) ∧ J pre (fun _ => False) wr) (fun _ i _ => n - (intOf i).toNat)
  case atStart =>
    exact ⟨0, 0, [], Nat.zero_le _, Nat.zero_le _, rfl, rfl, Keep.refl _ _, rfl, h0⟩
  case round =>
    obtain ⟨k, f, pre, hk, hf, rfl, rfl, hKr, HX, hJr⟩ := hrel
    have bT := (hKr.boxed (hW.boxed hT hRt) hRt).cell
    have bP := (hKr.boxed (hW.boxed hP hRp) hRp).cell
    have hK0 := hW.trans hKr
    have hpc := fun b W h => callsIn_wide (n := 0) |>.2 (ht.calls b W h)
    have eg := ht.eg
    by_cases hlt : k < n
    · obtain ⟨b, o, rfl, hc⟩ := hb.at (by omega)
      have hRb : RB b := hq _ rfl (by omega)
      have hck : wr.cell? ⟨b, o + k, none⟩ = some (.int .u8 ((bs.getD k 0).toNat : Int)) := by
        rw [← numsL_getD bs k (by omega), ← hc k hlt]
        exact World.cell?_of_block (hK0.block b (World.block_lt_of_cell? w0 _ (hc k hlt)) hRb)
      have hdc := drop_cons bs k (by omega)
      clear hc hT hP hb
      generalize bs.getD k 0 = bk at hck hdc
      have hbk := u8_lt bk
      by_cases hp : p bk = true
      · have HX2 := Lib.hid (show spansL p bs = pre ++ (f, k) :: spansGo p (bs.drop (k + 1)) (k + 1) (k + 1) by rw [HX.out, hdc]; conv => lhs; unfold spansGo; rw [if_pos hp])
        obtain ⟨fn, tmps, assign, body, hy, hR⟩ := hY pre (f, k) _ (fun _ => False) (fun _ => False) #[.int .i64 f, .int .i64 k] wr HX2.out hJr (fun _ h => h.elim) ⟨rfl, rfl⟩ (fun _ h => h)
        clear HX hdc ht hY
        have Hp := Lib.hid hp
        gi_wp2_with fail
        refine ⟨trivial, (hpc bk wr hK0).mono ?_⟩
        rintro e w' ⟨rfl, rfl⟩
        rw [Hp.out]
        gi_wp2_with fail
        refine hR.mono ?_
        rintro e W3 ⟨hk3, (⟨rfl, hJ3⟩ | ⟨rfl, hJx3⟩)⟩
        · gi_wp2
          go_roundw
          case rel => exact ⟨k + 1, k + 1, pre ++ [(f, k)], by omega, Nat.le_refl _, by go_num, by go_num, hKr.trans (hk3.mono (fun _ _ h => .inl h)), Lib.hid (by rw [HX2.out]; simp), hJ _ _ _ _ _ hJ3 (Keep.refl _ _) (fun _ h => h.elim)⟩
          case measure => simp [intOf]; omega
        · gi_wp2
          refine bodyPost_ret (results_none rfl _ _ _) rfl ?_
          exact ⟨⟨_, rfl⟩, fun _ => False, fun _ h => h.elim, .inr ⟨pre ++ [(f, k)], _, by rw [HX2.out, List.append_assoc]; rfl, hJx _ _ _ _ _ hJx3 (Keep.refl _ _) (fun _ h => h.elim)⟩⟩
      · have hpf : p bk = false := by simpa using hp
        have HX2 := Lib.hid (show spansL p bs = pre ++ spansGo p (bs.drop (k + 1)) (k + 1) f by rw [HX.out, hdc]; conv => lhs; unfold spansGo; rw [if_neg hp])
        have Hp := Lib.hid hpf
        clear HX hdc ht hY hp hpf
        gi_wp2_with fail
        refine ⟨trivial, (hpc bk wr hK0).mono ?_⟩
        rintro e w' ⟨rfl, rfl⟩
        rw [Hp.out]
        gi_wp2_with fail
        go_roundw
        case rel => exact ⟨k + 1, f, pre, by omega, by omega, by go_num, rfl, hKr, HX2, hJr⟩
        case measure => simp [intOf]; omega
    · have HX2 := Lib.hid (show spansL p bs = pre ++ (f, n) :: [] by rw [HX.out, List.drop_of_length_le (by omega), show k = n by omega]; rfl)
      obtain ⟨fn, tmps, assign, body, hy, hR⟩ := hY pre (f, n) _ (fun _ => False) (fun _ => False) #[.int .i64 f, .int .i64 n] wr HX2.out hJr (fun _ h => h.elim) ⟨rfl, rfl⟩ (fun _ h => h)
      clear HX ht hY hb hT hP hpc
      gi_wp2_with fail
      refine hR.mono ?_
      rintro e W3 ⟨hk3, (⟨rfl, hJ3⟩ | ⟨rfl, hJx3⟩)⟩
      · gi_wp2
        refine bodyPost_end (results_none rfl _ _ _) rfl ?_
        exact ⟨⟨_, rfl⟩, fun _ => False, fun _ h => h.elim, .inl (by rw [HX2.out]; exact hJ _ _ _ _ _ hJ3 (Keep.refl _ _) (fun _ h => h.elim))⟩
      · gi_wp2
        refine bodyPost_end (results_none rfl _ _ _) rfl ?_
        exact ⟨⟨_, rfl⟩, fun _ => False, fun _ h => h.elim, .inr ⟨pre ++ [(f, n)], [], by rw [HX2.out]; simp, hJx _ _ _ _ _ hJx3 (Keep.refl _ _) (fun _ h => h.elim)⟩⟩
end Go.Proofs.YtniehbjoogaccaaGreatDoor
namespace Go.Proofs.YtniehbjoogaccaaGreatDoor
open Go.RowKit Go.Shelf
attribute [local go_sem] Oper.semAt_some
end Go.Proofs.YtniehbjoogaccaaGreatDoor
namespace Go.Proofs.YtniehbjoogaccaaGreatDoor.Url
def formsL : List (List UInt8) → Option (List (List UInt8))
  | [] => some []
  | p :: r => (formL 1 p).bind fun c => (formsL r).map (c :: ·)
def stackL : List (List UInt8) → List (List UInt8) → List (List UInt8)
  | st, [] => st
  | st, p :: r => stackL (if p = [46] then st else if p = [46, 46] then st.dropLast else st ++ [p]) r
def dotB (p : List UInt8) : Bool := p = [46] || p = [46, 46]
def dotsL (ps : List (List UInt8)) : List (List UInt8) := stackL [] ps ++ (if dotB (ps.getLastD []) = true then [[]] else [])
def pathL : List UInt8 → Option (List UInt8)
  | [] => some [47]
  | _ :: r => (formsL (Ref.splitL 47 r)).map fun cs => 47 :: Ref.joinL 47 (dotsL cs)
theorem split_ahead (c : UInt8) (x : List UInt8) : c ∉ x → ∀ t, Ref.splitL c (x ++ c :: t) = x :: Ref.splitL c t := by
  induction x with
  | nil => intro _ t; exact Ref.split_is c t
  | cons b r ih =>
    intro h t
    have hb : b ≠ c := fun e => h (by simp [e])
    rw [List.cons_append, Ref.split_not c b _ hb, ih (fun e => h (by simp [e])) t]; rfl
theorem split_none (c : UInt8) (x : List UInt8) : c ∉ x → Ref.splitL c x = [x] := by
  induction x with
  | nil => intro _; rfl
  | cons b r ih =>
    intro h
    have hb : b ≠ c := fun e => h (by simp [e])
    rw [Ref.split_not c b _ hb, ih (fun e => h (by simp [e]))]; rfl
theorem split_join (c : UInt8) : ∀ R : List (List UInt8), R ≠ [] → (∀ p ∈ R, c ∉ p) → Ref.splitL c (Ref.joinL c R) = R
  | [], h, _ => absurd rfl h
  | [p], _, h => split_none c p (h p (by simp))
  | p :: q :: r, _, h => by
    have ih := split_join c (q :: r) (by simp) (fun x hx => h x (by simp [hx]))
    show Ref.splitL c (p ++ c :: Ref.joinL c (q :: r)) = _
    rw [split_ahead c p (h p (by simp)), ih]
theorem split_free (c : UInt8) : ∀ l : List UInt8, ∀ p ∈ Ref.splitL c l, c ∉ p
  | [], p, hp => by simp [Ref.splitL] at hp; subst hp; simp
  | b :: r, p, hp => by
    have ih := split_free c r
    by_cases h : b = c
    · subst h
      rw [Ref.split_is] at hp
      rcases List.mem_cons.1 hp with rfl | hp
      · simp
      · exact ih p hp
    · rw [Ref.split_not c b r h] at hp
      cases hs : Ref.splitL c r with
      | nil => exact absurd hs (Ref.split_ne c r)
      | cons q t =>
        rw [hs] at hp ih
        rcases List.mem_cons.1 hp with rfl | hp
        · intro hc
          rcases List.mem_append.1 hc with hc | hc
          · exact h (List.mem_singleton.1 hc).symm
          · exact ih q (by simp) hc
        · exact ih p (by simp [hp])
theorem join_mem (c : UInt8) : ∀ R : List (List UInt8), ∀ b ∈ Ref.joinL c R, b = c ∨ ∃ p ∈ R, b ∈ p
  | [], b, h => by cases h
  | [p], b, h => .inr ⟨p, by simp, h⟩
  | p :: q :: r, b, h => by
    have h' : b ∈ p ++ c :: Ref.joinL c (q :: r) := h
    rcases List.mem_append.1 h' with h | h
    · exact .inr ⟨p, by simp, h⟩
    · rcases List.mem_cons.1 h with rfl | h
      · exact .inl rfl
      · rcases join_mem c (q :: r) b h with h | ⟨x, hx, hb⟩
        · exact .inl h
        · exact .inr ⟨x, by simp [hx], hb⟩
theorem stack_mem : ∀ (ps st : List (List UInt8)), ∀ x ∈ stackL st ps, x ∈ st ∨ (x ∈ ps ∧ dotB x = false)
  | [], st, x, h => .inl h
  | p :: r, st, x, h => by
    rw [stackL] at h
    rcases stack_mem r _ x h with h | ⟨h, hd⟩
    · split at h
      · exact .inl h
      · split at h
        · exact .inl (List.dropLast_subset _ h)
        · rename_i h1 h2
          rcases List.mem_append.1 h with h | h
          · exact .inl h
          · rw [List.mem_singleton.1 h]
            exact .inr ⟨by simp, by unfold dotB; simp [h1, h2]⟩
    · exact .inr ⟨by simp [h], hd⟩
theorem stack_app : ∀ (ps qs st : List (List UInt8)), stackL st (ps ++ qs) = stackL (stackL st ps) qs
  | [], _, _ => rfl
  | p :: r, qs, st => by rw [List.cons_append, stackL, stack_app r qs, stackL]
theorem stack_same : ∀ (ps st : List (List UInt8)), (∀ p ∈ ps, dotB p = false) → stackL st ps = st ++ ps
  | [], st, _ => by simp [stackL]
  | p :: r, st, h => by
    have hp := h p (by simp)
    unfold dotB at hp
    rw [Bool.or_eq_false_iff, decide_eq_false_iff_not, decide_eq_false_iff_not] at hp
    rw [stackL, if_neg hp.1, if_neg hp.2, stack_same r _ (fun q hq => h q (by simp [hq]))]
    simp
theorem dots_mem (ps : List (List UInt8)) : ∀ x ∈ dotsL ps, x = [] ∨ (x ∈ ps ∧ dotB x = false) := by
  intro x hx
  unfold dotsL at hx
  rcases List.mem_append.1 hx with h | h
  · rcases stack_mem ps [] x h with h | h
    · cases h
    · exact .inr h
  · split at h
    · exact .inl (List.mem_singleton.1 h)
    · cases h
theorem dots_ne (ps : List (List UInt8)) (h : ps ≠ []) : dotsL ps ≠ [] := by
  unfold dotsL
  by_cases hd : dotB (ps.getLastD []) = true
  · rw [if_pos hd]; simp
  · rw [if_neg hd, List.append_nil]
    have hs := List.dropLast_concat_getLast h
    have he : ps.getLastD [] = ps.getLast h := by rw [List.getLastD_eq_getLast?, List.getLast?_eq_some_getLast h]; rfl
    rw [he] at hd
    rw [← hs, stack_app, stackL, stackL]
    unfold dotB at hd
    have h1 : ¬ ps.getLast h = [46] := fun e => hd (by rw [e]; rfl)
    have h2 : ¬ ps.getLast h = [46, 46] := fun e => hd (by rw [e]; rfl)
    rw [if_neg h1, if_neg h2]; simp
theorem dots_same (ps : List (List UInt8)) (h : ∀ p ∈ ps, dotB p = false) : dotsL ps = ps := by
  unfold dotsL
  rw [stack_same ps [] h, List.nil_append, if_neg, List.append_nil]
  cases ps with
  | nil => decide
  | cons p r =>
    have hm : (p :: r).getLastD [] ∈ (p :: r) := by
      rw [List.getLastD_eq_getLast?, List.getLast?_eq_some_getLast (by simp)]; exact List.getLast_mem _
    rw [h _ hm]; simp
theorem forms_mem : ∀ (ps cs : List (List UInt8)), formsL ps = some cs → ∀ c ∈ cs, ∃ p ∈ ps, formL 1 p = some c
  | [], cs, h, c, hc => by rw [formsL] at h; cases h; cases hc
  | p :: r, cs, h, c, hc => by
    rw [formsL] at h
    obtain ⟨d, hd, h⟩ := Option.bind_eq_some_iff.1 h
    obtain ⟨ds, hds, rfl⟩ := Option.map_eq_some_iff.1 h
    rcases List.mem_cons.1 hc with rfl | hc
    · exact ⟨p, by simp, hd⟩
    · obtain ⟨q, hq, he⟩ := forms_mem r ds hds c hc
      exact ⟨q, by simp [hq], he⟩
theorem forms_ne (ps cs : List (List UInt8)) (h : formsL ps = some cs) (hp : ps ≠ []) : cs ≠ [] := by
  cases ps with
  | nil => exact absurd rfl hp
  | cons p r =>
    rw [formsL] at h
    obtain ⟨d, hd, h⟩ := Option.bind_eq_some_iff.1 h
    obtain ⟨ds, hds, rfl⟩ := Option.map_eq_some_iff.1 h
    simp
theorem forms_same : ∀ ps : List (List UInt8), (∀ p ∈ ps, formL 1 p = some p) → formsL ps = some ps
  | [], _ => rfl
  | p :: r, h => by
    rw [formsL, h p (by simp), Option.bind_some, forms_same r (fun q hq => h q (by simp [hq]))]; rfl
def PathOk (p : List UInt8) : Prop := ∃ R : List (List UInt8), R ≠ [] ∧ p = 47 :: Ref.joinL 47 R ∧ ∀ x ∈ R, formL 1 x = some x ∧ 47 ∉ x ∧ 63 ∉ x ∧ 35 ∉ x ∧ dotB x = false
theorem path_ok (l p : List UInt8) (h : pathL l = some p) : PathOk p := by
  cases l with
  | nil =>
    rw [pathL] at h; cases h
    refine ⟨[[]], by simp, rfl, fun x hx => ?_⟩
    rw [List.mem_singleton.1 hx]
    exact ⟨rfl, by simp, by simp, by simp, by decide⟩
  | cons b r =>
    rw [pathL] at h
    obtain ⟨cs, hcs, rfl⟩ := Option.map_eq_some_iff.1 h
    refine ⟨dotsL cs, dots_ne cs (forms_ne _ _ hcs (Ref.split_ne 47 r)), rfl, fun x hx => ?_⟩
    rcases dots_mem cs x hx with rfl | ⟨hx, hd⟩
    · exact ⟨rfl, by simp, by simp, by simp, by decide⟩
    · obtain ⟨p, hp, hf⟩ := forms_mem _ _ hcs x hx
      exact ⟨form_twice 1 p x hf, form_no 1 p x 47 hf (by decide) (by decide) (.inr (split_free 47 r p hp)), form_no 1 p x 63 hf (by decide) (by decide) (.inl (by decide)), form_no 1 p x 35 hf (by decide) (by decide) (.inl (by decide)), hd⟩
theorem path_again (p : List UInt8) (h : PathOk p) : pathL p = some p := by
  obtain ⟨R, hR, rfl, hx⟩ := h
  rw [pathL, split_join 47 R hR (fun x h => (hx x h).2.1), forms_same R (fun x h => (hx x h).1), Option.map_some, dots_same R (fun x h => (hx x h).2.2.2.2)]
theorem path_no (p : List UInt8) (h : PathOk p) : 63 ∉ p ∧ 35 ∉ p := by
  obtain ⟨R, hR, rfl, hx⟩ := h
  refine ⟨fun hm => ?_, fun hm => ?_⟩
  · rcases List.mem_cons.1 hm with h | h
    · cases h
    · rcases join_mem 47 R _ h with h | ⟨x, h1, h2⟩
      · cases h
      · exact (hx x h1).2.2.1 h2
  · rcases List.mem_cons.1 hm with h | h
    · cases h
    · rcases join_mem 47 R _ h with h | ⟨x, h1, h2⟩
      · cases h
      · exact (hx x h1).2.2.2.1 h2
end Go.Proofs.YtniehbjoogaccaaGreatDoor.Url
namespace Go.Proofs.YtniehbjoogaccaaGreatDoor
open Go.RowKit Go.Shelf
attribute [local go_sem] Oper.semAt_some
def subA (q : Option Addr) (c l : Nat) : Option Addr := if c = l then q else q.map (·.add l)
theorem subA_zero (q : Option Addr) (c : Nat) : subA q c 0 = q := by
  unfold subA
  split
  · rfl
  · cases q <;> simp [Addr.add]
def sub (l : List UInt8) (i j : Nat) : List UInt8 := (l.drop i).take (j - i)
theorem sub_length (l : List UInt8) (i j : Nat) (h : j ≤ l.length) : (sub l i j).length = j - i := by unfold sub; simp; omega
theorem sub_getD (l : List UInt8) (i j k : Nat) (h : k < j - i) : (sub l i j).getD k 0 = l.getD (i + k) 0 := by
  unfold sub
  simp [List.getD, List.getElem?_drop, h]
theorem bytes_sub {w : World} {q : Option Addr} {n c i j : Nat} {l : List UInt8} (h : Lib.BytesIn w q n (Lib.numsL l)) (hl : l.length = n) (hij : i ≤ j) (hj : j ≤ n) (hc : n ≤ c) :
    Lib.BytesIn w (subA q c i) (j - i) (Lib.numsL (sub l i j)) := by
  intro hpos
  obtain ⟨b, o, rfl, hcell⟩ := h.at (by omega)
  refine ⟨b, o + i, ?_, fun k hk => ?_⟩
  · unfold subA
    rw [if_neg (by omega)]
    by_cases h0 : i = 0
    · subst h0; simp [Addr.add]
    · simp [Addr.add, h0]
  · rw [numsL_getD _ _ (by rw [sub_length _ _ _ (by omega)]; exact hk), sub_getD _ _ _ _ hk, Nat.add_assoc, hcell (i + k) (by omega), numsL_getD _ _ (by omega)]
theorem run_slice_sub (q : Option Addr) (n c i j : Nat) (W : World) (hij : i ≤ j) (hj : j ≤ c) :
    (Instr.slice 29 (.slice q n c) (some (.int .i64 (i : Int))) (some (.int .i64 (j : Int))) none).run Tryz.prog W = .ok (.slice (subA q c i) (j - i) (c - i)) W := by
  have hs : ∀ w, (Go.sizeOf 5).run Tryz.prog w = .ok 1 w := Tryz.sizeOf5
  have he : Tryz.prog.elem 29 = 5 := by kernel_rfl
  have h := run_slice_lh (P := Tryz.prog) (w := W) 29 q n c (by rw [he]; exact Tryz.underlying29) .i64 .i64 i j (by omega) (by omega) (by omega)
  rw [h, he, hs]
  simp only [Result.andThen, sliced, subA, Int.toNat_natCast, Nat.mul_one]
theorem Clone_any (q : Option Addr) (n c : Nat) (l : List UInt8) (w : World) (hl : l.length = n) (hn : n ≤ 140737488355328) (h : Lib.BytesIn w q n (Lib.numsL l)) :
    Calls Tryz.prog 80 #[.slice q n c] w fun e w' => ∃ v', e = .returned v' ∧ w'.ownsRow w.heap.size 5 1 v' n ((Lib.numsL l).map (Value.int .u8)) ∧ Below w.heap.size w w' := by
  cases q with
  | none =>
    have hz : n = 0 := by
      rcases Nat.eq_zero_or_pos n with h0 | h0
      · exact h0
      · obtain ⟨b, o, he, _⟩ := h.at h0
        cases he
    subst hz
    obtain rfl : l = [] := List.eq_nil_of_length_eq_zero hl
    refine (Tryz.bytes_Clone_nil 0 c w).mono fun e w' ⟨he, hw⟩ => ?_
    subst hw
    exact ⟨_, he, World.ownsRow_nil _ _ _ _, Below.refl _ _⟩
  | some a =>
    refine (Tryz.bytes_Clone_at a n c (Lib.numsL l) w (by rw [Lib.numsL_length, hl]) hn ?_).mono fun e w' ⟨v', he, ho, _, hb⟩ => ⟨v', he, ho, hb⟩
    intro i hi
    obtain ⟨b, o, he, hc⟩ := h.at (by omega)
    cases he
    rw [Go.WideShapes.add_plain]
    exact hc i hi
end Go.Proofs.YtniehbjoogaccaaGreatDoor
namespace Go.Proofs.YtniehbjoogaccaaGreatDoor.Ref
open Go.RowKit Go.Shelf
def numB (p : List UInt8) : Bool := (numOf 255 p).isSome
theorem addr_num (l : List (List UInt8)) : Host.addrB l = (decide (l.length = 4) && l.all numB) := rfl
end Go.Proofs.YtniehbjoogaccaaGreatDoor.Ref
namespace Go.Proofs.YtniehbjoogaccaaGreatDoor.Pct
open Go.RowKit Go.Shelf
theorem info_u8 : (Tryz.prog.info? 5).map (fun i => (i.zero, i.size, i.bytes)) = some (some (.int .u8 0), 1, 1) := by kernel_rfl
def byV (l : List UInt8) : List Value := (Lib.numsL l).map (Value.int .u8)
theorem byV_app (l m : List UInt8) : byV (l ++ m) = byV l ++ byV m := by simp [byV, Lib.numsL]
theorem row_base {W : World} {base base' : Nat} {e : TypeId} {size : Nat} {v : Value} {n : Nat} {xs : List Value} (h : W.ownsRow base e size v n xs) (hb : base' ≤ base) : W.ownsRow base' e size v n xs := by
  refine ⟨h.1, ?_⟩
  rcases h.2 with hn | ⟨g, cap, cur, hv, hg, rest⟩
  · exact .inl hn
  · exact .inr ⟨g, cap, cur, hv, Nat.le_trans hb hg, rest⟩
theorem row_open {W : World} {base n : Nat} {v : Value} {l : List UInt8} (h : W.ownsRow base 5 1 v n (byV l)) :
    ∃ q c, v = .slice q n c ∧ l.length = n ∧ n ≤ c ∧ c ≤ maxLen ∧ Lib.BytesIn W q n (Lib.numsL l) ∧ (∀ a, q = some a → a.block < W.heap.size ∧ base ≤ a.block ∧ v.ownBlock = some a.block) := by
  have hl : l.length = n := by have := h.1; simpa [byV, Lib.numsL] using this
  rcases h.2 with ⟨rfl, rfl⟩ | ⟨g, cap, cur, rfl, hb, hg, h1, h2, h3, h4⟩
  · exact ⟨none, 0, rfl, hl, Nat.le_refl _, Nat.zero_le _, Lib.BytesIn.nil _ _ _, by intro a ha; cases ha⟩
  · refine ⟨some ⟨g, 0, none⟩, cap, rfl, hl, h1, h2, fun h0 => ⟨g, 0, rfl, fun i hi => ?_⟩, fun a ha => by cases ha; exact ⟨(Array.getElem?_eq_some_iff.1 hg).1, hb, rfl⟩⟩
    have hcur : cur[i]? = some (.int .u8 ((Lib.numsL l).getD i 0)) := by
      have : (cur.toList.take (n * 1))[i]? = some (.int .u8 ((Lib.numsL l).getD i 0)) := by
        rw [h4]
        have hi' : i < (Lib.numsL l).length := by rw [Lib.numsL_length]; omega
        simp [byV, List.getElem?_map, List.getElem?_eq_getElem hi', List.getD]
      rw [List.getElem?_take, if_pos (by omega)] at this
      simpa using this
    simp only [World.cell?, hg, Nat.zero_add]
    exact hcur
def Grown (w : World) (v : Value) (w' : World) (v' : Value) : Prop :=
  (∀ S : Nat → Prop, (∀ b, v.ownBlock = some b → ¬ S b) → Keep S w w') ∧ (∀ b, v'.ownBlock = some b → v.ownBlock = some b ∨ w.heap.size ≤ b)
theorem digs_at (n m : Nat) (e : m = n) (h : m < (ByteArray.mk #[48, 49, 50, 51, 52, 53, 54, 55, 56, 57, 65, 66, 67, 68, 69, 70]).size) : (ByteArray.mk #[48, 49, 50, 51, 52, 53, 54, 55, 56, 57, 65, 66, 67, 68, 69, 70])[m]'h = dg n := by
  subst e
  have h' : ∀ i : Fin 16, (ByteArray.mk #[48, 49, 50, 51, 52, 53, 54, 55, 56, 57, 65, 66, 67, 68, 69, 70])[i.1]'i.2 = dg i.1 := by decide +kernel
  exact h' ⟨m, h⟩
theorem and15 (b : UInt8) : bits BinOp.and IntKind.u8 (b.toNat : Int) 15 = (b.toNat : Int) % 16 :=
  all_u8 (p := fun b => bits BinOp.and IntKind.u8 (b.toNat : Int) 15 = (b.toNat : Int) % 16) (by decide +kernel) b
theorem cell_three_new (w : World) (x y z : Value) (t : TypeId) : ∀ j u, [x, y, z][j]? = some u → (w.alloc (.cells #[x, y, z] t)).cell? ((⟨w.heap.size, 0, none⟩ : Addr).add j) = some u := by
  intro j u hj
  rw [Go.WideShapes.add_plain]
  have hn : (w.alloc (.cells #[x, y, z] t)).heap[w.heap.size]? = some (.cells #[x, y, z] t) := World.alloc_heap_new w _
  simp only [World.cell?, hn, Nat.zero_add]
  simpa using hj
theorem wp_append_own_at {P : Program} {o : Oper} {a : Act} {w : World} {K : Act → World → Prop} {Q : Exit → Act → World → Prop} (s x : Operand) (t : TypeId)
    (ho : o.op = .call { callee := .builtin .append, args := #[s, x], argTypes := #[t, t] })
    (base : Nat) (e : TypeId) (i : TypeInfo) (z : Value) (size bytes : Nat) (ht : P.underlying t = some (.slice e)) (hi : P.info? e = some i) (hz : i.zero = some z)
    (hsize : i.size = size) (hby : i.bytes = bytes) (hzs : z.cells.size = size) (hsz : 0 < size)
    (v : Value) (n : Nat) (xs : List Value) (hs : a.eval s = v) (hown : w.ownsRow base e size v n xs)
    (ad : Addr) (m c : Nat) (news : List Value) (hx : a.eval x = .slice (some ad) m c) (hl : news.length = m * size) (hnews : ∀ j u, news[j]? = some u → w.cell? (ad.add j) = some u) (h1 : ∀ u ∈ news, u.oneCell' = true)
    (h63 : n + m ≤ maxLen) (hbytes : (n + m) * bytes ≤ 140737488355328) (hbase : base ≤ w.heap.size)
    (h : ∀ v' w', w'.ownsRow base e size v' (n + m) (xs ++ news) → w.grownBy w' v.ownBlock → (v'.ownBlock = v.ownBlock ∨ v'.ownBlock = some w.heap.size) → K (a.put o.dst v') w') : o.wp P a w K Q := by
  obtain ⟨v', w', hr, h2, h3, _, h5⟩ := run_append_own_at (P := P) w base t o.type e i z size bytes ht hi hz hsize hby hzs hsz v n xs hown ad m c news hl hnews h1 h63 hbytes hbase
  unfold Oper.wp execOp
  simp only [ho, resolve, invoke, builtin, Sem.run_bind, Sem.run_pure, Result.andThen_ok, List.map_toArray, List.map_cons, List.map_nil, hs, hx, hr]
  exact h v' w' h2 h3 h5
theorem grown_of {w w2 w1 : World} {v v' : Value} {o : Obj} (hgrow : (w2.alloc o).grownBy w1 v.ownBlock) (hat : v'.ownBlock = v.ownBlock ∨ v'.ownBlock = some (w2.alloc o).heap.size) (hs : w.heap.size = w2.heap.size) (hk : ∀ S, Keep S w w2) : Grown w v w1 v' :=
  ⟨fun S hS => (hk S).trans ((Keep.alloc S w2 o).trans (Keep.of_grownBy hgrow hS)), fun b hb => by
    rcases hat with h | h
    · exact .inl (h ▸ hb)
    · rw [h] at hb; cases hb; exact .inr (by simp; omega)⟩
set_option maxRecDepth 100000 in
set_option maxHeartbeats 2000000 in
theorem appendByte_any (base : Nat) (v : Value) (l : List UInt8) (b : UInt8) (s : Bool) (w : World) (h : w.ownsRow base 5 1 v l.length (byV l)) (hbase : base ≤ w.heap.size) (hn : l.length ≤ 70368744177664) :
    Calls Tryz.prog 138 #[v, .int .u8 (b.toNat : Int), .bool s] w fun e w' => ∃ v', e = .returned v' ∧ w'.ownsRow base 5 1 v' (l ++ putL s b).length (byV (l ++ putL s b)) ∧ Grown w v w' v' := by
  obtain ⟨i0, hi0, hz0, hz1, hz2⟩ := info_parts info_u8
  have hb := u8_lt b
  cases s
  · obtain ⟨w2, hw2⟩ : ∃ w2, w.drew = w2 := ⟨_, rfl⟩
    have h2 : w2.ownsRow base 5 1 v l.length (byV l) := by rw [← hw2]; exact h
    have hs2 : w.heap.size = w2.heap.size := by rw [← hw2]; rfl
    have hk2 : ∀ S, Keep S w w2 := fun S => by rw [← hw2]; exact Keep.drew S w
    have hb2 : base ≤ w2.heap.size := by omega
    have hs2' := Lib.hid hs2
    clear hs2
    have hq : ∀ h, (ByteArray.mk #[48, 49, 50, 51, 52, 53, 54, 55, 56, 57, 65, 66, 67, 68, 69, 70])[((b.toNat : Int) / 16).toNat]'h = dg (b.toNat / 16) := fun h => digs_at (b.toNat / 16) _ (by omega) h
    have hr : ∀ h, (ByteArray.mk #[48, 49, 50, 51, 52, 53, 54, 55, 56, 57, 65, 66, 67, 68, 69, 70])[((b.toNat : Int) % 16).toNat]'h = dg (b.toNat % 16) := fun h => digs_at (b.toNat % 16) _ (by omega) h
    go_enter Tryz.func138, Tryz.ntmps138
    go_wp2
    refine pregion_any (fun _ => True) (by kernel_rfl) ?_
    rw [hw2]
    have hS : True := trivial
    refine wpAnyH_take (i := 0) (v := v) rfl (by kernel_rfl) (by kernel_rfl) (by kernel_rfl) (fun _ _ _ h => h) (.inl ⟨by kernel_rfl, ?_⟩) hS ?_
    · intro w _; go_simp
    refine plist #[true, false, false, false, false, false, false, false, false, false] (by kernel_rfl) ?_
    refine wpAnyH_take (i := 1) (v := (.int .u8 (b.toNat : Int))) rfl (by kernel_rfl) (by kernel_rfl) (by kernel_rfl) (fun _ _ _ h => h) (.inl ⟨by kernel_rfl, ?_⟩) hS ?_
    · intro w _; go_simp
    refine plist #[true, true, false, false, false, false, false, false, false, false] (by kernel_rfl) ?_
    refine wpAnyH_take (i := 2) (v := (.int .u8 ((b.toNat : Int) / 16))) rfl (by kernel_rfl) (by kernel_rfl) (by kernel_rfl) (fun _ _ _ h => h) (.inl ⟨by kernel_rfl, ?_⟩) hS ?_
    · intro w _; go_simp
    refine plist #[true, true, true, false, false, false, false, false, false, false] (by kernel_rfl) ?_
    refine wpAnyH_take (i := 3) (v := (.int .u8 ((dg (b.toNat / 16)).toNat : Int))) rfl (by kernel_rfl) (by kernel_rfl) (by kernel_rfl) (fun _ _ _ h => h) (.inl ⟨by kernel_rfl, ?_⟩) hS ?_
    · intro w _; go_simp; intro h1; have := h1 (by omega); omega
    refine plist #[true, true, true, true, false, false, false, false, false, false] (by kernel_rfl) ?_
    refine wpAnyH_take (i := 4) (v := (.int .u8 (b.toNat : Int))) rfl (by kernel_rfl) (by kernel_rfl) (by kernel_rfl) (fun _ _ _ h => h) (.inl ⟨by kernel_rfl, ?_⟩) hS ?_
    · intro w _; go_simp
    refine plist #[true, true, true, true, true, false, false, false, false, false] (by kernel_rfl) ?_
    refine wpAnyH_take (i := 5) (v := (.int .u8 ((b.toNat : Int) % 16))) rfl (by kernel_rfl) (by kernel_rfl) (by kernel_rfl) (fun _ _ _ h => h) (.inl ⟨by kernel_rfl, ?_⟩) hS ?_
    · intro w _; go_simp; exact and15 b
    refine plist #[true, true, true, true, true, true, false, false, false, false] (by kernel_rfl) ?_
    refine wpAnyH_take (i := 6) (v := (.int .u8 ((dg (b.toNat % 16)).toNat : Int))) rfl (by kernel_rfl) (by kernel_rfl) (by kernel_rfl) (fun _ _ _ h => h) (.inl ⟨by kernel_rfl, ?_⟩) hS ?_
    · intro w _; go_simp; intro h1; have := h1 (by omega); omega
    refine plist #[true, true, true, true, true, true, true, false, false, false] (by kernel_rfl) ?_
    refine pone 7 (by kernel_rfl) rfl fun K hK => ?_
    go_simp
    refine hK _ _ hS ?_
    clear hK K
    refine plist #[true, true, true, true, true, true, true, true, false, false] (by kernel_rfl) ?_
    refine pone 8 (by kernel_rfl) rfl fun K hK => ?_
    rw [if_pos (by rfl)]
    refine wp_append_own_at (Operand.tmp 12) (Operand.tmp 19) 29 rfl base 5 i0 (.int .u8 0) 1 1 Tryz.underlying29 hi0 hz0 hz1 hz2 rfl (by decide) v l.length (byV l) rfl (h2.alloc _) ⟨w2.heap.size, 0, none⟩ 3 3 (byV (putL false b)) rfl rfl (cell_three_new _ _ _ _ _) (by simp [byV, putL, Lib.numsL, Value.oneCell']) (by unfold maxLen; omega) (by omega) (by simp; omega) ?_
    intro v' w1 hown' hgrow hat
    refine hK _ _ hS ?_
    clear hK K
    refine plist #[true, true, true, true, true, true, true, true, true, false] (by kernel_rfl) ?_
    refine wpAnyH_take (i := 9) (v := v') rfl (by kernel_rfl) (by kernel_rfl) (by kernel_rfl) (fun _ _ _ h => h) (.inl ⟨by kernel_rfl, ?_⟩) hS ?_
    · intro w _; go_simp
    refine pdone (by kernel_rfl) ?_ _
    go_wp2
    go_ret
    refine ⟨v', rfl, ?_, ?_⟩
    · rw [byV_app, List.length_append]; exact hown'
    · exact grown_of hgrow hat hs2'.out hk2
  · go_enter Tryz.func138, Tryz.ntmps138
    go_wp2_with (at_builtin; refine wpList_append_own_at _ rfl _ _ 29 rfl base 5 i0 (.int .u8 0) 1 1 Tryz.underlying29 hi0 hz0 hz1 hz2 rfl (by decide) v l.length (byV l) rfl (h.alloc _) ⟨w.heap.size, 0, none⟩ 1 1 [.int .u8 (b.toNat : Int)] rfl rfl (cell_one_new _ _ _) (by simp [Value.oneCell']) (by unfold maxLen; omega) (by omega) (by simp; omega) ?_; intro v' w1 hown' hgrow _ hat)
    go_ret
    refine ⟨_, rfl, ?_, ?_⟩
    · rw [byV_app, List.length_append]; exact hown'
    · exact grown_of hgrow hat rfl (fun S => Keep.refl S w)
end Go.Proofs.YtniehbjoogaccaaGreatDoor.Pct
namespace Go.Proofs.YtniehbjoogaccaaGreatDoor
open Go.RowKit Go.Shelf
attribute [local go_sem] Oper.semAt_some
theorem appended_keep {W w1 : World} {n₀ B : Nat} {t e : TypeId} {size : Nat} {v v' : Value} {k m : Nat} {xs ys : List Value} {tmp : Obj} {S : Nat → Prop}
    (hv : Boxed W B t v) (hte : t ≠ e) (hrow : W.ownsRow n₀ e size v k xs) (hS : ¬ S B) (hSo : ∀ b, v.ownBlock = some b → ¬ S b) (hown' : w1.ownsRow n₀ e size v' m ys) (hgrow : (W.alloc tmp).grownBy w1 v.ownBlock) :
    Boxed w1 B t v ∧ Boxed (w1.setCell ⟨B, 0, none⟩ v') B t v' ∧ (w1.setCell ⟨B, 0, none⟩ v').ownsRow n₀ e size v' m ys ∧ Keep S W (w1.setCell ⟨B, 0, none⟩ v') := by
  have hv1 : Boxed w1 B t v := (hv.alloc tmp).kept hgrow (hv.not_row hte hrow)
  exact ⟨hv1, hv1.set v', hown'.kept (grownBy_setCell' w1 B v') (.inr (hv1.not_row hte hown').symm), ((Keep.alloc S W tmp).trans (Keep.of_grownBy hgrow hSo)).trans (Keep.setCell _ _ _ hS)⟩
end Go.Proofs.YtniehbjoogaccaaGreatDoor
