/- The texts that these laws rest on, put together, part 1. Conditions: as each says. -/
import Derived.Lib.Hide
import Derived.Test.YtfgjcdjhaihgaaaDoorShelf
import Derived.WalkKit
import Derived.BigQuiet
import Derived.Deep.QuietTactic
import Derived.WalkSpells
import Derived.WalkLawsBesides
import Derived.Outline
import Derived.Lib.SlFresh
import Derived.Shelf.Bytes.SlSmallAll
import Derived.Shelf.Bytes.SlEqualAll
import Derived.RangeFuncNested
import Derived.RangeFuncBound
import Derived.RangeFuncCalls
import Derived.RangeFuncLeaves
import Derived.OrdersIn
import Derived.OrdersHeld
import Derived.RegionIn
import Derived.TacticsIn
import Derived.Deep.RegionHeld3
import Derived.Shelf.Abstract
import Derived.Shelf.RegionOpen
import Derived.OwnWalkIn
import Derived.TacticsInMore
import Derived.LoopNIn
import Derived.LoopIn
import Derived.Maps.AppendAt
import Derived.Maps.OwnIn
import Derived.RangeFuncBox
import Derived.Test.YtfgjcdjhaihgaaaDoorProg
import Derived.ChangeSlices
import Derived.ChangeSame
import Derived.Lib.SlBytesConst
import Derived.Lib.SmallJoins
import Derived.Laws.AppendOwnNone
import Derived.Lib.IndexMore
import Derived.Lib.AppendZerosOnto
import Derived.Laws.AppendOwn
import Derived.Shelf.Spec.DecodeRune
import Derived.Shelf.Bytes.SlTrimWalks
import Derived.Lib.IndexBytes
import Derived.Lib.IndexEntry
import Derived.Lib.IndexLaws
import Derived.Laws.RangeString
import Derived.Laws.Runes
import Derived.Deep.LoopGhost
import Derived.Lib.ConvBytes
import Derived.Laws.ResultCell
import Derived.Laws.Rows
import Derived.Deep.DeepCutAuto

namespace Go.Proofs.YtfgjcdjhaihgaaaDoor.Ref

def decB (b : UInt8) : Bool := decide (48 ≤ b.toNat ∧ b.toNat ≤ 57)
def letB (b : UInt8) : Bool := decide ((65 ≤ b.toNat ∧ b.toNat ≤ 90) ∨ (97 ≤ b.toNat ∧ b.toNat ≤ 122))
theorem decB_of (b : UInt8) : decB b = true ↔ 48 ≤ b.toNat ∧ b.toNat ≤ 57 := by simp [decB]
/-- A great letter made small. -/
def low (b : UInt8) : UInt8 := if 65 ≤ b.toNat ∧ b.toNat ≤ 90 then b + 32 else b
def lowL (l : List UInt8) : List UInt8 := l.map low
/-- The number that digits write, from n on. -/
def numGo (most : Int) : List UInt8 → Int → Option Int
  | [], n => some n
  | b :: r, n => if decB b = true ∧ (b.toNat : Int) - 48 ≤ most ∧ n ≤ (most - ((b.toNat : Int) - 48)) / 10 then numGo most r (n * 10 + ((b.toNat : Int) - 48)) else none
def numOf (most : Int) (l : List UInt8) : Option Int :=
  if l = [] ∨ (1 < l.length ∧ (l.getD 0 0).toNat = 48) then none else numGo most l 0

/-- A text put ahead of the first piece. -/
def onto (x : List UInt8) : List (List UInt8) → List (List UInt8)
  | [] => [x]
  | p :: r => (x ++ p) :: r
/-- The pieces between the bytes c. -/
def splitL (c : UInt8) : List UInt8 → List (List UInt8)
  | [] => [[]]
  | b :: r => if b = c then [] :: splitL c r else onto [b] (splitL c r)
theorem onto_ne (x : List UInt8) (l : List (List UInt8)) : onto x l ≠ [] := by cases l <;> simp [onto]
theorem split_ne (c : UInt8) (l : List UInt8) : splitL c l ≠ [] := by
  cases l with
  | nil => simp [splitL]
  | cons b r => unfold splitL; split; simp; exact onto_ne _ _
theorem split_is (c : UInt8) (r : List UInt8) : splitL c (c :: r) = [] :: splitL c r := by rw [splitL.eq_2, if_pos rfl]
theorem split_not (c b : UInt8) (r : List UInt8) (h : b ≠ c) : splitL c (b :: r) = onto [b] (splitL c r) := by rw [splitL.eq_2, if_neg h]
/-- Pieces with the byte c between them. -/
def joinL (c : UInt8) : List (List UInt8) → List UInt8
  | [] => []
  | [p] => p
  | p :: q :: r => p ++ c :: joinL c (q :: r)
theorem join_onto (c : UInt8) (x : List UInt8) (l : List (List UInt8)) : joinL c (onto x l) = x ++ joinL c l := by
  match l with
  | [] => simp [onto, joinL]
  | [p] => simp [onto, joinL]
  | p :: q :: r => simp [onto, joinL]
theorem join_nil (c : UInt8) (l : List (List UInt8)) (h : l ≠ []) : joinL c ([] :: l) = c :: joinL c l := by
  cases l with
  | nil => exact absurd rfl h
  | cons p r => rfl
theorem join_split (c : UInt8) : ∀ l : List UInt8, joinL c (splitL c l) = l
  | [] => rfl
  | b :: r => by
    by_cases h : b = c
    · subst h; rw [split_is, join_nil _ _ (split_ne b r), join_split b r]
    · rw [split_not c b r h, join_onto, join_split c r]; rfl
end Go.Proofs.YtfgjcdjhaihgaaaDoor.Ref

namespace Go.Proofs.YtfgjcdjhaihgaaaDoor.Pct

theorem u8_lt (b : UInt8) : b.toNat < 256 := b.toNat_lt
def inB (b : UInt8) (l : List UInt8) : Bool := l.contains b
def decB (b : UInt8) : Bool := decide (48 ≤ b.toNat ∧ b.toNat ≤ 57)
def letB (b : UInt8) : Bool := decide ((65 ≤ b.toNat ∧ b.toNat ≤ 90) ∨ (97 ≤ b.toNat ∧ b.toNat ≤ 122))
def hexB (b : UInt8) : Bool := decide ((48 ≤ b.toNat ∧ b.toNat ≤ 57) ∨ (65 ≤ b.toNat ∧ b.toNat ≤ 70) ∨ (97 ≤ b.toNat ∧ b.toNat ≤ 102))
def freeM : List UInt8 := [45, 46, 95, 126]
def pathM : List UInt8 := [47, 58, 64, 33, 36, 38, 39, 40, 41, 42, 43, 44, 59, 61]
def queryM : List UInt8 := [47, 58, 64, 33, 36, 38, 39, 40, 41, 42, 43, 44, 59, 61, 63]
def freeB (b : UInt8) : Bool := letB b || decB b || inB b freeM
def marksM (p : Int) : List UInt8 := if p = 1 then pathM else if p = 2 then queryM else []
def standsB (p : Int) (b : UInt8) : Bool := freeB b || inB b (marksM p)
def digs : List UInt8 := [48, 49, 50, 51, 52, 53, 54, 55, 56, 57, 65, 66, 67, 68, 69, 70]
def dg (n : Nat) : UInt8 := digs.getD n 0
/-- A byte as it is, or as a percent sign and two digits. -/
def putL (s : Bool) (b : UInt8) : List UInt8 := if s then [b] else [37, dg (b.toNat / 16), dg (b.toNat % 16)]
def worth (b : UInt8) : UInt8 := if decB b then b - 48 else if 97 ≤ b.toNat then b - 97 + 10 else b - 65 + 10
def pairV (x y : UInt8) : UInt8 := (worth x <<< 4) ||| worth y
/-- What a text stands for; each byte with whether it stood there encoded. -/
def itemsL : List UInt8 → Option (List (UInt8 × Bool))
  | [] => some []
  | b :: r => if b = 37 then (match r with
      | x :: y :: t => if hexB x && hexB y then (itemsL t).map ((pairV x y, true) :: ·) else none
      | _ => none) else (itemsL r).map ((b, false) :: ·)
def dig2 : List UInt8 → Bool
  | x :: y :: _ => hexB x && hexB y
  | _ => false
def canB (p : Int) (x : UInt8 × Bool) : Bool := freeB x.1 || (!x.2 && standsB p x.1)
def canL (p : Int) (m : List (UInt8 × Bool)) : List UInt8 := m.flatMap fun x => putL (canB p x) x.1
theorem items_nil : itemsL [] = some [] := rfl
theorem items_as (b : UInt8) (r : List UInt8) (h : b ≠ 37) : itemsL (b :: r) = (itemsL r).map ((b, false) :: ·) := by
  rw [itemsL.eq_def]; simp only [if_neg h]
theorem items_coded (x y : UInt8) (t : List UInt8) (h : hexB x = true) (h' : hexB y = true) : itemsL (37 :: x :: y :: t) = (itemsL t).map ((pairV x y, true) :: ·) := by
  rw [itemsL.eq_def]; simp [h, h']
theorem items_bad (r : List UInt8) (h : dig2 r = false) : itemsL (37 :: r) = none := by
  rw [itemsL.eq_def]
  match r with
  | [] => rfl
  | [_] => rfl
  | x :: y :: t => unfold dig2 at h; simp [h]

theorem dig2_cons (r : List UInt8) (h : dig2 r = true) : ∃ x y t, r = x :: y :: t ∧ hexB x = true ∧ hexB y = true := by
  match r, h with
  | x :: y :: t, h => unfold dig2 at h; rw [Bool.and_eq_true] at h; exact ⟨x, y, t, rfl, h.1, h.2⟩
end Go.Proofs.YtfgjcdjhaihgaaaDoor.Pct

namespace Go.Proofs.YtfgjcdjhaihgaaaDoor
open Go.RowKit

/-- A great letter made small. -/
def low (b : UInt8) : UInt8 := if 65 ≤ b.toNat ∧ b.toNat ≤ 90 then b + 32 else b
def digitB (b : UInt8) : Bool := decide (48 ≤ b.toNat ∧ b.toNat ≤ 57)
def blankB (b : UInt8) : Bool := decide (b.toNat = 32 ∨ b.toNat = 9)

theorem u8_lt (b : UInt8) : b.toNat < 256 := b.toNat_lt
theorem low_hi (b : UInt8) (h1 : 65 ≤ b.toNat) (h2 : b.toNat ≤ 90) : (((low b).toNat : Nat) : Int) = (b.toNat : Int) + 32 := by
  unfold low
  rw [if_pos ⟨h1, h2⟩, UInt8.toNat_add]
  have : (32 : UInt8).toNat = 32 := rfl
  rw [this]
  omega
theorem low_lo (b : UInt8) (h : ¬ (65 ≤ b.toNat ∧ b.toNat ≤ 90)) : low b = b := by
  unfold low
  rw [if_neg h]

theorem lowerByte_any (b : UInt8) (w : World) :
    Calls Tryd.prog 43 #[.int .u8 (b.toNat : Int)] w fun e w' => e = .returned (.int .u8 ((low b).toNat : Int)) ∧ w = w' := by
  have hb := u8_lt b
  by_cases h1 : 65 ≤ b.toNat
  · by_cases h2 : b.toNat ≤ 90
    · have H := Lib.hid (low_hi b h1 h2)
      have d1 : decide ((65 : Int) ≤ (b.toNat : Int)) = true := by simp; omega
      have d2 : decide ((b.toNat : Int) ≤ (90 : Int)) = true := by simp; omega
      go_enter Tryd.func43, Tryd.ntmps43
      go_wp2
      go_ret
      exact ⟨(by rw [H.out]; try rfl), rfl⟩
    · have H := Lib.hid (low_lo b (by omega))
      have d2 : decide ((b.toNat : Int) ≤ (90 : Int)) = false := by simp; omega
      go_enter Tryd.func43, Tryd.ntmps43
      go_wp2
      go_ret
      exact ⟨(by rw [H.out]; try rfl), rfl⟩
  · have H := Lib.hid (low_lo b (by omega))
    have d1 : decide ((65 : Int) ≤ (b.toNat : Int)) = false := by simp; omega
    go_enter Tryd.func43, Tryd.ntmps43
    go_wp2
    go_ret
    exact ⟨(by rw [H.out]; try rfl), rfl⟩

theorem isDigit_any (b : UInt8) (w : World) :
    Calls Tryd.prog 60 #[.int .u8 (b.toNat : Int)] w fun e w' => e = .returned (.bool (digitB b)) ∧ w = w' := by
  have hb := u8_lt b
  by_cases h1 : 48 ≤ b.toNat
  · by_cases h2 : b.toNat ≤ 57
    · have H := Lib.hid (show digitB b = true by simp [digitB]; omega)
      have d1 : decide ((48 : Int) ≤ (b.toNat : Int)) = true := by simp; omega
      have d2 : decide ((b.toNat : Int) ≤ (57 : Int)) = true := by simp; omega
      go_enter Tryd.func60, Tryd.ntmps60
      go_wp2
      go_ret
      exact ⟨(by rw [H.out]; try rfl), rfl⟩
    · have H := Lib.hid (show digitB b = false by simp [digitB]; omega)
      have d2 : decide ((b.toNat : Int) ≤ (57 : Int)) = false := by simp; omega
      go_enter Tryd.func60, Tryd.ntmps60
      go_wp2
      go_ret
      exact ⟨(by rw [H.out]; try rfl), rfl⟩
  · have H := Lib.hid (show digitB b = false by simp [digitB]; omega)
    have d1 : decide ((48 : Int) ≤ (b.toNat : Int)) = false := by simp; omega
    go_enter Tryd.func60, Tryd.ntmps60
    go_wp2
    go_ret
    exact ⟨(by rw [H.out]; try rfl), rfl⟩

end Go.Proofs.YtfgjcdjhaihgaaaDoor

namespace Go.Proofs.YtfgjcdjhaihgaaaDoor
open Go.RowKit

/-- What lies in the blocks of S stays as it lay. -/
structure Keep (S : Nat → Prop) (w w' : World) : Prop where
  os : w'.os = w.os
  tape : w'.tape = w.tape
  output : w'.output = w.output
  size : w.heap.size ≤ w'.heap.size
  block : ∀ k, k < w.heap.size → S k → w'.heap[k]? = w.heap[k]?

theorem Keep.refl (S : Nat → Prop) (w : World) : Keep S w w := ⟨rfl, rfl, rfl, Nat.le_refl _, fun _ _ _ => rfl⟩
theorem Keep.trans {S : Nat → Prop} {a b c : World} (h : Keep S a b) (k : Keep S b c) : Keep S a c :=
  ⟨k.os.trans h.os, k.tape.trans h.tape, k.output.trans h.output, Nat.le_trans h.size k.size, fun i hi hs => (k.block i (Nat.lt_of_lt_of_le hi h.size) hs).trans (h.block i hi hs)⟩
theorem Keep.mono {S T : Nat → Prop} {a b : World} (h : Keep S a b) (ht : ∀ k, k < a.heap.size → T k → S k) : Keep T a b :=
  ⟨h.os, h.tape, h.output, h.size, fun i hi hs => h.block i hi (ht i hi hs)⟩
theorem Keep.of_grownBy {S : Nat → Prop} {a b : World} {row : Option Nat} (hg : a.grownBy b row) (hr : ∀ r, row = some r → ¬ S r) : Keep S a b :=
  ⟨hg.os, hg.tape, hg.output, hg.size, fun i hi hs => hg.block i hi (fun e => hr i e.symm hs)⟩
theorem Keep.alloc (S : Nat → Prop) (w : World) (o : Obj) : Keep S w (w.alloc o) := .of_grownBy (World.grownBy_alloc w o none) (by simp)
theorem Keep.putObj {S : Nat → Prop} (w : World) (l : Nat) (o : Obj) (hl : ¬ S l) : Keep S w (w.putObj l o) := .of_grownBy (grownBy_putObj' w l o) (fun r e => by cases e; exact hl)
theorem Keep.setCell {S : Nat → Prop} (w : World) (p : Addr) (v : Value) (hl : ¬ S p.block) : Keep S w (w.setCell p v) :=
  ⟨rfl, rfl, rfl, (KeepsWalks.setCell w _ v).size, fun k _ hk => Below.heap_setCell _ _ _ k (fun e => hl (e ▸ hk))⟩
theorem Keep.drew (S : Nat → Prop) (w : World) : Keep S w w.drew := ⟨rfl, rfl, rfl, Nat.le_refl _, fun _ _ _ => rfl⟩
theorem Keep.of_below {B : Nat} {a b : World} (h : Below B a b) : Keep (· < B) a b := ⟨h.os, h.tape, h.output, h.size, fun k _ hk => h.block k hk⟩
theorem Keep.below {B : Nat} {a b : World} (h : Keep (· < B) a b) (hB : B ≤ a.heap.size) : Below B a b := ⟨h.os, h.tape, h.output, h.size, fun k hk => h.block k (by omega) hk⟩
theorem Keep.heap {S : Nat → Prop} {a b : World} (h : Keep S a b) {k : Nat} {o : Obj} (hs : S k) (ho : a.heap[k]? = some o) : b.heap[k]? = some o :=
  (h.block k (Array.getElem?_eq_some_iff.1 ho).1 hs).trans ho
theorem Keep.boxed {S : Nat → Prop} {a b : World} (h : Keep S a b) {k : Nat} {t : TypeId} {v : Value} (ho : Boxed a k t v) (hs : S k) : Boxed b k t v := h.heap hs ho
theorem Keep.row {S : Nat → Prop} {a b : World} (h : Keep S a b) {base : Nat} {e : TypeId} {size : Nat} {v : Value} {n : Nat} {xs : List Value} (ho : a.ownsRow base e size v n xs) (hs : ∀ k, v.ownBlock = some k → S k) :
    b.ownsRow base e size v n xs := by
  refine ⟨ho.1, ?_⟩
  rcases ho.2 with hn | ⟨g, cap, cur, rfl, hb, hgg, rest⟩
  · exact .inl hn
  · exact .inr ⟨g, cap, cur, rfl, hb, h.heap (hs g rfl) hgg, rest⟩

/-- The invariant does not mind what the other party does to the blocks Pv that are its own; what is new may become its own. -/
def Abide {β : Type} (J : β → (Nat → Prop) → World → Prop) : Prop :=
  ∀ s Pv Pv' A B, J s Pv A → Keep (fun b => ¬ Pv b) A B → (∀ b, Pv' b → (Pv b ∨ A.heap.size ≤ b) ∧ b < B.heap.size) → J s Pv' B

/-- One round of the loop with record l, as the iterator may ask for it. -/
def Rounds (P : Program) (l : Nat) {α : Type} (Arg : α → Array Value → (Nat → Prop) → World → Prop) (xs : List α) (RB : Nat → Prop) (J Jx : List α → (Nat → Prop) → World → Prop) : Prop :=
  ∀ pre x rest Pv G args W, xs = pre ++ x :: rest → J pre Pv W → (∀ b, Pv b → b < W.heap.size) → Arg x args G W → (∀ b, G b → Pv b) →
    YieldAt Fence.wide 0 P l args W fun e W' => Keep (fun b => RB b ∨ (Pv b ∧ ¬ G b)) W W' ∧
      ((e = .returned (.bool true) ∧ J (pre ++ [x]) (fun b => Pv b ∧ ¬ G b) W') ∨ (e = .returned (.bool false) ∧ Jx (pre ++ [x]) (fun b => Pv b ∧ ¬ G b) W'))

/-- The value (gf, lb) is an iterator that tells xs, while the blocks of RB lie as in w0. -/
def IterC (P : Program) (gf : Nat) (lb : Array Value) {α : Type} (Arg : α → Array Value → (Nat → Prop) → World → Prop) (xs : List α) (RB : Nat → Prop) (w0 : World) : Prop :=
  ∀ (l : Nat) (J Jx : List α → (Nat → Prop) → World → Prop) (W : World), Keep RB w0 W → Abide J → Abide Jx → Rounds P l Arg xs RB J Jx → J [] (fun _ => False) W →
    Calls P gf (#[.func (.yield l) #[] #[]] ++ lb) W fun e W' => (∃ v, e = .returned v) ∧ ∃ Pv, (∀ b, Pv b → b < W'.heap.size) ∧ (J xs Pv W' ∨ ∃ pre rest, xs = pre ++ rest ∧ Jx pre Pv W')

/-- How a round's body may be left. -/
def bodyPostR {α : Type} (S : Nat → Prop) (I : List α → (Nat → Prop) → World → Prop) (Ix : Code → List α → (Nat → Prop) → World → Prop) (pre : List α) (Pv : Nat → Prop) (W : World) : Exit → Act → World → Prop
  | .normal, _, W' => Keep S W W' ∧ I pre Pv W'
  | .ret, _, W' => Keep S W W' ∧ Ix .ret pre Pv W'
  | .exit id, _, W' => Keep S W W' ∧ Ix (.exit id) pre Pv W'
  | .goto t, _, W' => Keep S W W' ∧ Ix (.goto t) pre Pv W'
  | .panic _, _, _ => False
  | .outgrown, _, _ => False

/-- The party whose record lies at l: between two rounds. -/
def recI {α : Type} (l D : Nat) (r : Loop) (I : List α → (Nat → Prop) → World → Prop) (pre : List α) (Pv : Nat → Prop) (W : World) : Prop :=
  I pre (fun b => Pv b ∨ b = l ∨ b = D) W ∧ ¬ Pv l ∧ ¬ Pv D ∧ W.heap[l]? = some (.loop r) ∧ W.heap[D]? = some (.deferred (some []))

theorem recI_abide {α : Type} {l D : Nat} {r : Loop} {I : List α → (Nat → Prop) → World → Prop} (hI : Abide I) : Abide (recI l D r I) := by
  rintro s Pv Pv' A B ⟨h1, h2, h3, h4, h5⟩ hk hp
  have hl := (Array.getElem?_eq_some_iff.1 h4).1
  have hD := (Array.getElem?_eq_some_iff.1 h5).1
  have hs := hk.size
  refine ⟨hI s _ _ A B h1 (hk.mono fun k _ hn hp => hn (.inl hp)) ?_, fun h => ?_, fun h => ?_, hk.heap h2 h4, hk.heap h3 h5⟩
  · rintro b (hb | rfl | rfl)
    · obtain ⟨h | h, h'⟩ := hp b hb
      · exact ⟨.inl (.inl h), h'⟩
      · exact ⟨.inr h, h'⟩
    · exact ⟨.inl (.inr (.inl rfl)), by omega⟩
    · exact ⟨.inl (.inr (.inr rfl)), by omega⟩
  · obtain ⟨h | h, _⟩ := hp _ h
    · exact h2 h
    · omega
  · obtain ⟨h | h, _⟩ := hp _ h
    · exact h3 h
    · omega

/-- 'for .. := range g { body }', outermost. -/
theorem rf_law {P : Program} {α : Type} {g : Operand} {ps : Array Tmp} {assign body : Code} {Q : Exit → Act → World → Prop} {a : Act} {w : World} {n : Nat}
    {gf : Nat} {lb : Array Value} (hg : a.eval g = .func (.func gf) #[] lb) (eg : ∀ args w, (callFunc gf args).run P w = .ok (.enter gf args) w)
    {Arg : α → Array Value → (Nat → Prop) → World → Prop} {xs : List α} {RB : Nat → Prop} {w0 : World} (hiter : IterC P gf lb Arg xs RB w0) (hb0 : Keep RB w0 w) (hRB : ∀ b, RB b → b < w.heap.size)
    (hps : ∀ x args G W, Arg x args G W → args.size = ps.size)
    (I : List α → (Nat → Prop) → World → Prop) (Ix : Code → List α → (Nat → Prop) → World → Prop) (hI : Abide I) (hIx : ∀ c, Abide (Ix c)) (h0 : I [] (fun _ => False) w)
    (hround : ∀ (l : Nat) (pre : List α) (x : α) (rest : List α) (Pv G : Nat → Prop) (args : Array Value) (W : World), w.heap.size ≤ l → xs = pre ++ x :: rest → I pre Pv W → Pv l → ¬ G l → (∀ b, Pv b → b < W.heap.size) → (∀ b, G b → Pv b) → Arg x args G W →
      assign.wpIn (Fence.wide.inRound l) 0 P (Exit.then (fun a₁ W₁ => Keep (fun b => RB b ∨ Pv b) W W₁ ∧ ∀ W₂, Keep (fun b => b ≠ l) W₁ W₂ → W₂.heap.size = W₁.heap.size → (∃ r, W₂.heap[l]? = some (.loop r)) →
          body.wpIn (Fence.wide.inRound l) 0 P (bodyPostR (fun b => RB b ∨ (Pv b ∧ ¬ G b)) I Ix (pre ++ [x]) (fun b => Pv b ∧ ¬ G b) W₂) a₁ W₂) (fun _ _ _ => False))
        { tmps := (ps.zip args).foldl (fun t (p, v) => t.setIfInBounds p v) a.tmps, defers := [] } W)
    (hdone : ∀ (D : Nat) (Pv : Nat → Prop) (W : World), w.heap.size ≤ D → Pv D → (∀ b, Pv b → b < W.heap.size) → I xs Pv W → W.heap[D]? = some (.deferred (some [])) → Q .normal { a with defers := { target := .collected D, args := #[] } :: a.defers } W)
    (hstop : ∀ (D : Nat) (c : Code) (pre rest : List α) (Pv : Nat → Prop) (W : World), w.heap.size ≤ D → Pv D → (∀ b, Pv b → b < W.heap.size) → xs = pre ++ rest → Ix c pre Pv W → W.heap[D]? = some (.deferred (some [])) → c.wpIn Fence.wide n P Q { a with defers := { target := .collected D, args := #[] } :: a.defers } W) :
    (Code.rangeFunc g ps assign body).wpIn Fence.wide n P Q a w := by
  refine wpIn_rangeFunc ?_
  intro fn hfn
  obtain ⟨rec, hrec⟩ : ∃ rec : LoopState → Option Code → Loop, rec = fun st pe => { state := st, pending := pe, fn, tmps := a.tmps, params := ps, assign, body, defers := w.heap.size } := ⟨_, rfl⟩
  obtain ⟨W1, hW1⟩ : ∃ W1, (w.alloc (.deferred (some []))).alloc (.loop (rec .ready none)) = W1 := ⟨_, rfl⟩
  have hL1 : W1.heap[w.heap.size + 1]? = some (.loop (rec .ready none)) := by
    rw [← hW1]; have := World.alloc_heap_new (w.alloc (.deferred (some []))) (.loop (rec .ready none)); rwa [World.size_alloc] at this
  have hK1 : W1.heap[w.heap.size]? = some (.deferred (some [])) := by
    rw [← hW1]; exact (Below.heap_alloc _ _ _ (by simp)).trans (World.alloc_heap_new w _)
  have hsz1 : W1.heap.size = w.heap.size + 2 := by rw [← hW1]; simp
  have hkw : ∀ S, Keep S w W1 := fun S => by rw [← hW1]; exact (Keep.alloc S w _).trans (Keep.alloc S _ _)
  have hI1 : I [] (fun b => False ∨ b = w.heap.size + 1 ∨ b = w.heap.size) W1 := hI _ _ _ _ _ h0 (hkw _) (fun b hb => by rcases hb with h | rfl | rfl; exact h.elim; exact ⟨.inr (by omega), by omega⟩; exact ⟨.inr (by omega), by omega⟩)
  refine ⟨w.heap.size + 1, [{ target := .collected w.heap.size, args := #[] }], W1, { target := .fn (.func gf) lb, args := #[.func (.yield (w.heap.size + 1)) #[] #[]] }, W1, gf,
    #[.func (.yield (w.heap.size + 1)) #[] #[]] ++ lb, W1, ?_, ?_, ?_, ?_, ?_, ?_⟩
  · rw [← hW1, hrec]; exact run_enterLoop_outer _ _ _ _ _
  · simp only [resolve, hg]
    simp [go_sem]
  · intro f' _; trivial
  · simp [invoke, go_sem, eg]
  · intro h; simp [Fence.wide] at h
  · refine (callsIn_wide.2 (hiter (w.heap.size + 1) (recI (w.heap.size + 1) w.heap.size (rec .ready none) I)
      (fun pre Pv W => ∃ c, recI (w.heap.size + 1) w.heap.size (rec .done (some c)) (Ix c) pre Pv W)
      W1 (hb0.trans (hkw _)) (recI_abide hI) ?_ ?_ ⟨hI1, by simp, by simp, hL1, hK1⟩)).mono ?_
    · rintro s Pv Pv' A B ⟨c, hc⟩ hk hp
      exact ⟨c, recI_abide (hIx c) s Pv Pv' A B hc hk hp⟩
    · -- a round
      rintro pre x rest Pv G args W hxs ⟨hi, hnl, hnD, hl, hD⟩ hPv hArg hG
      have hlt : w.heap.size + 1 < W.heap.size := (Array.getElem?_eq_some_iff.1 hl).1
      have hDlt : w.heap.size < W.heap.size := (Array.getElem?_eq_some_iff.1 hD).1
      have hy := run_yield (P := P) (args := args) hl (by rw [hrec]; exact hps x args G W hArg)
      rw [hrec] at hy
      have hGl : ¬ G (w.heap.size + 1) := fun h => hnl (hG _ h)
      have hGD : ¬ G w.heap.size := fun h => hnD (hG _ h)
      have hrb : ∀ b, RB b → b ≠ w.heap.size + 1 ∧ b ≠ w.heap.size := fun b hb => by have := hRB b hb; omega
      refine ⟨fn, _, assign, body, hy, roundIn_of_wpIn hfn ?_⟩
      refine wpIn_mono ((hround (w.heap.size + 1) pre x rest (fun b => Pv b ∨ b = w.heap.size + 1 ∨ b = w.heap.size) G args W (by omega) hxs hi (.inr (.inl rfl)) hGl
        (fun b hb => by rcases hb with hb | rfl | rfl; exact hPv b hb; omega; omega) (fun b hb => .inl (hG b hb)) hArg)) ?_
      rintro e a₁ W₁ hp
      cases e with
      | normal =>
        obtain ⟨hk1, hbody⟩ := hp
        have hl1 : W₁.heap[w.heap.size + 1]? = some (.loop (rec .ready none)) := hk1.heap (.inr (.inr (.inl rfl))) hl
        have hD1 : W₁.heap[w.heap.size]? = some (.deferred (some [])) := hk1.heap (.inr (.inr (.inr rfl))) hD
        have hlt1 : w.heap.size + 1 < W₁.heap.size := (Array.getElem?_eq_some_iff.1 hl1).1
        refine ⟨_, run_beginRound hl1 (by rw [hrec]), ?_⟩
        obtain ⟨W₂, hW2⟩ : ∃ W₂, W₁.putObj (w.heap.size + 1) (.loop { rec .ready none with state := .busy }) = W₂ := ⟨_, rfl⟩
        have hk12 : Keep (fun b => b ≠ w.heap.size + 1) W₁ W₂ := by rw [← hW2]; exact Keep.putObj _ _ _ (by simp)
        have hs12 : W₂.heap.size = W₁.heap.size := by rw [← hW2]; simp
        have hl2 : W₂.heap[w.heap.size + 1]? = some (.loop { rec .ready none with state := .busy }) := by rw [← hW2]; exact World.putObj_heap_same hlt1
        have hD2 : W₂.heap[w.heap.size]? = some (.deferred (some [])) := hk12.heap (by omega) hD1
        rw [hW2]
        refine wpIn_mono (hbody W₂ hk12 hs12 ⟨_, hl2⟩) ?_
        have fin : ∀ (jump : Option Code) (W3 : World), Keep (fun b => RB b ∨ ((Pv b ∨ b = w.heap.size + 1 ∨ b = w.heap.size) ∧ ¬ G b)) W₂ W3 →
            ∃ W4, (Instr.endRound (w.heap.size + 1) jump).run P W3 = .ok (.bool jump.isNone) W4 ∧ W4.heap.size = W3.heap.size ∧
              Keep (fun b => RB b ∨ (Pv b ∧ ¬ G b)) W W4 ∧ Keep (fun b => b ≠ w.heap.size + 1) W3 W4 ∧
              W4.heap[w.heap.size + 1]? = some (.loop (rec (if jump.isNone then .ready else .done) jump)) ∧ W4.heap[w.heap.size]? = some (.deferred (some [])) := fun jump W3 hk3 => by
          have hl3 : W3.heap[w.heap.size + 1]? = some (.loop { rec .ready none with state := .busy }) := hk3.heap (.inr ⟨.inr (.inl rfl), hGl⟩) hl2
          have hD3 : W3.heap[w.heap.size]? = some (.deferred (some [])) := hk3.heap (.inr ⟨.inr (.inr rfl), hGD⟩) hD2
          have he := run_endRound (P := P) jump hl3
          have k34 : ∀ o, Keep (fun b => b ≠ w.heap.size + 1) W3 (W3.putObj (w.heap.size + 1) o) := fun o => Keep.putObj _ _ _ (by simp)
          refine ⟨_, he, by simp, ?_, k34 _, ?_, (k34 _).heap (by omega) hD3⟩
          · refine (hk1.mono ?_).trans ((hk12.mono ?_).trans ((hk3.mono ?_).trans ((k34 _).mono ?_)))
            · rintro k _ (h | h)
              · exact .inl h
              · exact .inr (.inl h.1)
            · rintro k _ (h | h)
              · exact (hrb k h).1
              · rintro rfl; exact hnl h.1
            · rintro k _ (h | h)
              · exact .inl h
              · exact .inr ⟨.inl h.1, h.2⟩
            · rintro k _ (h | h)
              · exact (hrb k h).1
              · rintro rfl; exact hnl h.1
          · have := World.putObj_heap_same (o := .loop (rec (if jump.isNone then .ready else .done) jump)) (Array.getElem?_eq_some_iff.1 hl3).1
            rw [hrec] at this ⊢
            exact this
        -- the invariant across endRound
        have tr : ∀ (I' : List α → (Nat → Prop) → World → Prop) (W3 W4 : World), Abide I' → Keep (fun b => b ≠ w.heap.size + 1) W3 W4 → W4.heap.size = W3.heap.size → W.heap.size ≤ W3.heap.size →
            I' (pre ++ [x]) (fun b => (Pv b ∨ b = w.heap.size + 1 ∨ b = w.heap.size) ∧ ¬ G b) W3 → I' (pre ++ [x]) (fun b => (Pv b ∧ ¬ G b) ∨ b = w.heap.size + 1 ∨ b = w.heap.size) W4 := fun I' W3 W4 hI' hk hs hs' h => by
          refine hI' _ _ _ _ _ h (hk.mono ?_) ?_
          · rintro k _ hn rfl; exact hn ⟨.inr (.inl rfl), hGl⟩
          · rintro b (⟨h1, h2⟩ | rfl | rfl)
            · exact ⟨.inl ⟨.inl h1, h2⟩, by have := hPv b h1; omega⟩
            · exact ⟨.inl ⟨.inr (.inl rfl), hGl⟩, by omega⟩
            · exact ⟨.inl ⟨.inr (.inr rfl), hGD⟩, by omega⟩
        have hsz : W.heap.size ≤ W₂.heap.size := by have := hk1.size; omega
        rintro e a3 W3 hp
        cases e with
        | normal =>
          obtain ⟨hk3, hi3⟩ := hp
          obtain ⟨W4, he, hs4, hk4, hk34, hl4, hD4⟩ := fin none W3 hk3
          exact ⟨_, _, he, hk4, .inl ⟨rfl, tr I W3 W4 hI hk34 hs4 (by have := hk3.size; omega) hi3, fun h => hnl h.1, fun h => hnD h.1, hl4, hD4⟩⟩
        | ret =>
          obtain ⟨hk3, hi3⟩ := hp
          obtain ⟨W4, he, hs4, hk4, hk34, hl4, hD4⟩ := fin (some .ret) W3 hk3
          exact ⟨_, _, he, hk4, .inr ⟨rfl, .ret, tr (Ix .ret) W3 W4 (hIx _) hk34 hs4 (by have := hk3.size; omega) hi3, fun h => hnl h.1, fun h => hnD h.1, hl4, hD4⟩⟩
        | exit id =>
          obtain ⟨hk3, hi3⟩ := hp
          obtain ⟨W4, he, hs4, hk4, hk34, hl4, hD4⟩ := fin (some (.exit id)) W3 hk3
          exact ⟨_, _, he, hk4, .inr ⟨rfl, .exit id, tr (Ix (.exit id)) W3 W4 (hIx _) hk34 hs4 (by have := hk3.size; omega) hi3, fun h => hnl h.1, fun h => hnD h.1, hl4, hD4⟩⟩
        | goto t =>
          obtain ⟨hk3, hi3⟩ := hp
          obtain ⟨W4, he, hs4, hk4, hk34, hl4, hD4⟩ := fin (some (.goto t)) W3 hk3
          exact ⟨_, _, he, hk4, .inr ⟨rfl, .goto t, tr (Ix (.goto t)) W3 W4 (hIx _) hk34 hs4 (by have := hk3.size; omega) hi3, fun h => hnl h.1, fun h => hnD h.1, hl4, hD4⟩⟩
        | panic ch => exact hp.elim
        | outgrown => exact hp.elim
      | exit id => exact hp.elim
      | goto id => exact hp.elim
      | ret => exact hp.elim
      | panic ch => exact hp.elim
      | outgrown => exact hp.elim
    · -- behind the iterator
      rintro e W2 ⟨⟨v, rfl⟩, Pv, hPv, (⟨hi, hnl, hnD, hl, hD⟩ | ⟨pre, rest, hxs, c, hi, hnl, hnD, hl, hD⟩)⟩
      all_goals
        have hlt : w.heap.size + 1 < W2.heap.size := (Array.getElem?_eq_some_iff.1 hl).1
        have kk : ∀ o, Keep (fun b => b ≠ w.heap.size + 1) W2 (W2.putObj (w.heap.size + 1) o) := fun o => Keep.putObj _ _ _ (by simp)
        have hP' : ∀ o b, (Pv b ∨ b = w.heap.size + 1 ∨ b = w.heap.size) → b < (W2.putObj (w.heap.size + 1) o).heap.size := fun o b hb => by
          rw [World.putObj_size]; rcases hb with hb | rfl | rfl; exact hPv b hb; omega; omega
      · refine ⟨none, _, by have := run_endLoop (P := P) hl (by rw [hrec]; simp); rw [hrec] at this; exact this, ?_⟩
        exact hdone w.heap.size (fun b => Pv b ∨ b = w.heap.size + 1 ∨ b = w.heap.size) _ (Nat.le_refl _) (.inr (.inr rfl)) (hP' _)
          (hI _ _ _ _ _ hi ((kk _).mono (by rintro k _ hn rfl; exact hn (.inr (.inl rfl)))) (fun b hb => ⟨.inl hb, hP' _ b hb⟩)) ((kk _).heap (by omega) hD)
      · refine ⟨some c, _, by have := run_endLoop (P := P) hl (by rw [hrec]; simp); rw [hrec] at this; exact this, ?_⟩
        exact hstop w.heap.size c pre rest (fun b => Pv b ∨ b = w.heap.size + 1 ∨ b = w.heap.size) _ (Nat.le_refl _) (.inr (.inr rfl)) (hP' _) hxs
          (hIx c _ _ _ _ _ hi ((kk _).mono (by rintro k _ hn rfl; exact hn (.inr (.inl rfl)))) (fun b hb => ⟨.inl hb, hP' _ b hb⟩)) ((kk _).heap (by omega) hD)

end Go.Proofs.YtfgjcdjhaihgaaaDoor

namespace Go.Proofs.YtfgjcdjhaihgaaaDoor
open Go
variable {F : Fence} {n : Nat} {P : Program} {ops : Array Oper} {Q : Exit → Act → World → Prop} {md : Region.Mode} {S : World → Prop}

theorem semAt_exec (o : Oper) (h : ∀ c, o.op ≠ .defer c) (r : Option Nat) (ρ : Operand → Value) : o.semAt r ρ = execOp ρ o := by
  cases r with
  | none => exact Oper.semAt_none _ _
  | some l => exact Oper.semAt_some l ρ o h

/-- It yields v where S holds, and makes no call. -/
def Yld (P : Program) (ops : Array Oper) (S : World → Prop) (o : Oper) (v : Value) (a : Act) : Prop := YieldsIf P ops S o v a ∧ ∀ w, o.about P w a.eval = none

theorem Yld.op {i : Nat} {o : Oper} {v : Value} {a : Act} (hi : ops[i]? = some o) (hd : ∀ c, o.op ≠ .defer c) (hy : Yld P ops S o v a)
    {K : Act → World → Prop} {w : World} (hS : S w) (h : K (a.put o.dst v) w) : wpOpIn F n P ops Q i K a w := by
  unfold wpOpIn
  simp only [hi]
  have hab : ∀ f, o.about P w a.eval = some f → F.fn f := fun f hf => by rw [hy.2 w] at hf; cases hf
  rcases hy.1 with ⟨hw, hv⟩ | ⟨hw, rfl⟩
  · simp only [hw, if_true, Oper.wpIn, semAt_exec o hd, hv w hS, Oper.uponIn]; exact ⟨hab, h⟩
  · simp only [hw, Bool.false_eq_true, if_false]; exact ⟨hab, h⟩

/-- Q, but nothing at a panic. -/
def NP (Q : Exit → Act → World → Prop) : Exit → Act → World → Prop
  | .panic _, _, _ => False
  | e, a, w => Q e a w
theorem NP.imp {Q : Exit → Act → World → Prop} : ∀ (e : Exit) (a : Act) (w : World), NP Q e a w → Q e a w := fun e a w h => by
  cases e <;> first | exact h | exact (h : False).elim

theorem drew_size (w : World) : w.drew.heap.size = w.heap.size := rfl

end Go.Proofs.YtfgjcdjhaihgaaaDoor

namespace Go.Proofs.YtfgjcdjhaihgaaaDoor
open Go
variable {P : Program} {ops : Array Oper} {Q : Exit → Act → World → Prop} {md : Region.Mode} {S : World → Prop}

/-- The beginning; the region does not panic. -/
theorem pregion_any {id : Nat} {a : Act} {w : World} (S : World → Prop) (hm : P.follows .mixedOrders = true)
    (h : wpAnyH P .any ops (NoPanic Q) S ops.size (Array.replicate ops.size false) a w.drew) : (Code.region id ops true).wp P Q a w :=
  Code.wp_mono NoPanic.imp (wp_region_held hm h)

/-- Number i alone may come up. -/
theorem pone (i : Nat) {fuel : Nat} {listed : Array Bool} {a : Act} {w : World} {o : Oper} (hr : Region.ready md ops listed = [i]) (ho : ops[i]? = some o)
    (h : ∀ K : Act → World → Prop, (∀ a' w', S w' → wpAnyH P md ops Q S fuel (listed.setIfInBounds i true) a' w' → K a' w') →
      if Region.wanted o (yielded ops a.tmps) = true then Oper.wp P o a w K Q else K (a.put o.dst undef) w) : wpAnyH P md ops Q S (fuel + 1) listed a w :=
  wpAnyH_all hr (by simp) (AllReadyH.cons ho (fun K hK => h K fun a' w' hs ha => hK.out a' w' hs fun _ => ha) AllReadyH.nil)

/-- All have come up. -/
theorem pdone {listed : Array Bool} {a : Act} {w : World} (hr : Region.ready md ops listed = []) (h : Q .normal a w) : ∀ fuel, wpAnyH P md ops (NoPanic Q) S fuel listed a w :=
  wpAnyH_done hr h

/-- What has come up, as a literal. -/
theorem plist (L : Array Bool) {fuel : Nat} {listed : Array Bool} {a : Act} {w : World} (he : listed = L) (h : wpAnyH P md ops Q S fuel L a w) : wpAnyH P md ops Q S fuel listed a w := he ▸ h

/-- More may be asked of each world from here on. -/
theorem pmore {S' : World → Prop} (hs : ∀ w, S' w → S w) : ∀ {fuel : Nat} {listed : Array Bool} {a : Act} {w : World}, wpAnyH P md ops Q S' fuel listed a w → wpAnyH P md ops Q S fuel listed a w
  | 0, _, _, _, h => h
  | _ + 1, _, _, _, h => ⟨h.1, fun i hi => wpOp_mono (fun _ w' h' => ⟨hs w' h'.1, pmore hs h'.2⟩) (h.2 i hi)⟩

end Go.Proofs.YtfgjcdjhaihgaaaDoor

namespace Go.Proofs.YtfgjcdjhaihgaaaDoor.Host

def hostByte (b : UInt8) : Bool := Ref.letB b || Ref.decB b || b == 45
def partB (p : List UInt8) : Bool := !p.isEmpty && decide (p.length ≤ 63) && p.getD 0 0 != 45 && p.getD (p.length - 1) 0 != 45 && p.all hostByte
def addrB (l : List (List UInt8)) : Bool := decide (l.length = 4) && l.all fun p => (Ref.numOf 255 p).isSome
def hostB (l : List (List UInt8)) : Bool := decide (l.length ≤ 8) && l.all partB && (!Ref.decB ((l.getLastD []).getD 0 0) || addrB l)
/-- The error's number at a text: 0: it is a host. -/
def parseE (t : List UInt8) : Int := if 253 < t.length then 3 else if hostB (Ref.splitL 46 t) then 0 else 2
/-- What stands behind the first byte c. -/
def tailL (c : UInt8) : List UInt8 → Option (List UInt8)
  | [] => none
  | b :: r => if b = c then some r else tailL c r
end Go.Proofs.YtfgjcdjhaihgaaaDoor.Host

namespace Go.Proofs.YtfgjcdjhaihgaaaDoor
open Go.RowKit

theorem drop_cons (l : List UInt8) (k : Nat) (h : k < l.length) : l.drop k = l.getD k 0 :: l.drop (k + 1) := by
  rw [List.drop_eq_getElem_cons h]
  simp [List.getD, List.getElem?_eq_getElem h]
theorem digitB_of (b : UInt8) : digitB b = true ↔ 48 ≤ b.toNat ∧ b.toNat ≤ 57 := by simp [digitB]
theorem numsL_getD (l : List UInt8) (i : Nat) (h : i < l.length) : (Lib.numsL l).getD i 0 = ((l.getD i 0).toNat : Int) := by
  simp [Lib.numsL, List.getD, List.getElem?_eq_getElem h]

end Go.Proofs.YtfgjcdjhaihgaaaDoor

namespace Go.Proofs.YtfgjcdjhaihgaaaDoor
open Go
variable {P : Program} {ops : Array Oper} {Q : Exit → Act → World → Prop} {md : Region.Mode} {S0 : World → Prop} {nd : Nat → Bool}

/-- As wpAnyH, but the condition holds behind those operations alone that nd names. -/
def anyQ (P : Program) (md : Region.Mode) (ops : Array Oper) (Q : Exit → Act → World → Prop) (nd : Nat → Bool) (S0 : World → Prop) : Nat → Array Bool → Act → World → Prop
  | 0, listed, a, w => Region.ready md ops listed = [] ∧ Q .normal a w
  | fuel + 1, listed, a, w => (Region.ready md ops listed = [] → Q .normal a w) ∧
    ∀ i ∈ Region.ready md ops listed, wpOp P ops Q i (fun a' w' => (nd i = true → S0 w') ∧ anyQ P md ops Q nd S0 fuel (listed.setIfInBounds i true) a' w') a w

theorem wpAny_of_anyQ : ∀ (fuel : Nat) (listed : Array Bool) (a : Act) (w : World), anyQ P md ops Q nd S0 fuel listed a w → wpAny P md ops Q fuel listed a w
  | 0, _, _, _, h => h
  | fuel + 1, _, _, _, h => ⟨h.1, fun i hi => wpOp_mono (fun _ _ h' => wpAny_of_anyQ fuel _ _ _ h'.2) (h.2 i hi)⟩

theorem anyQ_first {i : Nat} {oi : Oper} {v : Value} (hi : ops[i]? = some oi) (hsel : ∀ (j : Nat) (o : Oper) cs b, ops[j]? = some o → o.op ≠ .select cs b)
    (hQ : ∀ c a w, Q (.panic c) (a.put oi.dst v) w → Q (.panic c) a w)
    (hc : ∀ j oj, ops[j]? = some oj → j ≠ i → (∀ e ∈ oj.after, Region.binds md e = true → e.on ≠ i) → nd j = true) :
    ∀ (fuel : Nat) (listed : Array Bool) (a : Act) (w : World),
      (∀ j oj, ops[j]? = some oj → j ≠ i → listed.getD j true = false → (∀ e ∈ oj.after, Region.binds md e = true → e.on ≠ i) → oi.apart ops oj = true) →
      i ∈ Region.ready md ops listed → YieldsIf P ops S0 oi v a → S0 w →
      anyQ P md ops Q nd S0 fuel (listed.setIfInBounds i true) (a.put oi.dst v) w → anyQ P md ops Q nd S0 (fuel + 1) listed a w := by
  intro fuel
  induction fuel with
  | zero =>
    intro listed a w _ hr hy hS H
    refine ⟨fun h => (by rw [h] at hr; cases hr), fun j hj => ?_⟩
    by_cases hji : j = i
    · subst hji; exact hy.wpOp hi hS ⟨fun _ => hS, H⟩
    · have := ready_mono hj hji
      rw [H.1] at this
      cases this
  | succ fuel ih =>
    intro listed a w hfree hr hy hS H
    refine ⟨fun h => (by rw [h] at hr; cases hr), fun j hj => ?_⟩
    by_cases hji : j = i
    · subst hji; exact hy.wpOp hi hS ⟨fun _ => hS, H⟩
    · have h1 := H.2 j (ready_mono hj hji)
      obtain ⟨hjun, oj, hoj, hall⟩ := mem_ready.1 hj
      have hnot : ∀ e ∈ oj.after, Region.binds md e = true → e.on ≠ i := fun e he hb heq => by
        have h1 := hall e he hb
        have h0 := (mem_ready.1 hr).1
        rw [heq] at h1
        rcases Nat.lt_or_ge i listed.size with h' | h'
        · simp [h'] at h0 h1; rw [h0] at h1; cases h1
        · simp [Array.getElem?_eq_none h'] at h1
      have h2 := wpOp_putIf hoj (hfree j oj hoj hji hjun hnot) (fun cs b => hsel i oi cs b hi) (fun cs b => hsel j oj cs b hoj) hQ hy h1
      have hfree' : ∀ k ok, ops[k]? = some ok → k ≠ i → (listed.setIfInBounds j true).getD k true = false →
          (∀ e ∈ ok.after, Region.binds md e = true → e.on ≠ i) → oi.apart ops ok = true := fun k ok hk hki hun hno => by
        refine hfree k ok hk hki ?_ hno
        by_cases hjk : j = k
        · subst hjk; exact hjun
        · rw [getD_set_ne true hjk] at hun; exact hun
      have hnd := hc j oj hoj hji hnot
      refine wpOp_mono (fun a' w' h3 => ⟨h3.2.1, ih (listed.setIfInBounds j true) a' w' hfree' (ready_mono hr (Ne.symm hji)) h3.1 (h3.2.1 hnd) ?_⟩) h2
      rw [Array.setIfInBounds_comm _ _ hji]
      exact h3.2.2

/-- Behind what may come up ahead of number i the condition is asked. -/
def asksQ (md : Region.Mode) (ops : Array Oper) (nd : Nat → Bool) (i : Nat) : Bool := (List.range ops.size).all fun j => j == i || nd j || match ops[j]? with
  | some oj => oj.after.any (fun e => Region.binds md e && e.on == i)
  | none => true
theorem asksQ_spec {i : Nat} (h : asksQ md ops nd i = true) (j : Nat) (oj : Oper) (hj : ops[j]? = some oj) (hne : j ≠ i) (hno : ∀ e ∈ oj.after, Region.binds md e = true → e.on ≠ i) : nd j = true := by
  simp only [asksQ, List.all_eq_true, List.mem_range] at h
  have h1 := h j (Array.getElem?_eq_some_iff.1 hj).1
  simp only [hj, Bool.or_eq_true, beq_iff_eq, hne, false_or] at h1
  rcases h1 with h1 | h1
  · exact h1
  · obtain ⟨e, he, hb⟩ := Array.any_eq_true'.1 h1
    simp only [Bool.and_eq_true, beq_iff_eq] at hb
    exact absurd hb.2 (hno e he hb.1)

/-- The beginning; the region does not panic. -/
theorem region_anyQ {id : Nat} {a : Act} {w : World} (nd : Nat → Bool) (S0 : World → Prop) (hm : P.follows .mixedOrders = true)
    (h : anyQ P .any ops (NoPanic Q) nd S0 ops.size (Array.replicate ops.size false) a w.drew) : (Code.region id ops true).wp P Q a w :=
  Code.wp_mono NoPanic.imp (wp_region_any hm (wpAny_of_anyQ _ _ _ _ h))
/-- Take number i first. -/
theorem anyQ_take (i : Nat) {oi : Oper} {v : Value} {fuel : Nat} {listed : Array Bool} {a : Act} {w : World} (hi : ops[i]? = some oi)
    (hs : Region.noSelect ops = true) (hf : Region.free md ops listed i = true) (hr : (Region.ready md ops listed).contains i = true) (hk : asksQ md ops nd i = true)
    (hQ : ∀ c a w, Q (.panic c) (a.put oi.dst v) w → Q (.panic c) a w) (hy : YieldsIf P ops S0 oi v a) (hS : S0 w)
    (h : anyQ P md ops Q nd S0 fuel (listed.setIfInBounds i true) (a.put oi.dst v) w) : anyQ P md ops Q nd S0 (fuel + 1) listed a w :=
  anyQ_first hi (Region.noSelect_spec hs) hQ (asksQ_spec hk) fuel listed a w (Region.free_spec hi hf) (by simpa using hr) hy hS h
/-- Number i alone may come up. -/
theorem anyQ_one (i : Nat) {fuel : Nat} {listed : Array Bool} {a : Act} {w : World} {o : Oper} (hr : Region.ready md ops listed = [i]) (ho : ops[i]? = some o)
    (h : ∀ K : Act → World → Prop, (∀ a' w', (nd i = true → S0 w') → anyQ P md ops Q nd S0 fuel (listed.setIfInBounds i true) a' w' → K a' w') →
      if Region.wanted o (yielded ops a.tmps) = true then Oper.wp P o a w K Q else K (a.put o.dst undef) w) : anyQ P md ops Q nd S0 (fuel + 1) listed a w := by
  refine ⟨fun h0 => (by rw [hr] at h0; cases h0), fun j hj => ?_⟩
  rw [hr] at hj
  obtain rfl : j = i := by simpa using hj
  have h1 := h (fun a' w' => (nd j = true → S0 w') ∧ anyQ P md ops Q nd S0 fuel (listed.setIfInBounds j true) a' w') fun _ _ hs ha => ⟨hs, ha⟩
  unfold wpOp
  simp only [ho]
  by_cases hw : Region.wanted o (yielded ops a.tmps) = true
  · rw [if_pos hw] at h1 ⊢; exact .inl h1
  · rw [if_neg hw] at h1 ⊢; exact h1
/-- All have come up. -/
theorem anyQ_done {listed : Array Bool} {a : Act} {w : World} (hr : Region.ready md ops listed = []) (h : Q .normal a w) : ∀ fuel, anyQ P md ops (NoPanic Q) nd S0 fuel listed a w
  | 0 => ⟨hr, h⟩
  | _ + 1 => ⟨fun _ => h, by rw [hr]; simp⟩
theorem anyQ_list (L : Array Bool) {fuel : Nat} {listed : Array Bool} {a : Act} {w : World} (he : listed = L) (h : anyQ P md ops Q nd S0 fuel L a w) : anyQ P md ops Q nd S0 fuel listed a w := he ▸ h
end Go.Proofs.YtfgjcdjhaihgaaaDoor

namespace Go.Proofs.YtfgjcdjhaihgaaaDoor
open Go.RowKit

theorem ba_get (s : ByteArray) (k : Nat) (h : k < s.size) : s[k] = s.data.toList.getD k 0 := by
  have h' : k < s.data.toList.length := h
  rw [List.getD, List.getElem?_eq_getElem h']
  rfl
theorem ba_len (s : ByteArray) : s.data.toList.length = s.size := rfl

/-- Is a byte in a text? -/
def inB (b : UInt8) (l : List UInt8) : Bool := l.contains b

set_option maxHeartbeats 1000000 in
theorem In_any (b : UInt8) (s : ByteArray) (w : World) (hs : s.size ≤ maxLen) :
    Calls Tryd.prog 34 #[.int .u8 (b.toNat : Int), .string s] w fun e w' => e = .returned (.bool (inB b s.data.toList)) ∧ w = w' := by
  unfold maxLen at hs
  go_enter Tryd.func34, Tryd.ntmps34
  go_wp2
  go_loop [5] (fun i => ∃ k : Nat, k ≤ s.size ∧ i = .int .i64 k ∧ Hid (inB b s.data.toList = inB b (s.data.toList.drop k))) (fun i => s.size - (intOf i).toNat)
  case atStart => exact ⟨0, Nat.zero_le _, rfl, rfl⟩
  case round =>
    obtain ⟨k, hk, rfl, HR⟩ := hrel
    have hbb := u8_lt b
    by_cases hlt : k < s.size
    · have hkl := ba_len s
      have NH := Lib.hid (show inB b s.data.toList = (b == s[k] || inB b (s.data.toList.drop (k + 1))) by rw [HR.out, drop_cons _ k (by omega), ← ba_get s k hlt]; unfold inB; rw [List.contains_cons])
      clear HR hkl
      by_cases he : b = s[k]
      · have e1 : (((s[k].toNat : Nat) : Int) == (b.toNat : Int)) = true := by rw [beq_iff_eq, ← he]
        have H := Lib.hid (show inB b s.data.toList = true by rw [NH.out, show (b == s[k]) = true from by rw [beq_iff_eq]; exact he]; rfl)
        clear he NH
        go_wp2
        go_ret
        exact ⟨(by rw [H.out]; try rfl), rfl⟩
      · have e1 : (((s[k].toNat : Nat) : Int) == (b.toNat : Int)) = false := by
          rw [beq_eq_false_iff_ne]; intro h; exact he (UInt8.toNat_inj.1 (by omega))
        have H := Lib.hid (show inB b s.data.toList = inB b (s.data.toList.drop (k + 1)) by rw [NH.out, show (b == s[k]) = false from by rw [beq_eq_false_iff_ne]; exact he]; rfl)
        clear he NH
        go_wp2
        go_round
        case rel => exact ⟨k + 1, by omega, by go_num, H⟩
        case measure => simp [intOf]; omega
    · have H := Lib.hid (show inB b s.data.toList = false by rw [HR.out, List.drop_of_length_le (by rw [ba_len]; omega)]; rfl)
      clear HR
      go_wp2
      go_ret
      exact ⟨(by rw [H.out]; try rfl), rfl⟩

theorem digits_list (b : UInt8) : inB b [48, 49, 50, 51, 52, 53, 54, 55, 56, 57] = digitB b := by
  unfold inB
  rw [Bool.eq_iff_iff, digitB_of]
  simp only [List.contains_cons, List.contains_nil, Bool.or_eq_true, beq_iff_eq, ← UInt8.toNat_inj, Bool.or_false]
  simp
  omega

theorem Digit_any (b : UInt8) (w : World) :
    Calls Tryd.prog 44 #[.int .u8 (b.toNat : Int)] w fun e w' => e = .returned (.bool (digitB b)) ∧ w = w' := by
  have H := Lib.hid (digits_list b)
  go_enter Tryd.func44, Tryd.ntmps44
  go_wp2_with (go_at_call 34; refine (In_any b _ _ (by decide)).mono ?_; rintro e w' ⟨rfl, rfl⟩)
  go_ret
  exact ⟨(by rw [← H.out]; try rfl), rfl⟩

end Go.Proofs.YtfgjcdjhaihgaaaDoor

namespace Go.Proofs.YtfgjcdjhaihgaaaDoor
open Go.RowKit

/-- What a token may have beside letters and digits. -/
def marksL : List UInt8 := [33, 35, 36, 37, 38, 39, 42, 43, 45, 46, 94, 95, 96, 124, 126]
def letB (b : UInt8) : Bool := decide (97 ≤ (low b).toNat ∧ (low b).toNat ≤ 122)
def tokB (b : UInt8) : Bool := letB b || digitB b || inB b marksL
def tokL (l : List UInt8) : Bool := !l.isEmpty && l.all tokB

theorem indexByte_nonneg (l : List UInt8) (b : UInt8) : (0 ≤ Lib.indexByte l b) ↔ b ∈ l := by
  induction l with
  | nil => simp [Lib.indexByte]
  | cons x r ih =>
    unfold Lib.indexByte
    by_cases h : x = b
    · subst h; simp
    · rw [if_neg (by simpa using h), List.mem_cons, ← ih]
      have hge := Lib.indexByte_ge r b
      have hb : b ≠ x := Ne.symm h
      simp only [hb, false_or, beq_iff_eq]
      split <;> omega

theorem ltok (b : UInt8) (h : letB b = true) : tokB b = true := by simp [tokB, h]
theorem dtok (b : UInt8) (h : digitB b = true) : tokB b = true := by simp [tokB, h]
theorem mtok (b : UInt8) (h : letB b = false) (h' : digitB b = false) : tokB b = inB b marksL := by simp [tokB, h, h']

set_option maxHeartbeats 1000000 in
theorem isTokenByte_any (b : UInt8) (w : World) :
    Calls Tryd.prog 56 #[.int .u8 (b.toNat : Int)] w fun e w' => e = .returned (.bool (tokB b)) ∧ w = w' := by
  have hl := lowerByte_any b w
  have hlt := u8_lt (low b)
  have key : ∀ (d : Bool), digitB b = d → (letB b = true → tokB b = true) := fun _ _ h => ltok b h
  have hm : (letB b = false → digitB b = false → tokB b = inB b marksL) := mtok b
  have hidx : decide (0 ≤ Lib.indexByte marksL b) = inB b marksL := by
    unfold inB
    rw [Bool.eq_iff_iff, decide_eq_true_iff, indexByte_nonneg]
    simp
  have hsi := Tryd.strings_IndexByte ⟨#[33, 35, 36, 37, 38, 39, 42, 43, 45, 46, 94, 95, 96, 124, 126]⟩ (b.toNat : Int) w
  rw [show (b.toNat : Int).toNat.toUInt8 = b from by simp] at hsi
  have hsi2 : Calls Tryd.prog 61 #[.string ⟨#[33, 35, 36, 37, 38, 39, 42, 43, 45, 46, 94, 95, 96, 124, 126]⟩, .int .u8 (b.toNat : Int)] w fun e w' => e = .returned (.int .i64 (Lib.indexByte marksL b)) ∧ w' = w := hsi
  clear hsi
  by_cases hL : letB b = true
  · have HL := Lib.hid (ltok b hL)
    have hL' : 97 ≤ (low b).toNat ∧ (low b).toNat ≤ 122 := by simpa [letB] using hL
    clear hm hidx hsi2 hL key
    generalize low b = sm at *
    have d1 : decide ((97 : Int) ≤ (sm.toNat : Int)) = true := by simp; omega
    have d2 : decide ((sm.toNat : Int) ≤ (122 : Int)) = true := by simp; omega
    go_enter Tryd.func56, Tryd.ntmps56
    go_wp2_with (go_at_call 43; refine hl.mono ?_; rintro e w' ⟨rfl, rfl⟩)
    go_ret
    exact ⟨(by rw [HL.out]; try rfl), rfl⟩
  · have hLf : letB b = false := by simpa using hL
    have hL' : ¬ (97 ≤ (low b).toNat ∧ (low b).toNat ≤ 122) := by simpa [letB] using hL
    have HM := Lib.hid (hm hLf)
    clear hm hL hLf key
    by_cases hD : digitB b = true
    · have HL := Lib.hid (dtok b hD)
      clear hidx hsi2 HM
      have hd := isDigit_any b
      rw [hD] at hd
      clear hD
      generalize low b = sm at *
      by_cases h1 : 97 ≤ sm.toNat
      · have d1 : decide ((97 : Int) ≤ (sm.toNat : Int)) = true := by simp; omega
        have d2 : decide ((sm.toNat : Int) ≤ (122 : Int)) = false := by simp; omega
        clear hL' h1
        go_enter Tryd.func56, Tryd.ntmps56
        go_wp2_with (first | (go_at_call 43; refine hl.mono ?_; rintro e w' ⟨rfl, rfl⟩) | (go_at_call 60; refine (hd _).mono ?_; rintro e w' ⟨rfl, rfl⟩))
        go_ret
        exact ⟨(by rw [HL.out]; try rfl), rfl⟩
      · have d1 : decide ((97 : Int) ≤ (sm.toNat : Int)) = false := by simp; omega
        clear hL' h1
        go_enter Tryd.func56, Tryd.ntmps56
        go_wp2_with (first | (go_at_call 43; refine hl.mono ?_; rintro e w' ⟨rfl, rfl⟩) | (go_at_call 60; refine (hd _).mono ?_; rintro e w' ⟨rfl, rfl⟩))
        go_ret
        exact ⟨(by rw [HL.out]; try rfl), rfl⟩
    · have hDf : digitB b = false := by simpa using hD
      have HL := Lib.hid ((HM.out hDf).trans hidx.symm)
      have hd := isDigit_any b
      rw [hDf] at hd
      clear hD hDf HM hidx
      generalize low b = sm at *
      generalize Lib.indexByte marksL b = ix at *
      by_cases h1 : 97 ≤ sm.toNat
      · have d1 : decide ((97 : Int) ≤ (sm.toNat : Int)) = true := by simp; omega
        have d2 : decide ((sm.toNat : Int) ≤ (122 : Int)) = false := by simp; omega
        clear hL' h1
        go_enter Tryd.func56, Tryd.ntmps56
        go_wp2_with (first | (go_at_call 43; refine hl.mono ?_; rintro e w' ⟨rfl, rfl⟩) | (go_at_call 60; refine (hd _).mono ?_; rintro e w' ⟨rfl, rfl⟩) | (go_at_call 61; refine hsi2.mono ?_; rintro e w' ⟨rfl, hw⟩; subst hw))
        go_ret
        exact ⟨(by rw [HL.out]; try rfl), rfl⟩
      · have d1 : decide ((97 : Int) ≤ (sm.toNat : Int)) = false := by simp; omega
        clear hL' h1
        go_enter Tryd.func56, Tryd.ntmps56
        go_wp2_with (first | (go_at_call 43; refine hl.mono ?_; rintro e w' ⟨rfl, rfl⟩) | (go_at_call 60; refine (hd _).mono ?_; rintro e w' ⟨rfl, rfl⟩) | (go_at_call 61; refine hsi2.mono ?_; rintro e w' ⟨rfl, hw⟩; subst hw))
        go_ret
        exact ⟨(by rw [HL.out]; try rfl), rfl⟩

theorem all_drop (l : List UInt8) (k : Nat) (h : k < l.length) : (l.drop k).all tokB = (tokB (l.getD k 0) && (l.drop (k + 1)).all tokB) := by
  rw [drop_cons l k h, List.all_cons]

set_option maxHeartbeats 1000000 in
theorem Token_any (p : Option Addr) (n c : Nat) (bs : List UInt8) (w : World) (hx : bs.length = n) (hn : n ≤ 140737488355328) (hb : Lib.BytesIn w p n (Lib.numsL bs)) :
    Calls Tryd.prog 48 #[.slice p n c] w fun e w' => e = .returned (.bool (tokL bs)) ∧ w = w' := by
  go_enter Tryd.func48, Tryd.ntmps48
  go_wp2
  go_loop [7] (fun i => ∃ k : Nat, k ≤ n ∧ i = .int .i64 k ∧ Hid (bs.all tokB = (bs.drop k).all tokB)) (fun i => n - (intOf i).toNat)
  case atStart => exact ⟨0, Nat.zero_le _, rfl, rfl⟩
  case round =>
    obtain ⟨k, hk, rfl, HR⟩ := hrel
    by_cases hlt : k < n
    · obtain ⟨b, o, rfl, hc⟩ := hb.at (by omega)
      have hck : w.cell? ⟨b, o + k, none⟩ = some (.int .u8 ((bs.getD k 0).toNat : Int)) := by
        rw [← numsL_getD bs k (by omega)]
        exact hc k hlt
      have hd := HR.out.trans (all_drop bs k (by omega))
      have hne : bs.isEmpty = false := by cases bs with | nil => simp at hx; omega | cons a r => rfl
      clear hc HR hb
      generalize bs.getD k 0 = bk at *
      by_cases ht : tokB bk = true
      · have H := Lib.hid (show bs.all tokB = (bs.drop (k + 1)).all tokB by rw [hd, ht]; rfl)
        have htk := isTokenByte_any bk
        rw [ht] at htk
        clear hd hne ht
        go_wp2_with (go_at_call 56; refine (htk _).mono ?_; rintro e w' ⟨rfl, rfl⟩)
        go_round
        case rel => exact ⟨k + 1, by omega, by go_num, H⟩
        case measure => simp [intOf]; omega
      · have ht' : tokB bk = false := by simpa using ht
        have H := Lib.hid (show tokL bs = false by unfold tokL; rw [hd, ht']; simp)
        have htk := isTokenByte_any bk
        rw [ht'] at htk
        clear hd hne ht ht'
        go_wp2_with (go_at_call 56; refine (htk _).mono ?_; rintro e w' ⟨rfl, rfl⟩)
        go_ret
        exact ⟨(by rw [H.out]; try rfl), rfl⟩
    · have H := Lib.hid (show tokL bs = decide (0 < n) by
        unfold tokL
        rw [HR.out, List.drop_of_length_le (by omega)]
        cases bs with
        | nil => simp at hx; subst hx; rfl
        | cons a r => simp at hx; simp; omega)
      clear HR
      go_wp2
      go_ret
      exact ⟨(by rw [H.out]; try rfl), rfl⟩

end Go.Proofs.YtfgjcdjhaihgaaaDoor

namespace Go.Proofs.YtfgjcdjhaihgaaaDoor.Url

/-- A text's one form for a place, if it has one. -/
def formL (p : Int) (l : List UInt8) : Option (List UInt8) := (Pct.itemsL l).map (Pct.canL p)
/-- What a text stands for as it is stood in it. -/
theorem items_mem : ∀ (l : List UInt8) (m : List (UInt8 × Bool)), Pct.itemsL l = some m → ∀ x ∈ m, x.2 = false → x.1 ∈ l
  | [], m, h, x, hx, _ => by rw [Pct.items_nil] at h; cases h; cases hx
  | b :: r, m, h, x, hx, h2 => by
    by_cases hb : b = 37
    · subst hb
      cases hd : Pct.dig2 r with
      | false => rw [Pct.items_bad r hd] at h; cases h
      | true =>
        obtain ⟨y, z, t, rfl, hy, hz⟩ := Pct.dig2_cons r hd
        rw [Pct.items_coded y z t hy hz] at h
        obtain ⟨m', hm', rfl⟩ := Option.map_eq_some_iff.1 h
        rcases List.mem_cons.1 hx with rfl | hx
        · cases h2
        · have := items_mem t m' hm' x hx h2
          simp [this]
    · rw [Pct.items_as b r hb] at h
      obtain ⟨m', hm', rfl⟩ := Option.map_eq_some_iff.1 h
      rcases List.mem_cons.1 hx with rfl | hx
      · simp
      · have := items_mem r m' hm' x hx h2
        simp [this]
  termination_by l => l.length
theorem dg_hex : ∀ i : Fin 16, Pct.freeB (Pct.dg i.1) = true := by decide +kernel
theorem put_mem (s : Bool) (b d : UInt8) (h : d ∈ Pct.putL s b) (h37 : d ≠ 37) (hf : Pct.freeB d = false) : s = true ∧ d = b := by
  cases s with
  | true => exact ⟨rfl, by simpa [Pct.putL] using h⟩
  | false =>
    have hb := Pct.u8_lt b
    have h1 := dg_hex ⟨b.toNat / 16, by omega⟩
    have h2 := dg_hex ⟨b.toNat % 16, by omega⟩
    simp only [Pct.putL, Bool.false_eq_true, if_false, List.mem_cons, List.not_mem_nil, or_false] at h
    rcases h with h | h | h
    · exact absurd h h37
    · rw [h, h1] at hf; cases hf
    · rw [h, h2] at hf; cases hf
/-- What is neither free nor a percent sign stands in the form just if it may, and stood in the text. -/
theorem form_mem (p : Int) (l c : List UInt8) (d : UInt8) (h : formL p l = some c) (hd : d ∈ c) (h37 : d ≠ 37) (hf : Pct.freeB d = false) : Pct.standsB p d = true ∧ d ∈ l := by
  unfold formL at h
  obtain ⟨m, hm, rfl⟩ := Option.map_eq_some_iff.1 h
  obtain ⟨x, hx, hdx⟩ := List.mem_flatMap.1 hd
  obtain ⟨hs, rfl⟩ := put_mem _ _ _ hdx h37 hf
  unfold Pct.canB at hs
  rw [hf, Bool.false_or, Bool.and_eq_true] at hs
  have h2 : x.2 = false := by simpa using hs.1
  exact ⟨hs.2, items_mem l m hm x hx h2⟩
theorem form_no (p : Int) (l c : List UInt8) (d : UInt8) (h : formL p l = some c) (h37 : d ≠ 37) (hf : Pct.freeB d = false) (hn : Pct.standsB p d = false ∨ d ∉ l) : d ∉ c := fun hd => by
  obtain ⟨h1, h2⟩ := form_mem p l c d h hd h37 hf
  rcases hn with hn | hn
  · rw [h1] at hn; cases hn
  · exact hn h2

/-- What stands ahead of the first byte c. -/
def aheadL (c : UInt8) (l : List UInt8) : List UInt8 := l.takeWhile (· != c)
theorem ahead_no (c : UInt8) : ∀ l : List UInt8, c ∉ l → aheadL c l = l ∧ Host.tailL c l = none
  | [], _ => ⟨rfl, rfl⟩
  | b :: r, h => by
    have hb : b ≠ c := fun e => h (by simp [e])
    obtain ⟨h1, h2⟩ := ahead_no c r (fun e => h (by simp [e]))
    refine ⟨?_, ?_⟩
    · unfold aheadL at h1 ⊢
      rw [List.takeWhile_cons, if_pos (by simpa using hb), h1]
    · unfold Host.tailL; rw [if_neg hb]; exact h2
theorem ahead_yes (c : UInt8) : ∀ (x y : List UInt8), c ∉ x → aheadL c (x ++ c :: y) = x ∧ Host.tailL c (x ++ c :: y) = some y
  | [], y, _ => by
    refine ⟨?_, ?_⟩
    · show aheadL c (c :: y) = []
      unfold aheadL; rw [List.takeWhile_cons, if_neg (by simp)]
    · show Host.tailL c (c :: y) = some y
      unfold Host.tailL; rw [if_pos rfl]
  | b :: r, y, h => by
    have hb : b ≠ c := fun e => h (by simp [e])
    obtain ⟨h1, h2⟩ := ahead_yes c r y (fun e => h (by simp [e]))
    refine ⟨?_, ?_⟩
    · show aheadL c (b :: (r ++ c :: y)) = _
      unfold aheadL at h1 ⊢
      rw [List.takeWhile_cons, if_pos (by simpa using hb), h1]
    · show Host.tailL c (b :: (r ++ c :: y)) = _
      unfold Host.tailL; rw [if_neg hb]; exact h2

/-- A number's digits. -/
def digL (n : Nat) : List UInt8 := if h : n < 10 then [UInt8.ofNat (48 + n)] else digL (n / 10) ++ [UInt8.ofNat (48 + n % 10)]
theorem dig_small (n : Nat) (h : n < 10) : digL n = [UInt8.ofNat (48 + n)] := by rw [digL, dif_pos h]
theorem dig_big (n : Nat) (h : ¬ n < 10) : digL n = digL (n / 10) ++ [UInt8.ofNat (48 + n % 10)] := by rw [digL, dif_neg h]
theorem digit_nat (d : Nat) (h : d < 10) : (UInt8.ofNat (48 + d)).toNat = 48 + d ∧ Ref.decB (UInt8.ofNat (48 + d)) = true := by
  have h1 : (UInt8.ofNat (48 + d)).toNat = 48 + d := by rw [UInt8.toNat_ofNat']; omega
  exact ⟨h1, (Ref.decB_of _).2 (by omega)⟩
theorem dig_ne (n : Nat) : digL n ≠ [] := by
  by_cases h : n < 10
  · rw [dig_small n h]; simp
  · rw [dig_big n h]; simp
theorem dig_dec (n : Nat) : ∀ b ∈ digL n, Ref.decB b = true := by
  induction n using Nat.strongRecOn with
  | ind n ih =>
    intro b hb
    by_cases h : n < 10
    · rw [dig_small n h, List.mem_singleton] at hb; rw [hb]; exact (digit_nat n h).2
    · rw [dig_big n h, List.mem_append, List.mem_singleton] at hb
      rcases hb with hb | hb
      · exact ih (n / 10) (by omega) b hb
      · rw [hb]; exact (digit_nat _ (by omega)).2
theorem numGo_app (most : Int) (b : UInt8) : ∀ (l : List UInt8) (n : Int), Ref.numGo most (l ++ [b]) n = (Ref.numGo most l n).bind fun m => Ref.numGo most [b] m
  | [], n => rfl
  | x :: r, n => by
    show Ref.numGo most (x :: (r ++ [b])) n = _
    rw [Ref.numGo, Ref.numGo]
    split
    · exact numGo_app most b r _
    · rfl
theorem dig_num (most : Nat) (n : Nat) : n ≤ most → Ref.numGo most (digL n) 0 = some (n : Int) := by
  induction n using Nat.strongRecOn with
  | ind n ih =>
    intro hm
    by_cases h : n < 10
    · obtain ⟨h1, h2⟩ := digit_nat n h
      rw [dig_small n h, Ref.numGo, if_pos ⟨h2, by omega, by omega⟩, Ref.numGo]
      congr 1; omega
    · obtain ⟨h1, h2⟩ := digit_nat (n % 10) (by omega)
      rw [dig_big n h, numGo_app, ih (n / 10) (by omega) (by omega), Option.bind_some, Ref.numGo, if_pos ⟨h2, by omega, by omega⟩, Ref.numGo]
      congr 1; omega
theorem dig_first (n : Nat) : 1 ≤ n → ((digL n).getD 0 0).toNat ≠ 48 := by
  induction n using Nat.strongRecOn with
  | ind n ih =>
    intro hn
    by_cases h : n < 10
    · rw [dig_small n h]
      show (UInt8.ofNat (48 + n)).toNat ≠ 48
      rw [(digit_nat n h).1]; omega
    · rw [dig_big n h]
      have e : (digL (n / 10) ++ [UInt8.ofNat (48 + n % 10)]).getD 0 0 = (digL (n / 10)).getD 0 0 := by
        cases hd : digL (n / 10) with
        | nil => exact absurd hd (dig_ne _)
        | cons b r => rfl
      rw [e]; exact ih (n / 10) (by omega) (by omega)
theorem dig_numOf (most n : Nat) (h1 : 1 ≤ n) (h : n ≤ most) : Ref.numOf most (digL n) = some (n : Int) := by
  unfold Ref.numOf
  rw [if_neg (fun hc => hc.elim (dig_ne n) (fun hc => dig_first n h1 hc.2)), dig_num most n h]

end Go.Proofs.YtfgjcdjhaihgaaaDoor.Url

namespace Go.Proofs.YtfgjcdjhaihgaaaDoor
open Go.RowKit Go.Shelf
attribute [local go_sem] Oper.semAt_some

def isB (c : UInt8) (b : UInt8) : Bool := b == c

end Go.Proofs.YtfgjcdjhaihgaaaDoor

namespace Go.Proofs.YtfgjcdjhaihgaaaDoor.Url

/-- Each piece's one form, if all have one. -/
def formsL : List (List UInt8) → Option (List (List UInt8))
  | [] => some []
  | p :: r => (formL 1 p).bind fun c => (formsL r).map (c :: ·)
/-- Pieces gone through: one dot goes, two go with the one ahead. -/
def stackL : List (List UInt8) → List (List UInt8) → List (List UInt8)
  | st, [] => st
  | st, p :: r => stackL (if p = [46] then st else if p = [46, 46] then st.dropLast else st ++ [p]) r
def dotB (p : List UInt8) : Bool := p = [46] || p = [46, 46]
def dotsL (ps : List (List UInt8)) : List (List UInt8) := stackL [] ps ++ (if dotB (ps.getLastD []) = true then [[]] else [])
/-- A path's one form, if it has one. -/
def pathL : List UInt8 → Option (List UInt8)
  | [] => some [47]
  | _ :: r => (formsL (Ref.splitL 47 r)).map fun cs => 47 :: Ref.joinL 47 (dotsL cs)

theorem split_ahead (c : UInt8) (x : List UInt8) : c ∉ x → ∀ t, Ref.splitL c (x ++ c :: t) = x :: Ref.splitL c t := by
  induction x with
  | nil => intro _ t; exact Ref.split_is c t
  | cons b r ih =>
    intro h t
    have hb : b ≠ c := fun e => h (by simp [e])
    rw [List.cons_append, Ref.split_not c b _ hb, ih (fun e => h (by simp [e])) t]; rfl
theorem split_none (c : UInt8) (x : List UInt8) : c ∉ x → Ref.splitL c x = [x] := by
  induction x with
  | nil => intro _; rfl
  | cons b r ih =>
    intro h
    have hb : b ≠ c := fun e => h (by simp [e])
    rw [Ref.split_not c b _ hb, ih (fun e => h (by simp [e]))]; rfl
theorem split_join (c : UInt8) : ∀ R : List (List UInt8), R ≠ [] → (∀ p ∈ R, c ∉ p) → Ref.splitL c (Ref.joinL c R) = R
  | [], h, _ => absurd rfl h
  | [p], _, h => split_none c p (h p (by simp))
  | p :: q :: r, _, h => by
    have ih := split_join c (q :: r) (by simp) (fun x hx => h x (by simp [hx]))
    show Ref.splitL c (p ++ c :: Ref.joinL c (q :: r)) = _
    rw [split_ahead c p (h p (by simp)), ih]
theorem join_mem (c : UInt8) : ∀ R : List (List UInt8), ∀ b ∈ Ref.joinL c R, b = c ∨ ∃ p ∈ R, b ∈ p
  | [], b, h => by cases h
  | [p], b, h => .inr ⟨p, by simp, h⟩
  | p :: q :: r, b, h => by
    have h' : b ∈ p ++ c :: Ref.joinL c (q :: r) := h
    rcases List.mem_append.1 h' with h | h
    · exact .inr ⟨p, by simp, h⟩
    · rcases List.mem_cons.1 h with rfl | h
      · exact .inl rfl
      · rcases join_mem c (q :: r) b h with h | ⟨x, hx, hb⟩
        · exact .inl h
        · exact .inr ⟨x, by simp [hx], hb⟩

theorem stack_same : ∀ (ps st : List (List UInt8)), (∀ p ∈ ps, dotB p = false) → stackL st ps = st ++ ps
  | [], st, _ => by simp [stackL]
  | p :: r, st, h => by
    have hp := h p (by simp)
    unfold dotB at hp
    rw [Bool.or_eq_false_iff, decide_eq_false_iff_not, decide_eq_false_iff_not] at hp
    rw [stackL, if_neg hp.1, if_neg hp.2, stack_same r _ (fun q hq => h q (by simp [hq]))]
    simp
theorem dots_same (ps : List (List UInt8)) (h : ∀ p ∈ ps, dotB p = false) : dotsL ps = ps := by
  unfold dotsL
  rw [stack_same ps [] h, List.nil_append, if_neg, List.append_nil]
  cases ps with
  | nil => decide
  | cons p r =>
    have hm : (p :: r).getLastD [] ∈ (p :: r) := by
      rw [List.getLastD_eq_getLast?, List.getLast?_eq_some_getLast (by simp)]; exact List.getLast_mem _
    rw [h _ hm]; simp
theorem forms_same : ∀ ps : List (List UInt8), (∀ p ∈ ps, formL 1 p = some p) → formsL ps = some ps
  | [], _ => rfl
  | p :: r, h => by
    rw [formsL, h p (by simp), Option.bind_some, forms_same r (fun q hq => h q (by simp [hq]))]; rfl
/-- A path in its one form. -/
def PathOk (p : List UInt8) : Prop := ∃ R : List (List UInt8), R ≠ [] ∧ p = 47 :: Ref.joinL 47 R ∧ ∀ x ∈ R, formL 1 x = some x ∧ 47 ∉ x ∧ 63 ∉ x ∧ 35 ∉ x ∧ dotB x = false
theorem path_again (p : List UInt8) (h : PathOk p) : pathL p = some p := by
  obtain ⟨R, hR, rfl, hx⟩ := h
  rw [pathL, split_join 47 R hR (fun x h => (hx x h).2.1), forms_same R (fun x h => (hx x h).1), Option.map_some, dots_same R (fun x h => (hx x h).2.2.2.2)]
theorem path_no (p : List UInt8) (h : PathOk p) : 63 ∉ p ∧ 35 ∉ p := by
  obtain ⟨R, hR, rfl, hx⟩ := h
  refine ⟨fun hm => ?_, fun hm => ?_⟩
  · rcases List.mem_cons.1 hm with h | h
    · cases h
    · rcases join_mem 47 R _ h with h | ⟨x, h1, h2⟩
      · cases h
      · exact (hx x h1).2.2.1 h2
  · rcases List.mem_cons.1 hm with h | h
    · cases h
    · rcases join_mem 47 R _ h with h | ⟨x, h1, h2⟩
      · cases h
      · exact (hx x h1).2.2.2.1 h2

end Go.Proofs.YtfgjcdjhaihgaaaDoor.Url

namespace Go.Proofs.YtfgjcdjhaihgaaaDoor
open Go.RowKit Go.Shelf
attribute [local go_sem] Oper.semAt_some

/-- The address of a piece that begins at place l. -/
def subA (q : Option Addr) (c l : Nat) : Option Addr := if c = l then q else q.map (·.add l)
/-- A piece of a list. -/
def sub (l : List UInt8) (i j : Nat) : List UInt8 := (l.drop i).take (j - i)
theorem sub_length (l : List UInt8) (i j : Nat) (h : j ≤ l.length) : (sub l i j).length = j - i := by unfold sub; simp; omega
theorem sub_getD (l : List UInt8) (i j k : Nat) (h : k < j - i) : (sub l i j).getD k 0 = l.getD (i + k) 0 := by
  unfold sub
  simp [List.getD, List.getElem?_drop, h]

theorem bytes_sub {w : World} {q : Option Addr} {n c i j : Nat} {l : List UInt8} (h : Lib.BytesIn w q n (Lib.numsL l)) (hl : l.length = n) (hij : i ≤ j) (hj : j ≤ n) (hc : n ≤ c) :
    Lib.BytesIn w (subA q c i) (j - i) (Lib.numsL (sub l i j)) := by
  intro hpos
  obtain ⟨b, o, rfl, hcell⟩ := h.at (by omega)
  refine ⟨b, o + i, ?_, fun k hk => ?_⟩
  · unfold subA
    rw [if_neg (by omega)]
    by_cases h0 : i = 0
    · subst h0; simp [Addr.add]
    · simp [Addr.add, h0]
  · rw [numsL_getD _ _ (by rw [sub_length _ _ _ (by omega)]; exact hk), sub_getD _ _ _ _ hk, Nat.add_assoc, hcell (i + k) (by omega), numsL_getD _ _ (by omega)]

theorem run_slice_sub (q : Option Addr) (n c i j : Nat) (W : World) (hij : i ≤ j) (hj : j ≤ c) :
    (Instr.slice 22 (.slice q n c) (some (.int .i64 (i : Int))) (some (.int .i64 (j : Int))) none).run Tryd.prog W = .ok (.slice (subA q c i) (j - i) (c - i)) W := by
  have hs : ∀ w, (Go.sizeOf 5).run Tryd.prog w = .ok 1 w := Tryd.sizeOf5
  have he : Tryd.prog.elem 22 = 5 := by kernel_rfl
  have h := run_slice_lh (P := Tryd.prog) (w := W) 22 q n c (by rw [he]; exact Tryd.underlying22) .i64 .i64 i j (by omega) (by omega) (by omega)
  rw [h, he, hs]
  simp only [Result.andThen, sliced, subA, Int.toNat_natCast, Nat.mul_one]

theorem Clone_any (q : Option Addr) (n c : Nat) (l : List UInt8) (w : World) (hl : l.length = n) (hn : n ≤ 140737488355328) (h : Lib.BytesIn w q n (Lib.numsL l)) :
    Calls Tryd.prog 26 #[.slice q n c] w fun e w' => ∃ v', e = .returned v' ∧ w'.ownsRow w.heap.size 5 1 v' n ((Lib.numsL l).map (Value.int .u8)) ∧ Below w.heap.size w w' := by
  cases q with
  | none =>
    have hz : n = 0 := by
      rcases Nat.eq_zero_or_pos n with h0 | h0
      · exact h0
      · obtain ⟨b, o, he, _⟩ := h.at h0
        cases he
    subst hz
    obtain rfl : l = [] := List.eq_nil_of_length_eq_zero hl
    refine (Tryd.bytes_Clone_nil 0 c w).mono fun e w' ⟨he, hw⟩ => ?_
    subst hw
    exact ⟨_, he, World.ownsRow_nil _ _ _ _, Below.refl _ _⟩
  | some a =>
    refine (Tryd.bytes_Clone_at a n c (Lib.numsL l) w (by rw [Lib.numsL_length, hl]) hn ?_).mono fun e w' ⟨v', he, ho, _, hb⟩ => ⟨v', he, ho, hb⟩
    intro i hi
    obtain ⟨b, o, he, hc⟩ := h.at (by omega)
    cases he
    rw [Go.WideShapes.add_plain]
    exact hc i hi

end Go.Proofs.YtfgjcdjhaihgaaaDoor

namespace Go.Proofs.YtfgjcdjhaihgaaaDoor.Url

def httpS : List UInt8 := [104, 116, 116, 112]
def httpsS : List UInt8 := [104, 116, 116, 112, 115]
/-- A scheme's own port. -/
def ownP (s : List UInt8) : Nat := if s = httpS then 80 else if s = httpsS then 443 else 0
/-- What stands ahead of the first "://", and behind it. -/
def sepL : List UInt8 → Option (List UInt8 × List UInt8)
  | [] => none
  | b :: r => match b, r with
    | 58, 47 :: 47 :: t => some ([], t)
    | b, r => (sepL r).map fun x => (b :: x.1, x.2)
/-- A URL. -/
structure U where
  scheme : List UInt8
  host : List UInt8
  port : Nat
  path : List UInt8
  query : List UInt8
  frag : List UInt8
  hq : Bool
  hf : Bool
def portL (s : List UInt8) : Option (List UInt8) → Option Nat
  | none => some (ownP s)
  | some l => (Ref.numOf 65535 l).bind fun n => if 1 ≤ n then some n.toNat else none
def optL : Option (List UInt8) → Option (List UInt8)
  | none => some []
  | some l => formL 2 l
/-- What stands behind "://". -/
def restU (s r : List UInt8) : Sum Int U :=
  let r1 := aheadL 35 r
  let r2 := aheadL 63 r1
  let a := aheadL 47 r2
  let h := aheadL 58 a
  if Host.parseE h ≠ 0 then .inl (Host.parseE h) else
  match portL s (Host.tailL 58 a), pathL (r2.drop a.length), optL (Host.tailL 63 r1), optL (Host.tailL 35 r) with
  | some n, some p, some q, some f => .inr ⟨s, Ref.lowL h, n, p, q, f, (Host.tailL 63 r1).isSome, (Host.tailL 35 r).isSome⟩
  | _, _, _, _ => .inl 2
/-- A text's URL, or the error's number. -/
def parseU (t : List UInt8) : Sum Int U :=
  if 4096 < t.length then .inl 3 else
  match sepL t with
  | none => .inl 15
  | some (s, r) => if Ref.lowL s = httpS ∨ Ref.lowL s = httpsS then restU (Ref.lowL s) r else .inl 15
def portT (u : U) : List UInt8 := if u.port = ownP u.scheme then [] else 58 :: digL u.port
def queryT (u : U) : List UInt8 := if u.hq then 63 :: u.query else []
def fragT (u : U) : List UInt8 := if u.hf then 35 :: u.frag else []
/-- A URL's text. -/
def textU (u : U) : List UInt8 := u.scheme ++ [58, 47, 47] ++ u.host ++ portT u ++ u.path ++ queryT u ++ fragT u

/-- A URL in its one form. -/
structure Ok (u : U) : Prop where
  scheme : u.scheme = httpS ∨ u.scheme = httpsS
  host : Host.parseE u.host = 0
  low : Ref.lowL u.host = u.host
  port1 : 1 ≤ u.port
  port2 : u.port ≤ 65535
  path : PathOk u.path
  query : formL 2 u.query = some u.query
  noq : u.hq = false → u.query = []
  frag : formL 2 u.frag = some u.frag
  nof : u.hf = false → u.frag = []

theorem host_bytes (h : List UInt8) (hp : Host.parseE h = 0) : ∀ b ∈ h, Host.hostByte b = true ∨ b = 46 := by
  intro b hb
  have hh : Host.hostB (Ref.splitL 46 h) = true := by
    unfold Host.parseE at hp
    split at hp
    · cases hp
    · split at hp
      · assumption
      · cases hp
  unfold Host.hostB at hh
  rw [Bool.and_eq_true, Bool.and_eq_true, List.all_eq_true] at hh
  rw [← Ref.join_split 46 h] at hb
  rcases join_mem 46 _ b hb with h1 | ⟨p, h1, h2⟩
  · exact .inr h1
  · have hpp := hh.1.2 p h1
    unfold Host.partB at hpp
    rw [Bool.and_eq_true, List.all_eq_true] at hpp
    exact .inl (hpp.2 b h2)
theorem host_no (h : List UInt8) (hp : Host.parseE h = 0) (d : UInt8) (h1 : Host.hostByte d = false) (h2 : d ≠ 46) : d ∉ h := fun hd => by
  rcases host_bytes h hp d hd with h | h
  · rw [h1] at h; cases h
  · exact h2 h
theorem sep_http (r : List UInt8) : sepL (httpS ++ [58, 47, 47] ++ r) = some (httpS, r) := rfl
theorem sep_https (r : List UInt8) : sepL (httpsS ++ [58, 47, 47] ++ r) = some (httpsS, r) := rfl
theorem port_no (u : U) (d : UInt8) (hd : Ref.decB d = false) (h : d ≠ 58) : d ∉ portT u := by
  unfold portT
  split
  · simp
  · intro hm
    rcases List.mem_cons.1 hm with hm | hm
    · exact h hm
    · rw [dig_dec _ d hm] at hd; cases hd

theorem text_rest (u : U) (h : Ok u) : restU u.scheme (u.host ++ portT u ++ u.path ++ queryT u ++ fragT u) = .inr u := by
  obtain ⟨hp63, hp35⟩ := path_no u.path h.path
  obtain ⟨R, hR, hpath, hRx⟩ := h.path
  have hq35 : 35 ∉ u.query := form_no 2 _ _ 35 h.query (by decide) (by decide) (.inl (by decide))
  have hh35 := host_no u.host h.host 35 (by decide) (by decide)
  have hh63 := host_no u.host h.host 63 (by decide) (by decide)
  have hh47 := host_no u.host h.host 47 (by decide) (by decide)
  have hh58 := host_no u.host h.host 58 (by decide) (by decide)
  have ho35 := port_no u 35 (by decide) (by decide)
  have ho63 := port_no u 63 (by decide) (by decide)
  have ho47 := port_no u 47 (by decide) (by decide)
  -- ahead of the fragment
  have c1 : aheadL 35 (u.host ++ portT u ++ u.path ++ queryT u ++ fragT u) = u.host ++ portT u ++ u.path ++ queryT u ∧ optL (Host.tailL 35 (u.host ++ portT u ++ u.path ++ queryT u ++ fragT u)) = some u.frag ∧
      (Host.tailL 35 (u.host ++ portT u ++ u.path ++ queryT u ++ fragT u)).isSome = u.hf := by
    have hn : 35 ∉ u.host ++ portT u ++ u.path ++ queryT u := by
      simp only [List.mem_append, not_or]
      refine ⟨⟨⟨hh35, ho35⟩, hp35⟩, ?_⟩
      unfold queryT
      split
      · simp only [List.mem_cons, not_or]; exact ⟨by decide, hq35⟩
      · simp
    cases hf : u.hf with
    | false =>
      have e : fragT u = [] := by unfold fragT; rw [hf]; rfl
      obtain ⟨h1, h2⟩ := ahead_no 35 _ hn
      rw [e, List.append_nil, h1, h2, h.nof hf]; exact ⟨rfl, rfl, rfl⟩
    | true =>
      have e : fragT u = 35 :: u.frag := by unfold fragT; rw [hf]; rfl
      obtain ⟨h1, h2⟩ := ahead_yes 35 _ u.frag hn
      rw [e, h1, h2]; exact ⟨rfl, h.frag, rfl⟩
  -- ahead of the query
  have c2 : aheadL 63 (u.host ++ portT u ++ u.path ++ queryT u) = u.host ++ portT u ++ u.path ∧ optL (Host.tailL 63 (u.host ++ portT u ++ u.path ++ queryT u)) = some u.query ∧
      (Host.tailL 63 (u.host ++ portT u ++ u.path ++ queryT u)).isSome = u.hq := by
    have hn : 63 ∉ u.host ++ portT u ++ u.path := by
      simp only [List.mem_append, not_or]
      exact ⟨⟨hh63, ho63⟩, hp63⟩
    cases hf : u.hq with
    | false =>
      have e : queryT u = [] := by unfold queryT; rw [hf]; rfl
      obtain ⟨h1, h2⟩ := ahead_no 63 _ hn
      rw [e, List.append_nil, h1, h2, h.noq hf]; exact ⟨rfl, rfl, rfl⟩
    | true =>
      have e : queryT u = 63 :: u.query := by unfold queryT; rw [hf]; rfl
      obtain ⟨h1, h2⟩ := ahead_yes 63 _ u.query hn
      rw [e, h1, h2]; exact ⟨rfl, h.query, rfl⟩
  -- ahead of the path
  have c3 : aheadL 47 (u.host ++ portT u ++ u.path) = u.host ++ portT u := by
    rw [hpath]
    exact (ahead_yes 47 (u.host ++ portT u) _ (by simp only [List.mem_append, not_or]; exact ⟨hh47, ho47⟩)).1
  have c4 : (u.host ++ portT u ++ u.path).drop (u.host ++ portT u).length = u.path := by simp
  -- the host and the port
  have c5 : aheadL 58 (u.host ++ portT u) = u.host ∧ portL u.scheme (Host.tailL 58 (u.host ++ portT u)) = some u.port := by
    by_cases ho : u.port = ownP u.scheme
    · have e : portT u = [] := by unfold portT; rw [if_pos ho]
      obtain ⟨h1, h2⟩ := ahead_no 58 _ hh58
      rw [e, List.append_nil, h1, h2, portL, ← ho]; exact ⟨rfl, rfl⟩
    · have e : portT u = 58 :: digL u.port := by unfold portT; rw [if_neg ho]
      obtain ⟨h1, h2⟩ := ahead_yes 58 _ (digL u.port) hh58
      have h3 : Ref.numOf 65535 (digL u.port) = some (u.port : Int) := dig_numOf 65535 u.port h.port1 h.port2
      have h4 := h.port1
      rw [e, h1, h2, portL, h3, Option.bind_some, if_pos (by omega)]
      exact ⟨rfl, by simp⟩
  unfold restU
  simp only
  rw [c1.1, c2.1, c3, c4, c5.1, c5.2, path_again u.path h.path, c2.2.1, c1.2.1, c2.2.2, c1.2.2, if_neg (by rw [h.host]; simp), h.low]
theorem parse_text (u : U) (h : Ok u) (hl : (textU u).length ≤ 4096) : parseU (textU u) = .inr u := by
  have e : textU u = u.scheme ++ [58, 47, 47] ++ (u.host ++ portT u ++ u.path ++ queryT u ++ fragT u) := by unfold textU; simp only [List.append_assoc]
  have hr := text_rest u h
  unfold parseU
  rw [if_neg (by omega), e]
  rcases h.scheme with hs | hs
  · have hlow : Ref.lowL httpS = httpS := by decide
    rw [hs] at hr ⊢
    rw [sep_http]
    simp only
    rw [hlow, if_pos (.inl rfl), hr]
  · have hlow : Ref.lowL httpsS = httpsS := by decide
    rw [hs] at hr ⊢
    rw [sep_https]
    simp only
    rw [hlow, if_pos (.inr rfl), hr]

end Go.Proofs.YtfgjcdjhaihgaaaDoor.Url

namespace Go.Proofs.YtfgjcdjhaihgaaaDoor
open Go.RowKit Go.Shelf
attribute [local go_sem] Oper.semAt_some

theorem row_base {W : World} {base base' : Nat} {e : TypeId} {size : Nat} {v : Value} {n : Nat} {xs : List Value} (h : W.ownsRow base e size v n xs) (hb : base' ≤ base) : W.ownsRow base' e size v n xs := by
  refine ⟨h.1, ?_⟩
  rcases h.2 with hn | ⟨g, cap, cur, rfl, hbg, rest⟩
  · exact .inl hn
  · exact .inr ⟨g, cap, cur, rfl, by omega, rest⟩
/-- An owned row of bytes, opened. -/
theorem row_open {W : World} {base n : Nat} {v : Value} {l : List UInt8} (h : W.ownsRow base 5 1 v n ((Lib.numsL l).map (Value.int .u8))) :
    ∃ q c, v = .slice q n c ∧ l.length = n ∧ n ≤ c ∧ c ≤ maxLen ∧ Lib.BytesIn W q n (Lib.numsL l) ∧ (∀ a, q = some a → a.block < W.heap.size ∧ base ≤ a.block ∧ v.ownBlock = some a.block) := by
  have hl : l.length = n := by have := h.1; simpa [Lib.numsL] using this
  rcases h.2 with ⟨rfl, rfl⟩ | ⟨g, cap, cur, rfl, hb, hg, h1, h2, h3, h4⟩
  · exact ⟨none, 0, rfl, hl, Nat.le_refl _, Nat.zero_le _, Lib.BytesIn.nil _ _ _, by intro a ha; cases ha⟩
  · refine ⟨some ⟨g, 0, none⟩, cap, rfl, hl, h1, h2, fun h0 => ⟨g, 0, rfl, fun i hi => ?_⟩, fun a ha => by cases ha; exact ⟨(Array.getElem?_eq_some_iff.1 hg).1, hb, rfl⟩⟩
    have hcur : cur[i]? = some (.int .u8 ((Lib.numsL l).getD i 0)) := by
      have : (cur.toList.take (n * 1))[i]? = some (.int .u8 ((Lib.numsL l).getD i 0)) := by
        rw [h4]
        have hi' : i < (Lib.numsL l).length := by rw [Lib.numsL_length]; omega
        simp [List.getElem?_map, List.getElem?_eq_getElem hi', List.getD]
      rw [List.getElem?_take, if_pos (by omega)] at this
      simpa using this
    simp only [World.cell?, hg, Nat.zero_add]
    exact hcur

/-- What a round leaves that was handed a row of its own. -/
def RowPost {β : Type} (J Jx : List β → (Nat → Prop) → World → Prop) (pre : List β) (RB Q : Nat → Prop) (W2 : World) (ok : Bool) (W' : World) : Prop :=
  Keep (fun b => RB b ∨ Q b) W2 W' ∧ ∃ Q' : Nat → Prop, (∀ b, Q b → Q' b) ∧ (∀ b, Q' b → b < W'.heap.size) ∧ ((ok = true ∧ J pre Q' W') ∨ (ok = false ∧ Jx pre Q' W'))

theorem bytes_take {w : World} {q : Option Addr} {n k : Nat} {l : List UInt8} (h : Lib.BytesIn w q n (Lib.numsL l)) (hl : l.length = n) (hk : k ≤ n) : Lib.BytesIn w q k (Lib.numsL (l.take k)) := fun h0 => by
  obtain ⟨b, o, rfl, hc⟩ := h.at (by omega)
  refine ⟨b, o, rfl, fun i hi => ?_⟩
  rw [hc i (by omega), numsL_getD _ _ (by omega), numsL_getD _ _ (by simp; omega)]
  simp [List.getD, hi]
theorem bytes_keep {S : Nat → Prop} {w w' : World} {q : Option Addr} {n : Nat} {xs : List Int} (h : Lib.BytesIn w q n xs) (hk : Keep S w w') (hq : ∀ a, q = some a → 0 < n → S a.block) : Lib.BytesIn w' q n xs := fun h0 => by
  obtain ⟨b, o, rfl, hc⟩ := h.at h0
  exact ⟨b, o, rfl, fun i hi => (World.cell?_of_block (hk.block b (World.block_lt_of_cell? w _ (hc i hi)) (hq _ rfl h0))).trans (hc i hi)⟩
theorem bytes_lt {w : World} {q : Option Addr} {n : Nat} {xs : List Int} (h : Lib.BytesIn w q n xs) : ∀ a, q = some a → 0 < n → a.block < w.heap.size := fun a ha h0 => by
  obtain ⟨b, o, rfl, hc⟩ := h.at h0
  cases ha
  exact World.block_lt_of_cell? w _ (hc 0 h0)
end Go.Proofs.YtfgjcdjhaihgaaaDoor

namespace Go.Proofs.YtfgjcdjhaihgaaaDoor
open Go.RowKit Go.Shelf
attribute [local go_sem] Oper.semAt_some

end Go.Proofs.YtfgjcdjhaihgaaaDoor

namespace Go.Proofs.YtfgjcdjhaihgaaaDoor.Hdr
open Url
set_option linter.unusedVariables false

abbrev Fld := List UInt8 × List UInt8
def trimB (l : List UInt8) : List UInt8 := ((l.dropWhile blankB).reverse.dropWhile blankB).reverse
/-- May it be a field's? -/
def fieldB (f : Fld) : Bool := tokL f.1 && decide (trimB f.2 = f.2) && !f.2.contains 13 && !f.2.contains 10
/-- The error's number of one more field behind so many. -/
def wrongF (f : Fld) (n : Nat) : Int := if fieldB f = true then (if 64 ≤ n then 3 else 0) else 2
/-- Without one carriage return at the end. -/
def chopL (l : List UInt8) : List UInt8 := if l.getLast? = some 13 then l.dropLast else l
def lineL (t : List UInt8) : List UInt8 := chopL (aheadL 10 t)
def restL (t : List UInt8) : List UInt8 := (Host.tailL 10 t).getD []
def fieldL (l : List UInt8) : Fld := (aheadL 58 l, trimB ((Host.tailL 58 l).getD []))
def goH : Nat → List Fld → List UInt8 → Sum Int (List Fld × List UInt8)
  | 0, out, _ => .inr (out, [])
  | k + 1, out, t => if t = [] then .inr (out, []) else if lineL t = [] then .inr (out, restL t) else if (58 : UInt8) ∈ lineL t then (if wrongF (fieldL (lineL t)) out.length = 0 then goH k (out ++ [fieldL (lineL t)]) (restL t) else .inl (wrongF (fieldL (lineL t)) out.length)) else .inl 2
def parseH (t : List UInt8) : Sum Int (List Fld × List UInt8) := goH t.length [] t
def rowT (f : Fld) : List UInt8 := f.1 ++ [58, 32] ++ f.2 ++ [13, 10]
def textH (l : List Fld) : List UInt8 := (l.map rowT).flatten ++ [13, 10]
/-- The error's number of fields behind so many. -/
def ofE : Nat → List Fld → Int
  | _, [] => 0
  | n, f :: r => if wrongF f n = 0 then ofE (n + 1) r else wrongF f n
def sameN (a b : List UInt8) : Bool := a.map low == b.map low
def valuesL (l : List Fld) (name : List UInt8) : List (List UInt8) := (l.filter fun f => sameN f.1 name).map (·.2)

theorem tail_len (c : UInt8) : ∀ t r : List UInt8, Host.tailL c t = some r → r.length < t.length
  | [], r, h => by cases h
  | b :: t, r, h => by
    unfold Host.tailL at h
    split at h
    · cases h; simp
    · have := tail_len c t r h; simp; omega
theorem rest_len (t : List UInt8) (h : t ≠ []) : (restL t).length < t.length := by
  unfold restL
  cases e : Host.tailL 10 t with
  | none => simp; exact List.length_pos_iff.2 h
  | some r => exact tail_len 10 t r e
/-- The counter is no bound. -/
theorem go_more : ∀ (k : Nat) (out : List Fld) (t : List UInt8), t.length ≤ k → goH (k + 1) out t = goH k out t
  | 0, out, t, h => by
    have h0 : t = [] := List.length_eq_zero_iff.1 (by omega)
    subst h0; simp [goH]
  | k + 1, out, t, h => by
    by_cases h0 : t = []
    · subst h0; simp [goH]
    · have hr := rest_len t h0
      have e := go_more k (out ++ [fieldL (lineL t)]) (restL t) (by omega)
      have g : ∀ j, goH (j + 1) out t = if t = [] then .inr (out, []) else if lineL t = [] then .inr (out, restL t) else if (58 : UInt8) ∈ lineL t then (if wrongF (fieldL (lineL t)) out.length = 0 then goH j (out ++ [fieldL (lineL t)]) (restL t) else .inl (wrongF (fieldL (lineL t)) out.length)) else .inl 2 := fun j => by conv => lhs; unfold goH
      rw [g, g, e]
theorem go_any (out : List Fld) (t : List UInt8) : ∀ k, t.length ≤ k → goH k out t = goH t.length out t := fun k h => by
  obtain ⟨d, rfl⟩ := Nat.exists_eq_add_of_le h
  induction d with
  | zero => rfl
  | succ d ih => rw [show t.length + (d + 1) = (t.length + d) + 1 from rfl, go_more _ _ _ (by omega), ih (by omega)]

theorem chop_cr (l : List UInt8) : chopL (l ++ [13]) = l := by unfold chopL; rw [if_pos (by simp)]; simp
theorem trim_blank (b : UInt8) (v : List UInt8) (h : blankB b = true) : trimB (b :: v) = trimB v := by unfold trimB; rw [List.dropWhile_cons, if_pos h]
theorem tok_no (t : List UInt8) (h : tokL t = true) (b : UInt8) (hb : tokB b = false) : b ∉ t := fun hm => by
  unfold tokL at h
  rw [Bool.and_eq_true, List.all_eq_true] at h
  have := h.2 b hm
  rw [hb] at this; cases this
theorem field_ok (f : Fld) (h : fieldB f = true) : tokL f.1 = true ∧ trimB f.2 = f.2 ∧ (13 : UInt8) ∉ f.2 ∧ (10 : UInt8) ∉ f.2 := by
  unfold fieldB at h
  simp only [Bool.and_eq_true, decide_eq_true_eq, Bool.not_eq_true', List.contains_eq_mem, decide_eq_false_iff_not] at h
  exact ⟨h.1.1.1, h.1.1.2, h.1.2, h.2⟩
/-- A field's row, with what stands behind it. -/
theorem row_line (f : Fld) (h : fieldB f = true) (z : List UInt8) : lineL (rowT f ++ z) = f.1 ++ [58, 32] ++ f.2 ∧ restL (rowT f ++ z) = z := by
  obtain ⟨h1, h2, h3, h4⟩ := field_ok f h
  have hno : (10 : UInt8) ∉ f.1 ++ [58, 32] ++ f.2 ++ [13] := by
    have := tok_no f.1 h1 10 (by decide)
    simp only [List.mem_append, not_or]
    exact ⟨⟨⟨this, by decide⟩, h4⟩, by decide⟩
  have e : rowT f ++ z = (f.1 ++ [58, 32] ++ f.2 ++ [13]) ++ 10 :: z := by simp [rowT]
  obtain ⟨e1, e2⟩ := ahead_yes 10 _ z hno
  rw [e]
  refine ⟨?_, ?_⟩
  · unfold lineL; rw [e1, chop_cr]
  · unfold restL; rw [e2]; rfl
theorem row_field (f : Fld) (h : fieldB f = true) : (58 : UInt8) ∈ f.1 ++ [58, 32] ++ f.2 ∧ fieldL (f.1 ++ [58, 32] ++ f.2) = f := by
  obtain ⟨h1, h2, h3, h4⟩ := field_ok f h
  have hno := tok_no f.1 h1 58 (by decide)
  have e : f.1 ++ [58, 32] ++ f.2 = f.1 ++ 58 :: (32 :: f.2) := by simp
  obtain ⟨e1, e2⟩ := ahead_yes 58 f.1 (32 :: f.2) hno
  refine ⟨by simp, ?_⟩
  unfold fieldL
  rw [e, e1, e2, Option.getD_some, trim_blank 32 f.2 (by decide), h2]
/-- A header's text, with any body behind it, is parsed to it and the body. -/
theorem go_text (body : List UInt8) : ∀ (l out : List Fld), (∀ f ∈ l, fieldB f = true) → out.length + l.length ≤ 64 → ∀ k, (textH l ++ body).length ≤ k → goH k out (textH l ++ body) = .inr (out ++ l, body)
  | [], out, _, hn, k, hk => by
    have e : textH [] ++ body = [13] ++ 10 :: body := by simp [textH]
    obtain ⟨e1, e2⟩ := ahead_yes 10 [13] body (by decide)
    cases k with
    | zero => rw [e] at hk; simp at hk
    | succ k =>
      have hl : lineL (textH [] ++ body) = [] := by unfold lineL; rw [e, e1]; exact chop_cr []
      have hr : restL (textH [] ++ body) = body := by unfold restL; rw [e, e2]; rfl
      rw [goH, if_neg (by rw [e]; simp), if_pos hl, hr, List.append_nil]
  | f :: l, out, h, hn, k, hk => by
    have e : textH (f :: l) ++ body = rowT f ++ (textH l ++ body) := by simp [textH]
    have hf := h f (by simp)
    obtain ⟨e1, e2⟩ := row_line f hf (textH l ++ body)
    obtain ⟨e3, e4⟩ := row_field f hf
    have hw : wrongF f out.length = 0 := by
      unfold wrongF; rw [if_pos hf, if_neg (by simp at hn; omega)]
    have hlen : (rowT f).length ≥ 1 := by simp [rowT]; omega
    rw [e] at hk ⊢
    cases k with
    | zero => rw [List.length_append] at hk; omega
    | succ k =>
      rw [goH, if_neg (by simp [rowT]), e1, if_neg (by simp), if_pos e3, e4, if_pos hw, e2, go_text body l (out ++ [f]) (fun x hx => h x (by simp [hx])) (by simp at hn ⊢; omega) k (by rw [List.length_append] at hk; omega), List.append_assoc, List.singleton_append]
theorem parse_text (l : List Fld) (body : List UInt8) (h : ∀ f ∈ l, fieldB f = true) (hn : l.length ≤ 64) : parseH (textH l ++ body) = .inr (l, body) := by
  have := go_text body l [] h (by simpa using hn) _ (Nat.le_refl _)
  rwa [List.nil_append] at this
theorem of_ok : ∀ (l : List Fld) (n : Nat), ofE n l = 0 ↔ (∀ f ∈ l, fieldB f = true) ∧ (l = [] ∨ n + l.length ≤ 64)
  | [], n => by simp [ofE]
  | f :: l, n => by
    have ih := of_ok l (n + 1)
    unfold ofE
    by_cases hf : fieldB f = true
    · by_cases hn : 64 ≤ n
      · have hw : wrongF f n = 3 := by unfold wrongF; rw [if_pos hf, if_pos hn]
        rw [hw, if_neg (by decide)]
        refine ⟨fun h => absurd h (by decide), fun h => ?_⟩
        rcases h.2 with h | h
        · cases h
        · simp at h; omega
      · have hw : wrongF f n = 0 := by unfold wrongF; rw [if_pos hf, if_neg hn]
        rw [hw, if_pos rfl, ih]
        refine ⟨fun h => ⟨fun x hx => ?_, .inr ?_⟩, fun h => ⟨fun x hx => h.1 x (by simp [hx]), ?_⟩⟩
        · rcases List.mem_cons.1 hx with rfl | hx
          · exact hf
          · exact h.1 x hx
        · rcases h.2 with h | h
          · subst h; simp; omega
          · simp; omega
        · rcases h.2 with h | h
          · cases h
          · simp at h; exact .inr (by omega)
    · have hw : wrongF f n = 2 := by unfold wrongF; rw [if_neg hf]
      rw [hw, if_neg (by decide)]
      refine ⟨fun h => absurd h (by decide), fun h => absurd (h.1 f (by simp)) hf⟩

/-- Rows of "a: b" and a line feed. -/
def longT (n : Nat) : List UInt8 := (List.replicate n [97, 58, 32, 98, 10]).flatten
theorem long_go (tail : List UInt8) : ∀ (n : Nat) (out : List Fld) (k : Nat), (longT n ++ tail).length ≤ k → goH k out (longT n ++ tail) = if out.length + n ≤ 64 then goH (k - n) (out ++ List.replicate n ([97], [98])) tail else if out.length ≤ 64 then .inl 3 else goH k out (longT n ++ tail)
  | 0, out, k, hk => by
    simp only [longT, List.replicate_zero, List.flatten_nil, List.nil_append, List.append_nil, Nat.add_zero, Nat.sub_zero]
    split
    · rfl
    · rfl
  | n + 1, out, k, hk => by
    have e : longT (n + 1) ++ tail = [97, 58, 32, 98] ++ 10 :: (longT n ++ tail) := by simp [longT, List.replicate_succ]
    obtain ⟨e1, e2⟩ := ahead_yes 10 [97, 58, 32, 98] (longT n ++ tail) (by decide)
    have hl : lineL (longT (n + 1) ++ tail) = [97, 58, 32, 98] := by unfold lineL; rw [e, e1]; rfl
    have hr : restL (longT (n + 1) ++ tail) = longT n ++ tail := by unfold restL; rw [e, e2]; rfl
    have hfl : fieldL [97, 58, 32, 98] = ([97], [98]) := by decide +kernel
    have hfb : fieldB ([97], [98]) = true := by decide +kernel
    cases k with
    | zero => rw [e] at hk; simp at hk
    | succ k =>
      have hk' : (longT n ++ tail).length ≤ k := by rw [e] at hk; simp at hk; simp; omega
      by_cases h1 : out.length + (n + 1) ≤ 64
      · have hw : wrongF ([97], [98]) out.length = 0 := by unfold wrongF; rw [if_pos hfb, if_neg (by omega)]
        rw [if_pos h1, goH, if_neg (by rw [e]; simp), hl, if_neg (by simp), if_pos (by decide), hfl, if_pos hw, hr, long_go tail n _ k hk', if_pos (by simp; omega)]
        rw [show k + 1 - (n + 1) = k - n by omega, List.append_assoc, show [(([97] : List UInt8), ([98] : List UInt8))] ++ List.replicate n ([97], [98]) = List.replicate (n + 1) ([97], [98]) from rfl]
      · rw [if_neg h1]
        by_cases h2 : out.length ≤ 64
        · rw [if_pos h2, goH, if_neg (by rw [e]; simp), hl, if_neg (by simp), if_pos (by decide), hfl, hr]
          by_cases h3 : 64 ≤ out.length
          · have hw : wrongF ([97], [98]) out.length = 3 := by unfold wrongF; rw [if_pos hfb, if_pos h3]
            rw [hw, if_neg (by decide)]
          · have hw : wrongF ([97], [98]) out.length = 0 := by unfold wrongF; rw [if_pos hfb, if_neg h3]
            rw [if_pos hw, long_go tail n _ k hk', if_neg (by simp; omega), if_pos (by simp; omega)]
        · rw [if_neg h2]
theorem long_parse (n : Nat) (tail : List UInt8) (h : 64 < n) : parseH (longT n ++ tail) = .inl 3 := by
  unfold parseH
  rw [long_go tail n [] _ (Nat.le_refl _), if_neg (by simp; omega), if_pos (by simp)]
theorem long_ok (n : Nat) (h : n ≤ 64) : parseH (longT n) = .inr (List.replicate n ([97], [98]), []) := by
  have e := long_go [] n [] (longT n ++ []).length (Nat.le_refl _)
  rw [if_pos (by simpa using h), List.append_nil] at e
  unfold parseH
  rw [e, List.nil_append]
  cases (longT n).length - n <;> simp [goH]
end Go.Proofs.YtfgjcdjhaihgaaaDoor.Hdr

namespace Go.Proofs.YtfgjcdjhaihgaaaDoor
open Go.RowKit Go.Shelf
attribute [local go_sem] Oper.semAt_some

/-- A text as a value. -/
def strV (x : List UInt8) : Value := .string ⟨x.toArray⟩
theorem strOfNums_numsL (x : List UInt8) : strOfNums (Lib.numsL x) = ⟨x.toArray⟩ := by
  unfold strOfNums
  rw [show (Lib.numsL x).map (fun n => UInt8.ofNat n.toNat) = x from Lib.bytesOf_numsL x]
theorem info_str : (Tryd.prog.info? 9).map (fun i => (i.zero, i.size, i.bytes)) = some (some (.string ByteArray.empty), 1, 16) := by kernel_rfl

/-- Between two rounds: what has come lies in out. -/
def AllI (n₀ Bo : Nat) (w : World) (pre : List (List UInt8)) (Pv : Nat → Prop) (W : World) : Prop :=
  ∃ v, Boxed W Bo 42 v ∧ W.ownsRow n₀ 9 1 v pre.length (pre.map strV) ∧ (∀ b, Pv b → n₀ ≤ b) ∧ ¬ Pv Bo ∧ (∀ b, v.ownBlock = some b → ¬ Pv b) ∧ Below n₀ w W

theorem AllI_abide (n₀ Bo : Nat) (w : World) (hn : n₀ ≤ w.heap.size) : Abide (AllI n₀ Bo w) := by
  rintro pre Pv Pv' A B ⟨v, h1, h2, h3, h4, h5, h6⟩ hk hp
  have hs := h6.size
  refine ⟨v, hk.boxed h1 h4, hk.row h2 h5, fun b hb => ?_, fun hb => ?_, fun b hb hp' => ?_, h6.trans ⟨hk.os, hk.tape, hk.output, hk.size, fun k hk' => hk.block k (by omega) (fun hpk => by have := h3 k hpk; omega)⟩⟩
  · rcases (hp b hb).1 with h | h
    · exact h3 b h
    · omega
  · rcases (hp _ hb).1 with h | h
    · exact h4 h
    · have := h1.lt; omega
  · rcases (hp _ hp').1 with h | h
    · exact h5 b hb h
    · have := (h2.lt b hb).2; omega

end Go.Proofs.YtfgjcdjhaihgaaaDoor

namespace Go.Proofs.YtfgjcdjhaihgaaaDoor
open Go.RowKit Go.Shelf
attribute [local go_sem] Oper.semAt_some

end Go.Proofs.YtfgjcdjhaihgaaaDoor

namespace Go.Proofs.YtfgjcdjhaihgaaaDoor
open Go.RowKit Go.Shelf

/-- How a list of texts lies. -/
def StrsIn (w : World) (p : Option Addr) (n : Nat) (xs : List (List UInt8)) : Prop :=
  0 < n → ∃ b o, p = some ⟨b, o, none⟩ ∧ ∀ i, i < n → w.cell? ⟨b, o + i, none⟩ = some (strV (xs.getD i []))
def sameL (xs ys : List (List UInt8)) : Bool := decide (xs = ys)
theorem strs_row {W : World} {base n : Nat} {v : Value} {xs : List (List UInt8)} (h : W.ownsRow base 9 1 v n (xs.map strV)) :
    ∃ q c, v = .slice q n c ∧ xs.length = n ∧ n ≤ c ∧ c ≤ maxLen ∧ StrsIn W q n xs ∧ (∀ a, q = some a → a.block < W.heap.size ∧ base ≤ a.block) := by
  have hl : xs.length = n := by have := h.1; simpa using this
  rcases h.2 with ⟨rfl, rfl⟩ | ⟨g, cap, cur, rfl, hb, hg, h1, h2, h3, h4⟩
  · exact ⟨none, 0, rfl, hl, Nat.le_refl _, Nat.zero_le _, fun h0 => absurd h0 (Nat.lt_irrefl 0), by intro a ha; cases ha⟩
  · refine ⟨some ⟨g, 0, none⟩, cap, rfl, hl, h1, h2, fun h0 => ⟨g, 0, rfl, fun i hi => ?_⟩, fun a ha => by cases ha; exact ⟨(Array.getElem?_eq_some_iff.1 hg).1, hb⟩⟩
    have hi' : i < xs.length := by omega
    have hcur : cur[i]? = some (strV (xs.getD i [])) := by
      have : (cur.toList.take (n * 1))[i]? = some (strV (xs.getD i [])) := by
        rw [h4]
        simp [List.getElem?_eq_getElem hi', List.getD]
      rw [List.getElem?_take, if_pos (by omega)] at this
      simpa using this
    simp only [World.cell?, hg, Nat.zero_add]
    exact hcur

theorem drop_consS (l : List (List UInt8)) (k : Nat) (h : k < l.length) : l.drop k = l.getD k [] :: l.drop (k + 1) := by
  rw [List.drop_eq_getElem_cons h]
  simp [List.getD, List.getElem?_eq_getElem h]

set_option maxHeartbeats 1000000 in
theorem Same_any (p1 p2 : Option Addr) (n c m d : Nat) (xs ys : List (List UInt8)) (w : World) (hx : xs.length = n) (hy : ys.length = m) (hn : n ≤ 140737488355328) (hm : m ≤ 140737488355328) (h1 : StrsIn w p1 n xs) (h2 : StrsIn w p2 m ys) :
    Calls Tryd.prog 18 #[.slice p1 n c, .slice p2 m d] w fun e w' => e = .returned (.bool (sameL xs ys)) ∧ ∃ q, w' = w.drewN q := by
  by_cases hnm : n = m
  · subst hnm
    have e0 : ((n : Int) != (n : Int)) = false := by simp
    go_enter Tryd.func18, Tryd.ntmps18
    go_wp2
    go_loopw [13] (fun i wr => ∃ k q : Nat, k ≤ n ∧ i = .int .i64 k ∧ wr = w.drewN q ∧ Hid (sameL xs ys = sameL (xs.drop k) (ys.drop k))) (fun i _ => n - (intOf i).toNat)
    case atStart => exact ⟨0, 0, Nat.zero_le _, rfl, rfl, rfl⟩
    case round =>
      obtain ⟨k, q, hk, rfl, rfl, HR⟩ := hrel
      by_cases hlt : k < n
      · obtain ⟨b1, o1, rfl, hc1⟩ := h1 (by omega)
        obtain ⟨b2, o2, rfl, hc2⟩ := h2 (by omega)
        have c1 := hc1 k hlt
        have c2 := hc2 k hlt
        have d1 := drop_consS xs k (by omega)
        have d2 := drop_consS ys k (by omega)
        clear hc1 hc2 h1 h2 e0
        generalize xs.getD k [] = x at c1 d1
        generalize ys.getD k [] = y at c2 d2
        unfold strV at c1 c2
        by_cases hxy : x = y
        · subst hxy
          have HR2 := Lib.hid (show sameL xs ys = sameL (xs.drop (k + 1)) (ys.drop (k + 1)) by rw [HR.out, d1, d2]; unfold sameL; simp)
          clear d1 d2 HR
          go_wp2
          go_quiet (fail)
          go_wp2
          go_roundw
          case rel => exact ⟨k + 1, q + nq, by omega, by go_num, rfl, HR2⟩
          case measure => simp [intOf]; omega
        · have hne' : (x == y) = false := by rw [beq_eq_false_iff_ne]; exact hxy
          have H := Lib.hid (show sameL xs ys = false by rw [HR.out, d1, d2]; unfold sameL; simp [hxy])
          clear d1 d2 HR hxy
          go_wp2
          go_quiet (fail)
          go_wp2
          go_ret
          exact ⟨(by rw [H.out]; try rfl), q + nq, by simp [World.drewN, Nat.add_assoc]⟩
      · have H := Lib.hid (show sameL xs ys = true by rw [HR.out, List.drop_of_length_le (by omega), List.drop_of_length_le (by omega)]; rfl)
        go_wp2
        go_ret
        exact ⟨(by rw [H.out]; try rfl), q, rfl⟩
  · have e0 : ((n : Int) != (m : Int)) = true := by rw [bne_iff_ne]; omega
    have H := Lib.hid (show sameL xs ys = false by unfold sameL; rw [decide_eq_false_iff_not]; intro h; apply hnm; rw [← hx, ← hy, h])
    go_enter Tryd.func18, Tryd.ntmps18
    go_wp2
    go_ret
    exact ⟨(by rw [H.out]; try rfl), 0, rfl⟩

end Go.Proofs.YtfgjcdjhaihgaaaDoor

namespace Go.Proofs.YtfgjcdjhaihgaaaDoor.Hdr
open Url
set_option linter.unusedVariables false

theorem ahead_len (c : UInt8) (l : List UInt8) : (aheadL c l).length ≤ l.length := by unfold aheadL; exact (List.takeWhile_sublist _).length_le
theorem tail_lenD (c : UInt8) (l : List UInt8) : ((Host.tailL c l).getD []).length ≤ l.length := by
  cases e : Host.tailL c l with
  | none => simp
  | some r => have := tail_len c l r e; simp; omega
theorem trim_lenB (l : List UInt8) : (trimB l).length ≤ l.length := by
  unfold trimB
  rw [List.length_reverse]
  refine Nat.le_trans (List.dropWhile_sublist _).length_le ?_
  rw [List.length_reverse]
  exact (List.dropWhile_sublist _).length_le
theorem chop_len (l : List UInt8) : (chopL l).length ≤ l.length := by
  unfold chopL
  split
  · simp
  · exact Nat.le_refl _
theorem wrong_field (f : Fld) (n : Nat) (h : wrongF f n = 0) : fieldB f = true ∧ n < 64 := by
  unfold wrongF at h
  split at h
  · split at h
    · cases h
    · exact ⟨by assumption, by omega⟩
  · cases h
/-- A field of a text of at most M bytes. -/
def Small (M : Nat) (f : Fld) : Prop := fieldB f = true ∧ f.1.length ≤ M ∧ f.2.length ≤ M
theorem go_small (M : Nat) : ∀ (k : Nat) (out : List Fld) (t : List UInt8) (l : List Fld) (b : List UInt8), (∀ f ∈ out, Small M f) → out.length ≤ 64 → t.length ≤ M → goH k out t = .inr (l, b) → (∀ f ∈ l, Small M f) ∧ l.length ≤ 64 ∧ b.length ≤ M
  | 0, out, t, l, b, ho, hn, ht, h => by
    simp only [goH, Sum.inr.injEq, Prod.mk.injEq] at h
    obtain ⟨rfl, rfl⟩ := h
    exact ⟨ho, hn, Nat.zero_le _⟩
  | k + 1, out, t, l, b, ho, hn, ht, h => by
    unfold goH at h
    have hr : (restL t).length ≤ t.length := tail_lenD 10 t
    split at h
    · simp only [Sum.inr.injEq, Prod.mk.injEq] at h
      obtain ⟨rfl, rfl⟩ := h
      exact ⟨ho, hn, Nat.zero_le _⟩
    · split at h
      · simp only [Sum.inr.injEq, Prod.mk.injEq] at h
        obtain ⟨rfl, rfl⟩ := h
        exact ⟨ho, hn, by omega⟩
      · split at h
        · split at h
          · rename_i hw
            obtain ⟨hf, hlt⟩ := wrong_field _ _ hw
            have hl : (lineL t).length ≤ t.length := Nat.le_trans (chop_len _) (ahead_len 10 t)
            refine go_small M k _ _ l b (fun f hm => ?_) (by simp; omega) (by omega) h
            rcases List.mem_append.1 hm with hm | hm
            · exact ho f hm
            · rw [List.mem_singleton.1 hm]
              exact ⟨hf, Nat.le_trans (ahead_len _ _) (by omega), Nat.le_trans (trim_lenB _) (Nat.le_trans (tail_lenD _ _) (by omega))⟩
          · cases h
        · cases h
theorem parse_small (t : List UInt8) (l : List Fld) (b : List UInt8) (h : parseH t = .inr (l, b)) : (∀ f ∈ l, Small t.length f) ∧ l.length ≤ 64 ∧ b.length ≤ t.length :=
  go_small t.length t.length [] t l b (fun f hf => by cases hf) (by simp) (Nat.le_refl _) h
theorem text_le (M : Nat) : ∀ l : List Fld, (∀ f ∈ l, f.1.length ≤ M ∧ f.2.length ≤ M) → (textH l).length ≤ l.length * (2 * M + 4) + 2
  | [], _ => by simp [textH]
  | f :: r, h => by
    have ih := text_le M r (fun f hf => h f (List.mem_cons_of_mem _ hf))
    have hf := h f (by simp)
    unfold textH at ih ⊢
    simp only [List.map_cons, List.flatten_cons, List.length_append, List.length_cons, List.length_nil, rowT] at ih ⊢
    rw [Nat.succ_mul]
    omega
theorem values_small (M : Nat) (l : List Fld) (name : List UInt8) (h : ∀ f ∈ l, Small M f) : ∀ x ∈ valuesL l name, x.length ≤ M := fun x hx => by
  unfold valuesL at hx
  obtain ⟨f, hf, rfl⟩ := List.mem_map.1 hx
  exact (h f (List.mem_filter.1 hf).1).2.2
theorem values_le (l : List Fld) (name : List UInt8) : (valuesL l name).length ≤ l.length := by
  unfold valuesL
  rw [List.length_map]
  exact List.length_filter_le _ _
end Go.Proofs.YtfgjcdjhaihgaaaDoor.Hdr

namespace Go.Proofs.YtfgjcdjhaihgaaaDoor.Hdr
open Go.RowKit Go.ChangeShapes Go.WideShapes
set_option linter.unusedVariables false

/-- A row of bytes, as a law's argument has it. -/
def Row8 (w : World) (a : Option Addr) (len cap : Nat) (zs : List Int) : Prop :=
  (a = none ∧ len = 0 ∧ cap = 0 ∧ zs = []) ∨
  ∃ x, a = some x ∧ len ≤ cap ∧ cap ≤ maxLen ∧ len ≤ zs.length ∧ zs.length ≤ cap ∧ (∀ i, i < zs.length → w.cell? (x.add i) = some (.int .u8 (zs.getD i 0))) ∧ ∀ n ∈ zs, (Lit.int .u8 n).wf = true
def IsFlds (w : World) (a : Option Addr) (len cap : Nat) : Prop :=
  (a = none ∧ len = 0 ∧ cap = 0) ∨
  ∃ x, a = some x ∧ len ≤ cap ∧ cap ≤ maxLen ∧ ∀ i, i < len → ∃ (q1 : Option Addr) (n1 c1 : Nat) (z1 : List Int) (q2 : Option Addr) (n2 c2 : Nat) (z2 : List Int),
    w.cell? (x.add (i * 2)) = some (.slice q1 n1 c1) ∧ w.cell? ((x.add (i * 2)).add 1) = some (.slice q2 n2 c2) ∧ Row8 w q1 n1 c1 z1 ∧ Row8 w q2 n2 c2 z2
theorem cells_two {w : World} {base : Nat} {a : Addr} {l : List Value} (h : w.cells? base a 2 = some l) : ∃ u v, l = [u, v] ∧ w.cell? a = some u ∧ w.cell? (a.add 1) = some v := by
  unfold World.cells? at h
  split at h
  · rw [show List.range 2 = [0, 1] from rfl] at h
    simp only [List.mapM_cons, List.mapM_nil, Option.pure_def, Option.bind_eq_bind, Option.bind_eq_some_iff] at h
    obtain ⟨u, hu, l2, ⟨v, hv, l3, hl3, h2⟩, h3⟩ := h
    cases hl3
    cases h2
    cases h3
    refine ⟨u, v, rfl, ?_, hv⟩
    rw [← hu]; simp [Addr.add]
  · cases h
theorem open_row8 {H : Type} {enc : TypeId × Value → H} {w : World} {base : Nat} {spare : Nat → Bool} {held : Bool} {fuel : Nat} {v : Value} {x : DataW H × List MemPlace} (h : DataW.trod enc Tryd.prog w base spare held fuel 22 [v] = some x) :
    ∃ (q : Option Addr) (n c : Nat) (z : List Int), v = .slice q n c ∧ Row8 w q n c z := by
  rcases open_ints Tryd.underlying22 Tryd.underlying5 (by kernel_rfl) h with ⟨hcs, _⟩ | ⟨a, l, c, zs, hcs, _, hl, hm, hz, _, hcell, hwz⟩
  · cases hcs
    exact ⟨none, 0, 0, [], rfl, .inl ⟨rfl, rfl, rfl, rfl⟩⟩
  · cases hcs
    refine ⟨some a, l, c, zs, rfl, .inr ⟨a, rfl, hl, hm, ?_, ?_, hcell, hwz⟩⟩
    · rw [hz]; split <;> omega
    · rw [hz]; split <;> omega
set_option maxRecDepth 100000 in
theorem open_flds {H : Type} {enc : TypeId × Value → H} {w : World} {base : Nat} {spare : Nat → Bool} {held : Bool} {fuel : Nat} {a : Option Addr} {len cap : Nat} {x : DataW H × List MemPlace} (h : DataW.trod enc Tryd.prog w base spare held fuel 52 [.slice a len cap] = some x) :
    IsFlds w a len cap := by
  rcases DataW.trod_slice Tryd.underlying52 h with ⟨h0, _⟩ | ⟨a', len', cap', elems, rest, n, _, hcs, _, _, hl, hm, hlen, hel, _, _⟩
  · cases h0
    exact .inl ⟨rfl, rfl, rfl⟩
  · cases hcs
    refine .inr ⟨a', rfl, hl, hm, fun i hi => ?_⟩
    have h2 := hel i hi
    obtain ⟨y, hy⟩ : ∃ y, elems[i]? = some y := ⟨_, List.getElem?_eq_getElem (by omega)⟩
    rw [hy, Option.bind_eq_some_iff] at h2
    obtain ⟨cs, hcs, hty⟩ := h2
    rw [show Tryd.prog.cellsOf 54 = 2 by kernel_rfl] at hcs
    obtain ⟨u, v, rfl, hu, hv⟩ := cells_two hcs
    obtain ⟨y0, y1, m, _, hlc, g0, g1⟩ := trod_struct2 Tryd.underlying54 hty
    have g0' : DataW.trod enc Tryd.prog w base spare held m 22 [u] = some y0 := g0
    have g1' : DataW.trod enc Tryd.prog w base spare held m 22 [v] = some y1 := g1
    obtain ⟨q1, n1, c1, z1, rfl, r1⟩ := open_row8 g0'
    obtain ⟨q2, n2, c2, z2, rfl, r2⟩ := open_row8 g1'
    exact ⟨q1, n1, c1, z1, q2, n2, c2, z2, hu, hv, r1, r2⟩
end Go.Proofs.YtfgjcdjhaihgaaaDoor.Hdr

namespace Go.Proofs.YtfgjcdjhaihgaaaDoor
open Go.RowKit Go.Shelf
attribute [local go_sem] Oper.semAt_some

end Go.Proofs.YtfgjcdjhaihgaaaDoor

namespace Go.Proofs.YtfgjcdjhaihgaaaDoor
open Go.RowKit Go.Shelf

/-- The example's text, laid; its bytes. -/
theorem bytes_lit {w : World} (cs : Array Value) (l : List UInt8) (fr : Nat × Nat) (h : cs.toList = (Lib.numsL l).map (Value.int .u8)) : Lib.BytesIn (w.alloc (.cells cs 5 fr)) (some ⟨w.heap.size, 0, none⟩) l.length (Lib.numsL l) := fun _ =>
  ⟨_, _, rfl, fun i hi => by
    have hi' : i < (Lib.numsL l).length := by rw [Lib.numsL_length]; exact hi
    rw [Nat.zero_add, World.cell?_alloc_mark, ← Array.getElem?_toList, h]
    simp [List.getElem?_eq_getElem hi', List.getD]⟩
theorem strs_keep {S : Nat → Prop} {w w' : World} {q : Option Addr} {n : Nat} {xs : List (List UInt8)} (h : StrsIn w q n xs) (hk : Keep S w w') (hq : ∀ a, q = some a → 0 < n → S a.block) : StrsIn w' q n xs := fun h0 => by
  obtain ⟨b, o, rfl, hc⟩ := h h0
  exact ⟨b, o, rfl, fun i hi => (World.cell?_of_block (hk.block b (World.block_lt_of_cell? w _ (hc i hi)) (hq _ rfl h0))).trans (hc i hi)⟩

end Go.Proofs.YtfgjcdjhaihgaaaDoor

namespace Go.Proofs.YtfgjcdjhaihgaaaDoor
open Go.RowKit Go.Shelf

theorem sub_nil (l : List UInt8) (k : Nat) : sub l k k = [] := by unfold sub; simp

theorem ba_app (x s : ByteArray) (k : Nat) (h : k < s.size) : (x ++ s.extract k (k + 1)).data.toList = x.data.toList ++ [s[k]] := by
  rw [ByteArray.data_append, ByteArray.data_extract, Array.toList_append, Array.toList_extract]
  congr 1
  rw [ba_get s k h]
  have h' : k < s.data.toList.length := h
  simp [List.extract, List.getD, List.getElem?_eq_getElem h', List.take_one, List.head?_drop]

end Go.Proofs.YtfgjcdjhaihgaaaDoor

namespace Go.Proofs.YtfgjcdjhaihgaaaDoor
open Go.RowKit Go.Shelf

theorem info_u8 : (Tryd.prog.info? 5).map (fun i => (i.zero, i.size, i.bytes)) = some (some (.int .u8 0), 1, 1) := by kernel_rfl

theorem sameL_self (xs : List (List UInt8)) : sameL xs xs = true := by unfold sameL; simp

end Go.Proofs.YtfgjcdjhaihgaaaDoor

namespace Go.Proofs.YtfgjcdjhaihgaaaDoor
open Go.RowKit Go.Shelf

/-- A text with small letters. -/
def lowL (l : List UInt8) : List UInt8 := l.map low
theorem lowL_length (l : List UInt8) : (lowL l).length = l.length := by simp [lowL]
/-- Equal but for great and small letters. -/
def sameLow (x y : List UInt8) : Bool := decide (lowL x = lowL y)

theorem Same1_any (a b : UInt8) (w : World) : Calls Tryd.prog 42 #[.int .u8 (a.toNat : Int), .int .u8 (b.toNat : Int)] w fun e w' => e = .returned (.bool (isB (low b) (low a))) ∧ w = w' := by
  have h1 := lowerByte_any a
  have h2 := lowerByte_any b
  have hx := u8_lt (low a)
  have hy := u8_lt (low b)
  generalize low a = x at *
  generalize low b = y at *
  have H := Lib.hid (show isB y x = ((x.toNat : Int) == (y.toNat : Int)) by unfold isB; rw [Bool.eq_iff_iff, beq_iff_eq, beq_iff_eq, ← UInt8.toNat_inj]; omega)
  go_enter Tryd.func42, Tryd.ntmps42
  go_wp2_with fail
  refine (h1 _).mono ?_
  rintro e w' ⟨rfl, rfl⟩
  go_wp2_with fail
  refine (h2 _).mono ?_
  rintro e w' ⟨rfl, rfl⟩
  go_wp2
  go_ret
  exact ⟨(by rw [H.out]; try rfl), rfl⟩

set_option maxRecDepth 100000 in
set_option maxHeartbeats 2000000 in
theorem EqualFunc_any (p1 p2 : Option Addr) (n c m d : Nat) (xs ys : List UInt8) (w : World) (hx : xs.length = n) (hy : ys.length = m) (hn : n ≤ 140737488355328) (hm : m ≤ 140737488355328) (h1 : Lib.BytesIn w p1 n (Lib.numsL xs)) (h2 : Lib.BytesIn w p2 m (Lib.numsL ys)) :
    Calls Tryd.prog 41 #[.slice p1 n c, .slice p2 m d, .func (.func 42) #[] #[]] w fun e w' => e = .returned (.bool (sameLow xs ys)) ∧ w = w' := by
  by_cases hnm : n = m
  · subst hnm
    have e0 : ((n : Int) != (n : Int)) = false := by simp
    go_enter Tryd.func41, Tryd.ntmps41
    go_wp2
    go_loop [17] (fun i => ∃ k : Nat, k ≤ n ∧ i = .int .i64 k ∧ Hid (sameLow xs ys = sameLow (xs.drop k) (ys.drop k))) (fun i => n - (intOf i).toNat)
    case atStart => exact ⟨0, Nat.zero_le _, rfl, rfl⟩
    case round =>
      obtain ⟨k, hk, rfl, HR⟩ := hrel
      by_cases hlt : k < n
      · obtain ⟨b1, o1, rfl, hc1⟩ := h1.at (by omega)
        obtain ⟨b2, o2, rfl, hc2⟩ := h2.at (by omega)
        have c1 := hc1 k hlt
        have c2 := hc2 k hlt
        rw [numsL_getD _ _ (by omega)] at c1 c2
        have d1 := drop_cons xs k (by omega)
        have d2 := drop_cons ys k (by omega)
        clear hc1 hc2 h1 h2 e0
        generalize xs.getD k 0 = x at c1 d1
        generalize ys.getD k 0 = y at c2 d2
        have hs := Same1_any x y w
        by_cases hxy : low x = low y
        · have HR2 := Lib.hid (show sameLow xs ys = sameLow (xs.drop (k + 1)) (ys.drop (k + 1)) by rw [HR.out, d1, d2]; unfold sameLow lowL; simp [hxy])
          rw [show isB (low y) (low x) = true from by unfold isB; rw [beq_iff_eq]; exact hxy] at hs
          clear d1 d2 HR hxy
          go_wp2_with (go_at_call 42; refine hs.mono ?_; rintro e w' ⟨rfl, hw⟩; subst hw)
          go_round
          case rel => exact ⟨k + 1, by omega, by go_num, HR2⟩
          case measure => simp [intOf]; omega
        · have H := Lib.hid (show sameLow xs ys = false by rw [HR.out, d1, d2]; unfold sameLow lowL; simp [hxy])
          rw [show isB (low y) (low x) = false from by unfold isB; rw [beq_eq_false_iff_ne]; exact hxy] at hs
          clear d1 d2 HR hxy
          go_wp2_with (go_at_call 42; refine hs.mono ?_; rintro e w' ⟨rfl, hw⟩; subst hw)
          go_ret
          exact ⟨(by rw [H.out]; try rfl), rfl⟩
      · have H := Lib.hid (show sameLow xs ys = true by rw [HR.out, List.drop_of_length_le (by omega), List.drop_of_length_le (by omega)]; rfl)
        clear HR
        go_wp2
        go_ret
        exact ⟨(by rw [H.out]; try rfl), rfl⟩
  · have e0 : ((n : Int) != (m : Int)) = true := by rw [bne_iff_ne]; omega
    have H := Lib.hid (show sameLow xs ys = false by unfold sameLow; rw [decide_eq_false_iff_not]; intro h; apply hnm; rw [← hx, ← hy, ← lowL_length xs, ← lowL_length ys, h])
    go_enter Tryd.func41, Tryd.ntmps41
    go_wp2
    go_ret
    exact ⟨(by rw [H.out]; try rfl), rfl⟩

theorem cutSame_any (p1 p2 : Option Addr) (n c m d : Nat) (xs ys : List UInt8) (w : World) (hx : xs.length = n) (hy : ys.length = m) (hn : n ≤ 140737488355328) (hm : m ≤ 140737488355328) (h1 : Lib.BytesIn w p1 n (Lib.numsL xs)) (h2 : Lib.BytesIn w p2 m (Lib.numsL ys)) :
    Calls Tryd.prog 32 #[.slice p1 n c, .slice p2 m d] w fun e w' => e = .returned (.bool (sameLow xs ys)) ∧ w = w' := by
  have con := EqualFunc_any p1 p2 n c m d xs ys w hx hy hn hm h1 h2
  clear h1 h2
  go_enter Tryd.func32, Tryd.ntmps32
  go_wp2_with (go_at_call 41; refine con.mono ?_; rintro e w' ⟨rfl, rfl⟩)
  go_ret
  exact ⟨rfl, rfl⟩

end Go.Proofs.YtfgjcdjhaihgaaaDoor

namespace Go.Proofs.YtfgjcdjhaihgaaaDoor
open Go.RowKit Go.Shelf

theorem letters_list (b : UInt8) : (inB b [97, 98, 99, 100, 101, 102, 103, 104, 105, 106, 107, 108, 109, 110, 111, 112, 113, 114, 115, 116, 117, 118, 119, 120, 121, 122] || inB b [65, 66, 67, 68, 69, 70, 71, 72, 73, 74, 75, 76, 77, 78, 79, 80, 81, 82, 83, 84, 85, 86, 87, 88, 89, 90]) = letB b := by
  have h : ∀ b : Fin 256, (inB (UInt8.ofNat b.1) [97, 98, 99, 100, 101, 102, 103, 104, 105, 106, 107, 108, 109, 110, 111, 112, 113, 114, 115, 116, 117, 118, 119, 120, 121, 122] || inB (UInt8.ofNat b.1) [65, 66, 67, 68, 69, 70, 71, 72, 73, 74, 75, 76, 77, 78, 79, 80, 81, 82, 83, 84, 85, 86, 87, 88, 89, 90]) = letB (UInt8.ofNat b.1) := by decide +kernel
  have h1 := h ⟨b.toNat, u8_lt b⟩
  rwa [UInt8.ofNat_toNat] at h1

set_option maxHeartbeats 1000000 in
theorem Letter_any (b : UInt8) (w : World) :
    Calls Tryd.prog 45 #[.int .u8 (b.toNat : Int)] w fun e w' => e = .returned (.bool (letB b)) ∧ w = w' := by
  have H := Lib.hid (letters_list b)
  have C1 := fun W => In_any b ⟨#[97, 98, 99, 100, 101, 102, 103, 104, 105, 106, 107, 108, 109, 110, 111, 112, 113, 114, 115, 116, 117, 118, 119, 120, 121, 122]⟩ W (by decide)
  have C2 := fun W => In_any b ⟨#[65, 66, 67, 68, 69, 70, 71, 72, 73, 74, 75, 76, 77, 78, 79, 80, 81, 82, 83, 84, 85, 86, 87, 88, 89, 90]⟩ W (by decide)
  obtain ⟨x1, G1⟩ : ∃ x, Hid (inB b (⟨#[97, 98, 99, 100, 101, 102, 103, 104, 105, 106, 107, 108, 109, 110, 111, 112, 113, 114, 115, 116, 117, 118, 119, 120, 121, 122]⟩ : ByteArray).data.toList = x) := ⟨_, rfl⟩
  obtain ⟨x2, G2⟩ : ∃ x, Hid (inB b (⟨#[65, 66, 67, 68, 69, 70, 71, 72, 73, 74, 75, 76, 77, 78, 79, 80, 81, 82, 83, 84, 85, 86, 87, 88, 89, 90]⟩ : ByteArray).data.toList = x) := ⟨_, rfl⟩
  rw [G1.out] at C1
  rw [G2.out] at C2
  have HX := Lib.hid (show (x1 || x2) = letB b by rw [← G1.out, ← G2.out]; exact H.out)
  clear H G1 G2
  cases x1
  · go_enter Tryd.func45, Tryd.ntmps45
    go_wp2_with fail
    refine (C1 _).mono ?_
    rintro e w' ⟨rfl, rfl⟩
    go_wp2_with fail
    refine (C2 _).mono ?_
    rintro e w' ⟨rfl, rfl⟩
    go_wp2
    go_ret
    exact ⟨(by rw [← HX.out]; try rfl), rfl⟩
  · go_enter Tryd.func45, Tryd.ntmps45
    go_wp2_with fail
    refine (C1 _).mono ?_
    rintro e w' ⟨rfl, rfl⟩
    go_wp2
    go_ret
    exact ⟨(by rw [← HX.out]; try rfl), rfl⟩

theorem all_tok_drop (l : List UInt8) (k : Nat) (h : k < l.length) : (l.drop k).all tokB = ((digitB (l.getD k 0) || letB (l.getD k 0) || inB (l.getD k 0) marksL) && (l.drop (k + 1)).all tokB) := by
  rw [all_drop l k h]
  congr 1
  unfold tokB
  cases letB (l.getD k 0) <;> cases digitB (l.getD k 0) <;> rfl

set_option maxHeartbeats 2000000 in
theorem refToken_any (s : ByteArray) (w : World) (hs : s.size ≤ 1099511627775) :
    Calls Tryd.prog 33 #[.string s] w fun e w' => e = .returned (.bool (tokL s.data.toList)) ∧ w = w' := by
  go_enter Tryd.func33, Tryd.ntmps33
  go_wp2
  go_loop [3] (fun i => ∃ k : Nat, k ≤ s.size ∧ i = .int .i64 k ∧ Hid (s.data.toList.all tokB = (s.data.toList.drop k).all tokB)) (fun i => s.size - (intOf i).toNat)
  case atStart => exact ⟨0, Nat.zero_le _, rfl, rfl⟩
  case round =>
    obtain ⟨k, hk, rfl, HR⟩ := hrel
    by_cases hlt : k < s.size
    · have hbl := ba_len s
      have hd := HR.out.trans (all_tok_drop s.data.toList k (by omega))
      rw [← ba_get s k hlt] at hd
      have hne : s.data.toList.isEmpty = false := by
        cases h : s.data.toList with
        | nil => rw [h] at hbl; simp at hbl; omega
        | cons a r => rfl
      have HN := Lib.hid hne
      have C1 := fun W => Digit_any s[k] W
      have C2 := fun W => Letter_any s[k] W
      have C3 := fun W => In_any s[k] ⟨#[33, 35, 36, 37, 38, 39, 42, 43, 45, 46, 94, 95, 96, 124, 126]⟩ W (by decide)
      rw [show (⟨#[33, 35, 36, 37, 38, 39, 42, 43, 45, 46, 94, 95, 96, 124, 126]⟩ : ByteArray).data.toList = marksL from rfl] at C3
      have HD := Lib.hid hd
      clear hd hne hbl HR
      generalize digitB s[k] = d1 at C1 HD
      generalize letB s[k] = d2 at C2 HD
      generalize inB s[k] marksL = d3 at C3 HD
      have go : (d1 || d2 || d3) = true → Hid (s.data.toList.all tokB = (s.data.toList.drop (k + 1)).all tokB) := fun h => by
        have := HD.out
        rw [h, Bool.true_and] at this
        exact this
      cases d1
      · cases d2
        · cases d3
          · have H := Lib.hid (show tokL s.data.toList = false by unfold tokL; rw [HD.out]; simp)
            clear HD HN go
            go_wp2_with fail
            refine (C1 _).mono ?_
            rintro e w' ⟨rfl, rfl⟩
            go_wp2_with fail
            refine (C2 _).mono ?_
            rintro e w' ⟨rfl, rfl⟩
            go_wp2_with fail
            refine (C3 _).mono ?_
            rintro e w' ⟨rfl, rfl⟩
            go_wp2
            go_ret
            exact ⟨(by rw [H.out]; try rfl), rfl⟩
          · have H := go rfl
            clear HD HN go
            go_wp2_with fail
            refine (C1 _).mono ?_
            rintro e w' ⟨rfl, rfl⟩
            go_wp2_with fail
            refine (C2 _).mono ?_
            rintro e w' ⟨rfl, rfl⟩
            go_wp2_with fail
            refine (C3 _).mono ?_
            rintro e w' ⟨rfl, rfl⟩
            go_wp2
            go_round
            case rel => exact ⟨k + 1, by omega, by go_num, H⟩
            case measure => simp [intOf]; omega
        · have H := go rfl
          clear HD HN go
          go_wp2_with fail
          refine (C1 _).mono ?_
          rintro e w' ⟨rfl, rfl⟩
          go_wp2_with fail
          refine (C2 _).mono ?_
          rintro e w' ⟨rfl, rfl⟩
          go_wp2
          go_round
          case rel => exact ⟨k + 1, by omega, by go_num, H⟩
          case measure => simp [intOf]; omega
      · have H := go rfl
        clear HD HN go
        go_wp2_with fail
        refine (C1 _).mono ?_
        rintro e w' ⟨rfl, rfl⟩
        go_wp2
        go_round
        case rel => exact ⟨k + 1, by omega, by go_num, H⟩
        case measure => simp [intOf]; omega
    · have H := Lib.hid (show tokL s.data.toList = !s.toList.isEmpty by
        unfold tokL
        rw [HR.out, List.drop_of_length_le (by rw [ba_len]; omega), Lib.toList_data]
        simp)
      clear HR
      go_wp2
      go_ret
      exact ⟨(by rw [H.out]; try rfl), rfl⟩

theorem index_at : ∀ (l : List UInt8) (c : UInt8) (k : Nat), k < l.length → l.getD k 0 = c → (∀ j, j < k → l.getD j 0 ≠ c) → Lib.indexByte l c = (k : Int)
  | [], _, k, h, _, _ => absurd h (Nat.not_lt_zero k)
  | x :: r, c, 0, _, h, _ => by
    have : x = c := h
    subst this
    simp [Lib.indexByte]
  | x :: r, c, k + 1, h, hk, hj => by
    have hx : x ≠ c := hj 0 (Nat.succ_pos k)
    have ih := index_at r c k (by simpa using h) hk (fun j hjk => hj (j + 1) (by omega))
    unfold Lib.indexByte
    rw [if_neg (by simpa using hx), ih]
    simp
theorem index_no : ∀ (l : List UInt8) (c : UInt8), (∀ j, j < l.length → l.getD j 0 ≠ c) → Lib.indexByte l c = -1
  | [], _, _ => rfl
  | x :: r, c, h => by
    have hx : x ≠ c := h 0 (Nat.succ_pos _)
    have ih := index_no r c (fun j hj => h (j + 1) (by simpa using hj))
    unfold Lib.indexByte
    rw [if_neg (by simpa using hx), ih]
    simp

def atFst (b : UInt8) (l : List UInt8) : List UInt8 := if 0 ≤ Lib.indexByte l b then l.take (Lib.indexByte l b).toNat else l
def atSnd (b : UInt8) (l : List UInt8) : List UInt8 := if 0 ≤ Lib.indexByte l b then l.drop ((Lib.indexByte l b).toNat + 1) else []
def atOk (b : UInt8) (l : List UInt8) : Bool := decide (0 ≤ Lib.indexByte l b)
theorem at_found (b : UInt8) (l : List UInt8) (k : Nat) (h : Lib.indexByte l b = (k : Int)) : atFst b l = l.take k ∧ atSnd b l = l.drop (k + 1) ∧ atOk b l = true := by
  unfold atFst atSnd atOk
  rw [h]
  simp
theorem at_none (b : UInt8) (l : List UInt8) (h : Lib.indexByte l b = -1) : atFst b l = l ∧ atSnd b l = [] ∧ atOk b l = false := by
  unfold atFst atSnd atOk
  rw [h]
  simp
theorem ext_take (s : ByteArray) (k : Nat) : (s.extract 0 k).data.toList = s.data.toList.take k := by
  rw [ByteArray.data_extract, Array.toList_extract]
  simp [List.extract]
theorem ext_drop (s : ByteArray) (k : Nat) : (s.extract k s.size).data.toList = s.data.toList.drop k := by
  rw [ByteArray.data_extract, Array.toList_extract]
  show (s.data.toList.drop k).take (s.size - k) = _
  rw [List.take_of_length_le (by rw [List.length_drop, ba_len]; exact Nat.le_refl _)]

set_option maxHeartbeats 2000000 in
theorem refAt_any (c : UInt8) (s : ByteArray) (w : World) (hs : s.size ≤ 1099511627775) :
    Calls Tryd.prog 27 #[.string s, .int .u8 (c.toNat : Int)] w fun e w' => ∃ x y : ByteArray, e = .returned (.tuple #[.string x, .string y, .bool (atOk c s.data.toList)]) ∧ Hid (x.data.toList = atFst c s.data.toList) ∧ Hid (y.data.toList = atSnd c s.data.toList) ∧ ∃ q, w' = w.drewN q := by
  go_enter Tryd.func27, Tryd.ntmps27
  go_wp2
  go_loop [7] (fun i => ∃ k : Nat, k ≤ s.size ∧ i = .int .i64 k ∧ Hid (∀ j, j < k → s.data.toList.getD j 0 ≠ c)) (fun i => s.size - (intOf i).toNat)
  case atStart => exact ⟨0, Nat.zero_le _, rfl, fun j hj => absurd hj (Nat.not_lt_zero j)⟩
  case round =>
    obtain ⟨k, hk, rfl, HR⟩ := hrel
    by_cases hlt : k < s.size
    · have hck := u8_lt s[k]
      have hcc := u8_lt c
      have hgk := ba_get s k hlt
      have hbl := ba_len s
      by_cases he : s[k] = c
      · have e1 : (((s[k].toNat : Nat) : Int) == (c.toNat : Int)) = true := by rw [beq_iff_eq, he]
        have hx := at_found c s.data.toList k (index_at _ _ _ (by omega) (hgk ▸ he) HR.out)
        have H := Lib.hid hx
        clear hx HR hgk hbl he
        go_wp2_with (go_quiet (fail))
        go_ret3
        refine ⟨s.extract 0 k, s.extract (k + 1) s.size, (by rw [H.out.2.2]; try rfl), ?_, ?_, _, rfl⟩
        · exact Lib.hid (by rw [H.out.1]; exact ext_take s k)
        · exact Lib.hid (by rw [H.out.2.1]; exact ext_drop s (k + 1))
      · have e1 : (((s[k].toNat : Nat) : Int) == (c.toNat : Int)) = false := by
          rw [beq_eq_false_iff_ne]; intro h; exact he (UInt8.toNat_inj.1 (by omega))
        have H := Lib.hid (show ∀ j, j < k + 1 → s.data.toList.getD j 0 ≠ c from fun j hj => by
          by_cases h : j = k
          · subst h; rw [← hgk]; exact he
          · exact HR.out j (by omega))
        clear HR hgk hbl he
        go_wp2
        go_round
        case rel => exact ⟨k + 1, by omega, by go_num, H⟩
        case measure => simp [intOf]; omega
    · have hx := at_none c s.data.toList (index_no _ _ (fun j hj => HR.out j (by rw [ba_len] at hj; omega)))
      have H := Lib.hid hx
      clear hx HR
      go_wp2
      go_ret3
      exact ⟨s, ⟨#[]⟩, (by rw [H.out.2.2]; try rfl), Lib.hid H.out.1.symm, Lib.hid H.out.2.1.symm, 0, rfl⟩

theorem abc_low (b : UInt8) (h1 : 65 ≤ b.toNat) (h2 : b.toNat ≤ 90) (x : ByteArray) :
    (x ++ (ByteArray.extract ⟨#[97, 98, 99, 100, 101, 102, 103, 104, 105, 106, 107, 108, 109, 110, 111, 112, 113, 114, 115, 116, 117, 118, 119, 120, 121, 122]⟩ (b.toNat - 65) (b.toNat - 64))).data.toList = x.data.toList ++ [low b] := by
  have h : ∀ i : Fin 26, (ByteArray.extract ⟨#[97, 98, 99, 100, 101, 102, 103, 104, 105, 106, 107, 108, 109, 110, 111, 112, 113, 114, 115, 116, 117, 118, 119, 120, 121, 122]⟩ (i.1 + 65 - 65) (i.1 + 65 - 64)).data.toList = [low (UInt8.ofNat (i.1 + 65))] := by decide +kernel
  have h3 := h ⟨b.toNat - 65, by omega⟩
  simp only [show b.toNat - 65 + 65 = b.toNat from by omega] at h3
  rw [UInt8.ofNat_toNat] at h3
  rw [ByteArray.data_append, Array.toList_append, h3]

theorem lowL_take (l : List UInt8) (k : Nat) (h : k < l.length) : lowL (l.take (k + 1)) = lowL (l.take k) ++ [low (l.getD k 0)] := by
  show (l.take (k + 1)).map low = (l.take k).map low ++ _
  rw [List.take_succ_eq_append_getElem h, List.map_append]
  congr 1
  simp [List.getD, List.getElem?_eq_getElem h]

set_option maxHeartbeats 2000000 in
theorem refLower_any (s : ByteArray) (w : World) (hs : s.size ≤ 1099511627775) :
    Calls Tryd.prog 30 #[.string s] w fun e w' => ∃ x : ByteArray, e = .returned (.string x) ∧ Hid (x.data.toList = lowL s.data.toList) ∧ ∃ q, w' = w.drewN q := by
  go_enter Tryd.func30, Tryd.ntmps30
  go_wp2
  go_loopw [3, 4] (fun o i wr => ∃ k q : Nat, ∃ x : ByteArray, k ≤ s.size ∧ wr = w.drewN q ∧ i = .int .i64 k ∧ o = .string x ∧ Hid (x.data.toList = lowL (s.data.toList.take k))) (fun _ i _ => s.size - (intOf i).toNat)
  case atStart => exact ⟨0, 0, ⟨#[]⟩, Nat.zero_le _, rfl, rfl, rfl, rfl⟩
  case round =>
    obtain ⟨k, q, x, hk, rfl, rfl, rfl, HR⟩ := hrel
    by_cases hlt : k < s.size
    · have hck := u8_lt s[k]
      have hgk := ba_get s k hlt
      have hbl := ba_len s
      have hxs : x.size = k := by rw [← ba_len, HR.out, lowL_length, List.length_take]; omega
      have hst := lowL_take s.data.toList k (by omega)
      rw [← hgk, ← HR.out] at hst
      have HS := Lib.hid hst
      by_cases h1 : 65 ≤ s[k].toNat
      · by_cases h2 : s[k].toNat ≤ 90
        · have HA := Lib.hid (abc_low s[k] h1 h2 x)
          clear hst hgk hbl
          go_wp2_with (go_quiet (fail))
          go_roundw
          case rel => exact ⟨k + 1, q + nq, _, by omega, by simp [World.drewN], by go_num, rfl, Lib.hid (by rw [HS.out]; exact HA.out)⟩
          case measure => simp [intOf]; omega
        · have HA := Lib.hid (low_lo s[k] (by omega))
          have HB := Lib.hid (ba_app x s k hlt)
          have d2 : decide ((s[k].toNat : Int) ≤ 90) = false := by simp; omega
          clear hst hgk hbl
          go_wp2
          go_roundw
          case rel => exact ⟨k + 1, q, _, by omega, rfl, by go_num, rfl, Lib.hid (by rw [HS.out, HA.out]; exact HB.out)⟩
          case measure => simp [intOf]; omega
      · have HA := Lib.hid (low_lo s[k] (by omega))
        have HB := Lib.hid (ba_app x s k hlt)
        have d2 : decide ((65 : Int) ≤ (s[k].toNat : Int)) = false := by simp; omega
        clear hst hgk hbl
        go_wp2
        go_roundw
        case rel => exact ⟨k + 1, q, _, by omega, rfl, by go_num, rfl, Lib.hid (by rw [HS.out, HA.out]; exact HB.out)⟩
        case measure => simp [intOf]; omega
    · have H := Lib.hid (show x.data.toList = lowL s.data.toList by rw [HR.out, List.take_of_length_le (by rw [ba_len]; omega)])
      clear HR
      go_wp2
      go_ret
      exact ⟨_, rfl, H, q, rfl⟩

end Go.Proofs.YtfgjcdjhaihgaaaDoor

namespace Go.Proofs.YtfgjcdjhaihgaaaDoor
open Go.RowKit Go.Shelf

theorem bytesOf_numsL (l : List UInt8) : Lib.bytesOf (Lib.numsL l) = l := by
  unfold Lib.bytesOf Lib.numsL
  rw [List.map_map]
  conv => rhs; rw [← List.map_id l]
  apply List.map_congr_left
  intro b _
  simp

theorem IndexByte_any (q : Option Addr) (n c : Nat) (l : List UInt8) (b : UInt8) (w : World) (hl : l.length = n) (hq : q = none → n = 0 ∧ c = 0) (h : Lib.BytesIn w q n (Lib.numsL l)) :
    Calls Tryd.prog 50 #[.slice q n c, .int .u8 (b.toNat : Int)] w fun e w' => e = .returned (.int .i64 (Lib.indexByte l b)) ∧ w' = w := by
  cases q with
  | none =>
    obtain ⟨rfl, rfl⟩ := hq rfl
    obtain rfl : l = [] := List.eq_nil_of_length_eq_zero hl
    exact Tryd.bytes_IndexByte_nil (b.toNat : Int) w
  | some a =>
    have h1 := Tryd.bytes_IndexByte_at a n c (Lib.numsL l) (b.toNat : Int) w (by rw [Lib.numsL_length, hl]) (fun i hi => by
      obtain ⟨b', o, he, hc⟩ := h.at (by omega)
      cases he
      rw [Go.WideShapes.add_plain]
      exact hc i hi)
    rw [bytesOf_numsL, show (b.toNat : Int).toNat.toUInt8 = b from by simp] at h1
    exact h1

theorem index_lt : ∀ (l : List UInt8) (c : UInt8), Lib.indexByte l c < (l.length : Int)
  | [], _ => by simp [Lib.indexByte]
  | x :: r, c => by
    have ih := index_lt r c
    unfold Lib.indexByte
    split
    · simp
    · simp only [beq_iff_eq]
      split <;> simp <;> omega

theorem run_slice_to (q : Option Addr) (n c j : Nat) (W : World) (hj : j ≤ c) :
    (Instr.slice 22 (.slice q n c) none (some (.int .i64 (j : Int))) none).run Tryd.prog W = .ok (.slice (subA q c 0) j c) W := by
  have hs : ∀ w, (Go.sizeOf 5).run Tryd.prog w = .ok 1 w := Tryd.sizeOf5
  have he : Tryd.prog.elem 22 = 5 := by kernel_rfl
  have h := run_slice_h (P := Tryd.prog) (w := W) 22 q n c (by rw [he]; exact Tryd.underlying22) .i64 j (by omega) (by omega)
  rw [h, he, hs]
  simp [Result.andThen, sliced, subA]

theorem run_slice_from (q : Option Addr) (n c i : Nat) (W : World) (hi : i + 1 ≤ n) :
    (Instr.slice 22 (.slice q n c) (some (.int .i64 ((i : Int) + 1))) none none).run Tryd.prog W = .ok (.slice (subA q c (i + 1)) (n - (i + 1)) (c - (i + 1))) W := by
  have hs : ∀ w, (Go.sizeOf 5).run Tryd.prog w = .ok 1 w := Tryd.sizeOf5
  have he : Tryd.prog.elem 22 = 5 := by kernel_rfl
  have h := run_slice_l (P := Tryd.prog) (w := W) 22 q n c (by rw [he]; exact Tryd.underlying22) .i64 ((i : Int) + 1) (by omega) (by omega)
  rw [h, he, hs]
  simp only [Result.andThen, sliced, subA, Nat.mul_one, show ((i : Int) + 1).toNat = i + 1 from by omega]

theorem sub_to (l : List UInt8) (k : Nat) : sub l 0 k = l.take k := by unfold sub; simp
theorem sub_from (l : List UInt8) (k : Nat) : sub l k l.length = l.drop k := by unfold sub; rw [List.take_of_length_le (by simp)]

set_option maxRecDepth 100000 in
set_option maxHeartbeats 8000000 in
theorem At_any (q : Option Addr) (n c : Nat) (l : List UInt8) (b : UInt8) (w : World) (hl : l.length = n) (hn : n ≤ 1099511627775) (hcp : n ≤ c) (hq : q = none → n = 0 ∧ c = 0) (h : Lib.BytesIn w q n (Lib.numsL l)) :
    Calls Tryd.prog 38 #[.slice q n c, .int .u8 (b.toNat : Int)] w fun e w' => ∃ v1 v2, e = .returned (.tuple #[v1, v2, .bool (atOk b l)]) ∧
      w'.ownsRow w.heap.size 5 1 v1 (atFst b l).length ((Lib.numsL (atFst b l)).map (Value.int .u8)) ∧
      w'.ownsRow w.heap.size 5 1 v2 (atSnd b l).length ((Lib.numsL (atSnd b l)).map (Value.int .u8)) ∧ Below w.heap.size w w' := by
  have hix := IndexByte_any q n c l b w hl hq h
  have hge := Lib.indexByte_ge l b
  have hlt := index_lt l b
  by_cases h0 : 0 ≤ Lib.indexByte l b
  · obtain ⟨k, hk⟩ : ∃ k : Nat, Lib.indexByte l b = (k : Int) := ⟨(Lib.indexByte l b).toNat, by omega⟩
    obtain ⟨e1, e2, e3⟩ := at_found b l k hk
    rw [hk] at hix hlt
    have hkn : k < n := by omega
    rw [e1, e2, e3]
    have hb1 := bytes_sub h hl (Nat.zero_le k) (by omega) hcp
    have hb2 := bytes_sub h hl (show k + 1 ≤ n from hkn) (Nat.le_refl n) hcp
    have hs2 : sub l (k + 1) n = l.drop (k + 1) := by rw [← hl]; exact sub_from l (k + 1)
    rw [sub_to, Nat.sub_zero] at hb1
    rw [hs2] at hb2
    have hl1 : (l.take k).length = k := by rw [List.length_take]; omega
    have hl2 : (l.drop (k + 1)).length = n - (k + 1) := by rw [List.length_drop]; omega
    have hwr : IntKind.i64.wrap ((k : Int) + 1) = (k : Int) + 1 := by rw [IntKind.wrap_i64]; omega
    have hr1 : ∀ W, (Instr.slice 22 (.slice q n c) none (some (.int .i64 (k : Int))) none).run Tryd.prog W = .ok (.slice (subA q c 0) k c) W := fun W => run_slice_to q n c k W (by omega)
    have hr2 : ∀ W, (Instr.slice 22 (.slice q n c) (some (.int .i64 ((k : Int) + 1))) none none).run Tryd.prog W = .ok (.slice (subA q c (k + 1)) (n - (k + 1)) (c - (k + 1))) W := fun W => run_slice_from q n c k W hkn
    clear e1 e2 e3 h0 hge hk hs2 h
    rw [hl1, hl2]
    generalize l.take k = l1 at *
    generalize l.drop (k + 1) = l2 at *
    generalize hqa : subA q c 0 = qa at *
    generalize hqb : subA q c (k + 1) = qb at *
    clear hqa hqb
    go_enter Tryd.func38, Tryd.ntmps38
    go_wp2_with fail
    refine hix.mono ?_
    rintro e w' ⟨rfl, hw⟩
    subst hw
    go_wp2_with fail
    refine pregion_any (fun _ => True) (by kernel_rfl) ?_
    refine wpAnyH_take (i := 0) (v := .slice q n c) rfl (by kernel_rfl) (by kernel_rfl) (by kernel_rfl) (fun _ _ _ h => h) (.inl ⟨by kernel_rfl, ?_⟩) trivial ?_
    · rintro w -; go_simp
    refine wpAnyH_take (i := 1) (v := .int .i64 (k : Int)) rfl (by kernel_rfl) (by kernel_rfl) (by kernel_rfl) (fun _ _ _ h => h) (.inl ⟨by kernel_rfl, ?_⟩) trivial ?_
    · rintro w -; go_simp
    refine wpAnyH_take (i := 2) (v := .slice qa k c) rfl (by kernel_rfl) (by kernel_rfl) (by kernel_rfl) (fun _ _ _ h => h) (.inl ⟨by kernel_rfl, ?_⟩) trivial ?_
    · rintro w -; go_simp
    refine wpAnyH_take (i := 4) (v := .slice q n c) rfl (by kernel_rfl) (by kernel_rfl) (by kernel_rfl) (fun _ _ _ h => h) (.inl ⟨by kernel_rfl, ?_⟩) trivial ?_
    · rintro w -; go_simp
    refine wpAnyH_take (i := 5) (v := .int .i64 (k : Int)) rfl (by kernel_rfl) (by kernel_rfl) (by kernel_rfl) (fun _ _ _ h => h) (.inl ⟨by kernel_rfl, ?_⟩) trivial ?_
    · rintro w -; go_simp
    refine wpAnyH_take (i := 6) (v := .int .i64 ((k : Int) + 1)) rfl (by kernel_rfl) (by kernel_rfl) (by kernel_rfl) (fun _ _ _ h => h) (.inl ⟨by kernel_rfl, ?_⟩) trivial ?_
    · rintro w -; go_simp
    refine wpAnyH_take (i := 7) (v := .slice qb (n - (k + 1)) (c - (k + 1))) rfl (by kernel_rfl) (by kernel_rfl) (by kernel_rfl) (fun _ _ _ h => h) (.inl ⟨by kernel_rfl, ?_⟩) trivial ?_
    · rintro w -; go_simp
    have hd1 := bytes_keep hb1 (Keep.drew (fun _ => True) _) (fun _ _ _ => trivial)
    have hd2 := bytes_keep hb2 (Keep.drew (fun _ => True) _) (fun _ _ _ => trivial)
    refine pone 3 (by kernel_rfl) rfl fun K hK => ?_
    go_simp
    refine (Clone_any qa k c l1 _ hl1 (by omega) hd1).mono ?_
    rintro e w1 ⟨v1, rfl, hrow1, hbel1⟩
    have hd3 := bytes_keep hd2 (Keep.of_below hbel1) (fun a h1 h2 => bytes_lt hd2 a h1 h2)
    rw [drew_size] at hrow1 hbel1
    refine hK _ _ trivial ?_
    clear hK K
    refine pone 8 (by kernel_rfl) rfl fun K hK => ?_
    go_simp
    refine (Clone_any qb (n - (k + 1)) (c - (k + 1)) l2 _ hl2 (by omega) hd3).mono ?_
    rintro e w2 ⟨v2, rfl, hrow2, hbel2⟩
    have hrow1' := (Keep.of_below hbel2).row hrow1 (fun b hb => (hrow1.lt b hb).2)
    have hsz := hbel1.size
    rw [drew_size] at hsz
    have hrow2' := row_base hrow2 hsz
    have hfin : Below w'.heap.size w' w2 := (Below.refl _ _).drew.trans (hbel1.trans (hbel2.mono hsz))
    refine hK _ _ trivial ?_
    clear hK K hrow1 hrow2 hbel1 hbel2 hd1 hd2 hd3 hb1 hb2
    refine wpAnyH_take (i := 9) (v := v1) rfl (by kernel_rfl) (by kernel_rfl) (by kernel_rfl) (fun _ _ _ h => h) (.inl ⟨by kernel_rfl, ?_⟩) trivial ?_
    · rintro w -; go_simp
    refine wpAnyH_take (i := 10) (v := v2) rfl (by kernel_rfl) (by kernel_rfl) (by kernel_rfl) (fun _ _ _ h => h) (.inl ⟨by kernel_rfl, ?_⟩) trivial ?_
    · rintro w -; go_simp
    refine wpAnyH_take (i := 11) (v := .bool true) rfl (by kernel_rfl) (by kernel_rfl) (by kernel_rfl) (fun _ _ _ h => h) (.inl ⟨by kernel_rfl, ?_⟩) trivial ?_
    · rintro w -; go_simp
    refine pdone (by kernel_rfl) ?_ _
    go_wp2
    go_ret3
    exact ⟨v1, v2, rfl, hrow1', hrow2', hfin⟩
  · have hk : Lib.indexByte l b = -1 := by omega
    obtain ⟨e1, e2, e3⟩ := at_none b l hk
    rw [hk] at hix
    rw [e1, e2, e3, hl]
    clear e1 e2 e3 h0 hge hk hlt
    go_enter Tryd.func38, Tryd.ntmps38
    go_wp2_with fail
    refine hix.mono ?_
    rintro e w' ⟨rfl, hw⟩
    subst hw
    go_wp2_with fail
    refine (Clone_any q n c l _ hl (by omega) h).mono ?_
    rintro e w1 ⟨v1, rfl, hrow1, hbel1⟩
    go_wp2
    go_ret3
    exact ⟨v1, _, rfl, hrow1, World.ownsRow_nil _ _ _ _, hbel1⟩

end Go.Proofs.YtfgjcdjhaihgaaaDoor

namespace Go.Proofs.YtfgjcdjhaihgaaaDoor
open Go.RowKit Go.Shelf

set_option maxHeartbeats 1000000 in
theorem isBlank_any (b : UInt8) (w : World) :
    Calls Tryd.prog 51 #[.int .u8 (b.toNat : Int)] w fun e w' => e = .returned (.bool (blankB b)) ∧ w = w' := by
  have hb := u8_lt b
  by_cases h1 : b.toNat = 32
  · have d1 : ((b.toNat : Int) == 32) = true := by rw [beq_iff_eq]; omega
    have H := Lib.hid (show blankB b = true by simp [blankB]; omega)
    clear h1
    go_enter Tryd.func51, Tryd.ntmps51
    go_wp2
    go_ret
    exact ⟨(by rw [H.out]; try rfl), rfl⟩
  · have d1 : ((b.toNat : Int) == 32) = false := by rw [beq_eq_false_iff_ne]; omega
    have H := Lib.hid (show blankB b = ((b.toNat : Int) == 9) by rw [Bool.eq_iff_iff, beq_iff_eq]; simp [blankB]; omega)
    clear h1
    go_enter Tryd.func51, Tryd.ntmps51
    go_wp2
    go_ret
    exact ⟨(by rw [H.out]; try rfl), rfl⟩

set_option maxHeartbeats 1000000 in
theorem Blank_any (b : UInt8) (w : World) :
    Calls Tryd.prog 40 #[.int .u8 (b.toNat : Int)] w fun e w' => e = .returned (.bool (blankB b)) ∧ w = w' := by
  have hb := u8_lt b
  by_cases h1 : b.toNat = 32
  · have d1 : ((b.toNat : Int) == 32) = true := by rw [beq_iff_eq]; omega
    have H := Lib.hid (show blankB b = true by simp [blankB]; omega)
    clear h1
    go_enter Tryd.func40, Tryd.ntmps40
    go_wp2
    go_ret
    exact ⟨(by rw [H.out]; try rfl), rfl⟩
  · have d1 : ((b.toNat : Int) == 32) = false := by rw [beq_eq_false_iff_ne]; omega
    have H := Lib.hid (show blankB b = ((b.toNat : Int) == 9) by rw [Bool.eq_iff_iff, beq_iff_eq]; simp [blankB]; omega)
    clear h1
    go_enter Tryd.func40, Tryd.ntmps40
    go_wp2
    go_ret
    exact ⟨(by rw [H.out]; try rfl), rfl⟩

/-- From f to e lies what is left of l without the blanks at both ends. -/
def Trims (l : List UInt8) (f e : Nat) : Prop :=
  (f = l.length ∧ e = l.length ∧ ∀ j, j < l.length → blankB (l.getD j 0) = true) ∨
  (f < e ∧ e ≤ l.length ∧ (∀ j, j < f → blankB (l.getD j 0) = true) ∧ blankB (l.getD f 0) = false ∧ blankB (l.getD (e - 1) 0) = false ∧ ∀ j, e ≤ j → j < l.length → blankB (l.getD j 0) = true)

theorem first_no (l : List UInt8) : ∀ (d m : Nat), l.length - m = d → (∀ j, j < m → blankB (l.getD j 0) = true) → m ≤ l.length →
    (∀ j, j < l.length → blankB (l.getD j 0) = true) ∨ ∃ f, f < l.length ∧ (∀ j, j < f → blankB (l.getD j 0) = true) ∧ blankB (l.getD f 0) = false
  | 0, m, hd, h, hm => .inl (fun j hj => h j (by omega))
  | d + 1, m, hd, h, hm => by
    by_cases hb : blankB (l.getD m 0) = true
    · exact first_no l d (m + 1) (by omega) (fun j hj => by
        by_cases he : j = m
        · subst he; exact hb
        · exact h j (by omega)) (by omega)
    · exact .inr ⟨m, by omega, h, by simpa using hb⟩
theorem last_no (l : List UInt8) (f : Nat) (hf : blankB (l.getD f 0) = false) : ∀ (m : Nat), f < m → m ≤ l.length → (∀ j, m ≤ j → j < l.length → blankB (l.getD j 0) = true) →
    ∃ e, f < e ∧ e ≤ l.length ∧ blankB (l.getD (e - 1) 0) = false ∧ ∀ j, e ≤ j → j < l.length → blankB (l.getD j 0) = true
  | 0, h, _, _ => absurd h (Nat.not_lt_zero f)
  | m + 1, h, hm, ha => by
    by_cases hb : blankB (l.getD m 0) = true
    · have hne : f ≠ m := by rintro rfl; rw [hf] at hb; cases hb
      exact last_no l f hf m (by omega) (by omega) (fun j hj hl => by
        by_cases he : j = m
        · subst he; exact hb
        · exact ha j (by omega) hl)
    · exact ⟨m + 1, h, hm, by rw [Nat.add_sub_cancel]; simpa using hb, ha⟩
theorem trims (l : List UInt8) : ∃ f e, Trims l f e := by
  rcases first_no l l.length 0 (by omega) (fun j hj => absurd hj (Nat.not_lt_zero j)) (Nat.zero_le _) with h | ⟨f, h1, h2, h3⟩
  · exact ⟨_, _, .inl ⟨rfl, rfl, h⟩⟩
  · obtain ⟨e, h4, h5, h6, h7⟩ := last_no l f h3 l.length h1 (Nat.le_refl _) (fun j h1 h2 => absurd h1 (by omega))
    exact ⟨f, e, .inr ⟨h4, h5, h2, h3, h6, h7⟩⟩
theorem Trims.le {l : List UInt8} {f e : Nat} (h : Trims l f e) : f ≤ e ∧ e ≤ l.length := by
  rcases h with ⟨h1, h2, _⟩ | ⟨h1, h2, _⟩ <;> omega

set_option maxRecDepth 100000 in
set_option maxHeartbeats 4000000 in
theorem cutTrim_any (q : Option Addr) (n c f e : Nat) (l : List UInt8) (w : World) (hl : l.length = n) (hn : n ≤ 1099511627775) (hnc : n ≤ c) (hb : Lib.BytesIn w q n (Lib.numsL l)) (ht : Trims l f e) :
    Calls Tryd.prog 39 #[.slice q n c] w fun e' w' => ∃ v', e' = .returned v' ∧ w'.ownsRow w.heap.size 5 1 v' (sub l f e).length ((Lib.numsL (sub l f e)).map (Value.int .u8)) ∧ Below w.heap.size w w' := by
  have hle := ht.le
  have con := Clone_any (subA q c f) (e - f) (c - f) (sub l f e) w (by rw [sub_length _ _ _ hle.2]) (by omega) (bytes_sub hb hl hle.1 (by omega) hnc)
  have hsl := fun W => run_slice_sub q n c f e W hle.1 (by omega)
  have hcell : ∀ j, j < n → ∃ b o, q = some ⟨b, o, none⟩ ∧ w.cell? ⟨b, o + j, none⟩ = some (.int .u8 ((l.getD j 0).toNat : Int)) := fun j hj => by
    obtain ⟨b, o, rfl, hc⟩ := hb.at (by omega)
    exact ⟨b, o, rfl, by rw [← numsL_getD l j (by omega)]; exact hc j hj⟩
  have hsz := sub_length l f e hle.2
  rw [hsz]
  rw [hl] at hle
  clear hb hsz
  go_enter Tryd.func39, Tryd.ntmps39
  go_wp2
  go_loop [3] (fun i => ∃ k : Nat, k ≤ f ∧ i = .int .i64 k) (fun i => f - (intOf i).toNat)
  case atStart => exact ⟨0, Nat.zero_le _, rfl⟩
  case round =>
    obtain ⟨k, hk, rfl⟩ := hrel
    by_cases hlt : k < f
    · obtain ⟨b, o, rfl, hck⟩ := hcell k (by omega)
      have hbk : blankB (l.getD k 0) = true := by
        rcases ht with ⟨h1, h2, h3⟩ | ⟨h1, h2, h3, _⟩
        · exact h3 k (by omega)
        · exact h3 k hlt
      have cb := isBlank_any (l.getD k 0)
      rw [hbk] at cb
      clear con hsl hcell ht hbk
      generalize l.getD k 0 = bk at *
      have hkn : k < n := by omega
      go_wp2_with (go_at_call 51; refine (cb _).mono ?_; rintro e w' ⟨rfl, rfl⟩)
      go_round
      case rel => exact ⟨k + 1, by omega, by go_num⟩
      case measure => simp [intOf]; omega
    · obtain rfl : k = f := by omega
      rcases ht with ⟨rfl, rfl, h3⟩ | ⟨h1, h2, h3, h4, h5, h6⟩
      · rw [hl] at hk con hsl hle hlt ⊢
        clear hcell h3
        rw [Nat.sub_self] at con hsl
        go_wp2_with fail
        go_loop [4] (fun i => i = .int .i64 (n : Int)) (fun _ => 0)
        case atStart => rfl
        case round =>
          obtain rfl := hrel
          go_wp2_with fail
          refine con.mono ?_
          rintro e w' ⟨v', rfl, hrow, hbel⟩
          go_wp2
          go_ret
          exact ⟨v', rfl, by first | exact hrow | (rw [Nat.sub_self, hl]; exact hrow), hbel⟩
      · obtain ⟨b, o, rfl, hck⟩ := hcell k (by omega)
        have cb := isBlank_any (l.getD k 0)
        rw [h4] at cb
        clear h4
        generalize l.getD k 0 = bk at *
        have hkn : k < n := by omega
        go_wp2_with fail
        refine (cb _).mono ?_
        rintro e w' ⟨rfl, rfl⟩
        go_wp2_with fail
        clear hck h3 hkn
        go_loop [4] (fun i => ∃ t : Nat, e ≤ t + 1 ∧ t + 1 ≤ n ∧ i = .int .i64 ((t : Int) + 1)) (fun i => (intOf i).toNat - e)
        case atStart => exact ⟨n - 1, by omega, by omega, by congr 1; omega⟩
        case round =>
          obtain ⟨t, ht1, ht2, rfl⟩ := hrel
          obtain ⟨b2, o2, hq2, hct⟩ := hcell t (by omega)
          cases hq2
          have ct := isBlank_any (l.getD t 0)
          have d3 : decide ((k : Int) < (t : Int) + 1) = true := by simp; omega
          by_cases het : e < t + 1
          · rw [h6 t (by omega) (by omega)] at ct
            clear h5 h6 con hsl cb hcell
            generalize l.getD t 0 = bt at *
            go_wp2_with fail
            refine (ct _).mono ?_
            rintro e w' ⟨rfl, rfl⟩
            go_wp2
            go_round
            case rel => exact ⟨t - 1, by omega, by omega, by go_num⟩
            case measure => simp [intOf]; omega
          · obtain rfl : e = t + 1 := by omega
            rw [Nat.add_sub_cancel] at h5
            rw [h5] at ct
            push_cast at hsl
            clear h5 h6 cb hcell
            generalize l.getD t 0 = bt at *
            go_wp2_with fail
            refine (ct _).mono ?_
            rintro e w' ⟨rfl, rfl⟩
            go_wp2_with fail
            refine con.mono ?_
            rintro e w' ⟨v', rfl, hrow, hbel⟩
            go_wp2
            go_ret
            exact ⟨_, rfl, hrow, hbel⟩

end Go.Proofs.YtfgjcdjhaihgaaaDoor

namespace Go.Proofs.YtfgjcdjhaihgaaaDoor
open Go.RowKit Go.Shelf

def strSz : Value → Nat
  | .string x => x.size
  | _ => 0

set_option maxRecDepth 100000 in
set_option maxHeartbeats 4000000 in
theorem refTrim_any (s : ByteArray) (f e : Nat) (w : World) (hs : s.size ≤ 1099511627775) (ht : Trims s.data.toList f e) :
    Calls Tryd.prog 28 #[.string s] w fun e' w' => ∃ x : ByteArray, e' = .returned (.string x) ∧ Hid (x.data.toList = sub s.data.toList f e) ∧ w = w' := by
  have hle := ht.le
  have hbl := ba_len s
  go_enter Tryd.func28, Tryd.ntmps28
  go_wp2
  go_loop [0] (fun v => ∃ k : Nat, ∃ x : ByteArray, k ≤ f ∧ v = .string x ∧ Hid (x.data.toList = s.data.toList.drop k)) strSz
  case atStart => exact ⟨0, s, Nat.zero_le _, rfl, rfl⟩
  case round =>
    obtain ⟨k, x, hk, rfl, HX⟩ := hrel
    have hxs : x.size = s.size - k := by rw [← ba_len, HX.out, List.length_drop, hbl]
    by_cases hlt : k < f
    · have h0 : 0 < x.size := by omega
      have hb0 : blankB x[0] = true := by
        rw [ba_get x 0 h0, HX.out]
        have hg : (s.data.toList.drop k).getD 0 0 = s.data.toList.getD k 0 := by simp [List.getD]
        rw [hg]
        rcases ht with ⟨h1, h2, h3⟩ | ⟨h1, h2, h3, _⟩
        · exact h3 k (by omega)
        · exact h3 k hlt
      have cb := fun W => Blank_any x[0] W
      rw [hb0] at cb
      have d1 : decide ((0 : Int) < (x.size : Int)) = true := by simp; omega
      have HN := Lib.hid (show (x.extract 1 x.size).data.toList = s.data.toList.drop (k + 1) by rw [ext_drop, HX.out, List.drop_drop])
      clear hb0 ht HX hxs hle hbl
      go_wp2_with fail
      refine (cb _).mono ?_
      rintro e w' ⟨rfl, rfl⟩
      go_wp2
      go_round
      case rel => exact ⟨k + 1, _, by omega, rfl, HN⟩
      case measure => simp [strSz]; omega
    · obtain rfl : k = f := by omega
      rcases ht with ⟨h1, h2, h3⟩ | ⟨h1, h2, h3, h4, h5, h6⟩
      · have d1 : decide ((0 : Int) < (x.size : Int)) = false := decide_eq_false (by omega)
        have HE := Lib.hid (show x.data.toList = sub s.data.toList k e by rw [h2, ← h1, sub_nil, HX.out, h1, List.drop_length])
        have hx0 : x = ⟨#[]⟩ := by
          apply ByteArray.ext; apply Array.ext'; rw [HX.out, h1, List.drop_length]
        subst hx0
        clear h1 h2 h3 HX hxs hle hbl hk hlt d1
        go_wp2_with fail
        go_loop [0] (fun v => v = .string ⟨#[]⟩) (fun _ => 0)
        case atStart => rfl
        case round =>
          obtain rfl := hrel
          go_wp2
          go_ret
          exact ⟨⟨#[]⟩, rfl, HE, rfl⟩
      · have h0 : 0 < x.size := by omega
        have hb0 : blankB x[0] = false := by
          rw [ba_get x 0 h0, HX.out]
          have hg : (s.data.toList.drop k).getD 0 0 = s.data.toList.getD k 0 := by simp [List.getD]
          rw [hg]
          exact h4
        have cb := fun W => Blank_any x[0] W
        rw [hb0] at cb
        have d1 : decide ((0 : Int) < (x.size : Int)) = true := by simp; omega
        have HS := Lib.hid (show x.data.toList = sub s.data.toList k s.size by rw [HX.out, ← hbl]; exact (sub_from _ _).symm)
        clear hb0 HX h3 h4 hxs hk hlt
        go_wp2_with fail
        refine (cb _).mono ?_
        rintro e' w' ⟨rfl, rfl⟩
        go_wp2_with fail
        clear cb d1
        go_loop [0] (fun v => ∃ t : Nat, ∃ x : ByteArray, e ≤ t + 1 ∧ t + 1 ≤ s.size ∧ v = .string x ∧ Hid (x.data.toList = sub s.data.toList k (t + 1))) strSz
        case atStart => exact ⟨s.size - 1, x, by omega, by omega, rfl, by rw [show s.size - 1 + 1 = s.size by omega]; exact HS⟩
        case round =>
          obtain ⟨t, y, ht1, ht2, rfl, HX⟩ := hrel
          have hys : y.size = t + 1 - k := by rw [← ba_len, HX.out, sub_length _ _ _ (by omega)]
          have hy0 : y.size - 1 < y.size := by omega
          have hg : blankB y[y.size - 1] = blankB (s.data.toList.getD t 0) := by
            rw [ba_get y _ hy0, HX.out, sub_getD _ _ _ _ (by omega), show k + (y.size - 1) = t by omega]
          have cb := fun W => Blank_any (y[y.size - 1]'hy0) W
          rw [hg] at cb
          have d1 : decide ((0 : Int) < (y.size : Int)) = true := by simp; omega
          by_cases het : e < t + 1
          · rw [h6 t (by omega) (by omega)] at cb
            have HN := Lib.hid (show (y.extract 0 (y.size - 1)).data.toList = sub s.data.toList k (t - 1 + 1) by
              rw [ext_take, HX.out, hys]
              unfold sub
              rw [List.take_take]
              congr 1
              omega)
            have hyp : 0 < y.size := by omega
            have hyb : y.size ≤ 1099511627775 := by omega
            clear h5 h6 HX hg hys
            go_wp2_with fail
            refine (cb _).mono ?_
            rintro e' w' ⟨rfl, rfl⟩
            go_wp2
            go_round
            case rel => exact ⟨t - 1, _, by omega, by omega, rfl, HN⟩
            case measure => simp [strSz]; omega
          · obtain rfl : e = t + 1 := by omega
            rw [Nat.add_sub_cancel] at h5
            rw [h5] at cb
            have hyp : 0 < y.size := by omega
            have hyb : y.size ≤ 1099511627775 := by omega
            clear h5 h6 hg hys
            go_wp2_with fail
            refine (cb _).mono ?_
            rintro e' w' ⟨rfl, rfl⟩
            go_wp2
            go_ret
            exact ⟨y, rfl, HX, rfl⟩

end Go.Proofs.YtfgjcdjhaihgaaaDoor

namespace Go.Proofs.YtfgjcdjhaihgaaaDoor.Url

theorem at_ahead (c : UInt8) (l : List UInt8) : atFst c l = aheadL c l ∧ Host.tailL c l = (if atOk c l = true then some (atSnd c l) else none) ∧ (atOk c l = false → atSnd c l = []) := by
  by_cases h : c ∈ l
  · obtain ⟨x, y, rfl, hx⟩ := List.eq_append_cons_of_mem h
    have hi : Lib.indexByte (x ++ c :: y) c = (x.length : Int) := index_at _ _ _ (by simp) (by simp [List.getD]) fun j hj => by
      intro e
      apply hx
      rw [← e, List.getD, List.getElem?_append_left hj, List.getElem?_eq_getElem hj]
      exact List.getElem_mem hj
    obtain ⟨h1, h2, h3⟩ := at_found c _ _ hi
    obtain ⟨h4, h5⟩ := ahead_yes c x y hx
    rw [h1, h2, h3, h4, h5, if_pos rfl]
    refine ⟨by simp, by simp, fun h => by cases h⟩
  · have hi : Lib.indexByte l c = -1 := index_no _ _ fun j hj e => h (by
      rw [← e, List.getD, List.getElem?_eq_getElem hj]
      exact List.getElem_mem hj)
    obtain ⟨h1, h2, h3⟩ := at_none c l hi
    obtain ⟨h4, h5⟩ := ahead_no c l h
    rw [h1, h2, h3, h4, h5]
    exact ⟨rfl, rfl, fun _ => rfl⟩
end Go.Proofs.YtfgjcdjhaihgaaaDoor.Url

namespace Go.Proofs.YtfgjcdjhaihgaaaDoor.Url
open Go.RowKit Go.Shelf
attribute [local go_sem] Oper.semAt_some

/-- The slice v reads as l. -/
def By (w : World) (v : Value) (l : List UInt8) : Prop :=
  ∃ q c, v = .slice q l.length c ∧ l.length ≤ c ∧ c ≤ maxLen ∧ (q = none → c = 0) ∧ Lib.BytesIn w q l.length (Lib.numsL l)
theorem by_nil (w : World) : By w (.slice none 0 0) [] := ⟨none, 0, rfl, Nat.le_refl _, Nat.zero_le _, fun _ => rfl, Lib.BytesIn.nil _ _ _⟩
theorem bytes_on {w w' : World} {q : Option Addr} {n : Nat} {xs : List Int} (h : Lib.BytesIn w q n xs) (hk : Below w.heap.size w w') : Lib.BytesIn w' q n xs := bytes_keep h (Keep.of_below hk) (bytes_lt h)
theorem By.on {w w' : World} {v : Value} {l : List UInt8} (h : By w v l) (hk : Below w.heap.size w w') : By w' v l := by
  obtain ⟨q, c, h1, h2, h3, h4, h5⟩ := h
  exact ⟨q, c, h1, h2, h3, h4, bytes_on h5 hk⟩
theorem By.row {w : World} {base n : Nat} {v : Value} {l : List UInt8} (h : w.ownsRow base 5 1 v n ((Lib.numsL l).map (Value.int .u8))) : By w v l := by
  obtain ⟨q, c, rfl, rfl, h2, h3, h4, h5⟩ := row_open h
  refine ⟨q, c, rfl, h2, h3, fun hq => ?_, h4⟩
  subst hq
  rcases h.2 with ⟨hv, _⟩ | ⟨g, cap, cur, hv, _⟩
  · injection hv
  · cases hv
theorem below_drewN (w : World) (m : Nat) : Below w.heap.size w (w.drewN m) := ⟨rfl, rfl, rfl, Nat.le_refl _, fun _ _ => rfl⟩
/-- By its parts. -/
theorem By.at {w : World} {q : Option Addr} {n c : Nat} {l : List UInt8} (h : By w (.slice q n c) l) : l.length = n ∧ n ≤ c ∧ c ≤ maxLen ∧ (q = none → n = 0 ∧ c = 0) ∧ Lib.BytesIn w q n (Lib.numsL l) := by
  obtain ⟨q', c', he, h2, h3, h4, h5⟩ := h
  cases he
  exact ⟨rfl, h2, h3, fun hq => by have := h4 hq; omega, h5⟩
theorem By.of {w : World} {q : Option Addr} {n c : Nat} {l : List UInt8} (h1 : l.length = n) (h2 : n ≤ c) (h3 : c ≤ maxLen) (h4 : q = none → c = 0) (h5 : Lib.BytesIn w q n (Lib.numsL l)) : By w (.slice q n c) l := by
  subst h1; exact ⟨q, c, rfl, h2, h3, h4, h5⟩

theorem run_slice_at (q : Option Addr) (n c i : Nat) (W : World) (hi : i ≤ n) :
    (Instr.slice 22 (.slice q n c) (some (.int .i64 (i : Int))) none none).run Tryd.prog W = .ok (.slice (subA q c i) (n - i) (c - i)) W := by
  have hs : ∀ w, (Go.sizeOf 5).run Tryd.prog w = .ok 1 w := Tryd.sizeOf5
  have he : Tryd.prog.elem 22 = 5 := by kernel_rfl
  have h := run_slice_l (P := Tryd.prog) (w := W) 22 q n c (by rw [he]; exact Tryd.underlying22) .i64 (i : Int) (by omega) (by omega)
  rw [h, he, hs]
  simp only [Result.andThen, sliced, subA, Nat.mul_one, Int.toNat_natCast]
theorem subA_none {q : Option Addr} {c l : Nat} (h : subA q c l = none) : q = none := by
  unfold subA at h
  split at h
  · exact h
  · cases q with
    | none => rfl
    | some a => simp at h
/-- A piece of what a slice reads as. -/
theorem By.sub {w : World} {q : Option Addr} {n c i j : Nat} {l : List UInt8} (h : By w (.slice q n c) l) (hij : i ≤ j) (hj : j ≤ n) : By w (.slice (subA q c i) (j - i) (c - i)) (sub l i j) := by
  obtain ⟨h1, h2, h3, h4, h5⟩ := h.at
  exact By.of (sub_length l i j (by omega)) (by omega) (by omega) (fun hq => by have := h4 (subA_none hq); omega) (bytes_sub h5 h1 hij hj h2)

end Go.Proofs.YtfgjcdjhaihgaaaDoor.Url

namespace Go.Proofs.YtfgjcdjhaihgaaaDoor.Url
open Go.RowKit Go.Shelf
attribute [local go_sem] Oper.semAt_some

def byV (l : List UInt8) : List Value := (Lib.numsL l).map (Value.int .u8)
theorem byV_app (l m : List UInt8) : byV (l ++ m) = byV l ++ byV m := by simp [byV, Lib.numsL]

end Go.Proofs.YtfgjcdjhaihgaaaDoor.Url

namespace Go.Proofs.YtfgjcdjhaihgaaaDoor.Hdr
open Go.RowKit Go.Shelf
set_option linter.unusedVariables false

/-- What a rune tells that was read from a byte of 128 or above. -/
def Dec (n b1 b2 b3 : Nat) (x : Nat × Nat) : Prop :=
  1 ≤ x.2 ∧ x.2 ≤ 4 ∧ x.2 ≤ n ∧ 128 ≤ x.1 ∧ x.1 ≤ 1114111 ∧ (1 < x.2 → 128 ≤ b1) ∧ (2 < x.2 → 128 ≤ b2) ∧ (3 < x.2 → 128 ≤ b3) ∧
    (x.1 ≠ 65533 → (x.2 = 2 ∧ x.1 < 2048) ∨ (x.2 = 3 ∧ 2048 ≤ x.1 ∧ x.1 < 65536 ∧ (x.1 < 55296 ∨ 57344 ≤ x.1)) ∨ (x.2 = 4 ∧ 65536 ≤ x.1))
theorem dec_n (n b0 b1 b2 b3 : Nat) (hn : 0 < n) (h0 : 128 ≤ b0) (l0 : b0 < 256) : Dec n b1 b2 b3 (Lib.decodeN n b0 b1 b2 b3) := by
  unfold Lib.decodeN
  rw [if_neg (by omega)]
  repeat' split
  all_goals (unfold Dec; dsimp only; refine ⟨by omega, by omega, by omega, by omega, by omega, fun h => by omega, fun h => by omega, fun h => by omega, fun h => ?_⟩)
  all_goals first
    | exact absurd rfl h
    | exact .inl ⟨rfl, by omega⟩
    | exact .inr (.inl ⟨rfl, by omega, by omega, by omega⟩)
    | exact .inr (.inr ⟨rfl, by omega⟩)
theorem get_bang (l : List UInt8) (i : Nat) : (⟨l.toArray⟩ : ByteArray).get! i = l.getD i 0 := by
  show l.toArray[i]! = _
  rw [List.getElem!_toArray]
  simp [List.getD, getElem!_def]
  cases l[i]? <;> rfl
set_option maxRecDepth 100000 in
theorem enc_of (r k : Nat) (h0 : 128 ≤ r) (h1 : r ≤ 1114111) (h : (k = 2 ∧ r < 2048) ∨ (k = 3 ∧ 2048 ≤ r ∧ r < 65536 ∧ (r < 55296 ∨ 57344 ≤ r)) ∨ (k = 4 ∧ 65536 ≤ r)) :
    (Utf8.encode (r : Int)).size = k ∧ ∃ y z, (Utf8.encode (r : Int)).data.toList = y :: z ∧ 128 ≤ y.toNat := by
  have hv : Utf8.valid (r : Int) = true := by
    unfold Utf8.valid
    simp only [Bool.or_eq_true, Bool.and_eq_true, decide_eq_true_eq]
    omega
  unfold Utf8.encode
  rw [if_pos hv, Int.toNat_natCast]
  simp only
  rcases h with ⟨rfl, h⟩ | ⟨rfl, h2, h3, h4⟩ | ⟨rfl, h⟩
  · rw [if_neg (by omega), if_pos (by omega)]
    exact ⟨rfl, _, _, rfl, by simp only [UInt8.toNat_ofNat']; omega⟩
  · rw [if_neg (by omega), if_neg (by omega), if_pos (by omega)]
    exact ⟨rfl, _, _, rfl, by simp only [UInt8.toNat_ofNat']; omega⟩
  · rw [if_neg (by omega), if_neg (by omega), if_neg (by omega)]
    exact ⟨rfl, _, _, rfl, by simp only [UInt8.toNat_ofNat']; omega⟩

/-- Carriage return and line feed. -/
def crC : List UInt8 := [13, 10]
/-- Is one of them in it? -/
def crB (l : List UInt8) : Bool := l.contains 13 || l.contains 10
theorem cr_mem (l : List UInt8) : crB l = true ↔ ∃ x ∈ l, x ∈ crC := by
  unfold crB crC
  simp only [Bool.or_eq_true, List.contains_iff_mem, List.mem_cons, List.not_mem_nil, or_false]
  exact ⟨fun h => h.elim (fun h => ⟨13, h, .inl rfl⟩) (fun h => ⟨10, h, .inr rfl⟩), fun ⟨x, hx, h⟩ => h.elim (fun e => .inl (e ▸ hx)) (fun e => .inr (e ▸ hx))⟩
/-- Where the first of them stands. -/
theorem cr_first : ∀ l : List UInt8, ∃ k, (∀ j, j < k → l.getD j 0 ∉ crC) ∧ (k = l.length ∨ (k < l.length ∧ l.getD k 0 ∈ crC)) ∧ crB l = decide (k < l.length)
  | [] => ⟨0, fun j h => absurd h (by omega), .inl rfl, by rfl⟩
  | x :: r => by
    by_cases hx : x ∈ crC
    · refine ⟨0, fun j h => absurd h (by omega), .inr ⟨by simp, hx⟩, ?_⟩
      rw [(cr_mem _).2 ⟨x, by simp, hx⟩]; simp
    · obtain ⟨k, h1, h2, h3⟩ := cr_first r
      refine ⟨k + 1, fun j hj => ?_, ?_, ?_⟩
      · cases j with
        | zero => exact hx
        | succ j => rw [List.getD_cons_succ]; exact h1 j (by omega)
      · rcases h2 with h | ⟨h, h'⟩
        · exact .inl (by rw [List.length_cons, h])
        · exact .inr ⟨by rw [List.length_cons]; omega, by rw [List.getD_cons_succ]; exact h'⟩
      · have e : crB (x :: r) = crB r := by
          rw [Bool.eq_iff_iff, cr_mem, cr_mem]
          refine ⟨fun ⟨y, hy, hc⟩ => ?_, fun ⟨y, hy, hc⟩ => ⟨y, List.mem_cons_of_mem _ hy, hc⟩⟩
          rcases List.mem_cons.1 hy with rfl | hy
          · exact absurd hc hx
          · exact ⟨y, hy, hc⟩
        rw [e, h3, List.length_cons]
        simp
/-- A rune that stands at j. -/
theorem dec_at (l : List UInt8) (j : Nat) (hj : j < l.length) (hx : 128 ≤ (l.getD j 0).toNat) :
    ∃ r k, Lib.decodeGo ⟨(l.drop j).toArray⟩ = (r, k) ∧ 1 ≤ k ∧ k ≤ 4 ∧ j + k ≤ l.length ∧ 128 ≤ r ∧ r ≤ 1114111 ∧ (∀ i, j ≤ i → i < j + k → 128 ≤ (l.getD i 0).toNat) ∧
      (r ≠ 65533 → (k = 2 ∧ r < 2048) ∨ (k = 3 ∧ 2048 ≤ r ∧ r < 65536 ∧ (r < 55296 ∨ 57344 ≤ r)) ∨ (k = 4 ∧ 65536 ≤ r)) := by
  have hs : (⟨(l.drop j).toArray⟩ : ByteArray).size = l.length - j := by
    show (l.drop j).toArray.size = _
    simp
  have hg : ∀ i, (⟨(l.drop j).toArray⟩ : ByteArray).get! i = l.getD (j + i) 0 := fun i => by
    rw [get_bang, List.getD, List.getElem?_drop, ← List.getD]
  have hd : Lib.decodeGo ⟨(l.drop j).toArray⟩ = Lib.decodeN (l.length - j) (l.getD j 0).toNat (l.getD (j + 1) 0).toNat (l.getD (j + 2) 0).toNat (l.getD (j + 3) 0).toNat := by
    unfold Lib.decodeGo
    rw [if_neg (by rw [hs]; omega), Lib.decode_at, hs, hg, hg, hg, hg, Nat.sub_zero]
    rfl
  have hD := dec_n (l.length - j) (l.getD j 0).toNat (l.getD (j + 1) 0).toNat (l.getD (j + 2) 0).toNat (l.getD (j + 3) 0).toNat (by omega) hx (l.getD j 0).toNat_lt
  rw [← hd] at hD
  obtain ⟨⟨r, k⟩, hrk⟩ : ∃ x, Lib.decodeGo ⟨(l.drop j).toArray⟩ = x := ⟨_, rfl⟩
  rw [hrk] at hD ⊢
  obtain ⟨h1, h2, h3, h4, h5, h6, h7, h8, h9⟩ := hD
  dsimp only at h1 h2 h3 h4 h5 h6 h7 h8 h9
  refine ⟨r, k, rfl, h1, h2, by omega, h4, h5, fun i hi hi2 => ?_, h9⟩
  rcases (show i = j ∨ i = j + 1 ∨ i = j + 2 ∨ i = j + 3 by omega) with rfl | rfl | rfl | rfl
  · exact hx
  · exact h6 (by omega)
  · exact h7 (by omega)
  · exact h8 (by omega)
end Go.Proofs.YtfgjcdjhaihgaaaDoor.Hdr

namespace Go.Proofs.YtfgjcdjhaihgaaaDoor.Hdr
open Go.RowKit Go.Shelf Url

theorem by_take {w : World} {q : Option Addr} {n c k : Nat} {l : List UInt8} (h : By w (.slice q n c) l) (hk : k ≤ n) : By w (.slice q k c) (l.take k) := by
  obtain ⟨h1, h2, h3, h4, h5⟩ := h.at
  exact By.of (by rw [List.length_take]; omega) (by omega) h3 (fun hq => (h4 hq).2) (bytes_take h5 h1 hk)

theorem run_append_by (ty : TypeId) (base : Nat) (v : Value) (n : Nat) (xs : List Value) (w : World) (hown : w.ownsRow base 5 1 v n xs) (vx : Value) (bs : List UInt8) (hb : By w vx bs) (h47 : n + bs.length ≤ 140737488355328) (hbase : base ≤ w.heap.size) :
    ∃ v' w', (Builtin.append_ #[22, 22] ty #[v, vx]).run Tryd.prog w = .ok v' w' ∧ w'.ownsRow base 5 1 v' (n + bs.length) (xs ++ byV bs) ∧ w.grownBy w' v.ownBlock := by
  obtain ⟨i0, hi0, hz0, hz1, hz2⟩ := info_parts info_u8
  obtain ⟨q, c, rfl, h1, h2, h3, h4⟩ := hb
  cases q with
  | none =>
    have hc : c = 0 := h3 rfl
    subst hc
    obtain rfl : bs = [] := List.eq_nil_of_length_eq_zero (by omega)
    exact ⟨v, w, run_append_owned_none (P := Tryd.prog) (w := w) base 22 ty 5 i0 1 Tryd.underlying22 hi0 v n xs hown, by simpa [byV, Lib.numsL] using hown, ⟨rfl, rfl, rfl, Nat.le_refl _, fun _ _ _ => rfl⟩⟩
  | some ad =>
    have hlen : (byV bs).length = bs.length * 1 := by simp [byV, Lib.numsL]
    obtain ⟨v', w', hr, h5, h6, _, _⟩ := run_append_own_at (P := Tryd.prog) w base 22 ty 5 i0 (.int .u8 0) 1 1 Tryd.underlying22 hi0 hz0 hz1 hz2 rfl (by decide) v n xs hown ad bs.length c (byV bs) hlen (fun j u hj => by
      rcases Nat.lt_or_ge j bs.length with h' | h'
      · obtain ⟨b, o, he, hcc⟩ := h4.at (by omega)
        cases he
        have hj' : j < (Lib.numsL bs).length := by rw [Lib.numsL_length]; omega
        unfold byV at hj
        rw [Go.WideShapes.add_plain, hcc j h']
        rw [List.getElem?_map, List.getElem?_eq_getElem hj'] at hj
        simp only [Option.map_some, Option.some.injEq] at hj
        rw [← hj, List.getD, List.getElem?_eq_getElem hj']
        rfl
      · rw [List.getElem?_eq_none (by omega)] at hj
        cases hj) (by simp [byV, Lib.numsL, Value.oneCell']) (by unfold maxLen; omega) (by omega) hbase
    exact ⟨v', w', hr, h5, h6⟩
theorem wpList_append_by {ops : Array Oper} {rest : List Oper} {o : Oper} {a : Act} {w : World} {Q : Exit → Act → World → Prop} (hgd : o.guard = none) (s x : Operand)
    (ho : o.op = .call { callee := .builtin .append, args := #[s, x], argTypes := #[22, 22] })
    (base : Nat) (v : Value) (n : Nat) (xs : List Value) (hs : a.eval s = v) (hown : w.ownsRow base 5 1 v n xs) (vx : Value) (bs : List UInt8) (hx : a.eval x = vx) (hb : By w vx bs) (h47 : n + bs.length ≤ 140737488355328) (hbase : base ≤ w.heap.size)
    (h : ∀ v' w', w'.ownsRow base 5 1 v' (n + bs.length) (xs ++ byV bs) → w.grownBy w' v.ownBlock → wpList Tryd.prog ops Q rest (a.put o.dst v') w') : wpList Tryd.prog ops Q (o :: rest) a w := by
  obtain ⟨v', w', hr, h1, h2⟩ := run_append_by o.type base v n xs w hown vx bs hb h47 hbase
  exact Lib.wpList_append_run (P := Tryd.prog) w hgd s x 22 22 ho v vx hs hx v' w' hr (h v' w' h1 h2)

/-- A new row of literal bytes. -/
theorem by_lit (w : World) (cs : Array Value) (l : List UInt8) (fr : Nat × Nat) (n : Nat) (h : cs.toList = byV l) (hn : l.length = n) (hm : n ≤ maxLen) : By (w.alloc (.cells cs 5 fr)) (.slice (some ⟨w.heap.size, 0, none⟩) n n) l :=
  By.of hn (Nat.le_refl _) hm (fun h => by cases h) (by rw [← hn]; exact bytes_lit cs l fr h)
/-- What a row leaves that has grown, seen from below it. -/
theorem grown_below {base n : Nat} {v : Value} {xs : List Value} {w w' : World} (hown : w.ownsRow base 5 1 v n xs) (hg : w.grownBy w' v.ownBlock) (hb : base ≤ w.heap.size) : Below base w w' :=
  (Below.refl _ _).grown hg hb (fun b h => (hown.lt b h).1)
/-- The cells of a box of several. -/
theorem box_cell (w : World) (cs : Array Value) (t : TypeId) (i : Nat) (x : Value) (h : cs[i]? = some x) : (w.alloc (.cells cs t)).cell? ⟨w.heap.size, i, none⟩ = some x := by
  have hn : (w.alloc (.cells cs t)).heap[w.heap.size]? = some (.cells cs t) := World.alloc_heap_new w _
  simp only [World.cell?, hn]
  exact h
theorem cell_on {w w' : World} {a : Addr} {x : Value} (h : w.cell? a = some x) (hk : Below w.heap.size w w') : w'.cell? a = some x := (World.cell?_of_block (hk.block _ (World.block_lt_of_cell? w _ h))).trans h
end Go.Proofs.YtfgjcdjhaihgaaaDoor.Hdr

namespace Go.Proofs.YtfgjcdjhaihgaaaDoor.Hdr
open Go.RowKit Go.Shelf Url
attribute [local go_sem] Oper.semAt_some

def setRen : Go.Shelf.Ren := ⟨fun | 11 => 65 | 16 => 66 | n => n, fun | 0 => 0 | 3 => 3 | 4 => 4 | 5 => 5 | 9 => 9 | 27 => 97 | 31 => 105 | n => n, fun | n => n⟩
theorem set11 : Go.Proofs.SlLaysV.n11 Tryd.prog setRen := {
  mixed := by kernel_rfl
  f11 := Tryd.func65.trans (congrArg some (by kernel_rfl))
  t0 := Tryd.underlying0, a0 := Tryd.isAgg0, z0 := Tryd.sizeOf0, v0 := Tryd.zeroValue0
  t3 := Tryd.underlying3, a3 := Tryd.isAgg3, z3 := Tryd.sizeOf3, v3 := Tryd.zeroValue3
  t4 := Tryd.underlying4, a4 := Tryd.isAgg4, z4 := Tryd.sizeOf4, v4 := Tryd.zeroValue4
  t5 := Tryd.underlying5, a5 := Tryd.isAgg5, z5 := Tryd.sizeOf5, v5 := Tryd.zeroValue5
  t9 := Tryd.underlying9, a9 := Tryd.isAgg9, z9 := Tryd.sizeOf9, v9 := Tryd.zeroValue9
  t27 := Tryd.underlying97, a27 := Tryd.isAgg97, z27 := Tryd.sizeOf97 }
theorem set16 : Go.Proofs.SlLaysV.n16 Tryd.prog setRen := {
  mixed := by kernel_rfl
  f16 := Tryd.func66.trans (congrArg some (by kernel_rfl))
  t0 := Tryd.underlying0, a0 := Tryd.isAgg0, z0 := Tryd.sizeOf0, v0 := Tryd.zeroValue0
  t4 := Tryd.underlying4, a4 := Tryd.isAgg4, z4 := Tryd.sizeOf4, v4 := Tryd.zeroValue4
  t5 := Tryd.underlying5, a5 := Tryd.isAgg5, z5 := Tryd.sizeOf5, v5 := Tryd.zeroValue5
  t27 := Tryd.underlying97, a27 := Tryd.isAgg97, z27 := Tryd.sizeOf97
  t31 := Tryd.underlying105, a31 := Tryd.isAgg105, z31 := Tryd.sizeOf105, v31 := Tryd.zeroValue105 }
theorem info_set : (Tryd.prog.info? 97).map (fun i => (i.zero, i.size)) = some (some (.agg (Array.replicate 256 (.bool false))), 256) := by kernel_rfl

theorem set_zero : Tryd.zeroCells97 = Array.replicate 256 (.bool false) := by kernel_rfl

def decRen : Go.Shelf.Ren := ⟨fun | 32 => 67 | 49 => 72 | n => n, fun | 0 => 0 | 3 => 3 | 4 => 4 | 5 => 5 | 21 => 21 | 25 => 61 | 30 => 22 | 33 => 100 | 66 => 106 | 68 => 108 | 69 => 109 | n => n, fun | 2 => 1 | 3 => 2 | n => n⟩
theorem dec32 : Go.Proofs.Lays7.n32 Tryd.prog decRen := {
  mixed := by kernel_rfl
  f32 := Tryd.func67.trans (congrArg some (by kernel_rfl))
  f49 := Tryd.func72.trans (congrArg some (by kernel_rfl))
  t0 := Tryd.underlying0, a0 := Tryd.isAgg0, z0 := Tryd.sizeOf0, v0 := Tryd.zeroValue0, i0 := by kernel_rfl
  t3 := Tryd.underlying3, a3 := Tryd.isAgg3, z3 := Tryd.sizeOf3, v3 := Tryd.zeroValue3, i3 := by kernel_rfl
  t4 := Tryd.underlying4, a4 := Tryd.isAgg4, z4 := Tryd.sizeOf4, v4 := Tryd.zeroValue4, i4 := by kernel_rfl
  t5 := Tryd.underlying5, a5 := Tryd.isAgg5, z5 := Tryd.sizeOf5, v5 := Tryd.zeroValue5, i5 := by kernel_rfl
  t21 := Tryd.underlying21, a21 := Tryd.isAgg21, z21 := Tryd.sizeOf21, v21 := Tryd.zeroValue21, i21 := by kernel_rfl
  t25 := Tryd.underlying61, a25 := Tryd.isAgg61, z25 := Tryd.sizeOf61, v25 := Tryd.zeroValue61, i25 := by kernel_rfl
  t30 := Tryd.underlying22, a30 := Tryd.isAgg22, z30 := Tryd.sizeOf22, v30 := Tryd.zeroValue22, i30 := by kernel_rfl
  t33 := Tryd.underlying100, a33 := Tryd.isAgg100, z33 := Tryd.sizeOf100, v33 := Tryd.zeroValue100, i33 := by kernel_rfl
  t66 := Tryd.underlying106, a66 := Tryd.isAgg106, z66 := Tryd.sizeOf106
  t68 := Tryd.underlying108, a68 := Tryd.isAgg108, z68 := Tryd.sizeOf108, v68 := Tryd.zeroValue108, i68 := by kernel_rfl
  t69 := Tryd.underlying109, a69 := Tryd.isAgg109, z69 := Tryd.sizeOf109, v69 := Tryd.zeroValue109, i69 := by kernel_rfl
  g2 := by kernel_rfl
  g3 := by kernel_rfl }

/-- What the library's own variables hold: some greatest length; the tables of runes. -/
def Ug (w : World) : Prop := (∃ m, w.cell? ⟨0, 0, none⟩ = some (.int .i64 m)) ∧ Lib.Utf8Tabs 1 2 w
theorem Ug.on {w w' : World} (h : Ug w) (hk : Below w.heap.size w w') : Ug w' := by
  obtain ⟨⟨m, hm⟩, h1, h2⟩ := h
  refine ⟨⟨m, (World.cell?_of_block (hk.block _ (World.block_lt_of_cell? w _ hm))).trans hm⟩, fun c hc => ?_, fun i hi => ⟨?_, ?_⟩⟩
  · have := h1 c hc
    exact (World.cell?_of_block (hk.block _ (World.block_lt_of_cell? w _ this))).trans this
  · have := (h2 i hi).1
    exact (World.cell?_of_block (hk.block _ (World.block_lt_of_cell? w _ this))).trans this
  · have := (h2 i hi).2
    exact (World.cell?_of_block (hk.block _ (World.block_lt_of_cell? w _ this))).trans this
/-- A rune that stands at j. -/
theorem decode_any (b o n c j : Nat) (l : List UInt8) (w : World) (hT : Lib.Utf8Tabs 1 2 w) (hl : l.length = n) (hj : j < n) (hc : ∀ i, i < n → w.cell? ⟨b, o + i, none⟩ = some (.int .u8 ((Lib.numsL l).getD i 0))) :
    Calls Tryd.prog 67 #[.slice (some ⟨b, o + j, none⟩) (n - j) c] w fun e w' => e = .returned (.tuple #[.int .i32 (Lib.decodeGo ⟨(l.drop j).toArray⟩).1, .int .i64 (Lib.decodeGo ⟨(l.drop j).toArray⟩).2]) ∧ Below w.heap.size w w' := by
  have hs : (⟨(l.drop j).toArray⟩ : ByteArray).size = n - j := by
    show (l.drop j).toArray.size = _
    simp [hl]
  have con := Any7.utf8_DecodeRune dec32 ⟨(l.drop j).toArray⟩ b (o + j) c w hT (fun i hi => by
    rw [get_bang, List.getD, List.getElem?_drop, ← List.getD, Nat.add_assoc, hc (j + i) (by omega), numsL_getD _ _ (by omega)])
  rw [hs] at con
  exact con

theorem makeSet_any (w : World) : Calls Tryd.prog 65 #[.string ⟨crC.toArray⟩] w fun e w' => e = .returned (.tuple #[.agg (Lib.setCells crC), .bool true]) ∧ w' = w.alloc (.cells (Lib.setCells crC) 97) :=
  Any.bytes_makeASCIISet set11 (zero_of_info info_set).1 (zero_of_info info_set).2 ⟨crC.toArray⟩ w (by decide) (by
    intro j b hj
    have : b ∈ crC := List.mem_of_getElem? hj
    simp only [crC, List.mem_cons, List.not_mem_nil, or_false] at this
    rcases this with rfl | rfl <;> decide)
theorem has_any (b : Nat) (x : UInt8) (v : Bool) (w : World) (hc : w.cell? ⟨b, x.toNat, none⟩ = some (.bool v)) :
    Calls Tryd.prog 66 #[.pointer (some ⟨b, 0, none⟩), .int .u8 x.toNat] w fun e w' => e = .returned (.bool v) ∧ w' = w :=
  Any.bytes_asciiSet_contains set16 b x v w hc

set_option maxHeartbeats 1000000 in
theorem shouldUse_any (n : Int) (w : World) :
    Calls Tryd.prog 64 #[.int .i64 n] w fun e w' => e = .returned (.bool (decide (8 < n))) ∧ w' = w := by
  go_enter Tryd.func64, Tryd.ntmps64
  go_wp2
  go_ret
  exact ⟨rfl, rfl⟩

theorem run_indexCr (x : UInt8) (w : World) : (callFunc 62 #[.string ⟨#[13, 10]⟩, .int .u8 (x.toNat : Int)]).run Tryd.prog w = .ok (.value (.int .i64 (Lib.indexByte crC x))) w := by
  rw [run_callFunc_extern Tryd.func62 (by kernel_rfl) (by kernel_rfl) (by kernel_rfl) (e := Extern.BytealgIndexByte.indexByte) (by kernel_rfl), Lib.run_indexByteString]
  simp [Result.andThen, crC]
theorem cr_in (x : UInt8) (h : x ∈ crC) : decide (0 ≤ Lib.indexByte crC x) = true ∧ x.toNat < 128 := by
  simp only [crC, List.mem_cons, List.not_mem_nil, or_false] at h
  rcases h with rfl | rfl <;> decide
theorem cr_out (x : UInt8) (h : x ∉ crC) : decide (0 ≤ Lib.indexByte crC x) = false := by
  rw [← Lib.contains_iff_indexByte]
  simpa using h
/-- What IndexAny answers. -/
def sepV (k n : Nat) : Int := if k < n then (k : Int) else -1


theorem cr_step (i : Nat) (h : i < 2) : ∃ x : Nat, x < 128 ∧ ∀ (w : World) (ty : TypeId), (Instr.next (.pointer (some ⟨w.heap.size, 0, none⟩)) true ty).run Tryd.prog (w.iter ⟨#[13, 10]⟩ i) = .ok (.tuple #[.bool true, .int .i64 i, .int .i32 x]) (w.iter ⟨#[13, 10]⟩ (i + 1)) := by
  rcases (show i = 0 ∨ i = 1 by omega) with rfl | rfl
  · exact ⟨13, by omega, fun w ty => run_next_ascii (P := Tryd.prog) w ⟨#[13, 10]⟩ 0 ty (by decide) (by decide)⟩
  · exact ⟨10, by omega, fun w ty => run_next_ascii (P := Tryd.prog) w ⟨#[13, 10]⟩ 1 ty (by decide) (by decide)⟩
theorem wrap_u8 (x : UInt8) : wrap32 (x.toNat : Int) = (x.toNat : Int) := by
  have := x.toNat_lt
  unfold wrap32
  omega
theorem run_slice_mid (b o n c j : Nat) (W : World) (h : j < c) (hn : j ≤ n) : (Instr.slice 22 (.slice (some ⟨b, o, none⟩) n c) (some (.int .i64 (j : Int))) none none).run Tryd.prog W = .ok (.slice (some ⟨b, o + j, none⟩) (n - j) (c - j)) W := by
  have h1 := run_slice_at (some ⟨b, o, none⟩) n c j W hn
  have h2 : subA (some ⟨b, o, none⟩) c j = some ⟨b, o + j, none⟩ := by
    unfold subA
    rw [if_neg (by omega), Option.map_some, Go.WideShapes.add_plain]
  rw [h2] at h1
  exact h1
theorem iter_below (w : World) (s : ByteArray) (i : Nat) : Below w.heap.size w (w.iter s i) := (Below.refl _ w).alloc (Nat.le_refl _) _

set_option maxRecDepth 100000 in
set_option maxHeartbeats 4000000 in
/-- A text of one byte. -/
theorem IndexAny_one (q : Option Addr) (c k : Nat) (l : List UInt8) (w : World) (h : By w (.slice q 1 c) l) (hno : ∀ j, j < k → l.getD j 0 ∉ crC) (hk : k = 1 ∨ (k < 1 ∧ l.getD k 0 ∈ crC)) :
    Calls Tryd.prog 57 #[.slice q 1 c, .string ⟨#[13, 10]⟩] w fun e w' => e = .returned (.int .i64 (sepV k 1)) ∧ Below w.heap.size w w' := by
  obtain ⟨h1, h2, h3, h4, h5⟩ := h.at
  obtain ⟨b, o, rfl, hc⟩ := h5.at (by omega)
  have hc0 := hc 0 (by omega)
  rw [numsL_getD _ _ (by omega), Nat.add_zero] at hc0
  obtain ⟨x, hx⟩ : ∃ x, l.getD 0 0 = x := ⟨_, rfl⟩
  rw [hx] at hc0
  have hrun := run_indexCr x
  rcases hk with rfl | ⟨hk0, hk⟩
  · have hnot := hno 0 (by omega)
    rw [hx] at hnot
    have hix := cr_out x hnot
    by_cases h128 : x.toNat < 128
    · have d1 : decide ((128 : Int) ≤ (x.toNat : Int)) = false := by simp; omega
      clear hno hnot hc h5 h h1 hx
      generalize Lib.indexByte crC x = ix at *
      go_enter Tryd.func57, Tryd.ntmps57
      go_wp2
      go_ret
      exact ⟨rfl, Below.refl _ _⟩
    · have d1 : decide ((128 : Int) ≤ (x.toNat : Int)) = true := by simp; omega
      have hw32 := wrap_u8 x
      clear hno hnot hc h5 h h1 hx hrun hix
      go_enter Tryd.func57, Tryd.ntmps57
      go_wp2
      go_loopg [5] 2 (fun g _ wx => ∃ i : Nat, i + g = 2 ∧ wx = w.iter ⟨#[13, 10]⟩ i)
      case atStart => exact ⟨0, rfl, rfl⟩
      case round =>
        obtain ⟨i, hi, rfl⟩ := hrel
        cases gk with
        | zero =>
          obtain rfl : i = 2 := by omega
          have hnx := run_next_end (P := Tryd.prog) w ⟨#[13, 10]⟩ 2
          have hb := iter_below w ⟨#[13, 10]⟩ 2
          go_wp2
          go_ret
          exact ⟨rfl, hb⟩
        | succ g =>
          obtain ⟨y, hy, hnx⟩ := cr_step i (by omega)
          have hnx := hnx w
          have d2 : ((y : Int) == 65533) = false := by simp; omega
          go_wp2
          go_roundg g
          case measure => omega
          case rel => exact ⟨i + 1, by omega, rfl⟩
  · obtain rfl : k = 0 := by omega
    rw [hx] at hk
    obtain ⟨hix, h128⟩ := cr_in x hk
    have d1 : decide ((128 : Int) ≤ (x.toNat : Int)) = false := by simp; omega
    clear hno hk hc h5 h h1 hx
    generalize Lib.indexByte crC x = ix at *
    go_enter Tryd.func57, Tryd.ntmps57
    go_wp2
    go_ret
    exact ⟨rfl, Below.refl _ _⟩

/-- bytealg.IndexString at the two of them and a longer text. -/
theorem run_indexLong (y : ByteArray) (m : Int) (w : World) (hm : w.cell? ⟨0, 0, none⟩ = some (.int .i64 m)) (h3 : 3 ≤ y.size) (hb : (y.size : Int) ≤ m) :
    (callFunc 68 #[.string ⟨#[13, 10]⟩, .string y]).run Tryd.prog w = .ok (.value (.int .i64 (-1))) w := by
  rw [run_callFunc_extern Tryd.func68 (by kernel_rfl) (by kernel_rfl) (by kernel_rfl) (e := Extern.BytealgIndex.index) (by kernel_rfl), Lib.run_indexString ⟨#[13, 10]⟩ y w 0 m (by kernel_rfl) hm (by omega) hb (by decide)]
  have e : Lib.index (⟨#[13, 10]⟩ : ByteArray).data.toList y.data.toList = -1 := Lib.index_long (by have := Lib.size_eq y; show 2 ≤ _; omega) (fun e => by
    have h := congrArg List.length e
    have := Lib.size_eq y
    have h2 : y.data.toList.length = 2 := h
    omega)
  rw [e]
  simp [Result.andThen]
theorem enc_ne (y : ByteArray) (u : UInt8) (z : List UInt8) (h : y.data.toList = u :: z) (hu : 128 ≤ u.toNat) : (([13, 10] : List UInt8) == y.toList) = false := by
  rw [Lib.toList_data, h, beq_eq_false_iff_ne]
  intro e
  have e2 : (13 : UInt8) = u := (List.cons.inj e).1
  rw [← e2] at hu
  exact absurd hu (by decide)

set_option maxRecDepth 100000 in
set_option maxHeartbeats 16000000 in
/-- A text of at most eight bytes. -/
theorem IndexAny_short (q : Option Addr) (n c k : Nat) (l : List UInt8) (w : World) (hG : Ug w) (h : By w (.slice q n c) l) (hn1 : n ≠ 1) (hn8 : n ≤ 8) (hno : ∀ j, j < k → l.getD j 0 ∉ crC) (hk : k = n ∨ (k < n ∧ l.getD k 0 ∈ crC)) :
    Calls Tryd.prog 57 #[.slice q n c, .string ⟨#[13, 10]⟩] w fun e w' => e = .returned (.int .i64 (sepV k n)) ∧ Below w.heap.size w w' := by
  obtain ⟨h1, h2, h3, h4, h5⟩ := h.at
  have H1 := Lib.hid h1
  have HB := Lib.hid h
  have HN := Lib.hid hno
  have HK := Lib.hid hk
  have HG := Lib.hid hG
  have H2 := Lib.hid h2
  have hkn : k ≤ n := by rcases hk with h | h <;> omega
  have hne : ((n : Int) == 1) = false := by simp; omega
  have h8 : decide ((8 : Int) < (n : Int)) = false := by simp; omega
  have con := shouldUse_any (n : Int) w
  rw [h8] at con
  clear h1 h4 h5 h hno hk hn1 h8 hG h2
  go_enter Tryd.func57, Tryd.ntmps57
  go_wp2_with fail
  refine con.mono ?_
  rintro e w' ⟨rfl, rfl⟩
  clear con
  go_wp2
  go_loopw [12] (fun i wr => ∃ j : Nat, j ≤ k ∧ i = .int .i64 j ∧ Below w'.heap.size w' wr) (fun i _ => n - (intOf i).toNat)
  case atStart => exact ⟨0, Nat.zero_le _, rfl, Below.refl _ _⟩
  case round =>
    obtain ⟨j, hj, rfl, hBr⟩ := hrel
    by_cases hjn : j < n
    · obtain ⟨b, o, rfl, hc⟩ := (HB.out.on hBr).at.2.2.2.2.at (by omega)
      have hc0 := hc j hjn
      have e1 := H1.out
      rw [numsL_getD _ _ (by omega)] at hc0
      obtain ⟨x, hx⟩ : ∃ x, l.getD j 0 = x := ⟨_, rfl⟩
      rw [hx] at hc0
      have hrun := run_indexCr x
      by_cases hjk : j < k
      · have hnot := HN.out j hjk
        rw [hx] at hnot
        have hix := cr_out x hnot
        by_cases h128 : x.toNat < 128
        · have d1 : decide ((x.toNat : Int) < (128 : Int)) = true := by simp; omega
          have hwr : wrap64 ((j : Int) + 1) = (j : Int) + 1 := by unfold wrap64; omega
          clear hnot hc hx e1
          generalize Lib.indexByte crC x = ix at *
          go_wp2
          go_roundw
          case rel => exact ⟨j + 1, by omega, by go_num, hBr⟩
          case measure => simp [intOf]; omega
        · have d1 : decide ((x.toNat : Int) < (128 : Int)) = false := by simp; omega
          have hw32 := wrap_u8 x
          have hG2 := HG.out.on hBr
          have con := decode_any b o n (c - j) j l wr hG2.2 e1 hjn hc
          obtain ⟨r, kk, hd, k1, k4, kn, r0, r1, hbig, henc⟩ := dec_at l j (by omega) (by rw [hx]; omega)
          rw [hd] at con
          have hjc : j < c := by have := H2.out; omega
          have hjk2 : j + kk ≤ k := by
            rcases HK.out with h | ⟨h, hm⟩
            · omega
            · by_cases hh : j + kk ≤ k
              · exact hh
              · have hb := hbig k (by omega) (by omega)
                simp only [crC, List.mem_cons, List.not_mem_nil, or_false] at hm
                rcases hm with hm | hm <;> rw [hm] at hb <;> exact absurd hb (by decide)
          have HE := Lib.hid henc
          clear henc hbig
          have hwr : wrap64 ((j : Int) + kk) = (j : Int) + kk := by unfold wrap64; omega
          have hsl := fun W => run_slice_mid b o n c j W hjc (Nat.le_of_lt hjn)
          have HKN := Lib.hid kn
          have HR0 := Lib.hid (And.intro r0 r1)
          clear hnot hc hx e1 hd hrun hix hG2 kn hjc r0 r1 h3 hkn
          go_wp2_with fail
          refine con.mono ?_
          rintro e wd ⟨rfl, hb⟩
          have hB2 := hBr.trans (hb.mono hBr.size)
          obtain ⟨m, hm⟩ := (HG.out.on hB2).1
          clear con hb hBr
          by_cases hr : r = 65533
          · subst hr
            go_wp2
            go_loopg [15] 2 (fun g _ wx => ∃ i : Nat, i + g = 2 ∧ wx = wd.iter ⟨#[13, 10]⟩ i)
            case atStart => exact ⟨0, rfl, rfl⟩
            case round =>
              obtain ⟨i, hi, rfl⟩ := hrel
              cases gk with
              | zero =>
                obtain rfl : i = 2 := by omega
                have hnx := run_next_end (P := Tryd.prog) wd ⟨#[13, 10]⟩ 2
                have hb := hB2.trans ((iter_below wd ⟨#[13, 10]⟩ 2).mono hB2.size)
                go_wp2
                go_roundw
                case rel => exact ⟨j + kk, hjk2, by go_num, hb⟩
                case measure => simp [intOf]; omega
              | succ g =>
                obtain ⟨y, hy, hnx⟩ := cr_step i (by omega)
                have hnx := hnx wd
                have d2 : ((65533 : Int) == (y : Int)) = false := by simp; omega
                go_wp2
                go_roundg g
                case measure => omega
                case rel => exact ⟨i + 1, by omega, rfl⟩
          · obtain ⟨hes, u, z, hu, hu2⟩ := enc_of r kk HR0.out.1 HR0.out.2 (HE.out hr)
            have dr : ((r : Int) != 65533) = true := by simp; omega
            by_cases hk2 : kk = 2
            · subst hk2
              have hne := enc_ne _ u z hu hu2
              clear HE hu hes
              go_wp2
              go_roundw
              case rel => exact ⟨j + 2, hjk2, by go_num, hB2⟩
              case measure => simp [intOf]; omega
            · have hk3 : 3 ≤ kk := by rcases HE.out hr with h | h | h <;> omega
              have d2 : ((2 : Int) == (kk : Int)) = false := by simp; omega
              by_cases hmk : (kk : Int) ≤ m
              · have d3 : decide ((kk : Int) ≤ m) = true := by simpa using hmk
                have hrl := run_indexLong (Utf8.encode (r : Int)) m wd hm (by omega) (by omega)
                clear HE hu hes
                go_wp2
                go_roundw
                case rel => exact ⟨j + kk, hjk2, by go_num, hB2⟩
                case measure => simp [intOf]; omega
              · have d3 : decide ((kk : Int) ≤ m) = false := by simpa using hmk
                clear HE hu hes
                go_wp2
                go_loopg [15] 2 (fun g _ wx => ∃ i : Nat, i + g = 2 ∧ wx = wd.iter ⟨#[13, 10]⟩ i)
                case atStart => exact ⟨0, rfl, rfl⟩
                case round =>
                  obtain ⟨i, hi, rfl⟩ := hrel
                  cases gk with
                  | zero =>
                    obtain rfl : i = 2 := by omega
                    have hnx := run_next_end (P := Tryd.prog) wd ⟨#[13, 10]⟩ 2
                    have hb := hB2.trans ((iter_below wd ⟨#[13, 10]⟩ 2).mono hB2.size)
                    go_wp2
                    go_roundw
                    case rel => exact ⟨j + kk, hjk2, by go_num, hb⟩
                    case measure => simp [intOf]; omega
                  | succ g =>
                    obtain ⟨y, hy, hnx⟩ := cr_step i (by omega)
                    have hnx := hnx wd
                    have d2 : ((r : Int) == (y : Int)) = false := by have := HR0.out.1; simp; omega
                    go_wp2
                    go_roundg g
                    case measure => omega
                    case rel => exact ⟨i + 1, by omega, rfl⟩
      · have hjk' : j = k := by omega
        have hin : x ∈ crC := HK.out.elim (fun h => absurd h (by omega)) (fun h => by rw [← hx, hjk']; exact h.2)
        obtain ⟨hix, h128⟩ := cr_in x hin
        have d1 : decide ((x.toNat : Int) < (128 : Int)) = true := by simp; omega
        have HV := Lib.hid (show sepV k n = (j : Int) by unfold sepV; rw [if_pos (by omega), hjk'])
        clear hin hc hx e1 hjk' hjk
        generalize Lib.indexByte crC x = ix at *
        go_wp2
        go_ret
        exact ⟨(by rw [HV.out]; try rfl), hBr⟩
    · have HV := Lib.hid (show sepV k n = (-1 : Int) by unfold sepV; rw [if_neg (by omega)])
      have hd : decide ((j : Int) < (n : Int)) = false := by simp; omega
      go_wp2
      go_ret
      exact ⟨(by rw [HV.out]; try rfl), hBr⟩

set_option maxRecDepth 1000000 in
set_option maxHeartbeats 8000000 in
/-- A text of more than eight bytes. -/
theorem IndexAny_long (q : Option Addr) (n c k : Nat) (l : List UInt8) (w : World) (h : By w (.slice q n c) l) (hn8 : 8 < n) (hn47 : n ≤ 140737488355328) (hno : ∀ j, j < k → l.getD j 0 ∉ crC) (hk : k = n ∨ (k < n ∧ l.getD k 0 ∈ crC)) :
    Calls Tryd.prog 57 #[.slice q n c, .string ⟨#[13, 10]⟩] w fun e w' => e = .returned (.int .i64 (sepV k n)) ∧ Below w.heap.size w w' := by
  obtain ⟨hS1, hS2, hS3⟩ : (Lib.setCells crC).size = 256 ∧ (Lib.setCells crC).all (·.oneCell') = true ∧ ∀ x : UInt8, (Lib.setCells crC)[x.toNat]? = some (.bool (crC.contains x)) := ⟨Lib.setCells_size _, Lib.setCells_one _, Lib.setCells_at crC⟩
  have conM := fun w => makeSet_any w
  obtain ⟨S, hS⟩ : ∃ S, Lib.setCells crC = S := ⟨_, rfl⟩
  rw [hS] at hS1 hS2 hS3 conM
  have hsc : (storeCells ⟨w.heap.size + 1, 0, none⟩ S.toList 0).run Tryd.prog ((w.alloc (.cells S 97)).alloc (.cells (Array.replicate 256 (.bool false)) 97)) = .ok () ((w.alloc (.cells S 97)).alloc (.cells S 97)) := by
    have := run_storeCells_new (P := Tryd.prog) (w.alloc (.cells S 97)) 97 (Array.replicate 256 (.bool false)) S (by rw [hS1]; exact (zero_of_info info_set).2) (by rw [hS1, Array.size_replicate]) hS2
    simpa using this
  obtain ⟨W, hW⟩ : ∃ W, (w.alloc (.cells S 97)).alloc (.cells S 97) = W := ⟨_, rfl⟩
  have hB : Below w.heap.size w W := by rw [← hW]; exact ((Below.refl _ w).alloc (Nat.le_refl _) _).alloc (by simp) _
  have hcell : ∀ x : UInt8, W.cell? ⟨w.heap.size + 1, x.toNat, none⟩ = some (.bool (crC.contains x)) := fun x => by
    rw [← hW, World.cell?_alloc_at _ _ _ _ (by simp), hS3]
  obtain ⟨h1, h2, h3, h4, h5⟩ := (h.on hB).at
  have H1 := Lib.hid h1
  have H5 := Lib.hid h5
  have HN := Lib.hid hno
  have HK := Lib.hid hk
  have HC := Lib.hid hcell
  have hkn : k ≤ n := by rcases hk with h | h <;> omega
  have hne : ((n : Int) == 1) = false := by simp; omega
  have h8 : decide ((8 : Int) < (n : Int)) = true := by simp; omega
  have con := shouldUse_any (n : Int) w
  rw [h8] at con
  have conM := conM w
  rw [hW] at hsc
  clear h1 h4 h5 h hno hk h8 hcell hW hS hS3 hS2
  go_enter Tryd.func57, Tryd.ntmps57
  go_wp2_with fail
  refine con.mono ?_
  rintro e w' ⟨rfl, rfl⟩
  clear con
  go_wp2_with fail
  refine conM.mono ?_
  rintro e w2 ⟨rfl, rfl⟩
  clear conM
  go_wp2
  rw [set_zero, hsc]
  simp only [Result.andThen]
  rw [Oper.upon_skip]
  go_wp2
  go_loop [62] (fun i => ∃ j : Nat, j ≤ k ∧ i = .int .i64 j) (fun i => n - (intOf i).toNat)
  case atStart => exact ⟨0, Nat.zero_le _, rfl⟩
  case round =>
    obtain ⟨j, hj, rfl⟩ := hrel
    have hwr : wrap64 ((j : Int) + 1) = (j : Int) + 1 := by unfold wrap64; omega
    by_cases hjn : j < n
    · obtain ⟨b, o, rfl, hc⟩ := H5.out.at (by omega)
      have hc0 := hc j hjn
      have e1 := H1.out
      rw [numsL_getD _ _ (by omega)] at hc0
      obtain ⟨x, hx⟩ : ∃ x, l.getD j 0 = x := ⟨_, rfl⟩
      rw [hx] at hc0
      have hcx := HC.out x
      by_cases hjk : j < k
      · have hnot := HN.out j hjk
        rw [hx] at hnot
        rw [show crC.contains x = false by simpa using hnot] at hcx
        have con := has_any _ x _ _ hcx
        clear hnot hc hx e1 hcx
        go_wp2_with fail
        refine con.mono ?_
        rintro e w' ⟨rfl, rfl⟩
        clear con
        go_wp2
        go_round
        case rel => exact ⟨j + 1, by omega, by go_num⟩
        case measure => simp [intOf]; omega
      · have hjk' : j = k := by omega
        have hin : x ∈ crC := HK.out.elim (fun h => absurd h (by omega)) (fun h => by rw [← hx, hjk']; exact h.2)
        rw [show crC.contains x = true by simpa using hin] at hcx
        have con := has_any _ x _ _ hcx
        have HV := Lib.hid (show sepV k n = (j : Int) by unfold sepV; rw [if_pos (by omega), hjk'])
        clear hin hc hx e1 hjk' hjk hcx
        go_wp2_with fail
        refine con.mono ?_
        rintro e w' ⟨rfl, rfl⟩
        clear con
        go_wp2
        go_ret
        exact ⟨(by rw [HV.out]; try rfl), hB⟩
    · have HV := Lib.hid (show sepV k n = (-1 : Int) by unfold sepV; rw [if_neg (by omega)])
      have hd : decide ((j : Int) < (n : Int)) = false := by simp; omega
      go_wp2
      go_ret
      exact ⟨(by rw [HV.out]; try rfl), hB⟩

/-- bytes.ContainsAny at carriage return and line feed. -/
theorem ContainsAny_cr (q : Option Addr) (n c : Nat) (l : List UInt8) (w : World) (hG : Ug w) (h : By w (.slice q n c) l) (hn47 : n ≤ 140737488355328) :
    Calls Tryd.prog 49 #[.slice q n c, .string ⟨#[13, 10]⟩] w fun e w' => e = .returned (.bool (crB l)) ∧ Below w.heap.size w w' := by
  obtain ⟨k, hno, hk, hcr⟩ := cr_first l
  rw [h.at.1] at hk hcr
  rw [hcr]
  have con : Calls Tryd.prog 57 #[.slice q n c, .string ⟨#[13, 10]⟩] w fun e w' => e = .returned (.int .i64 (sepV k n)) ∧ Below w.heap.size w w' := by
    by_cases h1 : n = 1
    · subst h1; exact IndexAny_one q c k l w h hno hk
    · by_cases h8 : n ≤ 8
      · exact IndexAny_short q n c k l w hG h h1 h8 hno hk
      · exact IndexAny_long q n c k l w h (by omega) hn47 hno hk
  have HV := Lib.hid (show decide (k < n) = decide (0 ≤ sepV k n) by
    unfold sepV
    by_cases hkn : k < n
    · rw [if_pos hkn]; simp [hkn]
    · rw [if_neg hkn]; simp [hkn])
  clear h hno hk hcr hG
  generalize sepV k n = v at *
  go_enter Tryd.func49, Tryd.ntmps49
  go_wp2_with fail
  refine con.mono ?_
  rintro e w' ⟨rfl, hb⟩
  go_wp2
  go_ret
  exact ⟨(by rw [HV.out]; try rfl), hb⟩
end Go.Proofs.YtfgjcdjhaihgaaaDoor.Hdr

namespace Go.Proofs.YtfgjcdjhaihgaaaDoor.Hdr
open Go Go.RowKit Go.Shelf Url
set_option linter.unusedVariables false

theorem blank_same (b : UInt8) : blankB b = blankB b := rfl
theorem dropWhile_drop (l : List UInt8) : ∀ f, f ≤ l.length → (∀ j, j < f → blankB (l.getD j 0) = true) → (f < l.length → blankB (l.getD f 0) = false) → l.dropWhile blankB = l.drop f := by
  induction l with
  | nil => intro f _ _ _; simp
  | cons x r ih =>
    intro f hf h1 h2
    cases f with
    | zero =>
      have := h2 (by simp)
      rw [List.getD_cons_zero] at this
      rw [List.dropWhile_cons, if_neg (by rw [this]; simp), List.drop_zero]
    | succ f =>
      have h0 := h1 0 (by omega)
      rw [List.getD_cons_zero] at h0
      rw [List.dropWhile_cons, if_pos h0, List.drop_succ_cons]
      refine ih f (by simp at hf; omega) (fun j hj => ?_) (fun hj => ?_)
      · have := h1 (j + 1) (by omega); rwa [List.getD_cons_succ] at this
      · have := h2 (by simp; omega); rwa [List.getD_cons_succ] at this
theorem getD_reverse (l : List UInt8) (j : Nat) (h : j < l.length) : l.reverse.getD j 0 = l.getD (l.length - 1 - j) 0 := by
  rw [List.getD, List.getElem?_reverse h, List.getD]
theorem trim_sub (l : List UInt8) (f e : Nat) (h : Trims l f e) : trimB l = sub l f e := by
  unfold trimB sub
  rcases h with ⟨rfl, rfl, h⟩ | ⟨h1, h2, h3, h4, h5, h6⟩
  · rw [dropWhile_drop l l.length (Nat.le_refl _) (fun j hj => by rw [blank_same]; exact h j hj) (fun hh => absurd hh (by omega))]
    simp
  · rw [dropWhile_drop l f (by omega) (fun j hj => by rw [blank_same]; exact h3 j hj) (fun _ => by rw [blank_same]; exact h4)]
    have hlen : (l.drop f).length = l.length - f := List.length_drop
    rw [dropWhile_drop (l.drop f).reverse (l.length - e) (by rw [List.length_reverse]; omega) (fun j hj => ?_) (fun hj => ?_)]
    · rw [List.drop_reverse, List.reverse_reverse, hlen]
      congr 1; omega
    · rw [getD_reverse _ _ (by omega), hlen, List.getD, List.getElem?_drop, ← List.getD, blank_same]
      exact h6 _ (by omega) (by omega)
    · rw [List.length_reverse, hlen] at hj
      rw [getD_reverse _ _ (by omega), hlen, List.getD, List.getElem?_drop, ← List.getD, blank_same]
      rw [show f + (l.length - f - 1 - (l.length - e)) = e - 1 by omega]
      exact h5
theorem ba_of (x : ByteArray) (l : List UInt8) (h : x.data.toList = l) : x = ⟨l.toArray⟩ := by
  subst h; simp
theorem ok_mem (c : UInt8) (l : List UInt8) : atOk c l = decide (c ∈ l) := by
  obtain ⟨_, h2, _⟩ := at_ahead c l
  by_cases h : c ∈ l
  · obtain ⟨x, y, rfl, hx⟩ := List.eq_append_cons_of_mem h
    rw [(ahead_yes c x y hx).2] at h2
    cases hk : atOk c (x ++ c :: y) with
    | true => simp
    | false => rw [hk] at h2; simp at h2
  · rw [(ahead_no c l h).2] at h2
    cases hk : atOk c l with
    | false => simp [h]
    | true => rw [hk] at h2; simp at h2
theorem len_ahead (c : UInt8) (l : List UInt8) : (aheadL c l).length ≤ l.length := by unfold aheadL; exact (List.takeWhile_sublist _).length_le
theorem len_tail (c : UInt8) (l : List UInt8) : ((Host.tailL c l).getD []).length ≤ l.length := by
  cases e : Host.tailL c l with
  | none => simp
  | some r => have := tail_len c l r e; simp; omega
theorem len_trim (l : List UInt8) : (trimB l).length ≤ l.length := by
  unfold trimB
  rw [List.length_reverse]
  refine Nat.le_trans (List.dropWhile_sublist _).length_le ?_
  rw [List.length_reverse]
  exact (List.dropWhile_sublist _).length_le
theorem goH_nil (k : Nat) (out : List Fld) : goH k out [] = .inr (out, []) := by cases k <;> simp [goH]
/-- One line on. -/
theorem goH_step (out : List Fld) (t : List UInt8) (h : t ≠ []) : goH t.length out t = if lineL t = [] then .inr (out, restL t) else if (58 : UInt8) ∈ lineL t then (if wrongF (fieldL (lineL t)) out.length = 0 then goH (restL t).length (out ++ [fieldL (lineL t)]) (restL t) else .inl (wrongF (fieldL (lineL t)) out.length)) else .inl 2 := by
  obtain ⟨n, hn⟩ : ∃ n, t.length = n + 1 := ⟨t.length - 1, by have := List.length_pos_iff.2 h; omega⟩
  have hr := rest_len t h
  have e := go_any (out ++ [fieldL (lineL t)]) (restL t) n (by omega)
  rw [hn]
  conv => lhs; unfold goH
  rw [if_neg h, e]
def rowsT (l : List Fld) : List UInt8 := (l.map rowT).flatten
theorem text_rows (l : List Fld) : textH l = rowsT l ++ [13, 10] := rfl
theorem rowsT_snoc (l : List Fld) (f : Fld) : rowsT (l ++ [f]) = rowsT l ++ f.1 ++ [58, 32] ++ f.2 ++ [13, 10] := by
  unfold rowsT; rw [List.map_append, List.flatten_append]; simp [rowT]
theorem rowsT_take (l : List Fld) (k : Nat) : (rowsT (l.take k)).length ≤ (rowsT l).length := by
  unfold rowsT
  rw [List.map_take]
  have h : ((l.map rowT).take k).flatten ++ ((l.map rowT).drop k).flatten = (l.map rowT).flatten := by rw [← List.flatten_append, List.take_append_drop]
  rw [← h, List.length_append]; omega
theorem take_snocF (l : List Fld) (k : Nat) (x : Fld) (h : l[k]? = some x) : l.take (k + 1) = l.take k ++ [x] := by
  obtain ⟨hk, rfl⟩ := List.getElem?_eq_some_iff.1 h
  exact List.take_succ_eq_append_getElem hk
/-- A row of bytes in one block, each of which may be written. -/
def RowC (W : World) (v : Value) (l : List UInt8) : Prop :=
  ∃ g c, v = .slice (some ⟨g, 0, none⟩) l.length c ∧ l.length ≤ c ∧ c ≤ maxLen ∧ g < W.heap.size ∧ ∀ j, j < l.length → W.cell? ⟨g, j, none⟩ = some (.int .u8 ((l.getD j 0).toNat : Int)) ∧ W.frozen? ⟨g, j, none⟩ = false
theorem RowC.by {W : World} {v : Value} {l : List UInt8} (h : RowC W v l) : By W v l := by
  obtain ⟨g, c, rfl, h1, h2, _, h4⟩ := h
  refine By.of rfl h1 h2 (fun h => by cases h) fun _ => ⟨g, 0, rfl, fun i hi => ?_⟩
  rw [numsL_getD _ i hi, Nat.zero_add]
  exact (h4 i hi).1
theorem RowC.form {W : World} {v : Value} {l : List UInt8} (h : RowC W v l) : ∃ q c, v = .slice q l.length c := by
  obtain ⟨g, c, rfl, _⟩ := h
  exact ⟨_, _, rfl⟩
theorem RowC.lt {W : World} {v : Value} {l : List UInt8} (h : RowC W v l) : ∀ b, v.ownBlock = some b → b < W.heap.size := by
  obtain ⟨g, c, rfl, _, _, h3, _⟩ := h
  intro b hb
  cases hb
  exact h3
theorem RowC.keep {S : Nat → Prop} {W W' : World} {v : Value} {l : List UInt8} (h : RowC W v l) (hk : Keep S W W') (hS : ∀ b, v.ownBlock = some b → S b) : RowC W' v l := by
  obtain ⟨g, c, rfl, h1, h2, h3, h4⟩ := h
  have hb := hk.block g h3 (hS g rfl)
  exact ⟨g, c, rfl, h1, h2, Nat.lt_of_lt_of_le h3 hk.size, fun j hj => ⟨(World.cell?_of_block hb).trans (h4 j hj).1, (World.frozen?_of_block hb).trans (h4 j hj).2⟩⟩
theorem RowC.below {W W' : World} {v : Value} {l : List UInt8} (h : RowC W v l) (hb : Below W.heap.size W W') : RowC W' v l := h.keep (Keep.of_below hb) h.lt
/-- '[]byte(s)' of a string: its bytes in new memory, each of which may be written. -/
theorem conv_rowC (w : World) (l : List UInt8) (hl : l.length ≤ 1099511627776) : ∃ c W, (convert 9 22 (.string ⟨l.toArray⟩)).run Tryd.prog w = .ok (.slice (some ⟨w.heap.size, 0, none⟩) l.length c) W ∧
    RowC W (.slice (some ⟨w.heap.size, 0, none⟩) l.length c) l ∧ Below w.heap.size w W ∧ W.heap.size = w.heap.size + 1 := by
  refine ⟨_, _, Lib.run_convert_string_bytes w 9 22 5 ⟨l.toArray⟩ Tryd.underlying9 Tryd.underlying22 Tryd.underlying5, ?_, ⟨rfl, rfl, rfl, by rw [Lib.bytesWorld_size]; omega, fun k hk => Lib.bytesWorld_at_old w _ _ k hk⟩, Lib.bytesWorld_size w _ _⟩
  have hg : l.length ≤ grownCap w (⟨l.toArray⟩ : ByteArray).size 0 5 := grownCap_ge w _ _ _
  refine ⟨w.heap.size, _, rfl, hg, grownCap_le_maxLen w _ 0 _ (by unfold maxLen; show l.length ≤ _; omega), by rw [Lib.bytesWorld_size]; omega, fun j hj => ⟨Lib.bytesWorld_cell w _ ⟨l.toArray⟩ j hj, ?_⟩⟩
  have hz : (Lib.bytesCells w 5 ⟨l.toArray⟩).size = l.length + (grownCap w (⟨l.toArray⟩ : ByteArray).size 0 5 - l.length) := by
    unfold Lib.bytesCells
    simp [Array.size_append]
    rfl
  simp only [World.frozen?, Lib.bytesWorld_at_new]
  simp only [decide_eq_false_iff_not, Bool.and_eq_false_iff]
  left
  omega
/-- A field, as yield takes it: its rows are the reader's. -/
def FldArg (f : Fld) (args : Array Value) (G : Nat → Prop) (W : World) : Prop :=
  ∃ p r, args = #[.agg #[p, r]] ∧ RowC W p f.1 ∧ RowC W r f.2 ∧ G = fun b => p.ownBlock = some b ∨ r.ownBlock = some b
/-- A text, as yield takes it. -/
def TxtArg (x : List UInt8) (args : Array Value) (G : Nat → Prop) (W : World) : Prop :=
  ∃ v, args = #[v] ∧ RowC W v x ∧ G = fun b => v.ownBlock = some b

/-! ### fields as rows of strings -/
def fdV (l : List Fld) : List Value := l.flatMap fun f => [.string ⟨f.1.toArray⟩, .string ⟨f.2.toArray⟩]
theorem fdV_snoc (l : List Fld) (f : Fld) : fdV (l ++ [f]) = fdV l ++ [.string ⟨f.1.toArray⟩, .string ⟨f.2.toArray⟩] := by
  unfold fdV; rw [List.flatMap_append]; rfl
theorem cell_two_new (w : World) (x y : Value) (t : TypeId) : ∀ j u, [x, y][j]? = some u → (w.alloc (.cells #[x, y] t)).cell? ((⟨w.heap.size, 0, none⟩ : Addr).add j) = some u := by
  intro j u hj
  rw [Go.WideShapes.add_plain]
  have hn : (w.alloc (.cells #[x, y] t)).heap[w.heap.size]? = some (.cells #[x, y] t) := World.alloc_heap_new w _
  simp only [World.cell?, hn, Nat.zero_add]
  simpa using hj
theorem fdV_get : ∀ (m : List Fld) (i : Nat) (x : Fld), m[i]? = some x → (fdV m)[i * 2]? = some (.string ⟨x.1.toArray⟩) ∧ (fdV m)[i * 2 + 1]? = some (.string ⟨x.2.toArray⟩)
  | [], i, x, h => by simp at h
  | y :: r, 0, x, h => by
    simp at h; subst h
    exact ⟨rfl, rfl⟩
  | y :: r, i + 1, x, h => by
    have h' : r[i]? = some x := by simpa using h
    obtain ⟨h1, h2⟩ := fdV_get r i x h'
    have hv : fdV (y :: r) = .string ⟨y.1.toArray⟩ :: .string ⟨y.2.toArray⟩ :: fdV r := rfl
    rw [hv, show (i + 1) * 2 = i * 2 + 1 + 1 from by omega]
    exact ⟨by simpa using h1, by simpa using h2⟩
end Go.Proofs.YtfgjcdjhaihgaaaDoor.Hdr

namespace Go.Proofs.YtfgjcdjhaihgaaaDoor.Hdr
open Go.RowKit Go.Shelf
attribute [local go_sem] Oper.semAt_some
set_option linter.unusedVariables false

theorem trim_str (b : List UInt8) (w : World) (hb : b.length ≤ 1073741824) : Calls Tryd.prog 28 #[.string ⟨b.toArray⟩] w fun e w' => e = .returned (.string ⟨(trimB b).toArray⟩) ∧ w = w' := by
  obtain ⟨f, e0, ht⟩ := trims b
  have hs : (⟨b.toArray⟩ : ByteArray).size ≤ 1099511627775 := by show b.toArray.size ≤ _; simp; omega
  refine (refTrim_any ⟨b.toArray⟩ f e0 w hs (by simpa using ht)).mono ?_
  rintro e w' ⟨x, rfl, hx, rfl⟩
  refine ⟨?_, rfl⟩
  rw [ba_of x (trimB b) (by rw [hx.out, trim_sub b f e0 ht])]
theorem tok_str (a : List UInt8) (w : World) (ha : a.length ≤ 1073741824) : Calls Tryd.prog 33 #[.string ⟨a.toArray⟩] w fun e w' => e = .returned (.bool (tokL a)) ∧ w = w' := by
  have hs : (⟨a.toArray⟩ : ByteArray).size ≤ 1099511627775 := by show a.toArray.size ≤ _; simp; omega
  exact (refToken_any ⟨a.toArray⟩ w hs).mono fun e w' h => by simpa using h
theorem in_str (c : UInt8) (k : Int) (hk : k = (c.toNat : Int)) (b : List UInt8) (w : World) (hb : b.length ≤ 1073741824) : Calls Tryd.prog 34 #[.int .u8 k, .string ⟨b.toArray⟩] w fun e w' => e = .returned (.bool (b.contains c)) ∧ w = w' := by
  subst hk
  have hs : (⟨b.toArray⟩ : ByteArray).size ≤ maxLen := by show b.toArray.size ≤ _; unfold maxLen; simp; omega
  exact (In_any c ⟨b.toArray⟩ w hs).mono fun e w' h => by simpa [inB] using h

set_option maxRecDepth 100000 in
set_option maxHeartbeats 16000000 in
theorem refWrong_any (a b : List UInt8) (n : Nat) (w : World) (ha : a.length ≤ 1073741824) (hb : b.length ≤ 1073741824) (hn : n ≤ 1073741824) :
    Calls Tryd.prog 21 #[.agg #[.string ⟨a.toArray⟩, .string ⟨b.toArray⟩], .int .i64 (n : Int)] w fun e w' => e = .returned (.int .i64 (wrongF (a, b) n)) ∧ Below w.heap.size w w' := by
  obtain ⟨W, hW⟩ : ∃ W, w.alloc (.cells #[.string ⟨a.toArray⟩, .string ⟨b.toArray⟩] 56) = W := ⟨_, rfl⟩
  have A0 : Below w.heap.size w W := hW ▸ (Below.refl _ w).alloc (Nat.le_refl _) _
  have g0 : W.heap[w.heap.size]? = some (.cells #[.string ⟨a.toArray⟩, .string ⟨b.toArray⟩] 56) := hW ▸ World.alloc_heap_new w _
  obtain ⟨W2, hW2⟩ : ∃ Z, W.drew = Z := ⟨_, rfl⟩
  have hd : Below W.heap.size W W2 := hW2 ▸ ⟨rfl, rfl, rfl, Nat.le_refl _, fun _ _ => rfl⟩
  have A := A0.trans (hd.mono A0.size)
  have g2 : W2.heap[w.heap.size]? = some (.cells #[.string ⟨a.toArray⟩, .string ⟨b.toArray⟩] 56) := hW2 ▸ g0
  have x0 : W2.cell? ⟨w.heap.size, 0, none⟩ = some (.string ⟨a.toArray⟩) := by simp [World.cell?, g2]
  have x1 : W2.cell? ⟨w.heap.size, 1, none⟩ = some (.string ⟨b.toArray⟩) := by simp [World.cell?, g2]
  have HT := Lib.hid (tok_str a W2 ha)
  have HM := Lib.hid (trim_str b W2 hb)
  have HC := Lib.hid (in_str 13 13 (by decide) b W2 hb)
  have HD := Lib.hid (in_str 10 10 (by decide) b W2 hb)
  have HF := Lib.hid (show wrongF (a, b) n = if (tokL a && decide (trimB b = b) && !b.contains 13 && !b.contains 10) = true then (if 64 ≤ n then 3 else 0) else 2 from rfl)
  generalize wrongF (a, b) n = R at *
  obtain ⟨T, hT⟩ : ∃ T, trimB b = T := ⟨_, rfl⟩
  rw [hT] at HM HF
  have e1 : (T == b) = decide (T = b) := by rw [Bool.eq_iff_iff, beq_iff_eq, decide_eq_true_iff]
  obtain ⟨P1, hP1⟩ : ∃ p, tokL a = p := ⟨_, rfl⟩
  obtain ⟨P2, hP2⟩ : ∃ p, decide (T = b) = p := ⟨_, rfl⟩
  obtain ⟨P3, hP3⟩ : ∃ p, b.contains 13 = p := ⟨_, rfl⟩
  obtain ⟨P4, hP4⟩ : ∃ p, b.contains 10 = p := ⟨_, rfl⟩
  rw [hP1] at HT HF
  rw [hP2] at HF e1
  rw [hP3] at HC HF
  rw [hP4] at HD HF
  have HW := Lib.hid hW
  have HW2 := Lib.hid hW2
  clear hW hW2 hd A0 g0 g2 hT hP1 hP2 hP3 hP4 ha hb
  go_enter Tryd.func21, Tryd.ntmps21
  go_wp2_with fail
  rw [HW.out]
  refine pregion_any (fun X => X.cell? ⟨w.heap.size, 0, none⟩ = some (.string ⟨a.toArray⟩) ∧ X.cell? ⟨w.heap.size, 1, none⟩ = some (.string ⟨b.toArray⟩)) (by kernel_rfl) ?_
  rw [HW2.out]
  refine wpAnyH_take (i := 0) (v := (.pointer (some ⟨w.heap.size, 0, none⟩))) rfl (by kernel_rfl) (by kernel_rfl) (by kernel_rfl) (fun _ _ _ h => h) (.inl ⟨by kernel_rfl, ?_⟩) ⟨x0, x1⟩ ?_
  · rintro w ⟨h1, h2⟩; go_simp <;> omega
  refine plist #[true, false, false, false, false, false, false, false, false, false, false, false, false, false, false, false, false, false, false, false, false, false] (by kernel_rfl) ?_
  refine wpAnyH_take (i := 1) (v := (.string ⟨a.toArray⟩)) rfl (by kernel_rfl) (by kernel_rfl) (by kernel_rfl) (fun _ _ _ h => h) (.inl ⟨by kernel_rfl, ?_⟩) ⟨x0, x1⟩ ?_
  · rintro w ⟨h1, h2⟩; go_simp <;> omega
  refine plist #[true, true, false, false, false, false, false, false, false, false, false, false, false, false, false, false, false, false, false, false, false, false] (by kernel_rfl) ?_
  have con := HT.out
  refine pone 2 (by kernel_rfl) rfl fun K hK => ?_
  go_simp
  refine con.mono ?_
  rintro e w9 ⟨rfl, rfl⟩
  clear con
  refine hK _ _ ⟨x0, x1⟩ ?_
  clear hK K
  cases P1 with
  | false =>
    refine plist #[true, true, true, false, false, false, false, false, false, false, false, false, false, false, false, false, false, false, false, false, false, false] (by kernel_rfl) ?_
    refine pone 3 (by kernel_rfl) rfl fun K hK => ?_
    go_simp
    refine hK _ _ ⟨x0, x1⟩ ?_
    clear hK K
    refine plist #[true, true, true, true, false, false, false, false, false, false, false, false, false, false, false, false, false, false, false, false, false, false] (by kernel_rfl) ?_
    refine pone 4 (by kernel_rfl) rfl fun K hK => ?_
    go_simp
    refine hK _ _ ⟨x0, x1⟩ ?_
    clear hK K
    refine plist #[true, true, true, true, true, false, false, false, false, false, false, false, false, false, false, false, false, false, false, false, false, false] (by kernel_rfl) ?_
    refine wpAnyH_take (i := 5) (v := (undef)) rfl (by kernel_rfl) (by kernel_rfl) (by kernel_rfl) (fun _ _ _ h => h) (.inr ⟨by kernel_rfl, rfl⟩) ⟨x0, x1⟩ ?_
    refine plist #[true, true, true, true, true, true, false, false, false, false, false, false, false, false, false, false, false, false, false, false, false, false] (by kernel_rfl) ?_
    refine wpAnyH_take (i := 6) (v := (undef)) rfl (by kernel_rfl) (by kernel_rfl) (by kernel_rfl) (fun _ _ _ h => h) (.inr ⟨by kernel_rfl, rfl⟩) ⟨x0, x1⟩ ?_
    refine plist #[true, true, true, true, true, true, true, false, false, false, false, false, false, false, false, false, false, false, false, false, false, false] (by kernel_rfl) ?_
    refine wpAnyH_take (i := 7) (v := (undef)) rfl (by kernel_rfl) (by kernel_rfl) (by kernel_rfl) (fun _ _ _ h => h) (.inr ⟨by kernel_rfl, rfl⟩) ⟨x0, x1⟩ ?_
    refine plist #[true, true, true, true, true, true, true, true, false, false, false, false, false, false, false, false, false, false, false, false, false, false] (by kernel_rfl) ?_
    refine wpAnyH_take (i := 8) (v := (undef)) rfl (by kernel_rfl) (by kernel_rfl) (by kernel_rfl) (fun _ _ _ h => h) (.inr ⟨by kernel_rfl, rfl⟩) ⟨x0, x1⟩ ?_
    refine plist #[true, true, true, true, true, true, true, true, true, false, false, false, false, false, false, false, false, false, false, false, false, false] (by kernel_rfl) ?_
    refine wpAnyH_take (i := 9) (v := (undef)) rfl (by kernel_rfl) (by kernel_rfl) (by kernel_rfl) (fun _ _ _ h => h) (.inr ⟨by kernel_rfl, rfl⟩) ⟨x0, x1⟩ ?_
    refine plist #[true, true, true, true, true, true, true, true, true, true, false, false, false, false, false, false, false, false, false, false, false, false] (by kernel_rfl) ?_
    refine wpAnyH_take (i := 10) (v := (undef)) rfl (by kernel_rfl) (by kernel_rfl) (by kernel_rfl) (fun _ _ _ h => h) (.inr ⟨by kernel_rfl, rfl⟩) ⟨x0, x1⟩ ?_
    refine plist #[true, true, true, true, true, true, true, true, true, true, true, false, false, false, false, false, false, false, false, false, false, false] (by kernel_rfl) ?_
    refine pone 11 (by kernel_rfl) rfl fun K hK => ?_
    go_simp
    refine hK _ _ ⟨x0, x1⟩ ?_
    clear hK K
    refine plist #[true, true, true, true, true, true, true, true, true, true, true, true, false, false, false, false, false, false, false, false, false, false] (by kernel_rfl) ?_
    refine pone 12 (by kernel_rfl) rfl fun K hK => ?_
    go_simp
    refine hK _ _ ⟨x0, x1⟩ ?_
    clear hK K
    refine plist #[true, true, true, true, true, true, true, true, true, true, true, true, true, false, false, false, false, false, false, false, false, false] (by kernel_rfl) ?_
    refine wpAnyH_take (i := 13) (v := (undef)) rfl (by kernel_rfl) (by kernel_rfl) (by kernel_rfl) (fun _ _ _ h => h) (.inr ⟨by kernel_rfl, rfl⟩) ⟨x0, x1⟩ ?_
    refine plist #[true, true, true, true, true, true, true, true, true, true, true, true, true, true, false, false, false, false, false, false, false, false] (by kernel_rfl) ?_
    refine wpAnyH_take (i := 14) (v := (undef)) rfl (by kernel_rfl) (by kernel_rfl) (by kernel_rfl) (fun _ _ _ h => h) (.inr ⟨by kernel_rfl, rfl⟩) ⟨x0, x1⟩ ?_
    refine plist #[true, true, true, true, true, true, true, true, true, true, true, true, true, true, true, false, false, false, false, false, false, false] (by kernel_rfl) ?_
    refine wpAnyH_take (i := 15) (v := (undef)) rfl (by kernel_rfl) (by kernel_rfl) (by kernel_rfl) (fun _ _ _ h => h) (.inr ⟨by kernel_rfl, rfl⟩) ⟨x0, x1⟩ ?_
    refine plist #[true, true, true, true, true, true, true, true, true, true, true, true, true, true, true, true, false, false, false, false, false, false] (by kernel_rfl) ?_
    refine pone 16 (by kernel_rfl) rfl fun K hK => ?_
    go_simp
    refine hK _ _ ⟨x0, x1⟩ ?_
    clear hK K
    refine plist #[true, true, true, true, true, true, true, true, true, true, true, true, true, true, true, true, true, false, false, false, false, false] (by kernel_rfl) ?_
    refine pone 17 (by kernel_rfl) rfl fun K hK => ?_
    go_simp
    refine hK _ _ ⟨x0, x1⟩ ?_
    clear hK K
    refine plist #[true, true, true, true, true, true, true, true, true, true, true, true, true, true, true, true, true, true, false, false, false, false] (by kernel_rfl) ?_
    refine wpAnyH_take (i := 18) (v := (undef)) rfl (by kernel_rfl) (by kernel_rfl) (by kernel_rfl) (fun _ _ _ h => h) (.inr ⟨by kernel_rfl, rfl⟩) ⟨x0, x1⟩ ?_
    refine plist #[true, true, true, true, true, true, true, true, true, true, true, true, true, true, true, true, true, true, true, false, false, false] (by kernel_rfl) ?_
    refine wpAnyH_take (i := 19) (v := (undef)) rfl (by kernel_rfl) (by kernel_rfl) (by kernel_rfl) (fun _ _ _ h => h) (.inr ⟨by kernel_rfl, rfl⟩) ⟨x0, x1⟩ ?_
    refine plist #[true, true, true, true, true, true, true, true, true, true, true, true, true, true, true, true, true, true, true, true, false, false] (by kernel_rfl) ?_
    refine wpAnyH_take (i := 20) (v := (undef)) rfl (by kernel_rfl) (by kernel_rfl) (by kernel_rfl) (fun _ _ _ h => h) (.inr ⟨by kernel_rfl, rfl⟩) ⟨x0, x1⟩ ?_
    refine plist #[true, true, true, true, true, true, true, true, true, true, true, true, true, true, true, true, true, true, true, true, true, false] (by kernel_rfl) ?_
    refine pone 21 (by kernel_rfl) rfl fun K hK => ?_
    go_simp
    refine hK _ _ ⟨x0, x1⟩ ?_
    clear hK K
    refine pdone (by kernel_rfl) ?_ _
    clear HT HM HC HD x0 x1
    go_wp2
    go_ret
    exact ⟨by rw [HF.out]; simp, A⟩
  | true =>
    refine plist #[true, true, true, false, false, false, false, false, false, false, false, false, false, false, false, false, false, false, false, false, false, false] (by kernel_rfl) ?_
    refine pone 3 (by kernel_rfl) rfl fun K hK => ?_
    go_simp
    refine hK _ _ ⟨x0, x1⟩ ?_
    clear hK K
    refine plist #[true, true, true, true, false, false, false, false, false, false, false, false, false, false, false, false, false, false, false, false, false, false] (by kernel_rfl) ?_
    refine pone 4 (by kernel_rfl) rfl fun K hK => ?_
    go_simp
    refine hK _ _ ⟨x0, x1⟩ ?_
    clear hK K
    refine plist #[true, true, true, true, true, false, false, false, false, false, false, false, false, false, false, false, false, false, false, false, false, false] (by kernel_rfl) ?_
    refine wpAnyH_take (i := 5) (v := (.pointer (some ⟨w.heap.size, 1, none⟩))) rfl (by kernel_rfl) (by kernel_rfl) (by kernel_rfl) (fun _ _ _ h => h) (.inl ⟨by kernel_rfl, ?_⟩) ⟨x0, x1⟩ ?_
    · rintro w ⟨h1, h2⟩; go_simp <;> omega
    refine plist #[true, true, true, true, true, true, false, false, false, false, false, false, false, false, false, false, false, false, false, false, false, false] (by kernel_rfl) ?_
    refine wpAnyH_take (i := 6) (v := (.string ⟨b.toArray⟩)) rfl (by kernel_rfl) (by kernel_rfl) (by kernel_rfl) (fun _ _ _ h => h) (.inl ⟨by kernel_rfl, ?_⟩) ⟨x0, x1⟩ ?_
    · rintro w ⟨h1, h2⟩; go_simp <;> omega
    refine plist #[true, true, true, true, true, true, true, false, false, false, false, false, false, false, false, false, false, false, false, false, false, false] (by kernel_rfl) ?_
    refine wpAnyH_take (i := 8) (v := (.pointer (some ⟨w.heap.size, 1, none⟩))) rfl (by kernel_rfl) (by kernel_rfl) (by kernel_rfl) (fun _ _ _ h => h) (.inl ⟨by kernel_rfl, ?_⟩) ⟨x0, x1⟩ ?_
    · rintro w ⟨h1, h2⟩; go_simp <;> omega
    refine plist #[true, true, true, true, true, true, true, false, true, false, false, false, false, false, false, false, false, false, false, false, false, false] (by kernel_rfl) ?_
    refine wpAnyH_take (i := 9) (v := (.string ⟨b.toArray⟩)) rfl (by kernel_rfl) (by kernel_rfl) (by kernel_rfl) (fun _ _ _ h => h) (.inl ⟨by kernel_rfl, ?_⟩) ⟨x0, x1⟩ ?_
    · rintro w ⟨h1, h2⟩; go_simp <;> omega
    refine plist #[true, true, true, true, true, true, true, false, true, true, false, false, false, false, false, false, false, false, false, false, false, false] (by kernel_rfl) ?_
    have con := HM.out
    refine pone 7 (by kernel_rfl) rfl fun K hK => ?_
    go_simp
    refine con.mono ?_
    rintro e w9 ⟨rfl, rfl⟩
    clear con
    refine hK _ _ ⟨x0, x1⟩ ?_
    clear hK K
    cases P2 with
    | false =>
      refine plist #[true, true, true, true, true, true, true, true, true, true, false, false, false, false, false, false, false, false, false, false, false, false] (by kernel_rfl) ?_
      refine pone 10 (by kernel_rfl) rfl fun K hK => ?_
      go_simp
      refine hK _ _ ⟨x0, x1⟩ ?_
      clear hK K
      refine plist #[true, true, true, true, true, true, true, true, true, true, true, false, false, false, false, false, false, false, false, false, false, false] (by kernel_rfl) ?_
      refine pone 11 (by kernel_rfl) rfl fun K hK => ?_
      go_simp
      refine hK _ _ ⟨x0, x1⟩ ?_
      clear hK K
      refine plist #[true, true, true, true, true, true, true, true, true, true, true, true, false, false, false, false, false, false, false, false, false, false] (by kernel_rfl) ?_
      refine pone 12 (by kernel_rfl) rfl fun K hK => ?_
      go_simp
      refine hK _ _ ⟨x0, x1⟩ ?_
      clear hK K
      refine plist #[true, true, true, true, true, true, true, true, true, true, true, true, true, false, false, false, false, false, false, false, false, false] (by kernel_rfl) ?_
      refine wpAnyH_take (i := 13) (v := (undef)) rfl (by kernel_rfl) (by kernel_rfl) (by kernel_rfl) (fun _ _ _ h => h) (.inr ⟨by kernel_rfl, rfl⟩) ⟨x0, x1⟩ ?_
      refine plist #[true, true, true, true, true, true, true, true, true, true, true, true, true, true, false, false, false, false, false, false, false, false] (by kernel_rfl) ?_
      refine wpAnyH_take (i := 14) (v := (undef)) rfl (by kernel_rfl) (by kernel_rfl) (by kernel_rfl) (fun _ _ _ h => h) (.inr ⟨by kernel_rfl, rfl⟩) ⟨x0, x1⟩ ?_
      refine plist #[true, true, true, true, true, true, true, true, true, true, true, true, true, true, true, false, false, false, false, false, false, false] (by kernel_rfl) ?_
      refine wpAnyH_take (i := 15) (v := (undef)) rfl (by kernel_rfl) (by kernel_rfl) (by kernel_rfl) (fun _ _ _ h => h) (.inr ⟨by kernel_rfl, rfl⟩) ⟨x0, x1⟩ ?_
      refine plist #[true, true, true, true, true, true, true, true, true, true, true, true, true, true, true, true, false, false, false, false, false, false] (by kernel_rfl) ?_
      refine pone 16 (by kernel_rfl) rfl fun K hK => ?_
      go_simp
      refine hK _ _ ⟨x0, x1⟩ ?_
      clear hK K
      refine plist #[true, true, true, true, true, true, true, true, true, true, true, true, true, true, true, true, true, false, false, false, false, false] (by kernel_rfl) ?_
      refine pone 17 (by kernel_rfl) rfl fun K hK => ?_
      go_simp
      refine hK _ _ ⟨x0, x1⟩ ?_
      clear hK K
      refine plist #[true, true, true, true, true, true, true, true, true, true, true, true, true, true, true, true, true, true, false, false, false, false] (by kernel_rfl) ?_
      refine wpAnyH_take (i := 18) (v := (undef)) rfl (by kernel_rfl) (by kernel_rfl) (by kernel_rfl) (fun _ _ _ h => h) (.inr ⟨by kernel_rfl, rfl⟩) ⟨x0, x1⟩ ?_
      refine plist #[true, true, true, true, true, true, true, true, true, true, true, true, true, true, true, true, true, true, true, false, false, false] (by kernel_rfl) ?_
      refine wpAnyH_take (i := 19) (v := (undef)) rfl (by kernel_rfl) (by kernel_rfl) (by kernel_rfl) (fun _ _ _ h => h) (.inr ⟨by kernel_rfl, rfl⟩) ⟨x0, x1⟩ ?_
      refine plist #[true, true, true, true, true, true, true, true, true, true, true, true, true, true, true, true, true, true, true, true, false, false] (by kernel_rfl) ?_
      refine wpAnyH_take (i := 20) (v := (undef)) rfl (by kernel_rfl) (by kernel_rfl) (by kernel_rfl) (fun _ _ _ h => h) (.inr ⟨by kernel_rfl, rfl⟩) ⟨x0, x1⟩ ?_
      refine plist #[true, true, true, true, true, true, true, true, true, true, true, true, true, true, true, true, true, true, true, true, true, false] (by kernel_rfl) ?_
      refine pone 21 (by kernel_rfl) rfl fun K hK => ?_
      go_simp
      refine hK _ _ ⟨x0, x1⟩ ?_
      clear hK K
      refine pdone (by kernel_rfl) ?_ _
      clear HT HM HC HD x0 x1
      go_wp2
      go_ret
      exact ⟨by rw [HF.out]; simp, A⟩
    | true =>
      refine plist #[true, true, true, true, true, true, true, true, true, true, false, false, false, false, false, false, false, false, false, false, false, false] (by kernel_rfl) ?_
      refine pone 10 (by kernel_rfl) rfl fun K hK => ?_
      go_simp
      refine hK _ _ ⟨x0, x1⟩ ?_
      clear hK K
      refine plist #[true, true, true, true, true, true, true, true, true, true, true, false, false, false, false, false, false, false, false, false, false, false] (by kernel_rfl) ?_
      refine pone 11 (by kernel_rfl) rfl fun K hK => ?_
      go_simp
      refine hK _ _ ⟨x0, x1⟩ ?_
      clear hK K
      refine plist #[true, true, true, true, true, true, true, true, true, true, true, true, false, false, false, false, false, false, false, false, false, false] (by kernel_rfl) ?_
      refine pone 12 (by kernel_rfl) rfl fun K hK => ?_
      go_simp
      refine hK _ _ ⟨x0, x1⟩ ?_
      clear hK K
      refine plist #[true, true, true, true, true, true, true, true, true, true, true, true, true, false, false, false, false, false, false, false, false, false] (by kernel_rfl) ?_
      refine wpAnyH_take (i := 13) (v := (.pointer (some ⟨w.heap.size, 1, none⟩))) rfl (by kernel_rfl) (by kernel_rfl) (by kernel_rfl) (fun _ _ _ h => h) (.inl ⟨by kernel_rfl, ?_⟩) ⟨x0, x1⟩ ?_
      · rintro w ⟨h1, h2⟩; go_simp <;> omega
      refine plist #[true, true, true, true, true, true, true, true, true, true, true, true, true, true, false, false, false, false, false, false, false, false] (by kernel_rfl) ?_
      refine wpAnyH_take (i := 14) (v := (.string ⟨b.toArray⟩)) rfl (by kernel_rfl) (by kernel_rfl) (by kernel_rfl) (fun _ _ _ h => h) (.inl ⟨by kernel_rfl, ?_⟩) ⟨x0, x1⟩ ?_
      · rintro w ⟨h1, h2⟩; go_simp <;> omega
      refine plist #[true, true, true, true, true, true, true, true, true, true, true, true, true, true, true, false, false, false, false, false, false, false] (by kernel_rfl) ?_
      have con := HC.out
      refine pone 15 (by kernel_rfl) rfl fun K hK => ?_
      go_simp
      refine con.mono ?_
      rintro e w9 ⟨rfl, rfl⟩
      clear con
      refine hK _ _ ⟨x0, x1⟩ ?_
      clear hK K
      cases P3 with
      | true =>
        refine plist #[true, true, true, true, true, true, true, true, true, true, true, true, true, true, true, true, false, false, false, false, false, false] (by kernel_rfl) ?_
        refine pone 16 (by kernel_rfl) rfl fun K hK => ?_
        go_simp
        refine hK _ _ ⟨x0, x1⟩ ?_
        clear hK K
        refine plist #[true, true, true, true, true, true, true, true, true, true, true, true, true, true, true, true, true, false, false, false, false, false] (by kernel_rfl) ?_
        refine pone 17 (by kernel_rfl) rfl fun K hK => ?_
        go_simp
        refine hK _ _ ⟨x0, x1⟩ ?_
        clear hK K
        refine plist #[true, true, true, true, true, true, true, true, true, true, true, true, true, true, true, true, true, true, false, false, false, false] (by kernel_rfl) ?_
        refine wpAnyH_take (i := 18) (v := (undef)) rfl (by kernel_rfl) (by kernel_rfl) (by kernel_rfl) (fun _ _ _ h => h) (.inr ⟨by kernel_rfl, rfl⟩) ⟨x0, x1⟩ ?_
        refine plist #[true, true, true, true, true, true, true, true, true, true, true, true, true, true, true, true, true, true, true, false, false, false] (by kernel_rfl) ?_
        refine wpAnyH_take (i := 19) (v := (undef)) rfl (by kernel_rfl) (by kernel_rfl) (by kernel_rfl) (fun _ _ _ h => h) (.inr ⟨by kernel_rfl, rfl⟩) ⟨x0, x1⟩ ?_
        refine plist #[true, true, true, true, true, true, true, true, true, true, true, true, true, true, true, true, true, true, true, true, false, false] (by kernel_rfl) ?_
        refine wpAnyH_take (i := 20) (v := (undef)) rfl (by kernel_rfl) (by kernel_rfl) (by kernel_rfl) (fun _ _ _ h => h) (.inr ⟨by kernel_rfl, rfl⟩) ⟨x0, x1⟩ ?_
        refine plist #[true, true, true, true, true, true, true, true, true, true, true, true, true, true, true, true, true, true, true, true, true, false] (by kernel_rfl) ?_
        refine pone 21 (by kernel_rfl) rfl fun K hK => ?_
        go_simp
        refine hK _ _ ⟨x0, x1⟩ ?_
        clear hK K
        refine pdone (by kernel_rfl) ?_ _
        clear HT HM HC HD x0 x1
        go_wp2
        go_ret
        exact ⟨by rw [HF.out]; simp, A⟩
      | false =>
        refine plist #[true, true, true, true, true, true, true, true, true, true, true, true, true, true, true, true, false, false, false, false, false, false] (by kernel_rfl) ?_
        refine pone 16 (by kernel_rfl) rfl fun K hK => ?_
        go_simp
        refine hK _ _ ⟨x0, x1⟩ ?_
        clear hK K
        refine plist #[true, true, true, true, true, true, true, true, true, true, true, true, true, true, true, true, true, false, false, false, false, false] (by kernel_rfl) ?_
        refine pone 17 (by kernel_rfl) rfl fun K hK => ?_
        go_simp
        refine hK _ _ ⟨x0, x1⟩ ?_
        clear hK K
        refine plist #[true, true, true, true, true, true, true, true, true, true, true, true, true, true, true, true, true, true, false, false, false, false] (by kernel_rfl) ?_
        refine wpAnyH_take (i := 18) (v := (.pointer (some ⟨w.heap.size, 1, none⟩))) rfl (by kernel_rfl) (by kernel_rfl) (by kernel_rfl) (fun _ _ _ h => h) (.inl ⟨by kernel_rfl, ?_⟩) ⟨x0, x1⟩ ?_
        · rintro w ⟨h1, h2⟩; go_simp <;> omega
        refine plist #[true, true, true, true, true, true, true, true, true, true, true, true, true, true, true, true, true, true, true, false, false, false] (by kernel_rfl) ?_
        refine wpAnyH_take (i := 19) (v := (.string ⟨b.toArray⟩)) rfl (by kernel_rfl) (by kernel_rfl) (by kernel_rfl) (fun _ _ _ h => h) (.inl ⟨by kernel_rfl, ?_⟩) ⟨x0, x1⟩ ?_
        · rintro w ⟨h1, h2⟩; go_simp <;> omega
        refine plist #[true, true, true, true, true, true, true, true, true, true, true, true, true, true, true, true, true, true, true, true, false, false] (by kernel_rfl) ?_
        have con := HD.out
        refine pone 20 (by kernel_rfl) rfl fun K hK => ?_
        go_simp
        refine con.mono ?_
        rintro e w9 ⟨rfl, rfl⟩
        clear con
        refine hK _ _ ⟨x0, x1⟩ ?_
        clear hK K
        cases P4 with
        | true =>
          refine plist #[true, true, true, true, true, true, true, true, true, true, true, true, true, true, true, true, true, true, true, true, true, false] (by kernel_rfl) ?_
          refine pone 21 (by kernel_rfl) rfl fun K hK => ?_
          go_simp
          refine hK _ _ ⟨x0, x1⟩ ?_
          clear hK K
          refine pdone (by kernel_rfl) ?_ _
          clear HT HM HC HD x0 x1
          go_wp2
          go_ret
          exact ⟨by rw [HF.out]; simp, A⟩
        | false =>
          refine plist #[true, true, true, true, true, true, true, true, true, true, true, true, true, true, true, true, true, true, true, true, true, false] (by kernel_rfl) ?_
          refine pone 21 (by kernel_rfl) rfl fun K hK => ?_
          go_simp
          refine hK _ _ ⟨x0, x1⟩ ?_
          clear hK K
          refine pdone (by kernel_rfl) ?_ _
          clear HT HM HC HD x0 x1
          by_cases h64 : 64 ≤ n
          · have d1 : decide ((64 : Int) ≤ (n : Int)) = true := by simp; omega
            have d2 : decide (64 ≤ n) = true := decide_eq_true h64
            have HR := Lib.hid (show R = 3 by rw [HF.out]; simp [h64])
            clear h64 HF
            go_wp2
            go_ret
            exact ⟨by rw [HR.out]; rfl, A⟩
          · have d1 : decide ((64 : Int) ≤ (n : Int)) = false := by simp; omega
            have d2 : decide (64 ≤ n) = false := decide_eq_false h64
            have HR := Lib.hid (show R = 0 by rw [HF.out]; simp [h64])
            clear h64 HF
            go_wp2
            go_ret
            exact ⟨by rw [HR.out]; rfl, A⟩

end Go.Proofs.YtfgjcdjhaihgaaaDoor.Hdr

namespace Go.Proofs.YtfgjcdjhaihgaaaDoor.Hdr
open Go.RowKit Go.Shelf Url
set_option linter.unusedVariables false

abbrev C3 := Option Addr × Nat × Nat
def vC (z : C3) : Value := .slice z.1 z.2.1 z.2.2
/-- A field as it lies: its two slices, and what they read. -/
abbrev FZ := (C3 × C3) × Fld
/-- The slice reads as these bytes; they lie at B or above. -/
def ByA (B : Nat) (w : World) (z : C3) (l : List UInt8) : Prop := By w (vC z) l ∧ ∀ a, z.1 = some a → 0 < z.2.1 → B ≤ a.block
theorem ByA.keep {B : Nat} {w w' : World} {z : C3} {l : List UInt8} (h : ByA B w z l) (hk : Keep (fun b => B ≤ b) w w') : ByA B w' z l := by
  obtain ⟨q, n, c⟩ := z
  obtain ⟨h1, h2, h3, h4, h5⟩ := h.1.at
  exact ⟨By.of h1 h2 h3 (fun hq => (h4 hq).2) (bytes_keep h5 hk fun a ha h0 => h.2 a ha h0), h.2⟩
theorem ByA.below {B : Nat} {w w' : World} {z : C3} {l : List UInt8} (h : ByA B w z l) (hb : Below w.heap.size w w') : ByA B w' z l := ⟨h.1.on hb, h.2⟩
theorem ByA.mono {A B : Nat} {w : World} {z : C3} {l : List UInt8} (h : ByA B w z l) (hab : A ≤ B) : ByA A w z l := ⟨h.1, fun a ha h0 => Nat.le_trans hab (h.2 a ha h0)⟩
theorem ByA.nil (B : Nat) (w : World) : ByA B w (none, 0, 0) [] := ⟨by_nil w, fun _ h => by cases h⟩
def FAt (B : Nat) (w : World) (z : FZ) : Prop := ByA B w z.1.1 z.2.1 ∧ ByA B w z.1.2 z.2.2
/-- The row at q holds these fields. -/
def FlsIn (B : Nat) (w : World) (q : Option Addr) (n : Nat) (zs : List FZ) : Prop :=
  zs.length = n ∧ (0 < n → ∃ g o, q = some ⟨g, o, none⟩ ∧ B ≤ g ∧ g < w.heap.size ∧ ∀ i z, zs[i]? = some z → w.cell? ⟨g, o + i * 2, none⟩ = some (vC z.1.1) ∧ w.cell? ⟨g, o + i * 2 + 1, none⟩ = some (vC z.1.2)) ∧ ∀ z ∈ zs, FAt B w z
theorem FlsIn.below {B : Nat} {w w' : World} {q : Option Addr} {n : Nat} {zs : List FZ} (h : FlsIn B w q n zs) (hb : Below w.heap.size w w') : FlsIn B w' q n zs := by
  refine ⟨h.1, fun h0 => ?_, fun z hz => ⟨(h.2.2 z hz).1.below hb, (h.2.2 z hz).2.below hb⟩⟩
  obtain ⟨g, o, hq, hB, hg, hc⟩ := h.2.1 h0
  have hb' := hb.block g hg
  have hcell : ∀ j, w'.cell? ⟨g, j, none⟩ = w.cell? ⟨g, j, none⟩ := fun j => by simp only [World.cell?, hb']
  exact ⟨g, o, hq, hB, Nat.lt_of_lt_of_le hg hb.size, fun i z hz => by rw [hcell, hcell]; exact hc i z hz⟩
theorem FlsIn.nil (B : Nat) (w : World) (q : Option Addr) : FlsIn B w q 0 [] := ⟨rfl, fun h => absurd h (by omega), fun _ h => by cases h⟩
/-- The header's row at q holds these fields, all at B or above. -/
def HdrIn (B : Nat) (w : World) (q : Option Addr) (n c : Nat) (l : List Fld) : Prop :=
  (q = none → c = 0) ∧ n ≤ c ∧ l.length = n ∧ (0 < n → ∃ g o, q = some ⟨g, o, none⟩ ∧ B ≤ g ∧ g < w.heap.size ∧ ∀ i f, l[i]? = some f → w.cell? ⟨g, o + i * 2, none⟩ = some (.string ⟨f.1.toArray⟩) ∧ w.cell? ⟨g, o + i * 2 + 1, none⟩ = some (.string ⟨f.2.toArray⟩))
theorem HdrIn.keepS {B : Nat} {w w' : World} {q : Option Addr} {n c : Nat} {l : List Fld} {S : Nat → Prop} (h : HdrIn B w q n c l) (hk : Keep S w w') (hS : ∀ g, B ≤ g → g < w.heap.size → S g) : HdrIn B w' q n c l := by
  refine ⟨h.1, h.2.1, h.2.2.1, fun h0 => ?_⟩
  obtain ⟨g, o, hq, hB, hg, hc⟩ := h.2.2.2 h0
  have hb := hk.block g hg (hS g hB hg)
  have hcell : ∀ j, w'.cell? ⟨g, j, none⟩ = w.cell? ⟨g, j, none⟩ := fun j => by simp only [World.cell?, hb]
  exact ⟨g, o, hq, hB, Nat.lt_of_lt_of_le hg hk.size, fun i z hz => by rw [hcell, hcell]; exact hc i z hz⟩
theorem HdrIn.keep {B : Nat} {w w' : World} {q : Option Addr} {n c : Nat} {l : List Fld} (h : HdrIn B w q n c l) (hk : Keep (fun b => B ≤ b) w w') : HdrIn B w' q n c l := h.keepS hk fun _ h _ => h
theorem HdrIn.below {B : Nat} {w w' : World} {q : Option Addr} {n c : Nat} {l : List Fld} (h : HdrIn B w q n c l) (hb : Below w.heap.size w w') : HdrIn B w' q n c l := h.keepS (Keep.of_below hb) fun _ _ h => h
theorem HdrIn.mono {A B : Nat} {w : World} {q : Option Addr} {n c : Nat} {l : List Fld} (h : HdrIn B w q n c l) (hab : A ≤ B) : HdrIn A w q n c l :=
  ⟨h.1, h.2.1, h.2.2.1, fun h0 => by
    obtain ⟨g, o, hq, hB, hg, hc⟩ := h.2.2.2 h0
    exact ⟨g, o, hq, Nat.le_trans hab hB, hg, hc⟩⟩
theorem HdrIn.nil (B : Nat) (w : World) : HdrIn B w none 0 0 [] := ⟨fun _ => rfl, Nat.le_refl _, rfl, fun h => absurd h (by omega)⟩
theorem HdrIn.len {B : Nat} {w : World} {q : Option Addr} {n c : Nat} {l : List Fld} (h : HdrIn B w q n c l) : l.length = n := h.2.2.1
/-- A row of the call's own, opened. -/
theorem hdr_open {W : World} {base n : Nat} {v : Value} {l : List Fld} (h : W.ownsRow base 73 2 v n (fdV l)) (hn : l.length = n) :
    ∃ q c, v = .slice q n c ∧ HdrIn base W q n c l ∧ (∀ a, q = some a → base ≤ a.block ∧ a.block < W.heap.size) := by
  rcases h.2 with ⟨rfl, hm⟩ | ⟨g, cap, cur, rfl, hb, hg, h1, h2, h3, h4⟩
  · have hz : n = 0 := by assumption
    subst hz
    have hz0 : l = [] := List.eq_nil_of_length_eq_zero hn
    subst hz0
    exact ⟨none, 0, rfl, HdrIn.nil _ _, fun a ha => by cases ha⟩
  · have hgl := (Array.getElem?_eq_some_iff.1 hg).1
    refine ⟨some ⟨g, 0, none⟩, cap, rfl, ⟨fun h => (by cases h), h1, hn, fun _ => ⟨g, 0, rfl, hb, hgl, fun i z hzi => ?_⟩⟩, fun a ha => by cases ha; exact ⟨hb, hgl⟩⟩
    have hi : i < l.length := (List.getElem?_eq_some_iff.1 hzi).1
    obtain ⟨e1, e2⟩ := fdV_get l i z hzi
    have hc : ∀ j u, j < n * 2 → (fdV l)[j]? = some u → cur[j]? = some u := fun j u hj hu => by
      rw [← h4, List.getElem?_take, if_pos hj] at hu
      simpa using hu
    simp only [World.cell?, hg, Nat.zero_add]
    exact ⟨hc _ _ (by omega) e1, hc _ _ (by omega) e2⟩

/-- The parts of a parsed text: the error's number, the fields, the body. -/
def pE (r : Sum Int (List Fld × List UInt8)) : Int := match r with | .inl e => e | .inr _ => 0
def pH (r : Sum Int (List Fld × List UInt8)) : List Fld := match r with | .inl _ => [] | .inr x => x.1
def pB (r : Sum Int (List Fld × List UInt8)) : List UInt8 := match r with | .inl _ => [] | .inr x => x.2
/-- What Parse answers: a header, a body, an error's number; all of it new. -/
def ParseOut (r : Sum Int (List Fld × List UInt8)) (w : World) (e : Ending) (w' : World) : Prop :=
  ∃ (q : Option Addr) (n c : Nat) (q2 : Option Addr) (n2 c2 : Nat), e = .returned (.tuple #[.agg #[.slice q n c], .slice q2 n2 c2, .int .i64 (pE r)]) ∧ HdrIn w.heap.size w' q n c (pH r) ∧ ByA w.heap.size w' (q2, n2, c2) (pB r) ∧ Below w.heap.size w w'
/-- What Of answers. -/
def OfOut (l : List Fld) (w : World) (e : Ending) (w' : World) : Prop :=
  ∃ (q : Option Addr) (n c : Nat), e = .returned (.tuple #[.agg #[.slice q n c], .int .i64 (ofE 0 l)]) ∧ HdrIn w.heap.size w' q n c (if ofE 0 l = 0 then l else []) ∧ Below w.heap.size w w'
/-- An iterator that tells xs; what it needs lies below. -/
def TellsOut {α : Type} (Arg : α → Array Value → (Nat → Prop) → World → Prop) (xs : List α) (w : World) (e : Ending) (w' : World) : Prop :=
  ∃ (gf : Nat) (lb : Array Value) (RB : Nat → Prop), e = .returned (.func (.func gf) #[] lb) ∧ (∀ args w, (callFunc gf args).run Tryd.prog w = .ok (.enter gf args) w) ∧ IterC Tryd.prog gf lb Arg xs RB w' ∧ (∀ b, RB b → b < w'.heap.size) ∧ Below w.heap.size w w'
/-- What Get answers: the first value of that name, and whether there is one. -/
def GetOut (xs : List (List UInt8)) (w : World) (e : Ending) (w' : World) : Prop :=
  ∃ (q : Option Addr) (n c : Nat), e = .returned (.tuple #[.slice q n c, .bool (!xs.isEmpty)]) ∧ By w' (.slice q n c) (xs.headD []) ∧ Below w.heap.size w w'

/-- A box that holds a header. -/
def HX (b : Nat) (B : Nat) (q : Option Addr) (n c : Nat) (l : List Fld) (X : World) : Prop := Boxed X b 26 (.slice q n c) ∧ HdrIn B X q n c l
theorem HX.on {b B : Nat} {q : Option Addr} {n c : Nat} {l : List Fld} {X Y : World} (h : HX b B q n c l X) (hb : Below X.heap.size X Y) : HX b B q n c l Y := ⟨(Keep.of_below hb).boxed h.1 h.1.lt, h.2.below hb⟩
theorem HX.new {B : Nat} {q : Option Addr} {n c : Nat} {l : List Fld} {X : World} (h : HdrIn B X q n c l) : HX X.heap.size B q n c l (X.alloc (.cells #[.slice q n c] 26)) := ⟨Boxed.new X _ _, h.below ((Below.refl _ X).alloc (Nat.le_refl _) _)⟩
theorem HX.keep {b B : Nat} {q : Option Addr} {n c : Nat} {l : List Fld} {X Y : World} (h : HX b B q n c l X) (hb : B ≤ b) (hk : Keep (fun b => B ≤ b) X Y) : HX b B q n c l Y := ⟨hk.boxed h.1 hb, h.2.keep hk⟩
theorem HX.c0 {b B : Nat} {q : Option Addr} {n c : Nat} {l : List Fld} {X : World} (h : HX b B q n c l X) : X.cell? ⟨b, 0, none⟩ = some (.slice q n c) := h.1.cell
end Go.Proofs.YtfgjcdjhaihgaaaDoor.Hdr

namespace Go.Proofs.YtfgjcdjhaihgaaaDoor.Hdr
open Go.RowKit Go.Shelf Url
attribute [local go_sem] Oper.semAt_some
set_option linter.unusedVariables false

theorem info_fld : (Tryd.prog.info? 56).map (fun i => (i.zero, i.size, i.bytes)) = some (some (.agg #[.string ⟨#[]⟩, .string ⟨#[]⟩]), 2, 32) := by kernel_rfl
theorem at_str (c : UInt8) (k : Int) (hk : k = (c.toNat : Int)) (s : ByteArray) (w : World) (hs : s.size ≤ 1073741824) :
    Calls Tryd.prog 27 #[.string s, .int .u8 k] w fun e w' => ∃ x y : ByteArray, e = .returned (.tuple #[.string x, .string y, .bool (decide (c ∈ s.data.toList))]) ∧ Hid (x.data.toList = aheadL c s.data.toList) ∧ Hid (y.data.toList = (Host.tailL c s.data.toList).getD []) ∧ Below w.heap.size w w' := by
  subst hk
  refine (refAt_any c s w (by omega)).mono ?_
  rintro e w' ⟨x, y, rfl, hx, hy, q, rfl⟩
  obtain ⟨h1, h2, h3⟩ := at_ahead c s.data.toList
  refine ⟨x, y, by rw [ok_mem], Lib.hid (by rw [hx.out, h1]), Lib.hid ?_, below_drewN (Below.refl _ _) _⟩
  rw [hy.out, h2]
  cases hk : atOk c s.data.toList with
  | true => rfl
  | false => rw [h3 hk]; rfl
theorem own_form {w : World} {base n : Nat} {v : Value} {xs : List Value} (h : w.ownsRow base 56 2 v n xs) : ∃ q c, v = .slice q n c := by
  rcases h.2 with ⟨rfl, hm⟩ | ⟨g, cap, cur, rfl, _⟩
  · exact ⟨none, 0, by rw [show n = 0 by assumption]⟩
  · exact ⟨_, _, rfl⟩
/-- A header's fields and the body, or none and an error's number. -/
def ParsedOut (r : Sum Int (List Fld × List UInt8)) (w : World) (e : Ending) (w' : World) : Prop :=
  ∃ v, e = .returned (.tuple #[v, .string ⟨(match r with | .inr x => x.2 | .inl _ => []).toArray⟩, .int .i64 (match r with | .inr _ => 0 | .inl n => n)]) ∧ w'.ownsRow w.heap.size 56 2 v (match r with | .inr x => x.1 | .inl _ => []).length (fdV (match r with | .inr x => x.1 | .inl _ => [])) ∧ Below w.heap.size w w'
end Go.Proofs.YtfgjcdjhaihgaaaDoor.Hdr

namespace Go.Proofs.YtfgjcdjhaihgaaaDoor.Hdr
open Go.RowKit Go.Shelf Url
attribute [local go_sem] Oper.semAt_some
set_option linter.unusedVariables false

/-- Fields, as they lie. -/
def FdIn (W : World) (q : Option Addr) (n : Nat) (m : List Fld) : Prop :=
  m.length = n ∧ (0 < n → ∃ g, q = some ⟨g, 0, none⟩ ∧ g < W.heap.size ∧ ∀ i x, m[i]? = some x → W.cell? ⟨g, i * 2, none⟩ = some (.string ⟨x.1.toArray⟩) ∧ W.cell? ⟨g, i * 2 + 1, none⟩ = some (.string ⟨x.2.toArray⟩))
theorem fld_open {W : World} {base : Nat} {v : Value} {m : List Fld} (h : W.ownsRow base 56 2 v m.length (fdV m)) :
    ∃ q c, v = .slice q m.length c ∧ m.length ≤ c ∧ FdIn W q m.length m := by
  rcases h.2 with ⟨rfl, hm⟩ | ⟨g, cap, cur, rfl, hb, hg, h1, h2, h3, h4⟩
  · have hz : m.length = 0 := by assumption
    rw [hz]
    exact ⟨none, 0, rfl, Nat.le_refl _, hz, fun h => absurd h (by omega)⟩
  · refine ⟨some ⟨g, 0, none⟩, cap, rfl, h1, rfl, fun _ => ⟨g, rfl, (Array.getElem?_eq_some_iff.1 hg).1, fun i x hx => ?_⟩⟩
    have hi : i < m.length := (List.getElem?_eq_some_iff.1 hx).1
    obtain ⟨e1, e2⟩ := fdV_get m i x hx
    have hc : ∀ j u, j < m.length * 2 → (fdV m)[j]? = some u → cur[j]? = some u := fun j u hj hu => by
      rw [← h4, List.getElem?_take, if_pos hj] at hu
      simpa using hu
    simp only [World.cell?, hg]
    exact ⟨hc _ _ (by omega) e1, hc _ _ (by omega) e2⟩
theorem FdIn.keep {S : Nat → Prop} {w w' : World} {q : Option Addr} {n : Nat} {m : List Fld} (h : FdIn w q n m) (hk : Keep S w w') (hS : ∀ g, g < w.heap.size → S g) : FdIn w' q n m := by
  refine ⟨h.1, fun h0 => ?_⟩
  obtain ⟨g, hq, hg, hc⟩ := h.2 h0
  have hb := hk.block g hg (hS g hg)
  have hcell : ∀ j, w'.cell? ⟨g, j, none⟩ = w.cell? ⟨g, j, none⟩ := fun j => by simp only [World.cell?, hb]
  exact ⟨g, hq, Nat.lt_of_lt_of_le hg hk.size, fun i x hx => by rw [hcell, hcell]; exact hc i x hx⟩
theorem FdIn.below {w w' : World} {q : Option Addr} {n : Nat} {m : List Fld} (h : FdIn w q n m) (hk : Below w.heap.size w w') : FdIn w' q n m :=
  h.keep (Keep.of_below hk) (fun _ h => h)

set_option maxRecDepth 100000 in
set_option maxHeartbeats 8000000 in
theorem same_self (q1 q2 : Option Addr) (n c1 c2 : Nat) (l : List Fld) (w : World) (h1 : FdIn w q1 n l) (h2 : FdIn w q2 n l) (hn : n ≤ 1048576) :
    Calls Tryd.prog 10 #[.slice q1 n c1, .slice q2 n c2] w fun e w' => e = .returned (.bool true) ∧ Below w.heap.size w w' := by
  have d0 : ((n : Int) != (n : Int)) = false := by simp
  have H1 := Lib.hid h1
  have H2 := Lib.hid h2
  have HL := Lib.hid h1.1
  clear h1 h2
  go_enter Tryd.func10, Tryd.ntmps10
  go_wp2
  go_loopw [13] (fun i wr => ∃ k : Nat, k ≤ n ∧ i = .int .i64 k ∧ Below w.heap.size w wr) (fun i _ => n - (intOf i).toNat)
  case atStart => exact ⟨0, Nat.zero_le _, rfl, Below.refl _ _⟩
  case round =>
    obtain ⟨k, hk, rfl, hB⟩ := hrel
    by_cases hlt : k < n
    · obtain ⟨g1, rfl, _, hc1⟩ := (H1.out.below hB).2 (by omega)
      obtain ⟨g2, rfl, _, hc2⟩ := (H2.out.below hB).2 (by omega)
      obtain ⟨⟨a, b⟩, hx⟩ : ∃ x, l[k]? = some x := ⟨_, List.getElem?_eq_getElem (by have := HL.out; omega)⟩
      obtain ⟨x0, x1⟩ := hc1 k _ hx
      obtain ⟨y0, y1⟩ := hc2 k _ hx
      simp only at x0 x1 y0 y1
      clear hc1 hc2 hx
      go_wp2
      go_quiet (fail)
      go_wp2
      go_roundw
      case rel => exact ⟨k + 1, by omega, by go_num, below_drewN hB _⟩
      case measure => simp [intOf]; omega
    · clear H1 H2
      go_wp2
      go_ret
      exact ⟨rfl, hB⟩
end Go.Proofs.YtfgjcdjhaihgaaaDoor.Hdr
