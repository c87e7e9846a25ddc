/- Hosts in plain words. Conditions: none. -/
import Derived.Test.YtcahakelihigdaaRefM
namespace Go.Proofs.Ytcahakelihigdaa.Host
open Ref

def hostByte (b : UInt8) : Bool := letB b || decB b || b == 45
def partB (p : List UInt8) : Bool := !p.isEmpty && decide (p.length ≤ 63) && p.getD 0 0 != 45 && p.getD (p.length - 1) 0 != 45 && p.all hostByte
def addrB (l : List (List UInt8)) : Bool := decide (l.length = 4) && l.all fun p => (numOf 255 p).isSome
def hostB (l : List (List UInt8)) : Bool := decide (l.length ≤ 8) && l.all partB && (!decB ((l.getLastD []).getD 0 0) || addrB l)
/-- The error's number at a text: 0: it is a host. -/
def parseE (t : List UInt8) : Int := if 253 < t.length then 3 else if hostB (splitL 46 t) then 0 else 2
def addressB (t : List UInt8) : Bool := decide (parseE t = 0) && addrB (splitL 46 t)
def upL (t : List UInt8) : List (List UInt8) := if parseE t = 0 ∧ lowL t = t then (if addrB (splitL 46 t) then [t] else fromL 46 (splitL 46 t)) else []
def withinB (h d : List UInt8) : Bool := (upL h).contains d

/-- What stands behind the first byte c. -/
def tailL (c : UInt8) : List UInt8 → Option (List UInt8)
  | [] => none
  | b :: r => if b = c then some r else tailL c r
theorem from_split (c : UInt8) : ∀ t : List UInt8, fromL c (splitL c t) = t :: (match tailL c t with | none => [] | some r => fromL c (splitL c r))
  | [] => rfl
  | b :: r => by
    by_cases h : b = c
    · subst h
      rw [split_is]
      show joinL b ([] :: splitL b r) :: fromL b (splitL b r) = _
      rw [join_nil _ _ (split_ne b r), join_split]
      simp [tailL]
    · have ih := from_split c r
      rw [split_not c b r h]
      cases hs : splitL c r with
      | nil => exact absurd hs (split_ne c r)
      | cons p q =>
        rw [hs] at ih
        have e1 : fromL c (onto [b] (p :: q)) = joinL c (onto [b] (p :: q)) :: fromL c q := rfl
        have e2 : fromL c (p :: q) = joinL c (p :: q) :: fromL c q := rfl
        rw [e2, List.cons.injEq] at ih
        rw [e1, join_onto, ih.1, ih.2]
        have e3 : tailL c (b :: r) = tailL c r := by conv => lhs; unfold tailL; rw [if_neg h]
        rw [e3]
        rfl
theorem tail_len (c : UInt8) : ∀ (t r : List UInt8), tailL c t = some r → r.length < t.length
  | [], r, h => by cases h
  | b :: t, r, h => by
    unfold tailL at h
    split at h
    · cases h; simp
    · have := tail_len c t r h; simp only [List.length_cons]; omega

theorem from_mem_self (c : UInt8) (t : List UInt8) : t ∈ fromL c (splitL c t) := by rw [from_split]; simp

/-- Small letters change no kind. -/
theorem low_dot (b : UInt8) : (low b = 46) = (b = 46) := all_u8 (p := fun b => (low b = 46) = (b = 46)) (fun i => propext (by revert i; decide +kernel)) b
theorem low_minus (b : UInt8) : (low b == 45) = (b == 45) := all_u8 (p := fun b => (low b == 45) = (b == 45)) (by decide +kernel) b
theorem low_dec (b : UInt8) : decB (low b) = decB b := all_u8 (p := fun b => decB (low b) = decB b) (by decide +kernel) b
theorem low_let (b : UInt8) : letB (low b) = letB b := all_u8 (p := fun b => letB (low b) = letB b) (by decide +kernel) b
theorem dec_low (b : UInt8) (h : decB b = true) : low b = b := by
  have := (decB_of b).1 h
  exact low_lo b (by omega)
theorem low_host (b : UInt8) : hostByte (low b) = hostByte b := by unfold hostByte; rw [low_let, low_dec, low_minus]
theorem onto_low (x : List UInt8) (l : List (List UInt8)) : onto (lowL x) (l.map lowL) = (onto x l).map lowL := by
  cases l with
  | nil => rfl
  | cons p r => simp [onto, lowL]
theorem split_low : ∀ t : List UInt8, splitL 46 (lowL t) = (splitL 46 t).map lowL
  | [] => rfl
  | b :: r => by
    have ih := split_low r
    have e : lowL (b :: r) = low b :: lowL r := rfl
    rw [e]
    by_cases h : b = 46
    · subst h
      have h2 : low 46 = 46 := by decide
      rw [h2, split_is, split_is, ih]; rfl
    · have h2 : low b ≠ 46 := by rw [ne_eq, low_dot]; exact h
      rw [split_not 46 _ _ h2, split_not 46 _ _ h, ih, ← onto_low]; rfl
theorem low_getD (p : List UInt8) (k : Nat) : (lowL p).getD k 0 = low (p.getD k 0) := by
  unfold lowL
  simp only [List.getD, List.getElem?_map]
  cases p[k]? <;> rfl
theorem part_low (p : List UInt8) : partB (lowL p) = partB p := by
  unfold partB
  rw [low_getD, low_getD, lowL_length]
  have e1 : (lowL p).isEmpty = p.isEmpty := by cases p <;> rfl
  have e2 : ∀ b : UInt8, (low b != 45) = (b != 45) := fun b => by unfold bne; rw [low_minus]
  have e3 : (lowL p).all hostByte = p.all hostByte := by
    unfold lowL; rw [List.all_map]; congr 1; funext b; exact low_host b
  rw [e1, e2, e2, e3]
theorem numGo_low (most : Int) : ∀ (p : List UInt8) (n : Int), numGo most (lowL p) n = numGo most p n
  | [], _ => rfl
  | b :: r, n => by
    have e : lowL (b :: r) = low b :: lowL r := rfl
    rw [e]
    unfold numGo
    rw [low_dec]
    by_cases hd : decB b = true
    · rw [dec_low b hd, numGo_low most r]
    · rw [if_neg (fun h => hd h.1), if_neg (fun h => hd h.1)]
theorem numOf_low (most : Int) (p : List UInt8) : numOf most (lowL p) = numOf most p := by
  unfold numOf
  rw [lowL_length, numGo_low, low_getD]
  have e1 : (lowL p = []) ↔ (p = []) := by cases p <;> simp [lowL]
  have e2 : ∀ b : UInt8, (low b).toNat = 48 ↔ b.toNat = 48 := fun b => by
    have h3 : (low b).toNat = 48 → b.toNat = 48 := all_u8 (p := fun b => (low b).toNat = 48 → b.toNat = 48) (by decide +kernel) b
    exact ⟨h3, fun h => by rw [low_lo b (by omega)]; exact h⟩
  have hc : (lowL p = [] ∨ (1 < p.length ∧ (low (p.getD 0 0)).toNat = 48)) ↔ (p = [] ∨ (1 < p.length ∧ (p.getD 0 0).toNat = 48)) := by rw [e1, e2]
  simp only [hc]
theorem addr_low (l : List (List UInt8)) : addrB (l.map lowL) = addrB l := by
  unfold addrB
  rw [List.length_map, List.all_map]
  congr 2
  funext p
  simp only [Function.comp, numOf_low]
theorem host_low (l : List (List UInt8)) : hostB (l.map lowL) = hostB l := by
  unfold hostB
  rw [List.length_map, List.all_map, addr_low]
  have e1 : (l.map lowL).getLastD [] = lowL (l.getLastD []) := by
    rw [List.getLastD_eq_getLast?, List.getLastD_eq_getLast?, List.getLast?_map]
    cases l.getLast? <;> rfl
  have e2 : (fun p => partB p) ∘ lowL = partB := by funext p; exact part_low p
  have e3 : partB ∘ lowL = partB := e2
  rw [e1, low_getD, low_dec, e3]
theorem parse_low (t : List UInt8) : parseE (lowL t) = parseE t := by
  unfold parseE
  rw [lowL_length, split_low, host_low]
theorem address_low (t : List UInt8) : addressB (lowL t) = addressB t := by
  unfold addressB
  rw [parse_low, split_low, addr_low]

theorem parse_cases (t : List UInt8) : parseE t = 0 ∨ parseE t = 2 ∨ (parseE t = 3 ∧ 253 < t.length) := by
  unfold parseE
  split
  · exact .inr (.inr ⟨rfl, by assumption⟩)
  · split
    · exact .inl rfl
    · exact .inr (.inl rfl)
theorem up_self (t : List UInt8) (h : parseE t = 0) (hl : lowL t = t) : t ∈ upL t := by
  unfold upL
  rw [if_pos ⟨h, hl⟩]
  split
  · simp
  · exact from_mem_self 46 t
theorem within_self (t : List UInt8) (h : parseE t = 0) (hl : lowL t = t) : withinB t t = true := by
  unfold withinB
  rw [List.contains_iff_mem]; exact up_self t h hl
theorem within_up (t d : List UInt8) (h : d ∈ upL t) : withinB t d = true := by
  unfold withinB
  rw [List.contains_iff_mem]; exact h

/-- So many parts of so many bytes x. -/
def manyL (n k : Nat) (x : UInt8) : List (List UInt8) := List.replicate n (List.replicate k x)
theorem split_run (k : Nat) (x : UInt8) (h : x ≠ 46) (r : List UInt8) : splitL 46 (List.replicate k x ++ r) = onto (List.replicate k x) (splitL 46 r) := by
  induction k with
  | zero => exact (onto_nil _ (split_ne _ _)).symm
  | succ k ih =>
    rw [List.replicate_succ, List.cons_append, split_not 46 x _ h, ih, onto_onto _ _ _ (split_ne _ _)]; rfl
theorem split_many (k : Nat) (x : UInt8) (h : x ≠ 46) : ∀ n, splitL 46 (joinL 46 (manyL (n + 1) k x)) = manyL (n + 1) k x
  | 0 => by
    have : joinL 46 (manyL 1 k x) = List.replicate k x ++ [] := by simp [manyL, joinL]
    rw [this, split_run k x h]
    simp [splitL, onto, manyL]
  | n + 1 => by
    have ih := split_many k x h n
    have e : joinL 46 (manyL (n + 1 + 1) k x) = List.replicate k x ++ 46 :: joinL 46 (manyL (n + 1) k x) := by
      unfold manyL
      rw [List.replicate_succ (n := n + 1), List.replicate_succ (n := n)]
      rfl
    rw [e, split_run k x h, split_is, ih]
    simp [onto, manyL, List.replicate_succ]
theorem join_many_len (k : Nat) (x : UInt8) : ∀ n, (joinL 46 (manyL (n + 1) k x)).length = (n + 1) * k + n
  | 0 => by simp [manyL, joinL]
  | n + 1 => by
    have ih := join_many_len k x n
    have e : joinL 46 (manyL (n + 1 + 1) k x) = List.replicate k x ++ 46 :: joinL 46 (manyL (n + 1) k x) := by
      unfold manyL
      rw [List.replicate_succ (n := n + 1), List.replicate_succ (n := n)]
      rfl
    rw [e, List.length_append, List.length_cons, ih, List.length_replicate, Nat.add_mul (n + 1) 1 k]; omega
theorem many_part (k : Nat) (x : UInt8) (hx : letB x = true) : partB (List.replicate (k + 1) x) = decide (k + 1 ≤ 63) := by
  have hne : x ≠ 45 := by rintro rfl; revert hx; decide
  have hb : hostByte x = true := by unfold hostByte; rw [hx]; rfl
  have e1 : (List.replicate (k + 1) x).getD 0 0 = x := by simp [List.getD]
  have e2 : (List.replicate (k + 1) x).getD (k + 1 - 1) 0 = x := by simp [List.getD]
  have e3 : (x != 45) = true := by simpa using hne
  have e4 : (List.replicate (k + 1) x).all hostByte = true := by
    rw [List.all_eq_true]; intro b h; rw [List.eq_of_mem_replicate h]; exact hb
  unfold partB
  rw [List.length_replicate, e1, e2, e3, e4]
  simp
theorem many_host (n k : Nat) (x : UInt8) (hx : letB x = true) : hostB (manyL (n + 1) (k + 1) x) = decide (n + 1 ≤ 8 ∧ k + 1 ≤ 63) := by
  have hd : decB x = false := all_u8 (p := fun b => letB b = true → decB b = false) (by decide +kernel) x hx
  have hp := many_part k x hx
  have e1 : (manyL (n + 1) (k + 1) x).getLastD [] = List.replicate (k + 1) x := by
    unfold manyL
    rw [List.getLastD_eq_getLast?, List.getLast?_replicate]; simp
  have e2 : (List.replicate (k + 1) x).getD 0 0 = x := by simp [List.getD]
  have e3 : (manyL (n + 1) (k + 1) x).all partB = decide (k + 1 ≤ 63) := by
    unfold manyL
    rw [List.all_replicate, hp]; simp
  unfold hostB
  rw [e1, e2, e3, hd]
  unfold manyL
  rw [List.length_replicate, Bool.eq_iff_iff]
  simp

end Go.Proofs.Ytcahakelihigdaa.Host
