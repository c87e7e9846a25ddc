/- How much is told of a host, and what the laws make of it. Conditions: none. -/
import Derived.Test.YtcahakelihigdaaHostI
import Derived.Test.YtcahakelihigdaaRefSame
import Derived.Lib.ConvBytes
namespace Go.Proofs.Ytcahakelihigdaa.Host
open Go.RowKit Go.Shelf

theorem mem_from (c : UInt8) : ∀ (l : List (List UInt8)) (x : List UInt8), x ∈ Ref.fromL c l → ∃ k, x = Ref.joinL c (l.drop k)
  | [], x, h => by cases h
  | p :: r, x, h => by
    rcases List.mem_cons.1 h with rfl | h
    · exact ⟨0, rfl⟩
    · obtain ⟨k, hk⟩ := mem_from c r x h
      exact ⟨k + 1, hk⟩
theorem up_small (l : List UInt8) : ∀ x ∈ upL l, x.length ≤ l.length := by
  intro x hx
  unfold upL at hx
  split at hx
  · split at hx
    · rw [List.mem_singleton.1 hx]; exact Nat.le_refl _
    · obtain ⟨k, rfl⟩ := mem_from _ _ _ hx
      have h1 := Ref.join_drop_len 46 (Ref.splitL 46 l) k
      rw [Ref.join_split] at h1; exact h1
  · cases hx
theorem up_len (l : List UInt8) : (upL l).length ≤ l.length + 1 := by
  unfold upL
  split
  · split
    · simp
    · rw [Ref.from_len]; exact Ref.split_len 46 l
  · simp
theorem same_self (xs : List (List UInt8)) : Ref.sameL xs xs = true := by unfold Ref.sameL; simp

/-- What all collects of Up's iterator. -/
theorem all_up {xs : List (List UInt8)} {w w5 : World} {e : Ending} (h : UpOut xs w e w5) (hN : xs.length ≤ 1099511627776) (hL : ∀ x ∈ xs, x.length ≤ 140737488355328) :
    ∃ gf lb, e = .returned (.func (.func gf) #[] lb) ∧ Below w.heap.size w w5 ∧ ∀ w6, Below w5.heap.size w5 w6 →
      Calls Try.prog 15 #[.func (.func gf) #[] lb] w6 fun e w' => ∃ q c, e = .returned (.slice q xs.length c) ∧ Ref.StIn w' q xs.length xs ∧ Below w6.heap.size w6 w' := by
  obtain ⟨gf, lb, RB, rfl, eg, hit, hRl, _, hb⟩ := h
  refine ⟨gf, lb, rfl, hb, fun w6 h6 => ?_⟩
  have hk : Keep RB w5 w6 := (Keep.of_below h6).mono fun b hlt _ => hlt
  refine (allOf_any gf lb xs RB w6 eg (hit.later hk) (fun b hb => Nat.lt_of_lt_of_le (hRl b hb).2 h6.size) hN hL).mono ?_
  rintro e w7 ⟨v, rfl, hrow, hb7⟩
  obtain ⟨q, c, rfl, _, _, _, hst, _⟩ := Ref.strs_row hrow
  exact ⟨q, c, rfl, hst, hb7⟩

/-- So many parts of so many bytes x, with dots between them; nothing at none. -/
def longL (z : Nat) (x : UInt8) : Nat → List UInt8
  | 0 => []
  | k + 1 => Ref.joinL 46 (manyL (k + 1) z x)
/-- What stands ahead of the next part. -/
def aheadL (z : Nat) (x : UInt8) (k : Nat) : List UInt8 := if k = 0 then [] else longL z x k ++ [46]
theorem many_snoc (z : Nat) (x : UInt8) : ∀ k, Ref.joinL 46 (manyL (k + 2) z x) = Ref.joinL 46 (manyL (k + 1) z x) ++ 46 :: List.replicate z x
  | 0 => by simp [manyL, Ref.joinL, List.replicate_succ]
  | k + 1 => by
    have ih := many_snoc z x k
    have e : ∀ n, Ref.joinL 46 (manyL (n + 1 + 1) z x) = List.replicate z x ++ 46 :: Ref.joinL 46 (manyL (n + 1) z x) := fun n => by
      unfold manyL
      rw [List.replicate_succ (n := n + 1), List.replicate_succ (n := n)]
      rfl
    have e1 := e (k + 1)
    have e2 := e k
    show Ref.joinL 46 (manyL (k + 1 + 1 + 1) z x) = Ref.joinL 46 (manyL (k + 1 + 1) z x) ++ 46 :: List.replicate z x
    conv => rhs; rw [e2]
    rw [e1]
    conv => lhs; rw [show Ref.joinL 46 (manyL (k + 1 + 1) z x) = _ from ih]
    simp
theorem long_succ (z : Nat) (x : UInt8) (k : Nat) : longL z x (k + 1) = aheadL z x k ++ List.replicate z x := by
  cases k with
  | zero => simp [longL, aheadL, manyL, Ref.joinL]
  | succ k =>
    show Ref.joinL 46 (manyL (k + 2) z x) = _
    rw [many_snoc]
    simp [aheadL, longL]
theorem long_len (z : Nat) (x : UInt8) (k : Nat) : (longL z x (k + 1)).length = (k + 1) * z + k := join_many_len z x k
theorem ahead_len (z : Nat) (x : UInt8) (k : Nat) (hz : z ≤ 66) : (aheadL z x k).length ≤ 67 * k := by
  cases k with
  | zero => simp [aheadL]
  | succ k =>
    have h := long_len z x k
    have hm : (k + 1) * z ≤ (k + 1) * 66 := Nat.mul_le_mul_left _ hz
    unfold aheadL
    rw [if_neg (by omega), List.length_append, h]
    simp; omega
theorem ahead_succ (z : Nat) (x : UInt8) (k : Nat) (h : k ≠ 0) : aheadL z x k = longL z x k ++ [46] := by unfold aheadL; rw [if_neg h]
/-- A small letter. -/
def smallB (c : UInt8) : UInt8 := 97 + c % 26
theorem small_nat (c : UInt8) : ((smallB c).toNat : Int) = 97 + (c.toNat : Int) % 26 := Ref.all_u8 (p := fun c => ((smallB c).toNat : Int) = 97 + (c.toNat : Int) % 26) (by decide +kernel) c
theorem small_let (c : UInt8) : Ref.letB (smallB c) = true := Ref.all_u8 (p := fun c => Ref.letB (smallB c) = true) (by decide +kernel) c
theorem long_parse (n k : Nat) (c : UInt8) : parseE (longL (k + 1) (smallB c) (n + 1)) = if 253 < (n + 1) * (k + 1) + n then 3 else if n + 1 ≤ 8 ∧ k + 1 ≤ 63 then 0 else 2 := by
  have hx : smallB c ≠ 46 := by intro h; have := small_let c; rw [h] at this; revert this; decide
  have e1 : Ref.splitL 46 (longL (k + 1) (smallB c) (n + 1)) = manyL (n + 1) (k + 1) (smallB c) := split_many (k + 1) (smallB c) hx n
  unfold parseE
  rw [long_len, e1, many_host n k _ (small_let c)]
  simp only [decide_eq_true_eq]
theorem parts_of (a m : Int) (h0 : 0 < m) (h1 : m ≤ 100) : ∃ n : Nat, (n : Int) < m ∧ wrap64 (1 + wrap64 ((IntKind.u64.wrap a).tmod m)) = ((n + 1 : Nat) : Int) := by
  have hu := wrap_u64_nonneg a
  have ht : (IntKind.u64.wrap a).tmod m = IntKind.u64.wrap a % m := Int.tmod_eq_emod_of_nonneg hu
  have hl := Int.emod_lt_of_pos (IntKind.u64.wrap a) h0
  have hg := Int.emod_nonneg (IntKind.u64.wrap a) (show m ≠ 0 by omega)
  refine ⟨(IntKind.u64.wrap a % m).toNat, by omega, ?_⟩
  rw [ht]
  unfold wrap64
  omega

/-- '[]byte(s)' of a string: its bytes in new memory. -/
theorem conv_back (w : World) (s : ByteArray) : (convert 9 22 (.string s)).run Try.prog w = .ok (.slice (some ⟨w.heap.size, 0, none⟩) s.size (grownCap w s.size 0 5)) (Lib.bytesWorld w 5 s) :=
  Lib.run_convert_string_bytes w 9 22 5 s Try.underlying9 Try.underlying22 Try.underlying5
theorem bytesWorld_below (w : World) (s : ByteArray) : Below w.heap.size w (Lib.bytesWorld w 5 s) := ⟨rfl, rfl, rfl, by rw [Lib.bytesWorld_size]; omega, fun k hk => Lib.bytesWorld_at_old w _ s k hk⟩
theorem bytesWorld_in (w : World) (s : ByteArray) : Lib.BytesIn (Lib.bytesWorld w 5 s) (some ⟨w.heap.size, 0, none⟩) s.size (Lib.numsL s.data.toList) := fun _ => ⟨w.heap.size, 0, rfl, fun i hi => by
  rw [numsL_getD _ i hi, Nat.zero_add]
  exact Lib.bytesWorld_cell w _ s i hi⟩

end Go.Proofs.Ytcahakelihigdaa.Host
