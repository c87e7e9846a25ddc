/- Pieces of a text: cut out, without a carriage return, copied. Conditions: a text is of at most the model's greatest length. -/
import Derived.Test.YtcahakelihigdaaCutD
namespace Go.Proofs.Ytcahakelihigdaa
open Go.RowKit Go.Shelf
attribute [local go_sem] Oper.semAt_some

/-- The address of a piece that begins at place l. -/
def subA (q : Option Addr) (c l : Nat) : Option Addr := if c = l then q else q.map (·.add l)
theorem subA_zero (q : Option Addr) (c : Nat) : subA q c 0 = q := by
  unfold subA
  split
  · rfl
  · cases q <;> simp [Addr.add]

/-- A piece of a list. -/
def sub (l : List UInt8) (i j : Nat) : List UInt8 := (l.drop i).take (j - i)
theorem sub_length (l : List UInt8) (i j : Nat) (h : j ≤ l.length) : (sub l i j).length = j - i := by unfold sub; simp; omega
theorem sub_getD (l : List UInt8) (i j k : Nat) (h : k < j - i) : (sub l i j).getD k 0 = l.getD (i + k) 0 := by
  unfold sub
  simp [List.getD, List.getElem?_drop, h]

theorem bytes_sub {w : World} {q : Option Addr} {n c i j : Nat} {l : List UInt8} (h : Lib.BytesIn w q n (Lib.numsL l)) (hl : l.length = n) (hij : i ≤ j) (hj : j ≤ n) (hc : n ≤ c) :
    Lib.BytesIn w (subA q c i) (j - i) (Lib.numsL (sub l i j)) := by
  intro hpos
  obtain ⟨b, o, rfl, hcell⟩ := h.at (by omega)
  refine ⟨b, o + i, ?_, fun k hk => ?_⟩
  · unfold subA
    rw [if_neg (by omega)]
    by_cases h0 : i = 0
    · subst h0; simp [Addr.add]
    · simp [Addr.add, h0]
  · rw [numsL_getD _ _ (by rw [sub_length _ _ _ (by omega)]; exact hk), sub_getD _ _ _ _ hk, Nat.add_assoc, hcell (i + k) (by omega), numsL_getD _ _ (by omega)]

theorem run_slice_sub (q : Option Addr) (n c i j : Nat) (W : World) (hij : i ≤ j) (hj : j ≤ c) :
    (Instr.slice 22 (.slice q n c) (some (.int .i64 (i : Int))) (some (.int .i64 (j : Int))) none).run Try.prog W = .ok (.slice (subA q c i) (j - i) (c - i)) W := by
  have hs : ∀ w, (Go.sizeOf 5).run Try.prog w = .ok 1 w := Try.sizeOf5
  have he : Try.prog.elem 22 = 5 := by kernel_rfl
  have h := run_slice_lh (P := Try.prog) (w := W) 22 q n c (by rw [he]; exact Try.underlying22) .i64 .i64 i j (by omega) (by omega) (by omega)
  rw [h, he, hs]
  simp only [Result.andThen, sliced, subA, Int.toNat_natCast, Nat.mul_one]

theorem Clone_any (q : Option Addr) (n c : Nat) (l : List UInt8) (w : World) (hl : l.length = n) (hn : n ≤ 140737488355328) (h : Lib.BytesIn w q n (Lib.numsL l)) :
    Calls Try.prog 30 #[.slice q n c] w fun e w' => ∃ v', e = .returned v' ∧ w'.ownsRow w.heap.size 5 1 v' n ((Lib.numsL l).map (Value.int .u8)) ∧ Below w.heap.size w w' := by
  cases q with
  | none =>
    have hz : n = 0 := by
      rcases Nat.eq_zero_or_pos n with h0 | h0
      · exact h0
      · obtain ⟨b, o, he, _⟩ := h.at h0
        cases he
    subst hz
    obtain rfl : l = [] := List.eq_nil_of_length_eq_zero hl
    refine (Try.bytes_Clone_nil 0 c w).mono fun e w' ⟨he, hw⟩ => ?_
    subst hw
    exact ⟨_, he, World.ownsRow_nil _ _ _ _, Below.refl _ _⟩
  | some a =>
    refine (Try.bytes_Clone_at a n c (Lib.numsL l) w (by rw [Lib.numsL_length, hl]) hn ?_).mono fun e w' ⟨v', he, ho, _, hb⟩ => ⟨v', he, ho, hb⟩
    intro i hi
    obtain ⟨b, o, he, hc⟩ := h.at (by omega)
    cases he
    rw [Go.WideShapes.add_plain]
    exact hc i hi

/-- Without one carriage return at the end. -/
def chomp (l : List UInt8) : List UInt8 := if l.getLast? = some 13 then l.dropLast else l

theorem chomp_prefix (l : List UInt8) : ∃ k, k ≤ l.length ∧ chomp l = l.take k ∧ (chomp l).length = k := by
  unfold chomp
  split
  · exact ⟨l.length - 1, by omega, by rw [List.dropLast_eq_take], by simp⟩
  · exact ⟨l.length, Nat.le_refl _, by simp, rfl⟩
theorem suffix13 (l : List UInt8) : Lib.hasSuffix l [13] = true ↔ l.getLast? = some 13 := by
  unfold Lib.hasSuffix
  rw [List.isSuffixOf_iff_suffix]
  constructor
  · rintro ⟨t, rfl⟩; simp
  · intro h
    obtain ⟨ys, hy⟩ := List.getLast?_eq_some_iff.1 h
    exact ⟨ys, hy.symm⟩
theorem trim13 {w : World} (q : Option Addr) (n c : Nat) (l : List UInt8) (hl : l.length = n) (h : Lib.BytesIn w q n (Lib.numsL l)) : Lib.trimSuffixV q n c (Lib.numsL l) [13] = .slice q (chomp l).length c := by
  rcases Nat.eq_zero_or_pos n with h0 | h0
  · subst h0
    obtain rfl : l = [] := List.eq_nil_of_length_eq_zero hl
    have hno : Lib.hasSuffix (Lib.bytesOf (Lib.numsL [])) (Lib.bytesOf [13]) = false := by decide
    unfold Lib.trimSuffixV
    split
    · unfold Lib.bytesTrimSuffix; rw [hno]; rfl
    · rfl
  · obtain ⟨b, o, rfl, _⟩ := h.at h0
    unfold Lib.trimSuffixV Lib.bytesTrimSuffix
    simp only
    rw [Lib.bytesOf_numsL, show Lib.bytesOf [13] = [13] from rfl]
    unfold chomp
    by_cases hs : l.getLast? = some 13
    · rw [if_pos ((suffix13 l).2 hs), if_pos hs]
      simp [Lib.sliceTo, hl]
    · rw [if_neg (fun h => hs ((suffix13 l).1 h)), if_neg hs, hl]

end Go.Proofs.Ytcahakelihigdaa
