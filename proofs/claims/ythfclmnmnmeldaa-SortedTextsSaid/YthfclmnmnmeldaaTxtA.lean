/- The library's binary search and compare at texts. Conditions: a row is of at most the model's greatest length. -/
import Derived.Test.YthfclmnmnmeldaaSetT
import Derived.Shelf.Spec.SearchS
import Derived.Laws.Cover1
import Derived.Sort.Walk0
namespace Go.Proofs.Ythfclmnmnmeldaa.S
open Go.RowKit Go.Shelf

def laysBS_ren : Go.Shelf.Ren := ⟨fun | 26 => 41 | 33 => 55 | 34 => 56 | 38 => 65 | n => n, fun | 24 => 41 | 9 => 9 | 3 => 3 | 4 => 4 | 40 => 74 | 0 => 0 | n => n, fun | n => n⟩
theorem laysBS : Go.Proofs.Lays2.n26 Try.prog laysBS_ren := {
  mixed := by kernel_rfl
  f26 := Try.func41.trans (congrArg some (by kernel_rfl))
  f33 := Try.func55.trans (congrArg some (by kernel_rfl))
  f34 := Try.func56.trans (congrArg some (by kernel_rfl))
  f38 := Try.func65.trans (congrArg some (by kernel_rfl))
  t0 := Try.underlying0
  a0 := Try.isAgg0
  z0 := Try.sizeOf0
  v0 := Try.zeroValue0
  t3 := Try.underlying3
  a3 := Try.isAgg3
  z3 := Try.sizeOf3
  v3 := Try.zeroValue3
  t4 := Try.underlying4
  a4 := Try.isAgg4
  z4 := Try.sizeOf4
  v4 := Try.zeroValue4
  t9 := Try.underlying9
  a9 := Try.isAgg9
  z9 := Try.sizeOf9
  v9 := Try.zeroValue9
  t24 := Try.underlying41
  a24 := Try.isAgg41
  z24 := Try.sizeOf41
  v24 := Try.zeroValue41
  t40 := Try.underlying74
  a40 := Try.isAgg74
  z40 := Try.sizeOf74
  v40 := Try.zeroValue74 }

theorem isNaN_any (x : ByteArray) (w : World) : Calls Try.prog 65 #[.string x] w fun e w' => e = .returned (.bool false) ∧ w' = w := Any2.cmp_isNaN_string (L := { laysBS with }) x w
theorem search_any (b off n c : Nat) (Sx : Nat → ByteArray) (x : ByteArray) (w : World) (hbig : n < 4611686018427387904) (hc : ∀ j, j < n → w.cell? ⟨b, off + j, none⟩ = some (.string (Sx j))) :
    Calls Try.prog 41 #[.slice (some ⟨b, off, none⟩) n c, .string x] w fun e w' =>
      e = .returned (.tuple #[.int .i64 (Lib.bsGo (fun t => Op.bytesLess (Sx t).toList x.toList) n 0 n : Nat), .bool (decide (Lib.bsGo (fun t => Op.bytesLess (Sx t).toList x.toList) n 0 n < n ∧ Sx (Lib.bsGo (fun t => Op.bytesLess (Sx t).toList x.toList) n 0 n) = x))]) ∧ ∃ q, w' = w.drewN q :=
  Any2.slices_BinarySearch_string laysBS b off n c Sx x w hbig hc
theorem search_none (a : Option Addr) (c : Nat) (x : ByteArray) (w : World) :
    Calls Try.prog 41 #[.slice a 0 c, .string x] w fun e w' => e = .returned (.tuple #[.int .i64 0, .bool false]) ∧ w' = w := Any2.slices_BinarySearch_string_empty laysBS a c x w

/-- Which of two texts is less? -/
def cmpS (x y : List UInt8) : Int := if x < y then -1 else if y < x then 1 else 0
theorem cmpS_lt (x y : List UInt8) (h : x < y) : cmpS x y = -1 := by unfold cmpS; rw [if_pos h]
theorem cmpS_gt (x y : List UInt8) (h : y < x) : cmpS x y = 1 := by unfold cmpS; rw [if_neg (lin_asym h), if_pos h]
theorem cmpS_eq (x y : List UInt8) (h : x = y) : cmpS x y = 0 := by unfold cmpS; rw [h, if_neg (Lin.irr y), if_neg (Lin.irr y)]
theorem mk_toList (x : List UInt8) : (⟨x.toArray⟩ : ByteArray).toList = x := by rw [Lib.toList_data]

theorem cmpS_any (x y : List UInt8) (w : World) : Calls Try.prog 95 #[.string ⟨x.toArray⟩, .string ⟨y.toArray⟩] w fun e w' => e = .returned (.int .i64 (cmpS x y)) ∧ w' = w := by
  obtain ⟨s, hs⟩ : ∃ s : ByteArray, (⟨x.toArray⟩ : ByteArray) = s := ⟨_, rfl⟩
  obtain ⟨t, ht⟩ : ∃ t : ByteArray, (⟨y.toArray⟩ : ByteArray) = t := ⟨_, rfl⟩
  have hsl : s.toList = x := by rw [← hs]; exact mk_toList x
  have htl : t.toList = y := by rw [← ht]; exact mk_toList y
  have b1 : Op.bytesLess s.toList t.toList = decide (x < y) := by rw [Go.Proofs.bytesLess_eq, hsl, htl]
  have b2 : (s.toList == t.toList) = decide (x = y) := by rw [hsl, htl, Bool.eq_iff_iff, beq_iff_eq]; simp
  rw [hs, ht]
  have con := fun x w => isNaN_any x w
  clear hs ht hsl htl
  rcases Lin.tri x y with h | h | h
  · have H := Lib.hid (cmpS_lt x y h)
    rw [decide_eq_true h] at b1
    clear b2 h
    go_enter Try.func95, Try.ntmps95
    go_wp2_with fail
    refine (con s _).mono ?_
    rintro e w' ⟨rfl, rfl⟩
    go_wp2_with fail
    refine (con t _).mono ?_
    rintro e w' ⟨rfl, rfl⟩
    go_wp2
    go_ret
    exact ⟨(by rw [H.out]; try rfl), rfl⟩
  · have H := Lib.hid (cmpS_eq x y h)
    rw [decide_eq_false (by rw [h]; exact Lin.irr y)] at b1
    rw [decide_eq_true h] at b2
    clear h
    go_enter Try.func95, Try.ntmps95
    go_wp2_with fail
    refine (con s _).mono ?_
    rintro e w' ⟨rfl, rfl⟩
    go_wp2_with fail
    refine (con t _).mono ?_
    rintro e w' ⟨rfl, rfl⟩
    go_wp2
    go_ret
    exact ⟨(by rw [H.out]; try rfl), rfl⟩
  · have H := Lib.hid (cmpS_gt x y h)
    rw [decide_eq_false (lin_asym h)] at b1
    rw [decide_eq_false (fun e => Lin.irr y (by rw [e] at h; exact h))] at b2
    clear h
    go_enter Try.func95, Try.ntmps95
    go_wp2_with fail
    refine (con s _).mono ?_
    rintro e w' ⟨rfl, rfl⟩
    go_wp2_with fail
    refine (con t _).mono ?_
    rintro e w' ⟨rfl, rfl⟩
    go_wp2
    go_ret
    exact ⟨(by rw [H.out]; try rfl), rfl⟩

end Go.Proofs.Ythfclmnmnmeldaa.S
