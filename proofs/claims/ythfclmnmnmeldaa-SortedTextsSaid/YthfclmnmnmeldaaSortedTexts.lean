/- SortedTexts: the law returns true at whatever input, and writes nothing that was there. Conditions: none. -/
import Derived.Test.YthfclmnmnmeldaaRows
import Derived.Test.YthfclmnmnmeldaaTxtG
import Derived.Test.YthfclmnmnmeldaaOrdP
import Derived.WalkKit
import Derived.ProofKit
import Derived.OpenShut
import Derived.ShutString
import Derived.ChangeOld
import Derived.Below
import Derived.SliceStrings
import Derived.IntWalk
namespace Go.Proofs.Ythfclmnmnmeldaa.sortedTexts
open Go.ChangeShapes Go.WideShapes Go.ChangeAt Go.RowKit
open Go.ChangeMaps (open_string shut_string)
set_option linter.unusedVariables false

theorem own : ownKnob Try.prog.godebug = none := by kernel_rfl
theorem laidOut : laidOutB Try.prog = true := by kernel_rfl

def IsStrs (w : World) (a : Option Addr) (len cap : Nat) (ss : List ByteArray) : Prop :=
  (a = none ∧ len = 0 ∧ cap = 0 ∧ ss = []) ∨
  ∃ x, a = some x ∧ len ≤ cap ∧ cap ≤ maxLen ∧ ss.length = cap ∧ (∀ i, i < ss.length → w.cell? (x.add i) = some (.string (ss.getD i ByteArray.empty))) ∧ ∀ s ∈ ss, s.size ≤ maxLen

theorem mk_of (s : ByteArray) : (⟨s.data.toList.toArray⟩ : ByteArray) = s := by cases s; simp
theorem mk_size (x : List UInt8) : (⟨x.toArray⟩ : ByteArray).size = x.length := by simp [ByteArray.size]
theorem row_strs {w : World} {a : Option Addr} {len cap : Nat} {zs : List ByteArray} (h : IsStrs w a len cap zs) : ∃ xs : List (List UInt8), SlIn encStr w a len xs ∧ (a = none → cap = 0) ∧ len ≤ cap := by
  rcases h with ⟨rfl, rfl, rfl, rfl⟩ | ⟨⟨b, o, s⟩, rfl, h1, h2, h3, h4, h5⟩
  · exact ⟨[], SlIn.nil _ _ _, fun _ => rfl, Nat.le_refl _⟩
  · refine ⟨(zs.take len).map fun s => s.data.toList, ⟨by simp; omega, fun hp => ?_⟩, (fun h => by cases h), h1⟩
    have hc0 := h4 0 (by omega)
    have hspot : s = none := by simpa [Addr.add] using World.cell?_spot hc0
    subst hspot
    rw [Go.WideShapes.add_plain] at hc0
    refine ⟨b, o, rfl, World.block_lt_of_cell? w _ hc0, fun i x hx => ?_⟩
    rw [List.getElem?_map, List.getElem?_take] at hx
    split at hx
    · cases hy : zs[i]? with
      | none => rw [hy] at hx; cases hx
      | some y =>
        rw [hy] at hx
        cases hx
        have hil := (List.getElem?_eq_some_iff.1 hy).1
        have := h4 i hil
        rw [Go.WideShapes.add_plain] at this
        rw [this, List.getD, hy]
        show some (Value.string y) = some (Value.string ⟨y.data.toList.toArray⟩)
        rw [mk_of]
    · cases hx

theorem less_one (ss : List (List UInt8)) (x : List UInt8) (hr : Rises ss) (hx : x ∈ ss) : S.hasS (pickL [1] ss (setS [x])) x = false ∧ ss.length = (pickL [1] ss (setS [x])).length + 1 := by
  have hrs := setS_rises [x]
  have hms : ∀ a, a ∈ setS [x] ↔ a = x := fun a => by rw [mem_setS]; simp
  have hmem : ∀ a, a ∈ pickL [1] ss (setS [x]) ↔ a ∈ ss ∧ a ≠ x := fun a => by rw [mem_minus _ _ hr hrs, hms]
  have hnd : ss.Nodup := hr.imp fun h => lin_ne h
  have he : pickL [1] ss (setS [x]) = ss.erase x := rises_ext (pickL_rises _ _ _ hr hrs) (List.Pairwise.sublist List.erase_sublist hr) fun a => by
    rw [hmem, hnd.mem_erase_iff]; exact And.comm
  constructor
  · unfold S.hasS
    rw [Bool.eq_false_iff]
    intro h
    rw [List.contains_iff_mem, hmem] at h
    exact h.2 rfl
  · rw [he, List.length_erase_of_mem hx]
    have : 0 < ss.length := List.length_pos_of_mem hx
    omega

set_option maxHeartbeats 8000000 in
set_option maxRecDepth 100000 in
theorem walk (a0 : Option Addr) (len0 cap0 : Nat) (z0 : List ByteArray) (w : World) (w0 : IsStrs w a0 len0 cap0 z0) :
    Calls Try.prog 6 #[.slice a0 len0 cap0] w fun e w' => e = .returned (.bool true) ∧ Below w.heap.size w w' := by
  obtain ⟨xs, ha, hna, _⟩ := row_strs w0
  clear w0
  by_cases hbig0 : 30 < len0
  · have e0 : decide ((30 : Int) < (len0 : Int)) = true := by simp; omega
    clear ha
    go_enter Try.func6, Try.ntmps6
    go_wp2_with fail
    refine (lives_any _).mono ?_
    rintro e w2 ⟨rfl, hb2⟩
    go_wp2_with fail
    refine (lives_any _).mono ?_
    rintro e w3 ⟨rfl, hb3⟩
    go_wp2
    go_ret
    exact ⟨rfl, hb2.trans (hb3.mono hb2.size)⟩
  have e0 : decide ((30 : Int) < (len0 : Int)) = false := by simp; omega
  have hs0 : len0 ≤ 30 := by omega
  clear hbig0
  have hll := Lib.hid ha.1
  go_enter Try.func6, Try.ntmps6
  go_wp2_with fail
  refine (lives_any _).mono ?_
  rintro e w1 ⟨rfl, hB1⟩
  have ha1 := ha.below hB1 ha.lt
  clear ha
  go_wp2
  go_loop [24] (fun i => ∃ k : Nat, k ≤ len0 ∧ i = .int .i64 k ∧ Hid (∀ j x, j < k → xs[j]? = some x → x.length ≤ 50)) (fun i => len0 - (intOf i).toNat)
  case atStart => exact ⟨0, Nat.zero_le _, rfl, Lib.hid (fun j x h => by omega)⟩
  case round =>
    obtain ⟨k, hk, rfl, HJ⟩ := hrel
    by_cases hlt : k < len0
    · obtain ⟨b, o, rfl, _, hc⟩ := ha1.at (by omega)
      obtain ⟨x, hx, _⟩ := drop_getElem xs k (by rw [hll.out]; exact hlt)
      have hck : w1.cell? ⟨b, o + k, none⟩ = some (.string ⟨x.toArray⟩) := hc k x hx
      have hsz := mk_size x
      obtain ⟨s, hs⟩ : ∃ s : ByteArray, (⟨x.toArray⟩ : ByteArray) = s := ⟨_, rfl⟩
      rw [hs] at hck hsz
      clear hc hs
      by_cases h50 : 50 < x.length
      · have d : decide ((50 : Int) < (s.size : Int)) = true := by simp; omega
        clear hx hsz
        go_wp2
        go_ret
        exact ⟨rfl, hB1⟩
      · have d : decide ((50 : Int) < (s.size : Int)) = false := by simp; omega
        have HJ2 := Lib.hid (show ∀ j y, j < k + 1 → xs[j]? = some y → y.length ≤ 50 from fun j y hj hy => by
          by_cases e : j = k
          · subst e; rw [hx] at hy; cases hy; omega
          · exact HJ.out j y (by omega) hy)
        clear hx hsz HJ
        go_wp2
        go_round
        case rel => exact ⟨k + 1, by omega, by go_num, HJ2⟩
        case measure => simp [intOf]; omega
    · obtain rfl : k = len0 := by omega
      have hall : ∀ x ∈ xs, x.length ≤ 50 := fun x hx => by
        obtain ⟨j, hj, rfl⟩ := List.getElem_of_mem hx
        exact HJ.out j _ (by have := hll.out; omega) (List.getElem?_eq_getElem hj)
      have HA := Lib.hid hall
      have hla := setS_length xs
      rw [hll.out] at hla
      have hra := setS_rises xs
      have HM := Lib.hid (mem_setS xs)
      have hall2 : Hid (∀ x ∈ setS xs, x.length ≤ 140737488355328) := Lib.hid (fun x hx => by have := HA.out x ((HM.out x).1 hx); omega)
      clear HJ hall hk hlt
      go_wp2_with fail
      refine (S.Of_any a0 k cap0 xs w1 ha1 hna (by omega)).mono ?_
      rintro e w2 ⟨vs, rfl, hs, hB⟩
      have ha2 := ha1.below hB ha1.lt
      have hB2 := hB1.trans (hB.mono hB1.size)
      clear ha1 hB1
      clear hB
      have hs2 := hs
      clear hs
      generalize setS xs = ss at *
      obtain ⟨qs, ns, cs, rfl, hs2b⟩ := hs2
      have hs2 : SetIs encStr w2 (.agg #[.slice qs ns cs]) ss := ⟨qs, ns, cs, rfl, hs2b⟩
      clear hs2b
      obtain ⟨w3, hW⟩ : ∃ W, w2.alloc (.cells #[.slice qs ns cs] 43) = W := ⟨_, rfl⟩
      have bs3 : Boxed w3 w2.heap.size 43 (.slice qs ns cs) := by rw [← hW]; exact Boxed.new w2 _ _
      have hBW : Below w2.heap.size w2 w3 := by rw [← hW]; exact below_alloc _
      have ha3 := ha2.below hBW ha2.lt
      have hs3 := hs2.below hBW
      have hB3 := hB2.trans (hBW.mono hB2.size)
      clear ha2 hs2 hB2
      have HW3 := Lib.hid hW
      clear hBW hW
      have cbs3 := bs3.cell
      have conM := S.Map_any _ ss w3 hs3 (by omega) hall2.out
      go_wp2_with fail
      rw [HW3.out]
      refine conM.mono ?_
      rintro e w4 ⟨vl, rfl, hl, hB⟩
      clear conM
      have ha4 := ha3.below hB ha3.lt
      have hs4 := hs3.below hB
      have bs4 := (Keep.of_below hB).boxed bs3 bs3.lt
      have hB4 := hB3.trans (hB.mono hB3.size)
      clear ha3 hs3 bs3 hB3
      try clear cbs3
      have cbs4 := bs4.cell
      clear hB
      have hl4 := hl
      clear hl
      have HLL := Lib.hid (show (setI (ss.map fun x => (x.length : Int))).length ≤ ss.length by have := setI_length (ss.map fun x => (x.length : Int)); simpa using this)
      have HLM := Lib.hid (show ∀ x ∈ ss, hasL (setI (ss.map fun x => (x.length : Int))) (x.length : Int) = true from fun x hx => by unfold hasL; rw [List.contains_iff_mem, mem_setI]; exact List.mem_map.2 ⟨x, hx, rfl⟩)
      generalize (setI (ss.map fun x => (x.length : Int))) = ls at *
      obtain ⟨ql, nl, cl, rfl, hl4b⟩ := hl4
      have hl4 : SetIs (Value.int .i64) w4 (.agg #[.slice ql nl cl]) ls := ⟨ql, nl, cl, rfl, hl4b⟩
      clear hl4b
      obtain ⟨w5, hW⟩ : ∃ W, w4.alloc (.cells #[.slice ql nl cl] 25) = W := ⟨_, rfl⟩
      have bl5 : Boxed w5 w4.heap.size 25 (.slice ql nl cl) := by rw [← hW]; exact Boxed.new w4 _ _
      have ccs := fun o => (bs4.alloc o).cell
      have hBW : Below w4.heap.size w4 w5 := by rw [← hW]; exact below_alloc _
      have ha5 := ha4.below hBW ha4.lt
      have hs5 := hs4.below hBW
      have bs5 := (Keep.of_below hBW).boxed bs4 bs4.lt
      have hl5 := hl4.below hBW
      have hB5 := hB4.trans (hBW.mono hB4.size)
      clear ha4 hs4 bs4 hl4 hB4
      try clear cbs4
      have cbs5 := bs5.cell
      have HW5 := Lib.hid hW
      clear hBW hW
      have cbl5 := bl5.cell
      have conN := S.Len_any _ ss w5 hs5
      go_wp2_with fail
      rw [HW5.out]
      clear ccs
      refine conN.mono ?_
      rintro e w6 ⟨rfl, hB⟩
      clear conN
      have ha6 := ha5.below hB ha5.lt
      have hs6 := hs5.below hB
      have bs6 := (Keep.of_below hB).boxed bs5 bs5.lt
      have hl6 := hl5.below hB
      have bl6 := (Keep.of_below hB).boxed bl5 bl5.lt
      have hB6 := hB5.trans (hB.mono hB5.size)
      clear ha5 hs5 bs5 hl5 bl5 hB5
      try clear cbs5 cbl5
      have cbs6 := bs6.cell
      have cbl6 := bl6.cell
      clear hB
      go_wp2
      go_loopw [38] (fun i wr => ∃ k2 : Nat, k2 ≤ ss.length ∧ i = .int .i64 k2 ∧ Below w6.heap.size w6 wr) (fun i _ => ss.length - (intOf i).toNat)
      case atStart => exact ⟨0, Nat.zero_le _, rfl, Below.refl _ _⟩
      case round =>
        obtain ⟨k2, hk2, rfl, hbr⟩ := hrel
        by_cases hlt2 : k2 < ss.length
        · obtain ⟨x, hx, _⟩ := drop_getElem ss k2 hlt2
          have hxm : x ∈ ss := List.mem_of_getElem? hx
          have hs7 := hs6.below hbr
          have hl7 := hl6.below hbr
          have bs7 := (Keep.of_below hbr).boxed bs6 bs6.lt
          have bl7 := (Keep.of_below hbr).boxed bl6 bl6.lt
          have hB7 : Below w6.heap.size w6 wr := hbr
          have cbs7 := bs7.cell
          have cbl7 := bl7.cell
          have HLx := Lib.hid (HLM.out x hxm)
          have hsz := mk_size x
          have at1 : S.atS ss (k2 : Int) = some x := by unfold S.atS; rw [if_pos (by omega)]; simpa using hx
          have conA := S.At_any _ ss (k2 : Int) wr hs7
          rw [at1] at conA
          have conH := fun W h => Has_any (.agg #[.slice ql nl cl]) ls (x.length : Int) W h
          rw [HLx.out] at conH
          clear at1 hxm HLx
          by_cases hlt3 : k2 + 1 < ss.length
          · obtain ⟨y, hy, _⟩ := drop_getElem ss (k2 + 1) hlt3
            have hxy : x < y := by
              obtain ⟨_, rfl⟩ := List.getElem?_eq_some_iff.1 hx
              obtain ⟨_, rfl⟩ := List.getElem?_eq_some_iff.1 hy
              exact List.pairwise_iff_getElem.1 hra k2 (k2 + 1) _ _ (by omega)
            have at2 : S.atS ss ((k2 : Int) + 1) = some y := by
              unfold S.atS; rw [if_pos (by omega), show ((k2 : Int) + 1).toNat = k2 + 1 by omega]; exact hy
            have conA2 := fun W h => S.At_any (.agg #[.slice qs ns cs]) ss ((k2 : Int) + 1) W h
            rw [at2] at conA2
            simp only [Option.getD_some, Option.isSome_some] at conA conA2
            have hbl : Op.bytesLess (⟨x.toArray⟩ : ByteArray).toList (⟨y.toArray⟩ : ByteArray).toList = true := by rw [Go.Proofs.bytesLess_eq, S.mk_toList, S.mk_toList]; exact decide_eq_true hxy
            obtain ⟨s1, hs1⟩ : ∃ s : ByteArray, (⟨x.toArray⟩ : ByteArray) = s := ⟨_, rfl⟩
            obtain ⟨s2, hs2⟩ : ∃ s : ByteArray, (⟨y.toArray⟩ : ByteArray) = s := ⟨_, rfl⟩
            rw [hs1] at conA hbl hsz
            rw [hs2] at conA2 hbl
            rw [← hsz] at conH
            clear hs1 hs2 hx hy hxy at2 hsz
            go_wp2_with fail
            refine (conA).mono ?_
            rintro e w8 ⟨rfl, hB⟩
            have hs8 := hs7.below hB
            have hl8 := hl7.below hB
            have bs8 := (Keep.of_below hB).boxed bs7 bs7.lt
            have bl8 := (Keep.of_below hB).boxed bl7 bl7.lt
            have hB8 := hB7.trans (hB.mono hB7.size)
            clear hs7 hl7 bs7 bl7 hB7
            try clear cbs7 cbl7
            have cbs8 := bs8.cell
            have cbl8 := bl8.cell
            clear hB
            clear conA
            go_wp2_with fail
            refine (conA2 _ hs8).mono ?_
            rintro e w9 ⟨rfl, hB⟩
            have hs9 := hs8.below hB
            have hl9 := hl8.below hB
            have bs9 := (Keep.of_below hB).boxed bs8 bs8.lt
            have bl9 := (Keep.of_below hB).boxed bl8 bl8.lt
            have hB9 := hB8.trans (hB.mono hB8.size)
            clear hs8 hl8 bs8 bl8 hB8
            try clear cbs8 cbl8
            have cbs9 := bs9.cell
            have cbl9 := bl9.cell
            clear hB
            go_wp2_with fail
            refine (conH _ hl9).mono ?_
            rintro e w10 ⟨rfl, hB⟩
            have hs10 := hs9.below hB
            have hl10 := hl9.below hB
            have bs10 := (Keep.of_below hB).boxed bs9 bs9.lt
            have bl10 := (Keep.of_below hB).boxed bl9 bl9.lt
            have hB10 := hB9.trans (hB.mono hB9.size)
            clear hs9 hl9 bs9 bl9 hB9
            try clear cbs9 cbl9
            have cbs10 := bs10.cell
            have cbl10 := bl10.cell
            clear hB
            clear conH conA2
            go_wp2
            go_roundw
            case rel => exact ⟨k2 + 1, by omega, by go_num, hB10⟩
            case measure => simp [intOf]; omega
          · have at2 : S.atS ss ((k2 : Int) + 1) = none := by
              unfold S.atS; rw [if_pos (by omega), List.getElem?_eq_none (by omega)]
            have conA2 := fun W h => S.At_any (.agg #[.slice qs ns cs]) ss ((k2 : Int) + 1) W h
            rw [at2] at conA2
            simp only [Option.getD_some, Option.isSome_some] at conA
            simp only [Option.getD_none, Option.isSome_none] at conA2
            obtain ⟨s1, hs1⟩ : ∃ s : ByteArray, (⟨x.toArray⟩ : ByteArray) = s := ⟨_, rfl⟩
            rw [hs1] at conA hsz
            rw [← hsz] at conH
            clear hs1 hx at2 hsz
            go_wp2_with fail
            refine (conA).mono ?_
            rintro e w8 ⟨rfl, hB⟩
            have hs8 := hs7.below hB
            have hl8 := hl7.below hB
            have bs8 := (Keep.of_below hB).boxed bs7 bs7.lt
            have bl8 := (Keep.of_below hB).boxed bl7 bl7.lt
            have hB8 := hB7.trans (hB.mono hB7.size)
            clear hs7 hl7 bs7 bl7 hB7
            try clear cbs7 cbl7
            have cbs8 := bs8.cell
            have cbl8 := bl8.cell
            clear hB
            clear conA
            go_wp2_with fail
            refine (conA2 _ hs8).mono ?_
            rintro e w9 ⟨rfl, hB⟩
            have hs9 := hs8.below hB
            have hl9 := hl8.below hB
            have bs9 := (Keep.of_below hB).boxed bs8 bs8.lt
            have bl9 := (Keep.of_below hB).boxed bl8 bl8.lt
            have hB9 := hB8.trans (hB.mono hB8.size)
            clear hs8 hl8 bs8 bl8 hB8
            try clear cbs8 cbl8
            have cbs9 := bs9.cell
            have cbl9 := bl9.cell
            clear hB
            go_wp2_with fail
            refine (conH _ hl9).mono ?_
            rintro e w10 ⟨rfl, hB⟩
            have hs10 := hs9.below hB
            have hl10 := hl9.below hB
            have bs10 := (Keep.of_below hB).boxed bs9 bs9.lt
            have bl10 := (Keep.of_below hB).boxed bl9 bl9.lt
            have hB10 := hB9.trans (hB.mono hB9.size)
            clear hs9 hl9 bs9 bl9 hB9
            try clear cbs9 cbl9
            have cbs10 := bs10.cell
            have cbl10 := bl10.cell
            clear hB
            clear conH conA2
            go_wp2
            go_roundw
            case rel => exact ⟨k2 + 1, by omega, by go_num, hB10⟩
            case measure => simp [intOf]; omega
        · have hs7 := hs6.below hbr
          have hl7 := hl6.below hbr
          have ha7 := ha6.below hbr ha6.lt
          have bs7 := (Keep.of_below hbr).boxed bs6 bs6.lt
          have bl7 := (Keep.of_below hbr).boxed bl6 bl6.lt
          have hB7 : Below w.heap.size w wr := hB6.trans (hbr.mono hB6.size)
          clear hs6 hl6 ha6 bs6 bl6 hB6 hbr cbs6 cbl6
          obtain ⟨wy, hwy⟩ : ∃ wy, wy = wr := ⟨_, rfl⟩
          subst hwy
          go_wp2
          go_loopw [70] (fun i wr => ∃ k3 : Nat, k3 ≤ k ∧ i = .int .i64 k3 ∧ Below wy.heap.size wy wr) (fun i _ => k - (intOf i).toNat)
          case atStart => exact ⟨0, Nat.zero_le _, rfl, Below.refl _ _⟩
          case round =>
            obtain ⟨k3, hk3, rfl, hbx⟩ := hrel
            have hs8 := hs7.below hbx
            have hl8 := hl7.below hbx
            have bs8 := (Keep.of_below hbx).boxed bs7 bs7.lt
            have bl8 := (Keep.of_below hbx).boxed bl7 bl7.lt
            by_cases hlt3 : k3 < k
            · obtain ⟨b, o, rfl, _, hc⟩ := (ha7.below hbx ha7.lt).at (by omega)
              obtain ⟨x, hx, _⟩ := drop_getElem xs k3 (by rw [hll.out]; exact hlt3)
              have hck : wr.cell? ⟨b, o + k3, none⟩ = some (.string ⟨x.toArray⟩) := hc k3 x hx
              have hxm : x ∈ ss := (HM.out x).2 (List.mem_of_getElem? hx)
              obtain ⟨hno, hlen1⟩ := less_one ss x hra hxm
              have hyes : S.hasS ss x = true := by unfold S.hasS; rw [List.contains_iff_mem]; exact hxm
              have conH1 := fun W h => S.Has_any (.agg #[.slice qs ns cs]) ss x W h
              rw [hyes] at conH1
              have conW := fun W q n c h1 h2 h3 h4 h5 => S.Without_any (.agg #[.slice qs ns cs]) ss [x] q n c W h1 h2 h3 h4 h5
              have conH2 := fun v W h => S.Has_any v (pickL [1] ss (setS [x])) x W h
              rw [hno] at conH2
              have hpk : (pickL [1] ss (setS [x])).length ≤ 30 := by omega
              have conL1 := fun v W h => S.Len_any v (pickL [1] ss (setS [x])) W h
              have conL2 := fun W h => S.Len_any (.agg #[.slice qs ns cs]) ss W h
              rw [hlen1] at conL2
              have hrow := fun W => row_new encStr 9 W [x]
              have hBx : Below wy.heap.size wy wr := hbx
              clear hc hx hxm hno hlen1 hyes
              generalize pickL [1] ss (setS [x]) = ps at *
              generalize ps.length = m at *
              have hsx : ∀ W : World, SlIn encStr (W.alloc (.cells #[.string ⟨x.toArray⟩] 9)) (some ⟨W.heap.size, 0, none⟩) 1 [x] := fun W => hrow W
              clear hrow
              generalize (⟨x.toArray⟩ : ByteArray) = s at *
              have hwr1 : IntKind.i64.wrap ((m : Int) + 1 - 1) = (m : Int) := by rw [IntWalk.i64_in _ (by omega)]; omega
              have hwr2 : IntKind.i64.wrap (m : Int) = (m : Int) := IntWalk.i64_in _ (by omega)
              have hwr3 : IntKind.i64.wrap (((m + 1 : Nat) : Int) - 1) = (m : Int) := by rw [IntWalk.i64_in _ (by omega)]; omega
              go_wp2_with fail
              refine pregion_any (fun X => X.cell? ⟨w2.heap.size, 0, none⟩ = some (.slice qs ns cs) ∧ X.cell? ⟨w4.heap.size, 0, none⟩ = some (.slice ql nl cl)) (by kernel_rfl) ?_
              have hS8 : (fun X : World => X.cell? ⟨w2.heap.size, 0, none⟩ = some (.slice qs ns cs) ∧ X.cell? ⟨w4.heap.size, 0, none⟩ = some (.slice ql nl cl)) wr.drew := ⟨bs8.cell, bl8.cell⟩
              have hT8 : Below wy.heap.size wy wr.drew := ⟨hBx.os, hBx.tape, hBx.output, hBx.size, hBx.block⟩
              obtain ⟨u8, hu⟩ : ∃ u, wr.drew = u := ⟨_, rfl⟩
              have hk : ∀ S, Keep S wr u8 := fun S => by rw [← hu]; exact Keep.drew S _
              rw [hu] at hS8 hT8 ⊢
              replace hs8 := hs8.below ((hk (fun b => b < wr.heap.size)).below (Nat.le_refl _))
              replace hl8 := hl8.below ((hk (fun b => b < wr.heap.size)).below (Nat.le_refl _))
              replace bs8 := (hk (fun _ => True)).boxed bs8 trivial
              replace bl8 := (hk (fun _ => True)).boxed bl8 trivial
              clear hk hu
              refine wpAnyH_take (i := 0) (v := .agg #[.slice qs ns cs]) rfl (by kernel_rfl) (by kernel_rfl) (by kernel_rfl) (fun _ _ _ h => h) (.inl ⟨by kernel_rfl, ?_⟩) hS8 ?_
              · rintro w ⟨h1, h2⟩; go_simp
              refine plist #[true, false, false, false, false, false, false, false, false, false, false, false, false, false, false, false, false, false, false, false, false, false, false] (by kernel_rfl) ?_
              refine wpAnyH_take (i := 1) (v := .string s) rfl (by kernel_rfl) (by kernel_rfl) (by kernel_rfl) (fun _ _ _ h => h) (.inl ⟨by kernel_rfl, ?_⟩) hS8 ?_
              · rintro w ⟨h1, h2⟩; go_simp
              refine plist #[true, true, false, false, false, false, false, false, false, false, false, false, false, false, false, false, false, false, false, false, false, false, false] (by kernel_rfl) ?_
              refine pone 2 (by kernel_rfl) rfl fun K hK => ?_
              go_simp
              refine (conH1 u8 hs8).mono ?_
              rintro e u9 ⟨rfl, hB⟩
              have hs9 := hs8.below hB
              have hl9 := hl8.below hB
              have bs9 := (Keep.of_below hB).boxed bs8 bs8.lt
              have bl9 := (Keep.of_below hB).boxed bl8 bl8.lt
              have hT9 := hT8.trans (hB.mono hT8.size)
              have hS9 : (fun X : World => X.cell? ⟨w2.heap.size, 0, none⟩ = some (.slice qs ns cs) ∧ X.cell? ⟨w4.heap.size, 0, none⟩ = some (.slice ql nl cl)) u9 := ⟨bs9.cell, bl9.cell⟩
              clear hB hs8 hl8 bs8 bl8 hT8 hS8
              refine hK _ _ hS9 ?_
              clear hK K
              refine plist #[true, true, true, false, false, false, false, false, false, false, false, false, false, false, false, false, false, false, false, false, false, false, false] (by kernel_rfl) ?_
              refine wpAnyH_take (i := 3) (v := .bool false) rfl (by kernel_rfl) (by kernel_rfl) (by kernel_rfl) (fun _ _ _ h => h) (.inl ⟨by kernel_rfl, ?_⟩) hS9 ?_
              · rintro w ⟨h1, h2⟩; go_simp
              refine plist #[true, true, true, true, false, false, false, false, false, false, false, false, false, false, false, false, false, false, false, false, false, false, false] (by kernel_rfl) ?_
              refine wpAnyH_take (i := 4) (v := .bool false) rfl (by kernel_rfl) (by kernel_rfl) (by kernel_rfl) (fun _ _ _ h => h) (.inl ⟨by kernel_rfl, ?_⟩) hS9 ?_
              · rintro w ⟨h1, h2⟩; go_simp
              refine plist #[true, true, true, true, true, false, false, false, false, false, false, false, false, false, false, false, false, false, false, false, false, false, false] (by kernel_rfl) ?_
              refine wpAnyH_take (i := 5) (v := .agg #[.slice qs ns cs]) rfl (by kernel_rfl) (by kernel_rfl) (by kernel_rfl) (fun _ _ _ h => h) (.inl ⟨by kernel_rfl, ?_⟩) hS9 ?_
              · rintro w ⟨h1, h2⟩; go_simp
              refine plist #[true, true, true, true, true, true, false, false, false, false, false, false, false, false, false, false, false, false, false, false, false, false, false] (by kernel_rfl) ?_
              refine wpAnyH_take (i := 6) (v := .string s) rfl (by kernel_rfl) (by kernel_rfl) (by kernel_rfl) (fun _ _ _ h => h) (.inl ⟨by kernel_rfl, ?_⟩) hS9 ?_
              · rintro w ⟨h1, h2⟩; go_simp
              refine plist #[true, true, true, true, true, true, true, false, false, false, false, false, false, false, false, false, false, false, false, false, false, false, false] (by kernel_rfl) ?_
              refine wpAnyH_take (i := 9) (v := .string s) rfl (by kernel_rfl) (by kernel_rfl) (by kernel_rfl) (fun _ _ _ h => h) (.inl ⟨by kernel_rfl, ?_⟩) hS9 ?_
              · rintro w ⟨h1, h2⟩; go_simp
              refine plist #[true, true, true, true, true, true, true, false, false, true, false, false, false, false, false, false, false, false, false, false, false, false, false] (by kernel_rfl) ?_
              refine pone 7 (by kernel_rfl) rfl fun K hK => ?_
              go_simp
              obtain ⟨u10, hu⟩ : ∃ W, u9.alloc (.cells #[.string s] 9) = W := ⟨_, rfl⟩
              have hB : Below u9.heap.size u9 u10 := by rw [← hu]; exact below_alloc _
              have hz10 := hsx u9
              rw [hu] at hz10
              have HU10 := Lib.hid hu
              have hs10 := hs9.below hB
              have hl10 := hl9.below hB
              have bs10 := (Keep.of_below hB).boxed bs9 bs9.lt
              have bl10 := (Keep.of_below hB).boxed bl9 bl9.lt
              have hT10 := hT9.trans (hB.mono hT9.size)
              have hS10 : (fun X : World => X.cell? ⟨w2.heap.size, 0, none⟩ = some (.slice qs ns cs) ∧ X.cell? ⟨w4.heap.size, 0, none⟩ = some (.slice ql nl cl)) u10 := ⟨bs10.cell, bl10.cell⟩
              clear hB hu hs9 hl9 bs9 bl9 hT9 hS9
              rw [← HU10.out] at hS10
              refine hK _ _ hS10 ?_
              clear hK K
              rw [HU10.out] at hS10 ⊢
              refine plist #[true, true, true, true, true, true, true, true, false, true, false, false, false, false, false, false, false, false, false, false, false, false, false] (by kernel_rfl) ?_
              refine pone 8 (by kernel_rfl) rfl fun K hK => ?_
              go_simp
              refine (conW u10 (some ⟨u9.heap.size, 0, none⟩) 1 1 hs10 hz10 (fun h => by cases h) (by omega) (by omega)).mono ?_
              rintro e u11 ⟨vw1, rfl, sw, hB⟩
              have hs11 := hs10.below hB
              have hl11 := hl10.below hB
              have hz11 := hz10.below hB hz10.lt
              have bs11 := (Keep.of_below hB).boxed bs10 bs10.lt
              have bl11 := (Keep.of_below hB).boxed bl10 bl10.lt
              have hT11 := hT10.trans (hB.mono hT10.size)
              have hS11 : (fun X : World => X.cell? ⟨w2.heap.size, 0, none⟩ = some (.slice qs ns cs) ∧ X.cell? ⟨w4.heap.size, 0, none⟩ = some (.slice ql nl cl)) u11 := ⟨bs11.cell, bl11.cell⟩
              clear hB hs10 hl10 hz10 bs10 bl10 hT10 hS10
              have hw11 := sw
              clear sw
              refine hK _ _ hS11 ?_
              clear hK K
              clear hz11
              refine plist #[true, true, true, true, true, true, true, true, true, true, false, false, false, false, false, false, false, false, false, false, false, false, false] (by kernel_rfl) ?_
              refine pone 10 (by kernel_rfl) rfl fun K hK => ?_
              go_simp
              refine (conH2 _ u11 hw11).mono ?_
              rintro e u12 ⟨rfl, hB⟩
              have hs12 := hs11.below hB
              have hl12 := hl11.below hB
              have hw12 := hw11.below hB
              have bs12 := (Keep.of_below hB).boxed bs11 bs11.lt
              have bl12 := (Keep.of_below hB).boxed bl11 bl11.lt
              have hT12 := hT11.trans (hB.mono hT11.size)
              have hS12 : (fun X : World => X.cell? ⟨w2.heap.size, 0, none⟩ = some (.slice qs ns cs) ∧ X.cell? ⟨w4.heap.size, 0, none⟩ = some (.slice ql nl cl)) u12 := ⟨bs12.cell, bl12.cell⟩
              clear hB hs11 hl11 hw11 bs11 bl11 hT11 hS11
              refine hK _ _ hS12 ?_
              clear hK K
              clear hw12
              refine plist #[true, true, true, true, true, true, true, true, true, true, true, false, false, false, false, false, false, false, false, false, false, false, false] (by kernel_rfl) ?_
              refine wpAnyH_take (i := 11) (v := .bool false) rfl (by kernel_rfl) (by kernel_rfl) (by kernel_rfl) (fun _ _ _ h => h) (.inl ⟨by kernel_rfl, ?_⟩) hS12 ?_
              · rintro w ⟨h1, h2⟩; go_simp
              refine plist #[true, true, true, true, true, true, true, true, true, true, true, true, false, false, false, false, false, false, false, false, false, false, false] (by kernel_rfl) ?_
              refine wpAnyH_take (i := 12) (v := .bool false) rfl (by kernel_rfl) (by kernel_rfl) (by kernel_rfl) (fun _ _ _ h => h) (.inl ⟨by kernel_rfl, ?_⟩) hS12 ?_
              · rintro w ⟨h1, h2⟩; go_simp
              refine plist #[true, true, true, true, true, true, true, true, true, true, true, true, true, false, false, false, false, false, false, false, false, false, false] (by kernel_rfl) ?_
              refine wpAnyH_take (i := 13) (v := .agg #[.slice qs ns cs]) rfl (by kernel_rfl) (by kernel_rfl) (by kernel_rfl) (fun _ _ _ h => h) (.inl ⟨by kernel_rfl, ?_⟩) hS12 ?_
              · rintro w ⟨h1, h2⟩; go_simp
              refine plist #[true, true, true, true, true, true, true, true, true, true, true, true, true, true, false, false, false, false, false, false, false, false, false] (by kernel_rfl) ?_
              refine wpAnyH_take (i := 14) (v := .string s) rfl (by kernel_rfl) (by kernel_rfl) (by kernel_rfl) (fun _ _ _ h => h) (.inl ⟨by kernel_rfl, ?_⟩) hS12 ?_
              · rintro w ⟨h1, h2⟩; go_simp
              refine plist #[true, true, true, true, true, true, true, true, true, true, true, true, true, true, true, false, false, false, false, false, false, false, false] (by kernel_rfl) ?_
              refine wpAnyH_take (i := 18) (v := .agg #[.slice qs ns cs]) rfl (by kernel_rfl) (by kernel_rfl) (by kernel_rfl) (fun _ _ _ h => h) (.inl ⟨by kernel_rfl, ?_⟩) hS12 ?_
              · rintro w ⟨h1, h2⟩; go_simp
              refine plist #[true, true, true, true, true, true, true, true, true, true, true, true, true, true, true, false, false, false, true, false, false, false, false] (by kernel_rfl) ?_
              refine pone 15 (by kernel_rfl) rfl fun K hK => ?_
              go_simp
              obtain ⟨u13, hu⟩ : ∃ W, u12.alloc (.cells #[.string s] 9) = W := ⟨_, rfl⟩
              have hB : Below u12.heap.size u12 u13 := by rw [← hu]; exact below_alloc _
              have hz13 := hsx u12
              rw [hu] at hz13
              have HU13 := Lib.hid hu
              have hs13 := hs12.below hB
              have hl13 := hl12.below hB
              have bs13 := (Keep.of_below hB).boxed bs12 bs12.lt
              have bl13 := (Keep.of_below hB).boxed bl12 bl12.lt
              have hT13 := hT12.trans (hB.mono hT12.size)
              have hS13 : (fun X : World => X.cell? ⟨w2.heap.size, 0, none⟩ = some (.slice qs ns cs) ∧ X.cell? ⟨w4.heap.size, 0, none⟩ = some (.slice ql nl cl)) u13 := ⟨bs13.cell, bl13.cell⟩
              clear hB hu hs12 hl12 bs12 bl12 hT12 hS12
              rw [← HU13.out] at hS13
              refine hK _ _ hS13 ?_
              clear hK K
              rw [HU13.out] at hS13 ⊢
              refine plist #[true, true, true, true, true, true, true, true, true, true, true, true, true, true, true, true, false, false, true, false, false, false, false] (by kernel_rfl) ?_
              refine pone 16 (by kernel_rfl) rfl fun K hK => ?_
              go_simp
              refine (conW u13 (some ⟨u12.heap.size, 0, none⟩) 1 1 hs13 hz13 (fun h => by cases h) (by omega) (by omega)).mono ?_
              rintro e u14 ⟨vw2, rfl, sw, hB⟩
              have hs14 := hs13.below hB
              have hl14 := hl13.below hB
              have hz14 := hz13.below hB hz13.lt
              have bs14 := (Keep.of_below hB).boxed bs13 bs13.lt
              have bl14 := (Keep.of_below hB).boxed bl13 bl13.lt
              have hT14 := hT13.trans (hB.mono hT13.size)
              have hS14 : (fun X : World => X.cell? ⟨w2.heap.size, 0, none⟩ = some (.slice qs ns cs) ∧ X.cell? ⟨w4.heap.size, 0, none⟩ = some (.slice ql nl cl)) u14 := ⟨bs14.cell, bl14.cell⟩
              clear hB hs13 hl13 hz13 bs13 bl13 hT13 hS13
              have hw14 := sw
              clear sw
              refine hK _ _ hS14 ?_
              clear hK K
              clear hz14
              refine plist #[true, true, true, true, true, true, true, true, true, true, true, true, true, true, true, true, true, false, true, false, false, false, false] (by kernel_rfl) ?_
              refine pone 17 (by kernel_rfl) rfl fun K hK => ?_
              go_simp
              refine (conL1 _ u14 hw14).mono ?_
              rintro e u15 ⟨rfl, hB⟩
              have hs15 := hs14.below hB
              have hl15 := hl14.below hB
              have hw15 := hw14.below hB
              have bs15 := (Keep.of_below hB).boxed bs14 bs14.lt
              have bl15 := (Keep.of_below hB).boxed bl14 bl14.lt
              have hT15 := hT14.trans (hB.mono hT14.size)
              have hS15 : (fun X : World => X.cell? ⟨w2.heap.size, 0, none⟩ = some (.slice qs ns cs) ∧ X.cell? ⟨w4.heap.size, 0, none⟩ = some (.slice ql nl cl)) u15 := ⟨bs15.cell, bl15.cell⟩
              clear hB hs14 hl14 hw14 bs14 bl14 hT14 hS14
              refine hK _ _ hS15 ?_
              clear hK K
              clear hw15
              refine plist #[true, true, true, true, true, true, true, true, true, true, true, true, true, true, true, true, true, true, true, false, false, false, false] (by kernel_rfl) ?_
              refine pone 19 (by kernel_rfl) rfl fun K hK => ?_
              go_simp
              refine (conL2 u15 hs15).mono ?_
              rintro e u16 ⟨rfl, hB⟩
              have hs16 := hs15.below hB
              have hl16 := hl15.below hB
              have bs16 := (Keep.of_below hB).boxed bs15 bs15.lt
              have bl16 := (Keep.of_below hB).boxed bl15 bl15.lt
              have hT16 := hT15.trans (hB.mono hT15.size)
              have hS16 : (fun X : World => X.cell? ⟨w2.heap.size, 0, none⟩ = some (.slice qs ns cs) ∧ X.cell? ⟨w4.heap.size, 0, none⟩ = some (.slice ql nl cl)) u16 := ⟨bs16.cell, bl16.cell⟩
              clear hB hs15 hl15 bs15 bl15 hT15 hS15
              refine hK _ _ hS16 ?_
              clear hK K
              refine plist #[true, true, true, true, true, true, true, true, true, true, true, true, true, true, true, true, true, true, true, true, false, false, false] (by kernel_rfl) ?_
              refine pone 20 (by kernel_rfl) rfl fun K hK => ?_
              go_simp
              refine hK _ _ hS16 ?_
              clear hK K
              refine plist #[true, true, true, true, true, true, true, true, true, true, true, true, true, true, true, true, true, true, true, true, true, false, false] (by kernel_rfl) ?_
              refine pone 21 (by kernel_rfl) rfl fun K hK => ?_
              go_simp
              refine hK _ _ hS16 ?_
              clear hK K
              refine plist #[true, true, true, true, true, true, true, true, true, true, true, true, true, true, true, true, true, true, true, true, true, true, false] (by kernel_rfl) ?_
              refine pone 22 (by kernel_rfl) rfl fun K hK => ?_
              go_simp
              refine hK _ _ hS16 ?_
              clear hK K
              refine pdone (by kernel_rfl) ?_ _
              clear hS16
              go_wp2
              go_roundw
              case rel => exact ⟨k3 + 1, by omega, by go_num, hT16⟩
              case measure => simp [intOf]; omega
            · have conL1 := fun W h => S.Len_any (.agg #[.slice qs ns cs]) ss W h
              have conL2 := fun W h => Len_any (.agg #[.slice ql nl cl]) ls W h
              have hle : ls.length ≤ ss.length := HLL.out
              have hB8 : Below w.heap.size w wr := hB7.trans (hbx.mono hB7.size)
              clear hs7 hl7 ha7 bs7 bl7 hB7 hbx
              generalize ls.length = m1 at *
              generalize ss.length = m2 at *
              have hd : decide ((m1 : Int) ≤ (m2 : Int)) = true := by simp; omega
              go_wp2_with fail
              refine pregion_any (fun X => X.cell? ⟨w2.heap.size, 0, none⟩ = some (.slice qs ns cs) ∧ X.cell? ⟨w4.heap.size, 0, none⟩ = some (.slice ql nl cl)) (by kernel_rfl) ?_
              have hS8 : (fun X : World => X.cell? ⟨w2.heap.size, 0, none⟩ = some (.slice qs ns cs) ∧ X.cell? ⟨w4.heap.size, 0, none⟩ = some (.slice ql nl cl)) wr.drew := ⟨bs8.cell, bl8.cell⟩
              have hT8 : Below w.heap.size w wr.drew := ⟨hB8.os, hB8.tape, hB8.output, hB8.size, hB8.block⟩
              obtain ⟨u8, hu⟩ : ∃ u, wr.drew = u := ⟨_, rfl⟩
              have hk : ∀ S, Keep S wr u8 := fun S => by rw [← hu]; exact Keep.drew S _
              rw [hu] at hS8 hT8 ⊢
              replace hs8 := hs8.below ((hk (fun b => b < wr.heap.size)).below (Nat.le_refl _))
              replace hl8 := hl8.below ((hk (fun b => b < wr.heap.size)).below (Nat.le_refl _))
              replace bs8 := (hk (fun _ => True)).boxed bs8 trivial
              replace bl8 := (hk (fun _ => True)).boxed bl8 trivial
              clear hk hu
              refine wpAnyH_take (i := 0) (v := .agg #[.slice ql nl cl]) rfl (by kernel_rfl) (by kernel_rfl) (by kernel_rfl) (fun _ _ _ h => h) (.inl ⟨by kernel_rfl, ?_⟩) hS8 ?_
              · rintro w ⟨h1, h2⟩; go_simp
              refine plist #[true, false, false, false, false, false] (by kernel_rfl) ?_
              refine wpAnyH_take (i := 2) (v := .agg #[.slice qs ns cs]) rfl (by kernel_rfl) (by kernel_rfl) (by kernel_rfl) (fun _ _ _ h => h) (.inl ⟨by kernel_rfl, ?_⟩) hS8 ?_
              · rintro w ⟨h1, h2⟩; go_simp
              refine plist #[true, false, true, false, false, false] (by kernel_rfl) ?_
              refine pone 1 (by kernel_rfl) rfl fun K hK => ?_
              go_simp
              refine (conL2 u8 hl8).mono ?_
              rintro e u9 ⟨rfl, hB⟩
              have hs9 := hs8.below hB
              have hl9 := hl8.below hB
              have bs9 := (Keep.of_below hB).boxed bs8 bs8.lt
              have bl9 := (Keep.of_below hB).boxed bl8 bl8.lt
              have hT9 := hT8.trans (hB.mono hT8.size)
              have hS9 : (fun X : World => X.cell? ⟨w2.heap.size, 0, none⟩ = some (.slice qs ns cs) ∧ X.cell? ⟨w4.heap.size, 0, none⟩ = some (.slice ql nl cl)) u9 := ⟨bs9.cell, bl9.cell⟩
              clear hB hs8 hl8 bs8 bl8 hT8 hS8
              refine hK _ _ hS9 ?_
              clear hK K
              refine plist #[true, true, true, false, false, false] (by kernel_rfl) ?_
              refine pone 3 (by kernel_rfl) rfl fun K hK => ?_
              go_simp
              refine (conL1 u9 hs9).mono ?_
              rintro e u10 ⟨rfl, hB⟩
              have hs10 := hs9.below hB
              have hl10 := hl9.below hB
              have bs10 := (Keep.of_below hB).boxed bs9 bs9.lt
              have bl10 := (Keep.of_below hB).boxed bl9 bl9.lt
              have hT10 := hT9.trans (hB.mono hT9.size)
              have hS10 : (fun X : World => X.cell? ⟨w2.heap.size, 0, none⟩ = some (.slice qs ns cs) ∧ X.cell? ⟨w4.heap.size, 0, none⟩ = some (.slice ql nl cl)) u10 := ⟨bs10.cell, bl10.cell⟩
              clear hB hs9 hl9 bs9 bl9 hT9 hS9
              refine hK _ _ hS10 ?_
              clear hK K
              refine plist #[true, true, true, true, false, false] (by kernel_rfl) ?_
              refine pone 4 (by kernel_rfl) rfl fun K hK => ?_
              go_simp
              refine hK _ _ hS10 ?_
              clear hK K
              refine plist #[true, true, true, true, true, false] (by kernel_rfl) ?_
              refine pone 5 (by kernel_rfl) rfl fun K hK => ?_
              go_simp
              refine hK _ _ hS10 ?_
              clear hK K
              refine pdone (by kernel_rfl) ?_ _
              clear hS10
              go_wp2
              go_ret
              exact ⟨rfl, hT10⟩

set_option maxRecDepth 100000 in
theorem lifted (os : Os) (started : os.Started) (H : Type) (enc : TypeId × Value → H) :
    ReturnsInHanded {} Try.checked os 6 .any (Rows.sortedTextsSpec.pre6 enc Try.prog Try.f6 Rows.sortedTextsRow.domain false) (Rows.sortedTextsSpec.post enc Try.prog Try.f6 false true false false) := by
  refine returnsInHanded_of_change (C := Try.checked) own started (by kernel_rfl) Try.func6
    (ChangeSpec.witness6 (enc := enc) (C := Try.checked) false ⟨#[], #[.slice none 0 0], []⟩ 8 (by kernel_rfl) (by kernel_rfl) (by kernel_rfl) (by kernel_rfl)) ?_
  intro W base args ds gs before hval0 hW hcnd _
  have hval : ∀ (j : Nat) t v, Try.f6.params[j]? = some t → args[j]? = some v → Value.okWide Try.prog W .any base t v := hval0
  have hW' := hW
  obtain ⟨p, q, hA0, hV, rfl, hfz, hnd⟩ := hW
  have hA : DataW.TrodAll enc Try.prog W 0 (fun _ => true) true Try.f6.params.toList args.toList ds p := hA0
  rw [Try.params6] at hA hval
  obtain ⟨v0, vs0, d0, ds0, p0, q0, hargs, rfl, rfl, h0, r0⟩ := trodAll_cons hA
  obtain ⟨rfl, rfl, rfl⟩ := trodAll_nil r0
  obtain rfl : args = #[v0] := by cases args; simp_all
  obtain ⟨rfl, rfl⟩ := trodVars_none hV
  obtain ⟨a0, len0, cap0, rfl⟩ := okWide_slice Try.underlying41 (hval 0 41 v0 rfl rfl)
  have k0 := h0
  have lt0 : ∀ x ∈ p0, x.block < W.heap.size := by obtain ⟨m, hm⟩ := k0; exact DataW.trod_lt m _ _ _ hm
  obtain ⟨z0, w0⟩ : ∃ zs, IsStrs W a0 len0 cap0 zs := by
    obtain ⟨fuel, hf⟩ := h0
    rcases open_strings Try.underlying41 Try.underlying9 (by kernel_rfl) hf with ⟨hcs, _⟩ | ⟨x, l, c, zs, hcs, _, hl, hm, hz, _, hcell, hwz⟩
    · simp [Value.cells] at hcs
      obtain ⟨rfl, rfl, rfl⟩ := hcs
      exact ⟨[], .inl ⟨rfl, rfl, rfl, rfl⟩⟩
    · simp [Value.cells] at hcs
      obtain ⟨rfl, rfl, rfl⟩ := hcs
      exact ⟨zs, .inr ⟨_, rfl, hl, hm, by simpa using hz, hcell, hwz⟩⟩
  clear hA0 hval0
  refine (walk a0 len0 cap0 z0 W w0).mono fun e W' ⟨he, bel⟩ => ?_
  subst he
  exact ⟨_, rfl, _, _, _, [], _, [], hW', trodAll_mk1 (shut_bool Try.underlying4 _), (trodAll_cons_mk (Below.trod laidOut (by kernel_rfl) (of_decide_eq_true (by kernel_rfl)) k0 bel lt0) trodAll_mk0), rfl, bel.frame _, fun h => by cases h⟩

theorem over : Rows.sortedTextsRow.holds Try.pinned (OpenSpec.ofChange Rows.sortedTextsSpec) :=
  OpenClaim.holds_of_wide 6 Try.f6 rfl rfl rfl rfl rfl rfl rfl ⟨rfl, rfl, rfl, rfl, rfl⟩ rfl rfl rfl rfl rfl (by kernel_rfl) Try.func6 (by kernel_rfl)
    (of_decide_eq_true (by kernel_rfl)) (by unfold Func.isWrapper; first | (rw [if_pos (by decide +kernel)]; kernel_rfl) | (rw [if_neg (by decide +kernel)]; exact ⟨rfl, rfl⟩))
    (fun os started H enc _ => lifted os started H enc)

theorem proved : Rows.SortedTextsSaid := over
end Go.Proofs.Ythfclmnmnmeldaa.sortedTexts
