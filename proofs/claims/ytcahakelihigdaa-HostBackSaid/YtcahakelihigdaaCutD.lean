/- The pieces between the bytes that a test picks: spans, and the tests. Conditions: a text is of at most the model's greatest length. -/
import Derived.Test.YtcahakelihigdaaRf
import Derived.Test.YtcahakelihigdaaCutC
import Derived.RangeFuncNested
import Derived.RangeFuncBound
import Derived.RangeFuncCalls
import Derived.RangeFuncLeaves
import Derived.Shelf.Abstract
import Derived.Shelf.RegionOpen
import Derived.OwnWalkIn
import Derived.TacticsInMore
import Derived.LoopNIn
import Derived.LoopIn
namespace Go.Proofs.Ytcahakelihigdaa
open Go.RowKit Go.Shelf
attribute [local go_sem] Oper.semAt_some

/-- Where the pieces begin and end: from place i on, a piece having begun at fr. -/
def spansGo (p : UInt8 → Bool) : List UInt8 → Nat → Nat → List (Nat × Nat)
  | [], i, fr => [(fr, i)]
  | b :: r, i, fr => if p b = true then (fr, i) :: spansGo p r (i + 1) (i + 1) else spansGo p r (i + 1) fr
def spansL (p : UInt8 → Bool) (l : List UInt8) : List (Nat × Nat) := spansGo p l 0 0

/-- A pair of places, as yield takes it. -/
def SpanArg (x : Nat × Nat) (args : Array Value) (G : Nat → Prop) (_W : World) : Prop := args = #[.int .i64 x.1, .int .i64 x.2] ∧ G = fun _ => False

/-- The value fv is a test that answers p, while the blocks of RB lie as in w0. -/
structure Tests (P : Program) (g : Nat) (lb : Array Value) (p : UInt8 → Bool) (RB : Nat → Prop) (w0 : World) : Prop where
  eg : ∀ args w, (callFunc g args).run P w = .ok (.enter g args) w
  calls : ∀ (b : UInt8) (W : World), Keep RB w0 W → Calls P g (#[.int .u8 (b.toNat : Int)] ++ lb) W fun e w' => e = .returned (.bool (p b)) ∧ W = w'

def isB (c : UInt8) (b : UInt8) : Bool := b == c

theorem isByte1_any (b c : UInt8) (B : Nat) (w : World) (h : Boxed w B 5 (.int .u8 (c.toNat : Int))) :
    Calls Try.prog 44 #[.int .u8 (b.toNat : Int), .pointer (some ⟨B, 0, none⟩)] w fun e w' => e = .returned (.bool (isB c b)) ∧ w = w' := by
  have hc := h.cell
  have H := Lib.hid (show isB c b = ((b.toNat : Int) == (c.toNat : Int)) by unfold isB; rw [Bool.eq_iff_iff, beq_iff_eq, beq_iff_eq, ← UInt8.toNat_inj]; omega)
  clear h
  go_enter Try.func44, Try.ntmps44
  go_wp2
  go_ret
  exact ⟨(by rw [H.out]; try rfl), rfl⟩

theorem isByte_any (c : UInt8) (w : World) :
    Calls Try.prog 39 #[.int .u8 (c.toNat : Int)] w fun e w' => e = .returned (.func (.func 44) #[] #[.pointer (some ⟨w.heap.size, 0, none⟩)]) ∧ w' = w.alloc (.cells #[.int .u8 (c.toNat : Int)] 5) := by
  go_enter Try.func39, Try.ntmps39
  go_wp2
  go_ret
  exact ⟨rfl, rfl⟩

theorem isByte_tests (c : UInt8) (B : Nat) (RB : Nat → Prop) (w0 : World) (h : Boxed w0 B 5 (.int .u8 (c.toNat : Int))) (hB : RB B) :
    Tests Try.prog 44 #[.pointer (some ⟨B, 0, none⟩)] (isB c) RB w0 :=
  ⟨enters_of Try.func44 (by kernel_rfl) rfl, fun b W hW => isByte1_any b c B W (hW.boxed h hB)⟩

theorem spans_any (q : Option Addr) (n c g : Nat) (lb : Array Value) (w : World) :
    Calls Try.prog 38 #[.slice q n c, .func (.func g) #[] lb] w fun e w' => e = .returned (.func (.func 43) #[] #[.pointer (some ⟨w.heap.size, 0, none⟩), .pointer (some ⟨w.heap.size + 1, 0, none⟩)]) ∧
      w' = (w.alloc (.cells #[.slice q n c] 22)).alloc (.cells #[.func (.func g) #[] lb] 44) := by
  go_enter Try.func38, Try.ntmps38
  go_wp2
  go_ret
  exact ⟨rfl, rfl⟩


set_option maxRecDepth 100000 in
set_option maxHeartbeats 2000000 in
/-- What spans tells: all pieces' bounds. -/
theorem spans1_iter (Bt Bp : Nat) (q : Option Addr) (n c g : Nat) (lb : Array Value) (bs : List UInt8) (p : UInt8 → Bool) (RB : Nat → Prop) (w0 : World)
    (hx : bs.length = n) (hn : n ≤ 140737488355328) (hb : Lib.BytesIn w0 q n (Lib.numsL bs)) (hq : ∀ a, q = some a → 0 < n → RB a.block)
    (hT : Boxed w0 Bt 22 (.slice q n c)) (hP : Boxed w0 Bp 44 (.func (.func g) #[] lb)) (hRt : RB Bt) (hRp : RB Bp) (ht : Tests Try.prog g lb p RB w0) :
    IterC Try.prog 43 #[.pointer (some ⟨Bt, 0, none⟩), .pointer (some ⟨Bp, 0, none⟩)] SpanArg (spansL p bs) RB w0 := by
  intro l J Jx W hW hJ hJx hY h0
  refine (callsIn_wide (n := 1)).1 ?_
  refine callsIn_of_wp Try.func43 rfl trivial ?_ rfl
  simp only [Try.ntmps43, List.size_toArray, List.length_cons, List.length_nil, Nat.reduceAdd, Nat.reduceSub, Array.replicate_succ, Array.replicate_zero, List.push_toArray, List.append_toArray, List.nil_append, List.cons_append]
  have bT := (hW.boxed hT hRt).cell
  have bP := (hW.boxed hP hRp).cell
  gi_wp2
  gi_loopw [4, 9] (fun fr i wr => ∃ k f : Nat, ∃ pre, k ≤ n ∧ f ≤ k ∧ i = .int .i64 k ∧ fr = .int .i64 f ∧ Keep RB W wr ∧ Hid (spansL p bs = pre ++ spansGo p (bs.drop k) k f) ∧ J pre (fun _ => False) wr) (fun _ i _ => n - (intOf i).toNat)
  case atStart =>
    exact ⟨0, 0, [], Nat.zero_le _, Nat.zero_le _, rfl, rfl, Keep.refl _ _, rfl, h0⟩
  case round =>
    obtain ⟨k, f, pre, hk, hf, rfl, rfl, hKr, HX, hJr⟩ := hrel
    have bT := (hKr.boxed (hW.boxed hT hRt) hRt).cell
    have bP := (hKr.boxed (hW.boxed hP hRp) hRp).cell
    have hK0 := hW.trans hKr
    have hpc := fun b W h => callsIn_wide (n := 0) |>.2 (ht.calls b W h)
    have eg := ht.eg
    by_cases hlt : k < n
    · obtain ⟨b, o, rfl, hc⟩ := hb.at (by omega)
      have hRb : RB b := hq _ rfl (by omega)
      have hck : wr.cell? ⟨b, o + k, none⟩ = some (.int .u8 ((bs.getD k 0).toNat : Int)) := by
        rw [← numsL_getD bs k (by omega), ← hc k hlt]
        exact World.cell?_of_block (hK0.block b (World.block_lt_of_cell? w0 _ (hc k hlt)) hRb)
      have hdc := drop_cons bs k (by omega)
      clear hc hT hP hb
      generalize bs.getD k 0 = bk at hck hdc
      have hbk := u8_lt bk
      by_cases hp : p bk = true
      · have HX2 := Lib.hid (show spansL p bs = pre ++ (f, k) :: spansGo p (bs.drop (k + 1)) (k + 1) (k + 1) by rw [HX.out, hdc]; conv => lhs; unfold spansGo; rw [if_pos hp])
        obtain ⟨fn, tmps, assign, body, hy, hR⟩ := hY pre (f, k) _ (fun _ => False) (fun _ => False) #[.int .i64 f, .int .i64 k] wr HX2.out hJr (fun _ h => h.elim) ⟨rfl, rfl⟩ (fun _ h => h)
        clear HX hdc ht hY
        have Hp := Lib.hid hp
        gi_wp2_with fail
        refine ⟨trivial, (hpc bk wr hK0).mono ?_⟩
        rintro e w' ⟨rfl, rfl⟩
        rw [Hp.out]
        gi_wp2_with fail
        refine hR.mono ?_
        rintro e W3 ⟨hk3, (⟨rfl, hJ3⟩ | ⟨rfl, hJx3⟩)⟩
        · gi_wp2
          go_roundw
          case rel => exact ⟨k + 1, k + 1, pre ++ [(f, k)], by omega, Nat.le_refl _, by go_num, by go_num, hKr.trans (hk3.mono (fun _ _ h => .inl h)), Lib.hid (by rw [HX2.out]; simp), hJ _ _ _ _ _ hJ3 (Keep.refl _ _) (fun _ h => h.elim)⟩
          case measure => simp [intOf]; omega
        · gi_wp2
          refine bodyPost_ret (results_none rfl _ _ _) rfl ?_
          exact ⟨⟨_, rfl⟩, fun _ => False, fun _ h => h.elim, .inr ⟨pre ++ [(f, k)], _, by rw [HX2.out, List.append_assoc]; rfl, hJx _ _ _ _ _ hJx3 (Keep.refl _ _) (fun _ h => h.elim)⟩⟩
      · have hpf : p bk = false := by simpa using hp
        have HX2 := Lib.hid (show spansL p bs = pre ++ spansGo p (bs.drop (k + 1)) (k + 1) f by rw [HX.out, hdc]; conv => lhs; unfold spansGo; rw [if_neg hp])
        have Hp := Lib.hid hpf
        clear HX hdc ht hY hp hpf
        gi_wp2_with fail
        refine ⟨trivial, (hpc bk wr hK0).mono ?_⟩
        rintro e w' ⟨rfl, rfl⟩
        rw [Hp.out]
        gi_wp2_with fail
        go_roundw
        case rel => exact ⟨k + 1, f, pre, by omega, by omega, by go_num, rfl, hKr, HX2, hJr⟩
        case measure => simp [intOf]; omega
    · have HX2 := Lib.hid (show spansL p bs = pre ++ (f, n) :: [] by rw [HX.out, List.drop_of_length_le (by omega), show k = n by omega]; rfl)
      obtain ⟨fn, tmps, assign, body, hy, hR⟩ := hY pre (f, n) _ (fun _ => False) (fun _ => False) #[.int .i64 f, .int .i64 n] wr HX2.out hJr (fun _ h => h.elim) ⟨rfl, rfl⟩ (fun _ h => h)
      clear HX ht hY hb hT hP hpc
      gi_wp2_with fail
      refine hR.mono ?_
      rintro e W3 ⟨hk3, (⟨rfl, hJ3⟩ | ⟨rfl, hJx3⟩)⟩
      · gi_wp2
        refine bodyPost_end (results_none rfl _ _ _) rfl ?_
        exact ⟨⟨_, rfl⟩, fun _ => False, fun _ h => h.elim, .inl (by rw [HX2.out]; exact hJ _ _ _ _ _ hJ3 (Keep.refl _ _) (fun _ h => h.elim))⟩
      · gi_wp2
        refine bodyPost_end (results_none rfl _ _ _) rfl ?_
        exact ⟨⟨_, rfl⟩, fun _ => False, fun _ h => h.elim, .inr ⟨pre ++ [(f, n)], [], by rw [HX2.out]; simp, hJx _ _ _ _ _ hJx3 (Keep.refl _ _) (fun _ h => h.elim)⟩⟩

end Go.Proofs.Ytcahakelihigdaa
