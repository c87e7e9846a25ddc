/- The texts that these laws rest on, put together, part 2. Conditions: as each says. -/
import Derived.Test.YtkjkfgmoogbdiaaGreatDoorBaseA
import Derived.Lib.OwnBridge
import Derived.Lib.SlBytesConst
import Derived.Lib.SmallJoins
import Derived.RecoverIn
import Derived.Shelf.Spec.SearchS
import Derived.Laws.Cover1
import Derived.Sort.Walk0

namespace Go.Proofs.YtkjkfgmoogbdiaaGreatDoor.Pct
open Go.RowKit Go.Shelf
theorem wide_fn (f : FuncId) : Fence.wide.fn f = True := rfl
attribute [local go_sem] Oper.semAt_some wide_fn

/-- A byte and whether it stood encoded, as yield takes them. -/
def ItArg (x : UInt8 × Bool) (args : Array Value) (G : Nat → Prop) (_W : World) : Prop := args = #[.int .u8 (x.1.toNat : Int), .bool x.2] ∧ G = fun _ => False

theorem Keep.drewN (S : Nat → Prop) (w : World) (k : Nat) : Keep S w (w.drewN k) := ⟨rfl, rfl, rfl, Nat.le_refl _, fun _ _ _ => rfl⟩
/-- A call of yield, outside of a round. -/
theorem uponIn_yield {P : Program} {o : Oper} {a : Act} {K : Act → World → Prop} {Q : Exit → Act → World → Prop} {l : Nat} {args : Array Value} {W : World} {R : Ending → World → Prop} (h : YieldAt Fence.wide 0 P l args W R)
    (hk : ∀ v w, R (.returned v) w → K (a.put o.dst v) w) (hp : ∀ c w, ¬ R (.panicked c) w) (ho : ∀ w, ¬ R .outgrown w) : Oper.uponIn Fence.wide 1 P o a K Q ((Instr.yield l args).run P W) := by
  obtain ⟨fn, tmps, assign, body, hy, hR⟩ := h
  rw [hy]
  simp only [Oper.uponIn]
  refine ⟨fun _ => Nat.le_refl _, RoundIn.mono hR fun e w' hr => ?_⟩
  cases e with
  | returned v => exact hk v w' hr
  | panicked c => exact (hp c w' hr).elim
  | outgrown => exact (ho w' hr).elim

theorem bytes_keep {S : Nat → Prop} {w w' : World} {q : Option Addr} {n : Nat} {xs : List Int} (h : Lib.BytesIn w q n xs) (hk : Keep S w w') (hq : ∀ a, q = some a → 0 < n → S a.block) : Lib.BytesIn w' q n xs := fun h0 => by
  obtain ⟨b, o, rfl, hc⟩ := h.at h0
  have hlt := World.block_lt_of_cell? w _ (hc 0 h0)
  have hb := hk.block b hlt (hq _ rfl h0)
  exact ⟨b, o, rfl, fun i hi => by rw [← hc i hi]; simp only [World.cell?, hb]⟩

theorem meant_any (q : Option Addr) (n c : Nat) (w : World) :
    Calls Tryz.prog 191 #[.slice q n c] w fun e w' => e = .returned (.func (.func 213) #[] #[.pointer (some ⟨w.heap.size, 0, none⟩)]) ∧ w' = w.alloc (.cells #[.slice q n c] 30) := by
  go_enter Tryz.func191, Tryz.ntmps191
  go_wp2
  go_ret
  exact ⟨rfl, rfl⟩

theorem worth_lt' (x : UInt8) (h : hexB x = true) : (worth x).toNat < 16 := by
  have h' : ∀ i : Fin 256, hexB (UInt8.ofNat i.1) = true → (worth (UInt8.ofNat i.1)).toNat < 16 := by decide +kernel
  have h1 := h' ⟨x.toNat, u8_lt x⟩
  rw [UInt8.ofNat_toNat] at h1
  exact h1 h
theorem or_nat : ∀ u v : Fin 16, bits BinOp.or IntKind.u8 ((u.1 : Int) * 16 % 256) (v.1 : Int) = ((((UInt8.ofNat u.1) <<< 4) ||| (UInt8.ofNat v.1)).toNat : Int) := by decide +kernel
theorem or_pair (x y : UInt8) (hx : hexB x = true) (hy : hexB y = true) : bits BinOp.or IntKind.u8 (((worth x).toNat : Int) * 16 % 256) ((worth y).toNat : Int) = ((pairV x y).toNat : Int) := by
  have h := or_nat ⟨(worth x).toNat, worth_lt' x hx⟩ ⟨(worth y).toNat, worth_lt' y hy⟩
  simp only [UInt8.ofNat_toNat] at h
  exact h
theorem worth_same (b : UInt8) (w : World) (hx : hexB b = true) :
    Calls Tryz.prog 214 #[.int .u8 (b.toNat : Int)] w fun e w' => e = .returned (.int .u8 ((worth b).toNat : Int)) ∧ w' = w :=
  (worth_any b w hx).mono fun _ _ ⟨h1, h2⟩ => ⟨h1, h2.symm⟩

set_option maxRecDepth 100000 in
set_option maxHeartbeats 4000000 in
theorem meant1_iter (B : Nat) (q : Option Addr) (n c : Nat) (bs : List UInt8) (m : List (UInt8 × Bool)) (RB : Nat → Prop) (w0 : World) (hx : bs.length = n) (hn : n ≤ 140737488355328) (hm : itemsL bs = some m)
    (h : Lib.BytesIn w0 q n (Lib.numsL bs)) (hq : ∀ a, q = some a → 0 < n → RB a.block) (b : Boxed w0 B 30 (.slice q n c)) (hR : RB B) :
    IterC Tryz.prog 213 #[.pointer (some ⟨B, 0, none⟩)] ItArg m RB w0 := by
  intro l J Jx W hW hJ hJx hY h0
  refine (callsIn_wide (n := 1)).1 ?_
  refine callsIn_of_wp Tryz.func213 rfl trivial ?_ rfl
  simp only [Tryz.ntmps213, List.size_toArray, List.length_cons, List.length_nil, Nat.reduceAdd, Nat.reduceSub, Array.replicate_succ, Array.replicate_zero, List.push_toArray, List.append_toArray, List.nil_append, List.cons_append]
  have hl := Lib.hid hx
  have HM := Lib.hid hm
  clear hx hm
  gi_wp2
  gi_loopw [3] (fun i wr => ∃ k : Nat, ∃ pre rest : List (UInt8 × Bool), k ≤ n ∧ i = .int .i64 k ∧ Keep RB W wr ∧ Hid (m = pre ++ rest) ∧ Hid (itemsL (bs.drop k) = some rest) ∧ J pre (fun _ => False) wr) (fun i _ => n - (intOf i).toNat)
  case atStart => exact ⟨0, [], m, Nat.zero_le _, rfl, Keep.refl _ _, rfl, HM.out, h0⟩
  case round =>
    obtain ⟨k, pre, rest, hk, rfl, hK, HX, HI, hJr⟩ := hrel
    have k1 := ((hW.trans hK).boxed b hR).cell
    by_cases hlt : k < n
    · obtain ⟨bb, o, hqe, hc⟩ := (bytes_keep h (hW.trans hK) hq).at (by omega)
      subst hqe
      have hck : wr.cell? ⟨bb, o + k, none⟩ = some (.int .u8 ((bs.getD k 0).toNat : Int)) := by
        rw [← numsL_getD bs k (by rw [hl.out]; exact hlt)]; exact hc k hlt
      rcases items_step bs k rest (by rw [hl.out]; exact hlt) HI.out with ⟨hne, m', hr, hi⟩ | ⟨heq, hk2, hx1, hx2, m', hr, hi⟩
      · generalize bs.getD k 0 = x at *
        have e1 : ((x.toNat : Int) == 37) = false := by
          rw [beq_eq_false_iff_ne]; intro h; exact hne (UInt8.toNat_inj.1 (by have : (37 : UInt8).toNat = 37 := rfl; omega))
        have HX2 := Lib.hid (show m = pre ++ (x, false) :: m' by rw [HX.out, hr])
        have HI2 := Lib.hid hi
        clear HX hr hi hc hne HI h HM
        gi_wp2_with (gi_quiet (fail))
        refine uponIn_yield (hY pre (x, false) _ (fun _ => False) (fun _ => False) #[.int .u8 (x.toNat : Int), .bool false] _ HX2.out (hJ _ _ _ _ _ hJr (Keep.drewN _ _ _) (fun _ h => h.elim)) (fun _ h => h.elim) ⟨rfl, rfl⟩ (fun _ h => h)) ?_ ?_ ?_
        rotate_left
        · rintro c w ⟨_, ⟨h, _⟩ | ⟨h, _⟩⟩ <;> cases h
        · rintro w ⟨_, ⟨h, _⟩ | ⟨h, _⟩⟩ <;> cases h
        clear hY
        rintro v W3 ⟨hk3, (⟨he, hJ3⟩ | ⟨he, hJx3⟩)⟩
        all_goals cases he
        · have hK3 : Keep RB wr W3 := (Keep.drewN RB wr _).trans (hk3.mono fun _ _ h => .inl h)
          gi_wp2
          go_roundw
          case rel => exact ⟨k + 1, pre ++ [(x, false)], m', by omega, by go_num, hK.trans hK3, Lib.hid (by rw [HX2.out]; simp), HI2, hJ _ _ _ _ _ hJ3 (Keep.refl _ _) (fun _ h => h.elim)⟩
          case measure => simp [intOf]; omega
        · gi_wp2
          refine bodyPost_ret (results_none rfl _ _ _) rfl ?_
          exact ⟨⟨_, rfl⟩, fun _ => False, fun _ h => h.elim, .inr ⟨pre ++ [(x, false)], _, by rw [HX2.out, List.append_assoc]; rfl, hJx _ _ _ _ _ hJx3 (Keep.refl _ _) (fun _ h => h.elim)⟩⟩
      · have hk2' : k + 2 < n := by have := hl.out; omega
        have hc1 : wr.cell? ⟨bb, o + (k + 1), none⟩ = some (.int .u8 ((bs.getD (k + 1) 0).toNat : Int)) := by
          rw [← numsL_getD bs (k + 1) (by omega)]; exact hc (k + 1) (by omega)
        have hc2 : wr.cell? ⟨bb, o + (k + 2), none⟩ = some (.int .u8 ((bs.getD (k + 2) 0).toNat : Int)) := by
          rw [← numsL_getD bs (k + 2) (by omega)]; exact hc (k + 2) hk2'
        rw [heq] at hck
        generalize bs.getD (k + 1) 0 = x at *
        generalize bs.getD (k + 2) 0 = y at *
        have HX2 := Lib.hid (show m = pre ++ (pairV x y, true) :: m' by rw [HX.out, hr])
        have HI2 := Lib.hid hi
        clear HX hr hi hc HI h heq hk2 HM
        have s1 : IntKind.i64.wrap ((k : Int) + 1) = (k : Int) + 1 := IntWalk.i64_in _ (by omega)
        have s2 : IntKind.i64.wrap ((k : Int) + 2) = (k : Int) + 2 := IntWalk.i64_in _ (by omega)
        have p1 : (0 : Int) ≤ (k : Int) + 1 := by omega
        have p2 : (0 : Int) ≤ (k : Int) + 2 := by omega
        have q1 : (k : Int) + 1 < (n : Int) := by omega
        have q2 : (k : Int) + 2 < (n : Int) := by omega
        have t1 : ((k : Int) + 1).toNat = k + 1 := by omega
        have t2 : ((k : Int) + 2).toNat = k + 2 := by omega
        gi_wp2_with (gi_quiet (fail))
        refine wpIn_region_quiet_lit rfl (by kernel_rfl) (by kernel_rfl) ?_
        repeat (gi_big_quiet_step (fail))
        refine wpQuietIn_step (fun _ _ _ _ => trivial) (fun K hK => ?_)
        go_simp
        refine ⟨.int .u8 ((worth x).toNat : Int), fun a => (callsIn_wide.2 (worth_same x _ hx1)).mono ?_, ?_⟩
        · rintro e w2 ⟨rfl, rfl⟩; exact ⟨rfl, a, rfl⟩
        refine hK _ ?_
        clear hK K
        repeat (gi_big_quiet_step (fail))
        refine wpQuietIn_step (fun _ _ _ _ => trivial) (fun K hK => ?_)
        go_simp
        refine ⟨.int .u8 ((worth y).toNat : Int), fun a => (callsIn_wide.2 (worth_same y _ hx2)).mono ?_, ?_⟩
        · rintro e w2 ⟨rfl, rfl⟩; exact ⟨rfl, a, rfl⟩
        refine hK _ ?_
        clear hK K
        repeat (gi_big_quiet_step (fail))
        refine wpQuietIn_nil ?_
        rintro w' ⟨nq2, rfl⟩
        rw [or_pair x y hx1 hx2]
        have hdd : ∀ j, Keep RB wr (wr.drewN j) := fun j => Keep.drewN RB wr j
        have hjj : ∀ j, J pre (fun _ => False) (wr.drewN j) := fun j => hJ _ _ _ _ _ hJr (Keep.drewN _ _ j) (fun _ h => h.elim)
        generalize pairV x y = pv at *
        have hpv := u8_lt pv
        clear hx1 hx2 hc1 hc2 hck k1 s1 p1 q1 t1 p2 q2 t2
        gi_wp2
        refine uponIn_yield (hY pre (pv, true) _ (fun _ => False) (fun _ => False) #[.int .u8 (pv.toNat : Int), .bool true] _ HX2.out (hjj _) (fun _ h => h.elim) ⟨rfl, rfl⟩ (fun _ h => h)) ?_ ?_ ?_
        rotate_left
        · rintro c w ⟨_, ⟨h, _⟩ | ⟨h, _⟩⟩ <;> cases h
        · rintro w ⟨_, ⟨h, _⟩ | ⟨h, _⟩⟩ <;> cases h
        clear hY
        rintro v W3 ⟨hk3, (⟨he, hJ3⟩ | ⟨he, hJx3⟩)⟩
        all_goals cases he
        · have hK3 : Keep RB wr W3 := (hdd _).trans (hk3.mono fun _ _ h => .inl h)
          gi_wp2
          go_roundw
          case rel => exact ⟨k + 3, pre ++ [(pv, true)], m', by omega, by go_num, hK.trans hK3, Lib.hid (by rw [HX2.out]; simp), HI2, hJ _ _ _ _ _ hJ3 (Keep.refl _ _) (fun _ h => h.elim)⟩
          case measure => simp [intOf]; omega
        · gi_wp2
          refine bodyPost_ret (results_none rfl _ _ _) rfl ?_
          exact ⟨⟨_, rfl⟩, fun _ => False, fun _ h => h.elim, .inr ⟨pre ++ [(pv, true)], _, by rw [HX2.out, List.append_assoc]; rfl, hJx _ _ _ _ _ hJx3 (Keep.refl _ _) (fun _ h => h.elim)⟩⟩
    · have HX2 := Lib.hid (show m = pre by
        have h1 := HI.out
        rw [List.drop_of_length_le (by rw [hl.out]; omega), items_nil] at h1
        cases h1
        rw [HX.out, List.append_nil])
      clear HX HI h hY HM
      gi_wp2
      refine bodyPost_end (results_none rfl _ _ _) rfl ?_
      exact ⟨⟨_, rfl⟩, fun _ => False, fun _ h => h.elim, .inl (by rw [HX2.out]; exact hJr)⟩

end Go.Proofs.YtkjkfgmoogbdiaaGreatDoor.Pct

namespace Go.Proofs.YtkjkfgmoogbdiaaGreatDoor.Ref
open Go.RowKit Go.Shelf

theorem parse_big (t : List UInt8) (h : 253 < t.length) : Host.parseE t = 3 := by unfold Host.parseE; rw [if_pos h]
theorem parse_host (t : List UInt8) (h : ¬ 253 < t.length) (hh : Host.hostB (splitL 46 t) = true) : Host.parseE t = 0 := by unfold Host.parseE; rw [if_neg h, if_pos hh]
theorem parse_none (t : List UInt8) (h : ¬ 253 < t.length) (hh : Host.hostB (splitL 46 t) = false) : Host.parseE t = 2 := by unfold Host.parseE; rw [if_neg h, if_neg (by rw [hh]; simp)]
end Go.Proofs.YtkjkfgmoogbdiaaGreatDoor.Ref

namespace Go.Proofs.YtkjkfgmoogbdiaaGreatDoor.Brn
open Go.RowKit Go.Shelf Arn
set_option linter.unusedVariables false

/-- A thing as it lies. -/
structure Bx where
  q0 : Option Addr
  n0 : Nat
  c0 : Nat
  q1 : Option Addr
  n1 : Nat
  c1 : Nat
  q2 : Option Addr
  n2 : Nat
  c2 : Nat
def zB : Bx := ⟨none, 0, 0, none, 0, 0, none, 0, 0⟩
def Bx.val (x : Bx) : Value := .agg #[.slice x.q0 x.n0 x.c0, .slice x.q1 x.n1 x.c1, .slice x.q2 x.n2 x.c2]
def gx (s : Sl Bx) : Bx := s.x.getD zB
theorem gx_some {s : Sl Bx} {x : Bx} (h : s.x = some x) : gx s = x := by unfold gx; rw [h]; rfl
theorem gx_none {s : Sl Bx} (h : s.x = none) : gx s = zB := by unfold gx; rw [h]; rfl
/-- The cells of slots. -/
def slC (s : Sl Bx) : List Value := [.slice (gx s).q0 (gx s).n0 (gx s).c0, .slice (gx s).q1 (gx s).n1 (gx s).c1, .slice (gx s).q2 (gx s).n2 (gx s).c2, .int .i64 s.n, .bool s.x.isSome]
def slsC : List (Sl Bx) → List Value
  | [] => []
  | s :: r => slC s ++ slsC r
theorem slsC_len : ∀ l : List (Sl Bx), (slsC l).length = l.length * 5
  | [] => rfl
  | s :: r => by rw [slsC, List.length_append, slsC_len r, List.length_cons]; simp [slC]; omega
theorem slsC_app : ∀ l m : List (Sl Bx), slsC (l ++ m) = slsC l ++ slsC m
  | [], m => rfl
  | s :: r, m => by rw [List.cons_append, slsC, slsC, slsC_app r m, List.append_assoc]
theorem slsC_at : ∀ (l : List (Sl Bx)) (i : Nat) (s : Sl Bx), l[i]? = some s → ∀ j u, (slC s)[j]? = some u → (slsC l)[i * 5 + j]? = some u
  | [], i, s, h => by simp at h
  | t :: r, 0, s, h => by
    obtain rfl : t = s := by simpa using h
    intro j u hu
    rw [slsC, Nat.zero_mul, Nat.zero_add, List.getElem?_append_left (List.getElem?_eq_some_iff.1 hu).1]
    exact hu
  | t :: r, i + 1, s, h => by
    intro j u hu
    have ih := slsC_at r i s (by simpa using h) j u hu
    have e1 : (slC t).length = 5 := rfl
    rw [slsC, List.getElem?_append_right (by rw [e1]; omega), e1, show (i + 1) * 5 + j - 5 = i * 5 + j by omega]
    exact ih
theorem slsC_set : ∀ (l : List (Sl Bx)) (i : Nat) (s : Sl Bx), i < l.length → slsC (l.set i s) = ((((((slsC l).set (i * 5) (.slice (gx s).q0 (gx s).n0 (gx s).c0)).set (i * 5 + 1) (.slice (gx s).q1 (gx s).n1 (gx s).c1)).set (i * 5 + 2) (.slice (gx s).q2 (gx s).n2 (gx s).c2)).set (i * 5 + 3) (.int .i64 s.n)).set (i * 5 + 4) (.bool s.x.isSome))
  | [], i, s, h => by simp at h
  | t :: r, 0, s, h => rfl
  | t :: r, i + 1, s, h => by
    rw [List.set_cons_succ, slsC, slsC_set r i s (by simpa using h), slsC]
    have e1 : (slC t).length = 5 := rfl
    rw [List.set_append_right _ _ (by rw [e1]; omega), List.set_append_right _ _ (by rw [e1]; omega), List.set_append_right _ _ (by rw [e1]; omega), List.set_append_right _ _ (by rw [e1]; omega), List.set_append_right _ _ (by rw [e1]; omega)]
    rw [e1, show (i + 1) * 5 - 5 = i * 5 by omega, show (i + 1) * 5 + 1 - 5 = i * 5 + 1 by omega, show (i + 1) * 5 + 2 - 5 = i * 5 + 2 by omega, show (i + 1) * 5 + 3 - 5 = i * 5 + 3 by omega, show (i + 1) * 5 + 4 - 5 = i * 5 + 4 by omega]
theorem slC_one {s : Sl Bx} : ∀ u ∈ slC s, u.oneCell' = true := by
  intro u hu
  simp only [slC, List.mem_cons, List.not_mem_nil, or_false] at hu
  rcases hu with rfl | rfl | rfl | rfl | rfl <;> rfl

/-- Neither a text nor a byte. -/
def Mt (u : Value) : Prop := (∀ x, Value.string x ≠ u) ∧ ∀ n, Value.int .u8 n ≠ u
/-- An arena lies at block b, its slots in the row v; all from base on. -/
structure At (base b size : Nat) (v : Value) (sl : List (Sl Bx)) (w : World) : Prop where
  bl : BL 117 b #[.int .i64 size, v] w
  lo : base ≤ b
  row : w.ownsRow base 121 5 v sl.length (slsC sl)
  len : sl.length ≤ size
  size1 : 1 ≤ size
  size2 : size ≤ 1024
  all : All Mt v w
/-- All numbers are at most so much. -/
def Few (K : Nat) (sl : List (Sl Bx)) : Prop := ∀ s ∈ sl, s.n ≤ K
theorem At.keep {base b size : Nat} {v : Value} {sl : List (Sl Bx)} {w w' : World} {S : Nat → Prop} (h : At base b size v sl w) (hk : Keep S w w') (h1 : S b) (h2 : ∀ k, v.ownBlock = some k → S k) : At base b size v sl w' :=
  ⟨h.bl.keep hk h1, h.lo, hk.row h.row h2, h.len, h.size1, h.size2, h.all.keep hk fun k e => ⟨h2 k e, (h.row.lt k e).2⟩⟩
theorem At.on {base b size : Nat} {v : Value} {sl : List (Sl Bx)} {w w' : World} (h : At base b size v sl w) (hk : Below w.heap.size w w') : At base b size v sl w' :=
  h.keep (Keep.of_below hk) h.bl.lt fun k hk => (h.row.lt k hk).2
theorem At.form {base b size : Nat} {v : Value} {sl : List (Sl Bx)} {w : World} (h : At base b size v sl w) : (v = .slice none 0 0 ∧ sl = []) ∨ ∃ g cap, v = .slice (some ⟨g, 0, none⟩) sl.length cap := by
  rcases h.row.2 with ⟨rfl, h0⟩ | ⟨g, cap, cur, rfl, _⟩
  · exact .inl ⟨rfl, List.eq_nil_of_length_eq_zero h0⟩
  · exact .inr ⟨g, cap, rfl⟩
theorem At.cells {base b size g cap : Nat} {sl : List (Sl Bx)} {w : World} (h : At base b size (.slice (some ⟨g, 0, none⟩) sl.length cap) sl w) {i : Nat} {s : Sl Bx} (hi : sl[i]? = some s) :
    w.cell? ⟨g, i * 5, none⟩ = some (.slice (gx s).q0 (gx s).n0 (gx s).c0) ∧ w.cell? ⟨g, i * 5 + 1, none⟩ = some (.slice (gx s).q1 (gx s).n1 (gx s).c1) ∧ w.cell? ⟨g, i * 5 + 2, none⟩ = some (.slice (gx s).q2 (gx s).n2 (gx s).c2) ∧ w.cell? ⟨g, i * 5 + 3, none⟩ = some (.int .i64 s.n) ∧ w.cell? ⟨g, i * 5 + 4, none⟩ = some (.bool s.x.isSome) := by
  have hl := (List.getElem?_eq_some_iff.1 hi).1
  have key : ∀ j u, (slC s)[j]? = some u → w.cell? ⟨g, i * 5 + j, none⟩ = some u := fun j u hu => by
    have hj : j < 5 := (List.getElem?_eq_some_iff.1 hu).1
    rw [h.row.cellAt (i * 5 + j) (by omega)]
    exact slsC_at sl i s hi j u hu
  exact ⟨key 0 _ rfl, key 1 _ rfl, key 2 _ rfl, key 3 _ rfl, key 4 _ rfl⟩
/-- The first free slot, or how many there are. -/
def frN {α : Type} (sl : List (Sl α)) : Nat := (freeF sl).getD sl.length

theorem handle_any (g o i n : Nat) (w : World) (hc : w.cell? ⟨g, o + 3, none⟩ = some (.int .i64 n)) (hn : n ≤ 1099511627776) (hi : i ≤ 1024) :
    Calls Tryz.prog 53 #[.pointer (some ⟨g, o, none⟩), .int .i64 i] w fun e w' => e = .returned (.int .i64 (hOf n i)) ∧ w = w' := by
  unfold hOf
  go_enter Tryz.func53, Tryz.ntmps53
  go_wp2
  go_ret
  exact ⟨rfl, rfl⟩

theorem At.sl {base b size : Nat} {v : Value} {sl : List (Sl Bx)} {w : World} (h : At base b size v sl w) : ∃ q cap, v = .slice q sl.length cap ∧ ∀ i s, sl[i]? = some s → ∃ g, q = some ⟨g, 0, none⟩ ∧ w.cell? ⟨g, i * 5, none⟩ = some (.slice (gx s).q0 (gx s).n0 (gx s).c0) ∧ w.cell? ⟨g, i * 5 + 1, none⟩ = some (.slice (gx s).q1 (gx s).n1 (gx s).c1) ∧ w.cell? ⟨g, i * 5 + 2, none⟩ = some (.slice (gx s).q2 (gx s).n2 (gx s).c2) ∧ w.cell? ⟨g, i * 5 + 3, none⟩ = some (.int .i64 s.n) ∧ w.cell? ⟨g, i * 5 + 4, none⟩ = some (.bool s.x.isSome) := by
  rcases h.form with ⟨rfl, rfl⟩ | ⟨g, cap, rfl⟩
  · exact ⟨none, 0, rfl, fun i s hs => by simp at hs⟩
  · exact ⟨some ⟨g, 0, none⟩, cap, rfl, fun i s hs => ⟨g, rfl, h.cells hs⟩⟩
theorem fr_at {α : Type} : ∀ (sl : List (Sl α)) (k : Nat) (s : Sl α), (∀ j t, j < k → sl[j]? = some t → t.x.isSome = true) → sl[k]? = some s → s.x.isSome = false → frN sl = k
  | [], k, s, _, h, _ => by simp at h
  | t :: r, 0, s, _, h, hx => by
    obtain rfl : t = s := by simpa using h
    have : t.x = none := by cases hh : t.x with | none => rfl | some _ => rw [hh] at hx; cases hx
    simp [frN, freeF, this]
  | t :: r, k + 1, s, hf, h, hx => by
    have ht := hf 0 t (by omega) rfl
    have ih := fr_at r k s (fun j u hj hu => hf (j + 1) u (by omega) (by simpa using hu)) (by simpa using h) hx
    unfold frN at ih ⊢
    have : t.x.isNone = false := by cases hh : t.x with | none => rw [hh] at ht; cases ht | some _ => rfl
    rw [freeF, this]
    cases hq : freeF r with
    | none => rw [hq] at ih; simp at ih ⊢; omega
    | some i => rw [hq] at ih; simp at ih ⊢; omega
theorem fr_end {α : Type} (sl : List (Sl α)) (hf : ∀ j t, j < sl.length → sl[j]? = some t → t.x.isSome = true) : frN sl = sl.length := by
  unfold frN
  cases h : freeF sl with
  | none => rfl
  | some i =>
    obtain ⟨s, hs, hx⟩ := free_lt sl i h
    have := hf i s (List.getElem?_eq_some_iff.1 hs).1 hs
    rw [hx] at this
    cases this

set_option maxRecDepth 100000 in
set_option maxHeartbeats 4000000 in
theorem free_any (base b size : Nat) (v : Value) (sl : List (Sl Bx)) (w : World) (h : At base b size v sl w) :
    Calls Tryz.prog 52 #[.pointer (some ⟨b, 0, none⟩)] w fun e w' => e = .returned (.int .i64 (frN sl)) ∧ w = w' := by
  have hl := h.len
  have hs := h.size2
  obtain ⟨q, cap, rfl, hq⟩ := h.sl
  have c1 : w.cell? ⟨b, 1, none⟩ = some (.slice q sl.length cap) := h.bl.cell 1 _ rfl
  obtain ⟨n, hn⟩ : ∃ n, sl.length = n := ⟨_, rfl⟩
  rw [hn] at c1 hl
  have HN := Lib.hid hn
  have HQ := Lib.hid hq
  obtain ⟨f, hf⟩ : ∃ f, frN sl = f := ⟨_, rfl⟩
  rw [hf]
  have HF := Lib.hid hf
  clear h hn hq hf
  go_enter Tryz.func52, Tryz.ntmps52
  go_wp2
  go_loop [9] (fun i => ∃ k : Nat, k ≤ n ∧ i = .int .i64 k ∧ Hid (∀ j t, j < k → sl[j]? = some t → t.x.isSome = true)) (fun i => n - (intOf i).toNat)
  case atStart => exact ⟨0, by omega, rfl, Lib.hid fun j t hj => by omega⟩
  case round =>
    obtain ⟨k, hk, rfl, HR⟩ := hrel
    by_cases hlt : k < n
    · obtain ⟨s, hsk⟩ : ∃ s, sl[k]? = some s := ⟨_, List.getElem?_eq_getElem (by have := HN.out; omega)⟩
      obtain ⟨g, rfl, hcs⟩ := HQ.out k s hsk
      have c2 := hcs.2.2.2.2
      clear hcs
      obtain ⟨bx, hbx⟩ : ∃ bx, s.x.isSome = bx := ⟨_, rfl⟩
      rw [hbx] at c2
      have HB := Lib.hid hbx
      have HS := Lib.hid hsk
      clear hbx hsk
      cases bx with
      | true =>
        have HR2 := Lib.hid (show ∀ j t, j < k + 1 → sl[j]? = some t → t.x.isSome = true from fun j t hj ht => by
          rcases Nat.lt_or_ge j k with h | h
          · exact HR.out j t h ht
          · obtain rfl : j = k := by omega
            have := HS.out
            rw [ht] at this
            cases this
            exact HB.out)
        go_wp2
        go_round
        case rel => exact ⟨k + 1, by omega, by go_num, HR2⟩
        case measure => simp [intOf]; omega
      | false =>
        have HE := Lib.hid (fr_at sl k s HR.out HS.out HB.out)
        go_wp2
        go_ret
        exact ⟨by rw [← HF.out, HE.out]; rfl, rfl⟩
    · have HE := Lib.hid (fr_end sl fun j t hj ht => HR.out j t (by have := HN.out; omega) ht)
      go_wp2
      go_ret
      exact ⟨by rw [← HF.out, HE.out, HN.out]; rfl, rfl⟩

set_option maxRecDepth 100000 in
set_option maxHeartbeats 4000000 in
/-- The slot in which a handle's thing lies. -/
theorem of_any (base b size : Nat) (v : Value) (sl : List (Sl Bx)) (h : Int) (w : World) (ha : At base b size v sl w) (hf : Few 1099511627776 sl) (hh : -9223372036854775808 ≤ h ∧ h ≤ 9223372036854775807) :
    Calls Tryz.prog 65 #[.pointer (some ⟨b, 0, none⟩), .int .i64 h] w fun e w' =>
      ((findS sl h = none ∧ e = .returned (.pointer none)) ∨ ∃ g cap i, v = .slice (some ⟨g, 0, none⟩) sl.length cap ∧ findS sl h = some i ∧ e = .returned (.pointer (some ⟨g, i * 5, none⟩))) ∧ w = w' := by
  have hl := ha.len
  have hs := ha.size2
  obtain ⟨q, cap, rfl, hq⟩ := ha.sl
  have c1 : w.cell? ⟨b, 1, none⟩ = some (.slice q sl.length cap) := ha.bl.cell 1 _ rfl
  obtain ⟨n, hn⟩ : ∃ n, sl.length = n := ⟨_, rfl⟩
  rw [hn] at c1 hl
  have HN := Lib.hid hn
  have HQ := Lib.hid hq
  have HFW := Lib.hid hf
  clear ha hn hq hf
  by_cases h0 : h < 0
  · have HE := Lib.hid (show findS sl h = none by unfold findS; rw [if_pos h0])
    have d0 : decide (h < 0) = true := decide_eq_true h0
    go_enter Tryz.func65, Tryz.ntmps65
    go_wp2
    go_ret
    exact ⟨.inl ⟨HE.out, rfl⟩, rfl⟩
  · have d0 : decide (h < 0) = false := decide_eq_false h0
    obtain ⟨k, hk⟩ : ∃ k : Nat, h % 1024 = (k : Int) := ⟨(h % 1024).toNat, by omega⟩
    have hk2 : k < 1024 := by omega
    have hke : (h % 1024).toNat = k := by omega
    have hg : 0 ≤ h := by omega
    have ht : h.tmod 1024 = (k : Int) := by rw [Int.tmod_eq_emod_of_nonneg hg]; exact hk
    by_cases hlt : k < n
    · obtain ⟨s, hsk⟩ : ∃ s, sl[k]? = some s := ⟨_, List.getElem?_eq_getElem (by have := HN.out; omega)⟩
      obtain ⟨g, rfl, hcs⟩ := HQ.out k s hsk
      have c3 := hcs.2.2.2.1
      have c2 := hcs.2.2.2.2
      clear hcs
      have hsn := HFW.out s (List.mem_of_getElem? hsk)
      obtain ⟨m, hm⟩ : ∃ m, s.n = m := ⟨_, rfl⟩
      obtain ⟨bx, hbx⟩ : ∃ bx, s.x.isSome = bx := ⟨_, rfl⟩
      rw [hbx] at c2
      rw [hm] at c3 hsn
      have HE := Lib.hid (show findS sl h = if bx = true ∧ (m : Int) = h / 1024 then some k else none by unfold findS; rw [if_neg h0, hke, hsk]; show (if s.x.isSome = true ∧ (s.n : Int) = h / 1024 then some k else none) = _; rw [hbx, hm])
      have hh := handle_any g (k * 5) k m w c3 hsn (by omega)
      unfold hOf at hh
      have HH := Lib.hid hh
      have HK := Lib.hid hk
      clear hbx hm hsk hke h0 hh
      cases bx with
      | false =>
        go_enter Tryz.func65, Tryz.ntmps65
        go_wp2
        go_ret
        exact ⟨.inl ⟨by rw [HE.out]; simp, rfl⟩, rfl⟩
      | true =>
        obtain ⟨y, hy⟩ : ∃ y : Int, (m : Int) * 1024 + (k : Int) = y := ⟨_, rfl⟩
        have con := HH.out
        unfold hOf at con
        rw [hy] at con
        obtain ⟨be, hbe⟩ : ∃ be, (y == h) = be := ⟨_, rfl⟩
        have HY := Lib.hid hy
        have HBE := Lib.hid hbe
        clear hy
        cases be with
        | true =>
          have hz : findS sl h = some k := by
            rw [HE.out, if_pos ⟨rfl, by have := eq_of_beq HBE.out; have := HY.out; have := HK.out; omega⟩]
          have HZ := Lib.hid hz
          clear hz
          go_enter Tryz.func65, Tryz.ntmps65
          go_wp2_with fail
          refine con.mono ?_
          rintro e w' ⟨rfl, rfl⟩
          clear con
          go_wp2
          go_ret
          exact ⟨.inr ⟨g, cap, k, by rw [HN.out], HZ.out, rfl⟩, rfl⟩
        | false =>
          have hz : findS sl h = none := by
            rw [HE.out, if_neg (fun hc => by have := ne_of_beq_false HBE.out; have := HY.out; have := HK.out; omega)]
          have HZ := Lib.hid hz
          clear hz
          go_enter Tryz.func65, Tryz.ntmps65
          go_wp2_with fail
          refine con.mono ?_
          rintro e w' ⟨rfl, rfl⟩
          clear con
          go_wp2
          go_ret
          exact ⟨.inl ⟨HZ.out, rfl⟩, rfl⟩
    · have HE := Lib.hid (show findS sl h = none by unfold findS; rw [if_neg h0, hke, List.getElem?_eq_none (by have := HN.out; omega)])
      clear hke h0
      go_enter Tryz.func65, Tryz.ntmps65
      go_wp2
      go_ret
      exact ⟨.inl ⟨HE.out, rfl⟩, rfl⟩
end Go.Proofs.YtkjkfgmoogbdiaaGreatDoor.Brn

namespace Go.Proofs.YtkjkfgmoogbdiaaGreatDoor
open Go.RowKit Go.Shelf
attribute [local go_sem] Oper.semAt_some

theorem strOfNums_numsL (x : List UInt8) : strOfNums (Lib.numsL x) = ⟨x.toArray⟩ := by
  unfold strOfNums
  rw [show (Lib.numsL x).map (fun n => UInt8.ofNat n.toNat) = x from Lib.bytesOf_numsL x]
end Go.Proofs.YtkjkfgmoogbdiaaGreatDoor

namespace Go.Proofs.YtkjkfgmoogbdiaaGreatDoor
open Go.RowKit Go.Shelf
attribute [local go_sem] Oper.semAt_some

/-- A number and a piece that is handed over with its memory. -/
def NumRowArg (x : Nat × List UInt8) (args : Array Value) (G : Nat → Prop) (W : World) : Prop :=
  ∃ v, args = #[.int .i64 x.1, v] ∧ W.ownsRow 0 5 1 v x.2.length ((Lib.numsL x.2).map (Value.int .u8)) ∧ G = fun b => v.ownBlock = some b

/-- The pieces of a text, counted, out of their bounds. -/
def splitOf (l : List UInt8) (xs : List (Nat × Nat)) : List (Nat × List UInt8) := xs.zipIdx.map fun x => (x.2, sub l x.1.1 x.1.2)
def splitX (c : UInt8) (l : List UInt8) : List (Nat × List UInt8) := splitOf l (spansL (isB c) l)
theorem splitOf_snoc (l : List UInt8) (pre : List (Nat × Nat)) (x : Nat × Nat) : splitOf l (pre ++ [x]) = splitOf l pre ++ [(pre.length, sub l x.1 x.2)] := by
  unfold splitOf
  simp [List.zipIdx_append]
theorem splitOf_mid (c : UInt8) (l : List UInt8) (pre : List (Nat × Nat)) (x : Nat × Nat) (rest : List (Nat × Nat)) (hx : spansL (isB c) l = pre ++ x :: rest) : ∃ r, splitX c l = splitOf l pre ++ (pre.length, sub l x.1 x.2) :: r := by
  unfold splitX splitOf
  rw [hx]
  simp [List.zipIdx_append]
theorem spansGo_len (p : UInt8 → Bool) : ∀ (l : List UInt8) (i f : Nat), (spansGo p l i f).length ≤ l.length + 1
  | [], i, f => by simp [spansGo]
  | b :: r, i, f => by
    unfold spansGo
    split
    · have := spansGo_len p r (i + 1) (i + 1); simp; omega
    · have := spansGo_len p r (i + 1) f; simp; omega

theorem Split_any (q : Option Addr) (n c : Nat) (by_ : UInt8) (l : List UInt8) (w : World) (hl : l.length = n) (hn : n ≤ 140737488355328) (h : Lib.BytesIn w q n (Lib.numsL l)) :
    Calls Tryz.prog 57 #[.slice q n c, .int .u8 (by_.toNat : Int)] w fun e w' => ∃ B v', e = .returned (.func (.func 78) #[] #[.pointer (some ⟨B, 0, none⟩), .pointer (some ⟨w.heap.size, 0, none⟩)]) ∧
      Boxed w' B 30 v' ∧ Boxed w' w.heap.size 5 (.int .u8 (by_.toNat : Int)) ∧ w'.ownsRow (w.heap.size + 1) 5 1 v' n ((Lib.numsL l).map (Value.int .u8)) ∧ w.heap.size + 1 ≤ B ∧ Below w.heap.size w w' := by
  have hb2 := bytes_keep h (Keep.alloc (fun _ => True) w (.cells #[.int .u8 (by_.toNat : Int)] 5)) (fun _ _ _ => trivial)
  have hcon := Clone_any q n c l _ hl hn hb2
  have b1 := Boxed.new w 5 (.int .u8 (by_.toNat : Int))
  have hB1 := (Below.refl w.heap.size w).alloc (Nat.le_refl _) (.cells #[.int .u8 (by_.toNat : Int)] 5)
  rw [World.size_alloc] at hcon
  clear h hb2
  go_enter Tryz.func57, Tryz.ntmps57
  go_wp2_with fail
  refine hcon.mono ?_
  rintro e w1 ⟨v', rfl, hrow, hbel⟩
  obtain ⟨q', c', rfl, _, _, _, _, hblk⟩ := row_open hrow
  have b2 := (Keep.of_below hbel).boxed b1 (Nat.lt_succ_self _)
  have hB2 := hB1.trans (hbel.mono (Nat.le_succ _))
  have hsz := hbel.size
  clear b1 hB1
  go_wp2
  go_ret
  exact ⟨w1.heap.size, _, rfl, Boxed.new w1 _ _, b2.alloc _, hrow.alloc _, by simpa using hsz, hB2.alloc hB2.size _⟩

set_option maxRecDepth 100000 in
set_option maxHeartbeats 2000000 in
theorem Split1_iter (B Bc : Nat) (by_ : UInt8) (q : Option Addr) (n c : Nat) (l : List UInt8) (RB : Nat → Prop) (w0 : World)
    (hl : l.length = n) (hn : n ≤ 140737488355328) (hnc : n ≤ c) (hb : Lib.BytesIn w0 q n (Lib.numsL l)) (hq : ∀ a, q = some a → 0 < n → RB a.block)
    (hB : Boxed w0 B 30 (.slice q n c)) (hRB : RB B) (hBc : Boxed w0 Bc 5 (.int .u8 (by_.toNat : Int))) (hRBc : RB Bc) (hRs : ∀ b, RB b → b < w0.heap.size) :
    IterC Tryz.prog 78 #[.pointer (some ⟨B, 0, none⟩), .pointer (some ⟨Bc, 0, none⟩)] NumRowArg (splitX by_ l) RB w0 := by
  intro l' J Jx W hW hJ hJx hY h0
  refine (callsIn_wide (n := 1)).1 ?_
  refine callsIn_of_wp_marks Tryz.func78 rfl trivial ?_ rfl
  simp only [Tryz.ntmps78, List.size_toArray, List.length_cons, List.length_nil, Nat.reduceAdd, Nat.reduceSub, Array.replicate_succ, Array.replicate_zero, List.push_toArray, List.append_toArray, List.nil_append, List.cons_append]
  have aB0 := hW.boxed hB hRB
  have aBc0 := hW.boxed hBc hRBc
  have bB := aB0.cell
  have bBc := aBc0.cell
  gi_wp2
  have ccB : ∀ o o', ((W.alloc o).alloc o').cell? ⟨B, 0, none⟩ = some (.slice q n c) := fun o o' => ((aB0.alloc o).alloc o').cell
  have ccC : ∀ o o', ((W.alloc o).alloc o').cell? ⟨Bc, 0, none⟩ = some (.int .u8 (by_.toNat : Int)) := fun o o' => ((aBc0.alloc o).alloc o').cell
  have ccB3 : ∀ o o' o'', (((W.alloc o).alloc o').alloc o'').cell? ⟨B, 0, none⟩ = some (.slice q n c) := fun o o' o'' => (((aB0.alloc o).alloc o').alloc o'').cell
  have ccC3 : ∀ o o' o'', (((W.alloc o).alloc o').alloc o'').cell? ⟨Bc, 0, none⟩ = some (.int .u8 (by_.toNat : Int)) := fun o o' o'' => (((aBc0.alloc o).alloc o').alloc o'').cell
  have ccB5 : ∀ o o' o'' p p', (((((W.alloc o).alloc o').alloc o'').alloc p).alloc p').cell? ⟨B, 0, none⟩ = some (.slice q n c) := fun o o' o'' p p' => (((((aB0.alloc o).alloc o').alloc o'').alloc p).alloc p').cell
  have ccC5 : ∀ o o' o'' p p', (((((W.alloc o).alloc o').alloc o'').alloc p).alloc p').cell? ⟨Bc, 0, none⟩ = some (.int .u8 (by_.toNat : Int)) := fun o o' o'' p p' => (((((aBc0.alloc o).alloc o').alloc o'').alloc p).alloc p').cell
  refine region_any (fun w => w.cell? ⟨B, 0, none⟩ = some (.slice q n c) ∧ w.cell? ⟨Bc, 0, none⟩ = some (.int .u8 (by_.toNat : Int))) (by kernel_rfl) ?_
  refine anyH_take 0 (v := .slice q n c) rfl (by kernel_rfl) (by kernel_rfl) (by kernel_rfl) (by kernel_rfl) (fun _ _ _ h => h) ⟨.inl ⟨by rfl, ?_⟩, fun _ => rfl⟩ ⟨ccB _ _, ccC _ _⟩ ?_
  · rintro w ⟨h1, h2⟩; go_simp
  refine anyH_take 1 (v := .int .u8 (by_.toNat : Int)) rfl (by kernel_rfl) (by kernel_rfl) (by kernel_rfl) (by kernel_rfl) (fun _ _ _ h => h) ⟨.inl ⟨by rfl, ?_⟩, fun _ => rfl⟩ ⟨ccB _ _, ccC _ _⟩ ?_
  · rintro w ⟨h1, h2⟩; go_simp
  refine anyH_one 2 (by kernel_rfl) rfl fun K hK => ?_
  go_simp
  refine ⟨trivial, (callsIn_wide.2 (isByte_any by_ _)).mono ?_⟩
  rintro e w' ⟨rfl, rfl⟩
  refine hK _ _ ⟨ccB3 _ _ _, ccC3 _ _ _⟩ ?_
  clear hK K
  refine anyH_one 3 (by kernel_rfl) rfl fun K hK => ?_
  go_simp
  refine ⟨trivial, (callsIn_wide.2 (spans_any _ _ _ _ _ _)).mono ?_⟩
  rintro e w' ⟨rfl, rfl⟩
  refine hK _ _ ⟨ccB5 _ _ _ _ _, ccC5 _ _ _ _ _⟩ ?_
  clear hK K
  refine anyH_done (by kernel_rfl) ?_ _
  clear ccB ccC ccB3 ccC3 ccB5 ccC5
  simp only [drew_alloc, drew_size, World.size_alloc]
  gi_wp2
  obtain ⟨W1, hW1, a0, ai, a2, a3, a4, hsz, hk1⟩ := five_boxes W 153 3 5 30 152 (.func (.yield l') #[] #[]) (.int .i64 0) (.int .u8 (by_.toNat : Int)) (.slice q n c) (.func (.func 98) #[] #[.pointer (some ⟨W.heap.size + 1 + 1, 0, none⟩)])
  rw [hW1]
  clear hW1
  obtain ⟨RBin, hRBin⟩ : ∃ RBin : Nat → Prop, RBin = fun b => RB b ∨ b = W.heap.size ∨ b = W.heap.size + 1 + 1 ∨ b = W.heap.size + 1 + 1 + 1 ∨ b = W.heap.size + 1 + 1 + 1 + 1 := ⟨_, rfl⟩
  obtain ⟨Ow, hOw⟩ : ∃ Ow : Nat → Prop, Ow = fun b => W.heap.size ≤ b ∧ b < W1.heap.size := ⟨_, rfl⟩
  have hW0 := hW.size
  have hRl : ∀ b, RBin b → b < W1.heap.size := fun b hb => by rw [hRBin] at hb; rcases hb with hb | hb; (have := hRs b hb; omega); omega
  have hRi : ¬ RBin (W.heap.size + 1) := fun hb => by rw [hRBin] at hb; rcases hb with hb | hb; (have := hRs _ hb; omega); omega
  have hRBo : ∀ b, RB b → RBin b := fun b hb => by rw [hRBin]; exact .inl hb
  have hOwR : ∀ b, RBin b → RB b ∨ Ow b := fun b hb => by
    have h1 := hRl b hb
    rw [hRBin] at hb; rw [hOw]
    rcases hb with hb | hb
    · exact .inl hb
    · exact .inr ⟨by omega, h1⟩
  have r0 : RBin W.heap.size := by rw [hRBin]; exact .inr (.inl rfl)
  have r2 : RBin (W.heap.size + 1 + 1) := by rw [hRBin]; exact .inr (.inr (.inl rfl))
  have r3 : RBin (W.heap.size + 1 + 1 + 1) := by rw [hRBin]; exact .inr (.inr (.inr (.inl rfl)))
  have r4 : RBin (W.heap.size + 1 + 1 + 1 + 1) := by rw [hRBin]; exact .inr (.inr (.inr (.inr rfl)))
  have hOwl : ∀ b, Ow b → W.heap.size ≤ b ∧ b < W1.heap.size := fun b hb => by rw [hOw] at hb; exact hb
  have o0 : Ow W.heap.size := by rw [hOw]; exact ⟨Nat.le_refl _, by omega⟩
  have oi : Ow (W.heap.size + 1) := by rw [hOw]; exact ⟨by omega, by omega⟩
  clear hRBin hOw
  have hil : W.heap.size + 1 < W1.heap.size := by omega
  have hb1 : Lib.BytesIn W1 q n (Lib.numsL l) := bytes_keep hb (hW.trans (hk1 RB)) hq
  have aB := (hk1 RB).boxed aB0 hRB
  refine rf_law (gf := 97) (lb := #[.pointer (some ⟨W.heap.size + 1 + 1 + 1, 0, none⟩), .pointer (some ⟨W.heap.size + 1 + 1 + 1 + 1, 0, none⟩)]) rfl (enters_of Tryz.func97 (by kernel_rfl) rfl)
    (spans1_iter (W.heap.size + 1 + 1 + 1) (W.heap.size + 1 + 1 + 1 + 1) q n c 98 #[.pointer (some ⟨W.heap.size + 1 + 1, 0, none⟩)] l (isB by_) RBin W1 hl hn hb1 (fun a h1 h2 => hRBo _ (hq a h1 h2)) a3 a4 r3 r4
      (isByte_tests by_ (W.heap.size + 1 + 1) RBin W1 a2 r2)) (Keep.refl _ _) hRl (fun x args G W h => by rw [h.1]; rfl)
    (AdI RBin Ow W1 J (splitOf l) (fun pre Wr => Boxed Wr (W.heap.size + 1) 3 (.int .i64 pre.length))) (AdX J Jx (splitX by_ l)) (AdI_abide hJ hRl (fun _ _ _ hk h => hk.boxed h hil)) (AdX_abide hJ hJx)
    ⟨Keep.refl _ _, (fun _ h => h.elim), ai, Ow, hJ _ _ _ _ _ h0 (hk1 _) (fun b hb => ⟨.inr (hOwl b hb).1, (hOwl b hb).2⟩), (fun _ h => h.elim), (fun _ h => h), (fun b hb => (hOwl b hb).2)⟩ ?round ?done ?stop
  case round =>
    rintro ll pre ⟨f, t⟩ rest Pv G args Wr hll hxs ⟨hKI, hge, hEi, Q, hj, hPQ, hOQ, hQl⟩ hPl hGl hPb hGP ⟨rfl, rfl⟩
    gi_wp2
    refine ⟨Keep.refl _ _, fun W2 hk2 hs2 r hr => ?_⟩
    have hbd := spansL_bounds (isB by_) l (f, t) (by rw [hxs]; simp)
    have hpl : pre.length ≤ n := by
      have h1 := spansGo_len (isB by_) l 0 0
      have h2 : (spansL (isB by_) l).length = pre.length + (rest.length + 1) := by rw [hxs]; simp
      unfold spansL at h2
      omega
    simp only at hbd
    have hlW : W1.heap.size ≤ ll := hge ll hPl
    have hPi : ¬ Pv (W.heap.size + 1) := fun h => by have := hge _ h; omega
    have j2 : J (splitOf l pre) Q W2 := hJ _ _ _ _ _ hj (hk2.mono fun b _ hb => by rintro rfl; exact hb (hPQ _ hPl)) fun b hb => ⟨.inl hb, by have := hQl b hb; omega⟩
    have k2 : Keep RBin W1 W2 := hKI.trans (hk2.mono fun b _ hb => by have := hRl b hb; omega)
    have hQ2 : ∀ b, Q b → b < W2.heap.size := fun b hb => by have := hQl b hb; omega
    have b0 := k2.boxed a0 r0
    have bi := hk2.boxed hEi (by omega)
    have bB := k2.boxed aB (hRBo _ hRB)
    have c0 := b0.cell
    have ci := bi.cell
    have cB := bB.cell
    have hsl := run_slice_sub q n c f t
    obtain ⟨r, hys⟩ := splitOf_mid by_ l pre (f, t) rest hxs
    have hbs : Lib.BytesIn W2 (subA q c f) (t - f) (Lib.numsL (sub l f t)) := bytes_sub (bytes_keep hb1 k2 (fun a h1 h2 => hRBo _ (hq a h1 h2))) hl hbd.1 (by omega) hnc
    have hm := sub_length l f t hbd.2
    have con2 := Clone_any (subA q c f) (t - f) (c - f) (sub l f t) W2.drew hm (by omega) hbs
    have hft : f ≤ t := hbd.1
    have htc : t ≤ c := by omega
    have HSL := fun W => hsl W hft htc
    have after : ∀ w4 v4, w4.ownsRow W2.heap.size 5 1 v4 (t - f) ((Lib.numsL (sub l f t)).map (Value.int .u8)) → Below W2.heap.size W2 w4 →
        w4.cell? ⟨W.heap.size, 0, none⟩ = some (.func (.yield l') #[] #[]) ∧ w4.cell? ⟨W.heap.size + 1, 0, none⟩ = some (.int .i64 pre.length) ∧ w4.cell? ⟨B, 0, none⟩ = some (.slice q n c) ∧
        YieldAt Fence.wide 0 Tryz.prog l' #[.int .i64 pre.length, v4] w4 fun e W' => ∃ ok : Bool, e = .returned (.bool ok) ∧ RowPost J Jx (splitOf l pre ++ [(pre.length, sub l f t)]) RB Q W2 ok W' := by
      intro w4 v4 h1 hbw
      refine ⟨((Keep.of_below hbw).boxed b0 b0.lt).cell, ((Keep.of_below hbw).boxed bi bi.lt).cell, ((Keep.of_below hbw).boxed bB bB.lt).cell, ?_⟩
      exact yield_arg (v4 := v4) hJ hY hys j2 hQ2 hbw (fun b h => h1.lt b h) ⟨v4, rfl, by rw [show (sub l f t).length = t - f from hm]; exact row_base h1 (Nat.zero_le _), rfl⟩
    have HX2 := Lib.hid (splitOf_snoc l pre (f, t))
    have HY := Lib.hid hys
    clear hbs hbd hb1 hxs hys hsl hY hb hq hs2
    gi_wp2_with fail
    refine region_any (fun w => w.cell? ⟨W.heap.size, 0, none⟩ = some (.func (.yield l') #[] #[]) ∧ w.cell? ⟨W.heap.size + 1, 0, none⟩ = some (.int .i64 pre.length) ∧ w.cell? ⟨B, 0, none⟩ = some (.slice q n c)) (by kernel_rfl) ?_
    refine anyH_take 0 (v := .func (.yield l') #[] #[]) rfl (by kernel_rfl) (by kernel_rfl) (by kernel_rfl) (by kernel_rfl) (fun _ _ _ h => h) ⟨.inl ⟨by rfl, ?_⟩, fun _ => rfl⟩ ⟨c0, ci, cB⟩ ?_
    · rintro w ⟨h1, h2, h3⟩; go_simp
    refine anyH_take 1 (v := .int .i64 pre.length) rfl (by kernel_rfl) (by kernel_rfl) (by kernel_rfl) (by kernel_rfl) (fun _ _ _ h => h) ⟨.inl ⟨by rfl, ?_⟩, fun _ => rfl⟩ ⟨c0, ci, cB⟩ ?_
    · rintro w ⟨h1, h2, h3⟩; go_simp
    refine anyH_take 2 (v := .slice q n c) rfl (by kernel_rfl) (by kernel_rfl) (by kernel_rfl) (by kernel_rfl) (fun _ _ _ h => h) ⟨.inl ⟨by rfl, ?_⟩, fun _ => rfl⟩ ⟨c0, ci, cB⟩ ?_
    · rintro w ⟨h1, h2, h3⟩; go_simp
    refine anyH_take 3 (v := .int .i64 f) rfl (by kernel_rfl) (by kernel_rfl) (by kernel_rfl) (by kernel_rfl) (fun _ _ _ h => h) ⟨.inl ⟨by rfl, ?_⟩, fun _ => rfl⟩ ⟨c0, ci, cB⟩ ?_
    · rintro w ⟨h1, h2, h3⟩; go_simp
    refine anyH_take 4 (v := .int .i64 t) rfl (by kernel_rfl) (by kernel_rfl) (by kernel_rfl) (by kernel_rfl) (fun _ _ _ h => h) ⟨.inl ⟨by rfl, ?_⟩, fun _ => rfl⟩ ⟨c0, ci, cB⟩ ?_
    · rintro w ⟨h1, h2, h3⟩; go_simp
    refine anyH_take 5 (v := .slice (subA q c f) (t - f) (c - f)) rfl (by kernel_rfl) (by kernel_rfl) (by kernel_rfl) (by kernel_rfl) (fun _ _ _ h => h) ⟨.inl ⟨by rfl, ?_⟩, fun _ => rfl⟩ ⟨c0, ci, cB⟩ ?_
    · rintro w ⟨h1, h2, h3⟩; go_simp
    refine anyH_one 6 (by kernel_rfl) rfl fun K hK => ?_
    go_simp
    refine ⟨trivial, rfl, (CallsIn.inRound ll (callsIn_wide.2 con2)).mono ?_⟩
    rintro e w4 ⟨v4, rfl, hrow4, hbel4⟩
    obtain ⟨d0, di, dB, fn, tmps, assign, body, hy, hR⟩ := after w4 v4 hrow4 ⟨hbel4.os, hbel4.tape, hbel4.output, hbel4.size, hbel4.block⟩
    refine hK _ _ ⟨d0, di, dB⟩ ?_
    clear hK K
    refine anyH_one 7 (by kernel_rfl) rfl fun K hK => ?_
    go_simp
    refine ⟨rfl, RoundIn.mono hR ?_⟩
    rintro e W5 ⟨ok, rfl, hpost⟩
    have ei := hpost.1.boxed bi (.inr (hOQ _ oi))
    have eS := And.intro (hpost.1.boxed b0 (.inr (hOQ _ o0))).cell (And.intro ei.cell (hpost.1.boxed bB (.inl hRB)).cell)
    refine hK _ _ eS ?_
    clear hK K
    refine anyH_take 8 (v := .bool (!ok)) rfl (by kernel_rfl) (by kernel_rfl) (by kernel_rfl) (by kernel_rfl) (fun _ _ _ h => h) ⟨.inl ⟨by rfl, ?_⟩, fun _ => rfl⟩ eS ?_
    · rintro w ⟨h1, h2, h3⟩; go_simp
    refine anyH_done (by kernel_rfl) ?_ _
    obtain ⟨hkp, Q', hQQ, hQl', hpost⟩ := hpost
    have hkk : Keep (fun b => RBin b ∨ Pv b) W2 W5 := hkp.mono fun b _ h => h.elim (fun h => (hOwR b h).imp id (hOQ b)) (fun h => .inr (hPQ b h))
    have fi := ei.frozen
    have ci5 := ei.cell
    clear hkp after con2 HSL hy hR hrow4 hbel4 d0 di dB eS c0 ci cB
    cases ok with
    | true =>
      have hj5 := (hpost.resolve_right (by simp)).2
      clear hpost
      gi_wp2
      have kst : ∀ S : Nat → Prop, ¬ S (W.heap.size + 1) → Keep S W5 (W5.setCell ⟨W.heap.size + 1, 0, none⟩ (.int .i64 (pre.length + 1))) := fun S h => Keep.setCell _ _ _ h
      refine ⟨hkk.trans (kst _ (fun h => h.elim hRi hPi)), k2.trans ((hkk.mono fun b _ h => .inl h).trans (kst _ hRi)), fun b hb => hge b hb, ?_, Q', ?_, fun b hb => hQQ b (hPQ b hb), fun b hb => hQQ b (hOQ b hb), fun b hb => ?_⟩
      · have := ei.set (.int .i64 ((pre.length : Int) + 1))
        simpa using this
      · rw [HX2.out]
        exact hJ _ _ _ _ _ hj5 (kst _ (fun h => h (hQQ _ (hOQ _ oi)))) (fun b hb => ⟨.inl hb, Nat.lt_of_lt_of_le (hQl' b hb) (kst (fun _ => False) (fun h => h)).size⟩)
      · exact Nat.lt_of_lt_of_le (hQl' b hb) (kst (fun _ => False) (fun h => h)).size
    | false =>
      have hj5 := (hpost.resolve_left (by simp)).2
      clear hpost
      gi_wp2
      exact ⟨hkk, rfl, Q', fun b hb => hQQ b (hPQ b hb), hQl', .inr ⟨_, r, by rw [HY.out, List.append_assoc]; rfl, hj5⟩⟩
  case done =>
    rintro D Pv Wd hD hPD hPl ⟨_, hge, _, Q, hj, hPQ, hOQ, hQl⟩ hK
    gi_wp2
    refine ⟨by simp, .inl ⟨_, _, rfl, run_takeDeferred hK, ?_⟩⟩
    refine ⟨_, results_none rfl _ _ _, ⟨_, rfl⟩, Q, ?_, .inl ?_⟩
    · intro b hb; rw [World.putObj_size]; exact hQl b hb
    · exact hJ _ _ _ _ _ hj (Keep.putObj _ _ _ (fun h => h (hPQ D hPD))) (fun b hb => ⟨.inl hb, by rw [World.putObj_size]; exact hQl b hb⟩)
  case stop =>
    rintro D cc pre rest Pv Wd hD hPD hPl hxs ⟨rfl, Q, hPQ, hQl, hj⟩ hK
    gi_wp2
    refine ⟨by simp, .inl ⟨_, _, rfl, run_takeDeferred hK, ?_⟩⟩
    refine ⟨_, results_none rfl _ _ _, ⟨_, rfl⟩, Q, ?_, ?_⟩
    · intro b hb; rw [World.putObj_size]; exact hQl b hb
    · have hkp : Keep (fun b => ¬ Q b) Wd (Wd.putObj D (.deferred none)) := Keep.putObj _ _ _ (fun h => h (hPQ D hPD))
      have hqp : ∀ b, Q b → (Q b ∨ Wd.heap.size ≤ b) ∧ b < (Wd.putObj D (.deferred none)).heap.size := fun b hb => ⟨.inl hb, by rw [World.putObj_size]; exact hQl b hb⟩
      rcases hj with hj | ⟨pre', rest', he, hj⟩
      · exact .inl (hJ _ _ _ _ _ hj hkp hqp)
      · exact .inr ⟨pre', rest', he, hJx _ _ _ _ _ hj hkp hqp⟩

end Go.Proofs.YtkjkfgmoogbdiaaGreatDoor

namespace Go.Proofs.YtkjkfgmoogbdiaaGreatDoor
open Go.RowKit Go.Shelf Go.Sort

/-- 'append(dst, src...)', dst the call's own, src whatever row. -/
theorem wpList_append_row {α : Type} {enc : α → Value} {ops : Array Oper} {rest : List Oper} {o : Oper} {a : Act} {w : World} {Q : Exit → Act → World → Prop} (hgd : o.guard = none) (s x : Operand) (t ty : TypeId)
    (ho : o.op = .call { callee := .builtin .append, args := #[s, x], argTypes := #[t, t] }) (i0 : TypeInfo) (z : Value) (bytes : Nat) (ht : Tryz.prog.underlying t = some (.slice ty)) (hi0 : Tryz.prog.info? ty = some i0) (hz0 : i0.zero = some z) (hz1 : i0.size = 1) (hz2 : i0.bytes = bytes) (hz3 : z.cells.size = 1)
    (h1 : ∀ u, (enc u).oneCell' = true) (hby : bytes ≤ 16)
    (base : Nat) (v : Value) (n : Nat) (xs : List Value) (hs : a.eval s = v) (hown : w.ownsRow base ty 1 v n xs) (q : Option Addr) (m c : Nat) (zs : List α) (hx : a.eval x = .slice q m c) (hq : q = none → c = 0)
    (hb : SlIn enc w q m zs) (h47 : n + m ≤ 2199023255552) (hbase : base ≤ w.heap.size)
    (h : ∀ v' w', w'.ownsRow base ty 1 v' (n + m) (xs ++ zs.map enc) → w.grownBy w' v.ownBlock → wpList Tryz.prog ops Q rest (a.put o.dst v') w') : wpList Tryz.prog ops Q (o :: rest) a w := by
  cases q with
  | none =>
    obtain rfl := hq rfl
    have hm : m = 0 := by
      rcases Nat.eq_zero_or_pos m with h0 | h0
      · exact h0
      · obtain ⟨b, o, he, _⟩ := hb.at h0; cases he
    subst hm
    obtain rfl : zs = [] := List.eq_nil_of_length_eq_zero hb.1
    refine wpList_append_own_none hgd s x _ ho base ty i0 1 ht hi0 v n xs hs hown hx (h v w ?_ ⟨rfl, rfl, rfl, Nat.le_refl _, fun _ _ _ => rfl⟩)
    simpa using hown
  | some ad =>
    have hbb : (n + m) * bytes ≤ (n + m) * 16 := Nat.mul_le_mul_left _ hby
    refine wpList_append_own w hgd s x _ ho base ty i0 z 1 bytes ht hi0 hz0 hz1 hz2 hz3 (by decide) v n xs hs hown ad m c (zs.map enc) hx (by simp [hb.1]) (fun j u hj => ?_) (fun u hu => by obtain ⟨y, _, rfl⟩ := List.mem_map.1 hu; exact h1 y) (by unfold maxLen; omega) (by omega) hbase (fun v' w' h1 h2 _ => h v' w' h1 h2)
    rw [List.getElem?_map] at hj
    cases hy : zs[j]? with
    | none => rw [hy] at hj; cases hj
    | some y =>
      rw [hy] at hj
      cases hj
      have hjl : j < zs.length := (List.getElem?_eq_some_iff.1 hy).1
      obtain ⟨b, o, he, _, hcc⟩ := hb.at (by have := hb.1; omega)
      cases he
      rw [Go.WideShapes.add_plain]
      exact hcc j y hy

end Go.Proofs.YtkjkfgmoogbdiaaGreatDoor

namespace Go.Proofs.YtkjkfgmoogbdiaaGreatDoor.Pct
open Go.RowKit Go.Shelf
attribute [local go_sem] Oper.semAt_some

theorem appended_keep {W w1 : World} {n₀ B : Nat} {t e : TypeId} {size : Nat} {v v' : Value} {k m : Nat} {xs ys : List Value} {tmp : Obj} {S : Nat → Prop}
    (hv : Boxed W B t v) (hte : t ≠ e) (hrow : W.ownsRow n₀ e size v k xs) (hS : ¬ S B) (hSo : ∀ b, v.ownBlock = some b → ¬ S b) (hown' : w1.ownsRow n₀ e size v' m ys) (hgrow : (W.alloc tmp).grownBy w1 v.ownBlock) :
    Boxed w1 B t v ∧ Boxed (w1.setCell ⟨B, 0, none⟩ v') B t v' ∧ (w1.setCell ⟨B, 0, none⟩ v').ownsRow n₀ e size v' m ys ∧ Keep S W (w1.setCell ⟨B, 0, none⟩ v') := by
  have hv1 : Boxed w1 B t v := (hv.alloc tmp).kept hgrow (hv.not_row hte hrow)
  exact ⟨hv1, hv1.set v', hown'.kept (grownBy_setCell' w1 B v') (.inr (hv1.not_row hte hown').symm), ((Keep.alloc S W tmp).trans (Keep.of_grownBy hgrow hSo)).trans (Keep.setCell _ _ _ hS)⟩

/-- Between two rounds: what has come, put together by g, lies in the one box's row. -/
def CollI (g : List (UInt8 × Bool) → List UInt8) (base Bo : Nat) (RB : Nat → Prop) (W0 : World) (pre : List (UInt8 × Bool)) (Pv : Nat → Prop) (W : World) : Prop :=
  ∃ v, Boxed W Bo 30 v ∧ W.ownsRow base 5 1 v (g pre).length (byV (g pre)) ∧ (∀ b, Pv b → W0.heap.size ≤ b) ∧ (∀ b, v.ownBlock = some b → ¬ Pv b) ∧ Keep RB W0 W

theorem CollI_abide (g : List (UInt8 × Bool) → List UInt8) (base Bo : Nat) (RB : Nat → Prop) (W0 : World) (hBo : Bo < W0.heap.size) (hRB : ∀ b, RB b → b < W0.heap.size) : Abide (CollI g base Bo RB W0) := by
  rintro pre Pv Pv' A B ⟨v, h1, h2, h3, h5, h6⟩ hk hp
  have hs := h6.size
  refine ⟨v, hk.boxed h1 (fun h => by have := h3 _ h; omega), hk.row h2 h5, fun b hb => ?_, fun b hb hp' => ?_, h6.trans (hk.mono fun b _ hb hpb => by have := h3 b hpb; have := hRB b hb; omega)⟩
  · rcases (hp b hb).1 with h | h
    · exact h3 b h
    · omega
  · rcases (hp _ hp').1 with h | h
    · exact h5 b hb h
    · have := (h2.lt b hb).2; omega

/-- A text's answer. -/
def TextPost (o : Option (List UInt8)) (w : World) (e : Ending) (w' : World) : Prop :=
  ∃ v n, e = .returned (.tuple #[v, .int .i64 n]) ∧ Hid (n = if o.isSome then 0 else 2) ∧ w'.ownsRow w.heap.size 5 1 v (o.getD []).length (byV (o.getD [])) ∧ Below w.heap.size w w'

end Go.Proofs.YtkjkfgmoogbdiaaGreatDoor.Pct

namespace Go.Proofs.YtkjkfgmoogbdiaaGreatDoor.Brn
open Go.RowKit Arn
attribute [local go_sem] Oper.semAt_some
set_option linter.unusedVariables false

theorem info_slot : (Tryz.prog.info? 121).map (fun i => (i.zero, i.size, i.bytes)) = some (some (.agg #[.slice none 0 0, .slice none 0 0, .slice none 0 0, .int .i64 0, .bool false]), 5, 88) := by kernel_rfl

theorem mt_zero : ∀ u ∈ [.slice none 0 0, .slice none 0 0, .slice none 0 0, .int .i64 0, .bool false], Mt u := by
  intro u hu
  simp only [List.mem_cons, List.not_mem_nil, or_false] at hu
  rcases hu with rfl | rfl | rfl | rfl | rfl <;> exact ⟨fun x h => (by cases h), fun n h => (by cases h)⟩
theorem size_th : (Tryz.prog.info? 44).map (·.size) = some 3 := by kernel_rfl
/-- A thing that lies in the result's cell is handed over. -/
theorem ret_th {fn : Func} {p : Tmp} (h : fn.results = #[.cell p 44]) (tmps : Array Value) (w : World) (B : Nat) (cs : Array Value) (hp : tmps.getD p undef = .pointer (some ⟨B, 0, none⟩)) (hU : BL 44 B cs w) (hs : cs.size = 3) :
    (results fn tmps).run Tryz.prog w = .ok (.agg cs) w :=
  results_cell_row h tmps w B _ cs (0, 0) _ hp hU Tryz.underlying44 rfl (by rw [size_th, hs])
theorem ret_th2 {fn : Func} {p u : Tmp} (h : fn.results = #[.cell p 44, .tmp u]) (tmps : Array Value) (w : World) (B : Nat) (cs : Array Value) (hp : tmps.getD p undef = .pointer (some ⟨B, 0, none⟩)) (hU : BL 44 B cs w) (hs : cs.size = 3) :
    (results fn tmps).run Tryz.prog w = .ok (.tuple #[.agg cs, tmps.getD u undef]) w := by
  rw [results_cell_tmp h, hp]
  simp [asAddr, Result.andThen, run_loadVar_row w B 44 _ cs (0, 0) _ hU Tryz.underlying44 rfl (by rw [size_th, hs])]
/-- All cells of a thing's block set. -/
theorem put_th {B : Nat} {X : World} {o0 o1 o2 : Value} (h : BL 44 B #[o0, o1, o2] X) (z0 z1 z2 : Value) :
    ∃ Y, (((X.setCell ⟨B, 0, none⟩ z0).setCell ⟨B, 1, none⟩ z1).setCell ⟨B, 2, none⟩ z2) = Y ∧ BL 44 B #[z0, z1, z2] Y ∧ (∀ S : Nat → Prop, ¬ S B → Keep S X Y) ∧ ∀ M, M ≤ B → Below M X Y := by
  have h8 := (((h.set 0 z0).set 1 z1).set 2 z2)
  simp only [List.setIfInBounds_toArray, List.set_cons_zero, List.set_cons_succ] at h8
  refine ⟨_, rfl, h8, fun S hS => ?_, fun M hM => ?_⟩
  · exact (((Keep.setCell _ _ _ hS).trans (Keep.setCell _ _ _ hS)).trans (Keep.setCell _ _ _ hS))
  · exact ((((Below.refl M X).setCell (p := ⟨B, 0, none⟩) hM z0).setCell (p := ⟨B, 1, none⟩) hM z1).setCell (p := ⟨B, 2, none⟩) hM z2)

/-! ### plain -/
def putL {α : Type} (size : Nat) (sl : List (Sl α)) (x : α) : List (Sl α) := match freeF sl with
  | some i => (match sl[i]? with | some s => sl.set i ⟨s.n + 1, some x⟩ | none => sl)
  | none => if sl.length < size then sl ++ [⟨1, some x⟩] else sl
def putHd {α : Type} (size : Nat) (sl : List (Sl α)) : Int := match freeF sl with
  | some i => (match sl[i]? with | some s => hOf (s.n + 1) i | none => 0)
  | none => if sl.length < size then hOf 1 sl.length else 0
def putE {α : Type} (size : Nat) (sl : List (Sl α)) : Int := match freeF sl with
  | some _ => 0
  | none => if sl.length < size then 0 else 6
def getX {α : Type} (sl : List (Sl α)) (h : Int) : Option α := match findS sl h with
  | some i => (match sl[i]? with | some s => s.x | none => none)
  | none => none

/-! ### what is written -/
theorem At.set {base b size g cap : Nat} {sl : List (Sl Bx)} {w : World} (h : At base b size (.slice (some ⟨g, 0, none⟩) sl.length cap) sl w) (i : Nat) (s : Sl Bx) (hi : i < sl.length) :
    At base b size (.slice (some ⟨g, 0, none⟩) (sl.set i s).length cap) (sl.set i s) (((((w.setCell ⟨g, i * 5, none⟩ (.slice (gx s).q0 (gx s).n0 (gx s).c0)).setCell ⟨g, i * 5 + 1, none⟩ (.slice (gx s).q1 (gx s).n1 (gx s).c1)).setCell ⟨g, i * 5 + 2, none⟩ (.slice (gx s).q2 (gx s).n2 (gx s).c2)).setCell ⟨g, i * 5 + 3, none⟩ (.int .i64 s.n)).setCell ⟨g, i * 5 + 4, none⟩ (.bool s.x.isSome)) ∧
    Wrote b (.slice (some ⟨g, 0, none⟩) sl.length cap) (.slice (some ⟨g, 0, none⟩) (sl.set i s).length cap) w (((((w.setCell ⟨g, i * 5, none⟩ (.slice (gx s).q0 (gx s).n0 (gx s).c0)).setCell ⟨g, i * 5 + 1, none⟩ (.slice (gx s).q1 (gx s).n1 (gx s).c1)).setCell ⟨g, i * 5 + 2, none⟩ (.slice (gx s).q2 (gx s).n2 (gx s).c2)).setCell ⟨g, i * 5 + 3, none⟩ (.int .i64 s.n)).setCell ⟨g, i * 5 + 4, none⟩ (.bool s.x.isSome)) := by
  have h1 := h.row.stored (i * 5) (.slice (gx s).q0 (gx s).n0 (gx s).c0)
  have h2 := h1.1.stored (i * 5 + 1) (.slice (gx s).q1 (gx s).n1 (gx s).c1)
  have h3 := h2.1.stored (i * 5 + 2) (.slice (gx s).q2 (gx s).n2 (gx s).c2)
  have h4 := h3.1.stored (i * 5 + 3) (.int .i64 s.n)
  have h5 := h4.1.stored (i * 5 + 4) (.bool s.x.isSome)
  have g1 := h.all.setC h.row rfl (i * 5) (x := .slice (gx s).q0 (gx s).n0 (gx s).c0) ⟨fun x h => (by cases h), fun n h => (by cases h)⟩
  have g2 := g1.setC h1.1 rfl (i * 5 + 1) (x := .slice (gx s).q1 (gx s).n1 (gx s).c1) ⟨fun x h => (by cases h), fun n h => (by cases h)⟩
  have g3 := g2.setC h2.1 rfl (i * 5 + 2) (x := .slice (gx s).q2 (gx s).n2 (gx s).c2) ⟨fun x h => (by cases h), fun n h => (by cases h)⟩
  have g4 := g3.setC h3.1 rfl (i * 5 + 3) (x := .int .i64 s.n) ⟨fun x h => (by cases h), fun n h => (by cases h)⟩
  have g5 := g4.setC h4.1 rfl (i * 5 + 4) (x := .bool s.x.isSome) ⟨fun x h => (by cases h), fun n h => (by cases h)⟩
  have hbg : b ≠ g := fun e => (BL.ne_row h.bl (by decide) h.row) (by rw [e]; rfl)
  have hr := h5.1
  rw [← slsC_set sl i s hi] at hr
  have hk : Keep (fun k => k ≠ g) w (((((w.setCell ⟨g, i * 5, none⟩ (.slice (gx s).q0 (gx s).n0 (gx s).c0)).setCell ⟨g, i * 5 + 1, none⟩ (.slice (gx s).q1 (gx s).n1 (gx s).c1)).setCell ⟨g, i * 5 + 2, none⟩ (.slice (gx s).q2 (gx s).n2 (gx s).c2)).setCell ⟨g, i * 5 + 3, none⟩ (.int .i64 s.n)).setCell ⟨g, i * 5 + 4, none⟩ (.bool s.x.isSome)) := (((((Keep.setCell w _ _ (by simp)).trans (Keep.setCell _ _ _ (by simp))).trans (Keep.setCell _ _ _ (by simp))).trans (Keep.setCell _ _ _ (by simp))).trans (Keep.setCell _ _ _ (by simp)))
  rw [List.length_set]
  refine ⟨⟨h.bl.keep hk hbg, h.lo, by rw [List.length_set]; exact hr, by rw [List.length_set]; exact h.len, h.size1, h.size2, g5⟩, hk.mono fun k _ hk => fun e => hk.2 (by rw [e]; rfl), fun k hk => .inl hk⟩

theorem At.setx {base b size g cap : Nat} {sl : List (Sl Bx)} {w : World} (h : At base b size (.slice (some ⟨g, 0, none⟩) sl.length cap) sl w) {i : Nat} {s : Sl Bx} (hi : sl[i]? = some s) (hx : s.x.isSome = true) (x : Bx) :
    At base b size (.slice (some ⟨g, 0, none⟩) (sl.set i ⟨s.n, some x⟩).length cap) (sl.set i ⟨s.n, some x⟩) (((w.setCell ⟨g, i * 5, none⟩ (.slice x.q0 x.n0 x.c0)).setCell ⟨g, i * 5 + 1, none⟩ (.slice x.q1 x.n1 x.c1)).setCell ⟨g, i * 5 + 2, none⟩ (.slice x.q2 x.n2 x.c2)) ∧
    Wrote b (.slice (some ⟨g, 0, none⟩) sl.length cap) (.slice (some ⟨g, 0, none⟩) (sl.set i ⟨s.n, some x⟩).length cap) w (((w.setCell ⟨g, i * 5, none⟩ (.slice x.q0 x.n0 x.c0)).setCell ⟨g, i * 5 + 1, none⟩ (.slice x.q1 x.n1 x.c1)).setCell ⟨g, i * 5 + 2, none⟩ (.slice x.q2 x.n2 x.c2)) := by
  have hlt := (List.getElem?_eq_some_iff.1 hi).1
  have h1 := h.row.stored (i * 5) (.slice x.q0 x.n0 x.c0)
  have h2 := h1.1.stored (i * 5 + 1) (.slice x.q1 x.n1 x.c1)
  have h3 := h2.1.stored (i * 5 + 2) (.slice x.q2 x.n2 x.c2)
  have g1 := h.all.setC h.row rfl (i * 5) (x := .slice x.q0 x.n0 x.c0) ⟨fun x h => (by cases h), fun n h => (by cases h)⟩
  have g2 := g1.setC h1.1 rfl (i * 5 + 1) (x := .slice x.q1 x.n1 x.c1) ⟨fun x h => (by cases h), fun n h => (by cases h)⟩
  have g3 := g2.setC h2.1 rfl (i * 5 + 2) (x := .slice x.q2 x.n2 x.c2) ⟨fun x h => (by cases h), fun n h => (by cases h)⟩
  have hbg : b ≠ g := fun e => (BL.ne_row h.bl (by decide) h.row) (by rw [e]; rfl)
  have hr := h3.1
  have e : ((((slsC sl).set (i * 5) (.slice x.q0 x.n0 x.c0)).set (i * 5 + 1) (.slice x.q1 x.n1 x.c1)).set (i * 5 + 2) (.slice x.q2 x.n2 x.c2)) = slsC (sl.set i ⟨s.n, some x⟩) := by
    rw [slsC_set sl i _ hlt]
    have a2 := slsC_at sl i s hi 3 _ rfl
    have a3 := slsC_at sl i s hi 4 _ rfl
    rw [hx] at a3
    symm
    rw [set_same (i := i * 5 + 4), set_same (i := i * 5 + 3)]
    · rfl
    · repeat rw [List.getElem?_set_ne (by omega)]
      exact a2
    · repeat rw [List.getElem?_set_ne (by omega)]
      exact a3
  rw [e] at hr
  have hk : Keep (fun k => k ≠ g) w (((w.setCell ⟨g, i * 5, none⟩ (.slice x.q0 x.n0 x.c0)).setCell ⟨g, i * 5 + 1, none⟩ (.slice x.q1 x.n1 x.c1)).setCell ⟨g, i * 5 + 2, none⟩ (.slice x.q2 x.n2 x.c2)) := (((Keep.setCell w _ _ (by simp)).trans (Keep.setCell _ _ _ (by simp))).trans (Keep.setCell _ _ _ (by simp)))
  rw [List.length_set]
  refine ⟨⟨h.bl.keep hk hbg, h.lo, by rw [List.length_set]; exact hr, by rw [List.length_set]; exact h.len, h.size1, h.size2, g3⟩, hk.mono fun k _ hk => fun e => hk.2 (by rw [e]; rfl), fun k hk => .inl hk⟩

theorem New_good (n : Int) (w : World) (h : 1 ≤ n ∧ n ≤ 1024) : Calls Tryz.prog 32 #[.int .i64 n] w fun e w' => e = .returned (.pointer (some ⟨w.heap.size, 0, none⟩)) ∧ w' = w.alloc (.cells #[.int .i64 n, .slice none 0 0] 117) := by
  have d1 : decide (n < 1) = false := decide_eq_false (by omega)
  have d2 : decide (1024 < n) = false := decide_eq_false (by omega)
  clear h
  go_enter Tryz.func32, Tryz.ntmps32
  go_wp2
  go_ret
  exact ⟨rfl, rfl⟩
theorem At.new (base size : Nat) (w : World) (hb : base ≤ w.heap.size) (h1 : 1 ≤ size) (h2 : size ≤ 1024) : At base w.heap.size size (.slice none 0 0) [] (w.alloc (.cells #[.int .i64 size, .slice none 0 0] 117)) :=
  ⟨BL.new _ w _, hb, World.ownsRow_nil _ _ _ _, Nat.zero_le _, h1, h2, fun g hg => by cases hg⟩

set_option maxRecDepth 100000 in
theorem Get_any (base b size : Nat) (v : Value) (sl : List (Sl Bx)) (h : Int) (w : World) (ha : At base b size v sl w) (hf : Few 1099511627776 sl) (hh : -9223372036854775808 ≤ h ∧ h ≤ 9223372036854775807) :
    Calls Tryz.prog 43 #[.pointer (some ⟨b, 0, none⟩), .int .i64 h] w fun e w' => e = .returned (.tuple #[((getX sl h).getD zB).val, .bool (getX sl h).isSome]) ∧ Below w.heap.size w w' := by
  obtain ⟨W0, hW0⟩ : ∃ W0, w.alloc (.cells #[.slice none 0 0, .slice none 0 0, .slice none 0 0] 44) = W0 := ⟨_, rfl⟩
  have b0 : BL 44 w.heap.size #[.slice none 0 0, .slice none 0 0, .slice none 0 0] W0 := hW0 ▸ BL.new _ w _
  have hB0 : Below w.heap.size w W0 := hW0 ▸ blk_alloc _
  have con := of_any base b size v sl h W0 (ha.on hB0) hf hh
  have HA := Lib.hid (ha.on hB0)
  have HW0 := Lib.hid hW0
  clear ha hf hh hW0
  go_enter Tryz.func43, Tryz.ntmps43
  go_wp2_with fail
  rw [HW0.out]
  refine con.mono ?_
  rintro e w' ⟨⟨hn, rfl⟩ | ⟨g, cap, i, rfl, hi, rfl⟩, rfl⟩
  · have HE := Lib.hid (show getX sl h = none by unfold getX; rw [hn])
    have b1 := b0.on (blk_alloc (.cells #[.slice none 0 0, .slice none 0 0, .slice none 0 0] 44))
    have pc0 := b1.cell 0 _ rfl
    have pc1 := b1.cell 1 _ rfl
    have pc2 := b1.cell 2 _ rfl
    have pf0 := b1.frozen 0
    have pf1 := b1.frozen 1
    have pf2 := b1.frozen 2
    obtain ⟨Y, hY, bY, -, hbY⟩ := put_th b1 (.slice none 0 0) (.slice none 0 0) (.slice none 0 0)
    have HY := Lib.hid hY
    have HB := Lib.hid (hB0.trans (((blk_alloc (w := W0) (.cells #[.slice none 0 0, .slice none 0 0, .slice none 0 0] 44)).mono hB0.size).trans (hbY _ (Nat.le_refl _))))
    clear con hn b0 b1 hY hB0 hbY
    go_wp2
    rw [HY.out]
    refine bodyPost_ret (ret_th2 rfl _ _ w.heap.size _ rfl bY rfl) rfl ?_
    exact ⟨by rw [HE.out]; rfl, HB.out⟩
  · obtain ⟨hlt, s, hs, hx⟩ : i < sl.length ∧ ∃ s, sl[i]? = some s ∧ s.x.isSome = true := by
      obtain ⟨s, x, h1, h2, -⟩ := (find_is sl h i (by have := HA.out.len; have := HA.out.size2; omega)).1 hi
      exact ⟨(List.getElem?_eq_some_iff.1 h1).1, s, h1, by rw [h2]; rfl⟩
    have hcs := HA.out.cells hs
    obtain ⟨x, hx2⟩ := Option.isSome_iff_exists.1 hx
    rw [gx_some hx2] at hcs
    obtain ⟨a0, a1, a2, a3, a4⟩ := hcs
    have HE := Lib.hid (show getX sl h = some x by unfold getX; simp only [hi, hs]; exact hx2)
    have pc0 := b0.cell 0 _ rfl
    have pc1 := b0.cell 1 _ rfl
    have pc2 := b0.cell 2 _ rfl
    have pf0 := b0.frozen 0
    have pf1 := b0.frozen 1
    have pf2 := b0.frozen 2
    obtain ⟨Y, hY, bY, -, hbY⟩ := put_th b0 (.slice x.q0 x.n0 x.c0) (.slice x.q1 x.n1 x.c1) (.slice x.q2 x.n2 x.c2)
    have HY := Lib.hid hY
    have HB := Lib.hid (hB0.trans (hbY _ (Nat.le_refl _)))
    clear con hi hs hx hx2 b0 hY hB0 hbY
    go_wp2
    rw [HY.out]
    refine bodyPost_ret (ret_th2 rfl _ _ w.heap.size _ rfl bY rfl) rfl ?_
    exact ⟨by rw [HE.out]; rfl, HB.out⟩

set_option maxRecDepth 100000 in
theorem Set_any (base b size : Nat) (v : Value) (sl : List (Sl Bx)) (h : Int) (x : Bx) (w : World) (ha : At base b size v sl w) (hf : Few 1099511627776 sl) (hh : -9223372036854775808 ≤ h ∧ h ≤ 9223372036854775807) :
    Calls Tryz.prog 71 #[.pointer (some ⟨b, 0, none⟩), .int .i64 h, .agg #[.slice x.q0 x.n0 x.c0, .slice x.q1 x.n1 x.c1, .slice x.q2 x.n2 x.c2]] w fun e w' => e = .returned (.bool (findS sl h).isSome) ∧ ∃ v', At base b size v' (Arn.setS sl h x) w' ∧ Wrote b v v' w w' := by
  obtain ⟨W0, hW0⟩ : ∃ W0, w.alloc (.cells #[.slice x.q0 x.n0 x.c0, .slice x.q1 x.n1 x.c1, .slice x.q2 x.n2 x.c2] 44) = W0 := ⟨_, rfl⟩
  have b0 : BL 44 w.heap.size #[.slice x.q0 x.n0 x.c0, .slice x.q1 x.n1 x.c1, .slice x.q2 x.n2 x.c2] W0 := hW0 ▸ BL.new _ w _
  have hB0 : Below w.heap.size w W0 := hW0 ▸ blk_alloc _
  have con := of_any base b size v sl h W0 (ha.on hB0) hf hh
  have HA := Lib.hid (ha.on hB0)
  have HW0 := Lib.hid hW0
  have HWr := Lib.hid (show Wrote b v v w W0 from ⟨(Keep.of_below hB0).mono fun k hk _ => hk, fun k hk => .inl hk⟩)
  clear ha hf hh hW0 hB0
  go_enter Tryz.func71, Tryz.ntmps71
  go_wp2_with fail
  rw [HW0.out]
  refine con.mono ?_
  rintro e w' ⟨⟨hn, rfl⟩ | ⟨g, cap, i, rfl, hi, rfl⟩, rfl⟩
  · have HE := Lib.hid hn
    clear con hn b0
    go_wp2
    go_ret
    exact ⟨by rw [HE.out]; rfl, v, by unfold Arn.setS; rw [HE.out]; exact HA.out, HWr.out⟩
  · obtain ⟨s, y, h1, h2, -⟩ := (find_is sl h i (by have := HA.out.len; have := HA.out.size2; omega)).1 hi
    have hlt := (List.getElem?_eq_some_iff.1 h1).1
    obtain ⟨a0, a1, a2, a3, a4⟩ := HA.out.cells h1
    have f0 := HA.out.row.frozenAt (i * 5)
    have f1 := HA.out.row.frozenAt (i * 5 + 1)
    have f2 := HA.out.row.frozenAt (i * 5 + 2)
    have HE := Lib.hid hi
    have hset := HA.out.setx h1 (by rw [h2]; rfl) x
    have HS := Lib.hid (show Arn.setS sl h x = sl.set i ⟨s.n, some x⟩ by unfold Arn.setS; simp only [hi, h1])
    have HSE := Lib.hid hset
    obtain ⟨X, hX⟩ : ∃ X, gx s = X := ⟨_, rfl⟩
    rw [hX] at a0 a1 a2
    have pc0 := b0.cell 0 _ rfl
    have pc1 := b0.cell 1 _ rfl
    have pc2 := b0.cell 2 _ rfl
    clear con hi h1 h2 hset hX b0
    go_wp2
    go_ret
    refine ⟨by rw [HE.out]; rfl, _, by rw [HS.out]; exact HSE.out.1, HWr.out.trans HSE.out.2⟩

set_option maxRecDepth 100000 in
theorem Drop_any (base b size : Nat) (v : Value) (sl : List (Sl Bx)) (h : Int) (w : World) (ha : At base b size v sl w) (hf : Few 1099511627776 sl) (hh : -9223372036854775808 ≤ h ∧ h ≤ 9223372036854775807) :
    Calls Tryz.prog 46 #[.pointer (some ⟨b, 0, none⟩), .int .i64 h] w fun e w' => e = .returned (.bool (findS sl h).isSome) ∧ ∃ v', At base b size v' (dropS sl h) w' ∧ Wrote b v v' w w' := by
  have con := of_any base b size v sl h w ha hf hh
  have HA := Lib.hid ha
  clear ha hf hh
  go_enter Tryz.func46, Tryz.ntmps46
  go_wp2_with fail
  refine con.mono ?_
  rintro e w' ⟨⟨hn, rfl⟩ | ⟨g, cap, i, rfl, hi, rfl⟩, rfl⟩
  · have HE := Lib.hid hn
    clear con hn
    go_wp2
    go_ret
    exact ⟨by rw [HE.out]; rfl, v, by unfold dropS; rw [HE.out]; exact HA.out, Wrote.refl _ _ _⟩
  · obtain ⟨s, y, h1, h2, -⟩ := (find_is sl h i (by have := HA.out.len; have := HA.out.size2; omega)).1 hi
    have hlt := (List.getElem?_eq_some_iff.1 h1).1
    obtain ⟨a0, a1, a2, a3, a4⟩ := HA.out.cells h1
    have f0 := HA.out.row.frozenAt (i * 5)
    have f1 := HA.out.row.frozenAt (i * 5 + 1)
    have f2 := HA.out.row.frozenAt (i * 5 + 2)
    have f3 := HA.out.row.frozenAt (i * 5 + 3)
    have f4 := HA.out.row.frozenAt (i * 5 + 4)
    have HE := Lib.hid hi
    have hset := HA.out.set i ⟨s.n, none⟩ hlt
    have HS := Lib.hid (show dropS sl h = sl.set i ⟨s.n, none⟩ by unfold dropS; simp only [hi, h1])
    obtain ⟨m, hm⟩ : ∃ m, s.n = m := ⟨_, rfl⟩
    rw [hm] at a3 hset HS
    have HSE := Lib.hid hset
    obtain ⟨X, hX⟩ : ∃ X, gx s = X := ⟨_, rfl⟩
    rw [hX] at a0 a1 a2
    clear con hi h1 h2 hset hm hX
    go_wp2
    go_ret
    refine ⟨by rw [HE.out]; rfl, _, by rw [HS.out]; exact HSE.out.1, HSE.out.2⟩
/-- One more slot, empty, behind the others. -/
theorem At.more {base b size : Nat} {v v' : Value} {sl : List (Sl Bx)} {w w1 w2 : World} (h : At base b size v sl w) (hw : Below w.heap.size w w1) (hlt : sl.length < size) (hb : base ≤ w.heap.size)
    (hown : w2.ownsRow base 121 5 v' (sl.length + 1) (slsC sl ++ [.slice none 0 0, .slice none 0 0, .slice none 0 0, .int .i64 0, .bool false])) (hg : w1.grownBy w2 v.ownBlock) (hall : All Mt v' w2) (hat : v'.ownBlock = v.ownBlock ∨ v'.ownBlock = some w1.heap.size) :
    At base b size v' (sl ++ [⟨0, none⟩]) (w2.setCell ⟨b, 1, none⟩ v') ∧ Wrote b v v' w (w2.setCell ⟨b, 1, none⟩ v') := by
  have hbl := h.bl.on hw
  have hne := BL.ne_row hbl (by decide) ((h.on hw).row)
  have hb2 : BL 117 b #[.int .i64 size, v] w2 := (hg.block b hbl.lt (fun e => hne e.symm)).trans hbl
  have hne2 := BL.ne_row hb2 (by decide) hown
  have hb3 := hb2.set 1 v'
  have k1 : Keep (fun k => k ≠ b ∧ v.ownBlock ≠ some k) w w2 := ((Keep.of_below hw).mono fun k hk _ => hk).trans (Keep.of_grownBy hg (fun r hr h => h.2 hr))
  have k2 : Keep (fun k => k ≠ b) w2 (w2.setCell ⟨b, 1, none⟩ v') := Keep.setCell w2 _ _ (by simp)
  refine ⟨⟨hb3, h.lo, ?_, by rw [List.length_append]; simp; omega, h.size1, h.size2, hall.keep k2 fun k hk => ⟨fun e => hne2 (e ▸ hk), (hown.lt k hk).2⟩⟩, k1.trans (k2.mono fun k _ hk => hk.1), fun k hk => ?_⟩
  · rw [slsC_app, List.length_append]
    exact k2.row hown fun k hk e => hne2 (e ▸ hk)
  · rcases hat with e | e
    · exact .inl (by rw [← e]; exact hk)
    · rw [e] at hk
      cases hk
      exact .inr hw.size
theorem fr_some {α : Type} {sl : List (Sl α)} {i : Nat} (h : freeF sl = some i) : ∃ s, sl[i]? = some s ∧ s.x = none ∧ frN sl = i ∧ i < sl.length := by
  obtain ⟨s, hs, hx⟩ := free_lt sl i h
  exact ⟨s, hs, hx, by unfold frN; rw [h]; rfl, (List.getElem?_eq_some_iff.1 hs).1⟩
theorem fr_none {α : Type} {sl : List (Sl α)} (h : freeF sl = none) : frN sl = sl.length := by unfold frN; rw [h]; rfl

/-- What Put leaves. -/
def PutOut (base b size : Nat) (v : Value) (sl : List (Sl Bx)) (x : Bx) (w : World) (e : Ending) (w' : World) : Prop :=
  e = .returned (.tuple #[.int .i64 (putHd size sl), .int .i64 (putE size sl)]) ∧ ∃ v', At base b size v' (putL size sl x) w' ∧ Wrote b v v' w w'

set_option maxRecDepth 100000 in
set_option maxHeartbeats 4000000 in
theorem Put_any (base b size : Nat) (v : Value) (sl : List (Sl Bx)) (x : Bx) (w : World) (ha : At base b size v sl w) (hf : Few 1000000 sl) (hb : base ≤ w.heap.size) :
    Calls Tryz.prog 34 #[.pointer (some ⟨b, 0, none⟩), .agg #[.slice x.q0 x.n0 x.c0, .slice x.q1 x.n1 x.c1, .slice x.q2 x.n2 x.c2]] w (PutOut base b size v sl x w) := by
  obtain ⟨w0, rfl⟩ : ∃ w0, w0 = w := ⟨w, rfl⟩
  obtain ⟨w, hw⟩ : ∃ w, w0.alloc (.cells #[.slice x.q0 x.n0 x.c0, .slice x.q1 x.n1 x.c1, .slice x.q2 x.n2 x.c2] 44) = w := ⟨_, rfl⟩
  have b0 : BL 44 w0.heap.size #[.slice x.q0 x.n0 x.c0, .slice x.q1 x.n1 x.c1, .slice x.q2 x.n2 x.c2] w := hw ▸ BL.new _ w0 _
  have hB0 : Below w0.heap.size w0 w := hw ▸ blk_alloc _
  replace ha := ha.on hB0
  replace hb := Nat.le_trans hb hB0.size
  have HW0 := Lib.hid hw
  have HWr := Lib.hid (show Wrote b v v w0 w from ⟨(Keep.of_below hB0).mono fun k hk _ => hk, fun k hk => .inl hk⟩)
  clear hw hB0
  have con := free_any base b size v sl w ha
  have c0 : w.cell? ⟨b, 0, none⟩ = some (.int .i64 size) := ha.bl.cell 0 _ rfl
  have c1 : w.cell? ⟨b, 1, none⟩ = some v := ha.bl.cell 1 _ rfl
  have hl := ha.len
  have hs := ha.size2
  have HA := Lib.hid ha
  cases hfr : freeF sl with
  | some i =>
    obtain ⟨s, hsi, hsx, hfn, hlt⟩ := fr_some hfr
    have hn := hf s (List.mem_of_getElem? hsi)
    obtain ⟨g, cap, rfl⟩ : ∃ g cap, v = .slice (some ⟨g, 0, none⟩) sl.length cap := by
      rcases ha.form with ⟨-, rfl⟩ | h
      · simp at hlt
      · exact h
    obtain ⟨Z, hZ⟩ : ∃ Z, w.drew = Z := ⟨_, rfl⟩
    have hd : Below w.heap.size w Z := hZ ▸ (Below.refl _ _).drew
    have haZ := ha.on hd
    have bZ := b0.on hd
    have HZ := Lib.hid hZ
    have HWZ := Lib.hid (HWr.out.trans (show Wrote b (.slice (some ⟨g, 0, none⟩) sl.length cap) (.slice (some ⟨g, 0, none⟩) sl.length cap) w Z from ⟨(Keep.of_below hd).mono fun k hk _ => hk, fun k hk => .inl hk⟩))
    have hcs := haZ.cells hsi
    rw [gx_none hsx] at hcs
    obtain ⟨d0, d1, d2, d3, d4⟩ := hcs
    have f0 := haZ.row.frozenAt (i * 5)
    have f1 := haZ.row.frozenAt (i * 5 + 1)
    have f2 := haZ.row.frozenAt (i * 5 + 2)
    have f3 := haZ.row.frozenAt (i * 5 + 3)
    have f4 := haZ.row.frozenAt (i * 5 + 4)
    obtain ⟨m, hm⟩ : ∃ m, s.n = m := ⟨_, rfl⟩
    rw [hm] at hn
    have hset := haZ.set i ⟨s.n + 1, some x⟩ hlt
    have kw : IntKind.i64.wrap ((m : Int) + 1) = (m : Int) + 1 := by rw [IntKind.wrap_i64]; omega
    obtain ⟨Y, hY⟩ : ∃ Y, (((((Z.setCell ⟨g, i * 5, none⟩ (.slice x.q0 x.n0 x.c0)).setCell ⟨g, i * 5 + 1, none⟩ (.slice x.q1 x.n1 x.c1)).setCell ⟨g, i * 5 + 2, none⟩ (.slice x.q2 x.n2 x.c2)).setCell ⟨g, i * 5 + 3, none⟩ (.int .i64 ((m : Int) + 1))).setCell ⟨g, i * 5 + 4, none⟩ (.bool true)) = Y := ⟨_, rfl⟩
    rw [hm] at hset
    replace hset : At base b size (.slice (some ⟨g, 0, none⟩) (sl.set i ⟨m + 1, some x⟩).length cap) (sl.set i ⟨m + 1, some x⟩) (((((Z.setCell ⟨g, i * 5, none⟩ (.slice x.q0 x.n0 x.c0)).setCell ⟨g, i * 5 + 1, none⟩ (.slice x.q1 x.n1 x.c1)).setCell ⟨g, i * 5 + 2, none⟩ (.slice x.q2 x.n2 x.c2)).setCell ⟨g, i * 5 + 3, none⟩ (.int .i64 ((m : Int) + 1))).setCell ⟨g, i * 5 + 4, none⟩ (.bool true)) ∧ Wrote b (.slice (some ⟨g, 0, none⟩) sl.length cap) (.slice (some ⟨g, 0, none⟩) (sl.set i ⟨m + 1, some x⟩).length cap) Z (((((Z.setCell ⟨g, i * 5, none⟩ (.slice x.q0 x.n0 x.c0)).setCell ⟨g, i * 5 + 1, none⟩ (.slice x.q1 x.n1 x.c1)).setCell ⟨g, i * 5 + 2, none⟩ (.slice x.q2 x.n2 x.c2)).setCell ⟨g, i * 5 + 3, none⟩ (.int .i64 ((m : Int) + 1))).setCell ⟨g, i * 5 + 4, none⟩ (.bool true)) := hset
    rw [hY] at hset
    have HYY := Lib.hid hY
    have bY := bZ.keep hset.2.1 ⟨BL.ne bZ haZ.bl (by decide), BL.ne_row bZ (by decide) haZ.row⟩
    have zp0 := bZ.cell 0 _ rfl
    have zp1 := bZ.cell 1 _ rfl
    have zp2 := bZ.cell 2 _ rfl
    have yp0 := bY.cell 0 _ rfl
    have yp1 := bY.cell 1 _ rfl
    have yp2 := bY.cell 2 _ rfl
    obtain ⟨e0, e1, e2, e3, e4⟩ := hset.1.cells (show (sl.set i ⟨m + 1, some x⟩)[i]? = some ⟨m + 1, some x⟩ by simp [hlt])
    have H1 := Lib.hid (show putHd size sl = hOf (m + 1) i by unfold putHd; simp only [hfr, hsi]; rw [hm])
    have H2 := Lib.hid (show putE size sl = 0 by unfold putE; simp only [hfr])
    have H3 := Lib.hid (show putL size sl x = sl.set i ⟨m + 1, some x⟩ by unfold putL; simp only [hfr, hsi]; rw [hm])
    rw [hm] at d3
    rw [hfn] at con
    have HH := Lib.hid (fun W hc => handle_any g (i * 5) i (m + 1) W hc (by omega) (by omega))
    have HSET := Lib.hid hset
    have HE1 := Lib.hid e3
    obtain ⟨n, hn2⟩ : ∃ n, sl.length = n := ⟨_, rfl⟩
    rw [hn2] at c1 hlt hl
    clear hfr hsi hsx hfn hset ha haZ hf hm hY bZ bY hd hZ b0 e0 e1 e2 e3 e4
    have g1 : ((i : Int) == (size : Int)) = false := by rw [beq_eq_false_iff_ne]; omega
    have g2 : ((i : Int) == (n : Int)) = false := by rw [beq_eq_false_iff_ne]; omega
    have HN := Lib.hid hn2
    clear hn2
    go_enter Tryz.func34, Tryz.ntmps34
    go_wp2_with fail
    rw [HW0.out]
    refine con.mono ?_
    rintro e w' ⟨rfl, rfl⟩
    clear con
    go_wp2_with fail
    refine pregion_any (fun X => X.cell? ⟨w0.heap.size, 0, none⟩ = some (.slice x.q0 x.n0 x.c0) ∧ X.cell? ⟨w0.heap.size, 1, none⟩ = some (.slice x.q1 x.n1 x.c1) ∧ X.cell? ⟨w0.heap.size, 2, none⟩ = some (.slice x.q2 x.n2 x.c2)) (by kernel_rfl) ?_
    rw [HZ.out]
    refine wpAnyH_take (i := 0) (v := (.pointer (some ⟨g, i * 5, none⟩))) rfl (by kernel_rfl) (by kernel_rfl) (by kernel_rfl) (fun _ _ _ h => h) (.inl ⟨by kernel_rfl, ?_⟩) ⟨zp0, zp1, zp2⟩ ?_
    · rintro w ⟨h0, h1, h2⟩; go_simp <;> omega
    refine plist #[true, false, false, false, false, false, false, false, false, false] (by kernel_rfl) ?_
    refine wpAnyH_take (i := 1) (v := (.agg #[.slice x.q0 x.n0 x.c0, .slice x.q1 x.n1 x.c1, .slice x.q2 x.n2 x.c2])) rfl (by kernel_rfl) (by kernel_rfl) (by kernel_rfl) (fun _ _ _ h => h) (.inl ⟨by kernel_rfl, ?_⟩) ⟨zp0, zp1, zp2⟩ ?_
    · rintro w ⟨h0, h1, h2⟩; go_simp <;> omega
    refine plist #[true, true, false, false, false, false, false, false, false, false] (by kernel_rfl) ?_
    refine wpAnyH_take (i := 2) (v := (.pointer (some ⟨g, i * 5, none⟩))) rfl (by kernel_rfl) (by kernel_rfl) (by kernel_rfl) (fun _ _ _ h => h) (.inl ⟨by kernel_rfl, ?_⟩) ⟨zp0, zp1, zp2⟩ ?_
    · rintro w ⟨h0, h1, h2⟩; go_simp <;> omega
    refine plist #[true, true, true, false, false, false, false, false, false, false] (by kernel_rfl) ?_
    refine wpAnyH_take (i := 3) (v := (.pointer (some ⟨g, i * 5, none⟩))) rfl (by kernel_rfl) (by kernel_rfl) (by kernel_rfl) (fun _ _ _ h => h) (.inl ⟨by kernel_rfl, ?_⟩) ⟨zp0, zp1, zp2⟩ ?_
    · rintro w ⟨h0, h1, h2⟩; go_simp <;> omega
    refine plist #[true, true, true, true, false, false, false, false, false, false] (by kernel_rfl) ?_
    refine wpAnyH_take (i := 4) (v := (.pointer (some ⟨g, i * 5 + 3, none⟩))) rfl (by kernel_rfl) (by kernel_rfl) (by kernel_rfl) (fun _ _ _ h => h) (.inl ⟨by kernel_rfl, ?_⟩) ⟨zp0, zp1, zp2⟩ ?_
    · rintro w ⟨h0, h1, h2⟩; go_simp <;> omega
    refine plist #[true, true, true, true, true, false, false, false, false, false] (by kernel_rfl) ?_
    refine pone 5 (by kernel_rfl) rfl fun K hK => ?_
    go_simp
    refine hK _ _ ⟨zp0, zp1, zp2⟩ ?_
    clear hK K
    refine plist #[true, true, true, true, true, true, false, false, false, false] (by kernel_rfl) ?_
    refine pone 6 (by kernel_rfl) rfl fun K hK => ?_
    go_simp
    (try rw [kw])
    refine hK _ _ ⟨zp0, zp1, zp2⟩ ?_
    clear hK K
    refine plist #[true, true, true, true, true, true, true, false, false, false] (by kernel_rfl) ?_
    refine pone 7 (by kernel_rfl) rfl fun K hK => ?_
    go_simp
    refine hK _ _ ⟨zp0, zp1, zp2⟩ ?_
    clear hK K
    refine plist #[true, true, true, true, true, true, true, true, false, false] (by kernel_rfl) ?_
    refine pone 8 (by kernel_rfl) rfl fun K hK => ?_
    go_simp
    refine hK _ _ ⟨zp0, zp1, zp2⟩ ?_
    clear hK K
    refine plist #[true, true, true, true, true, true, true, true, true, false] (by kernel_rfl) ?_
    refine pone 9 (by kernel_rfl) rfl fun K hK => ?_
    go_simp
    rw [HYY.out]
    refine hK _ _ ⟨yp0, yp1, yp2⟩ ?_
    clear hK K
    refine pdone (by kernel_rfl) ?_ _
    go_wp2_with fail
    refine (HH.out _ HE1.out).mono ?_
    rintro e w' ⟨rfl, rfl⟩
    go_wp2
    go_ret2
    exact ⟨by rw [H1.out, H2.out]; rfl, _, by rw [H3.out]; exact HSET.out.1, HWZ.out.trans HSET.out.2⟩
  | none =>
    have hfn := fr_none hfr
    rw [hfn] at con
    by_cases hlt : sl.length < size
    · have H1 := Lib.hid (show putHd size sl = hOf 1 sl.length by unfold putHd; simp only [hfr, if_pos hlt])
      have H2 := Lib.hid (show putE size sl = 0 by unfold putE; simp only [hfr, if_pos hlt])
      have H3 := Lib.hid (show putL size sl x = sl ++ [⟨1, some x⟩] by unfold putL; simp only [hfr, if_pos hlt])
      obtain ⟨i0, hi0, hz0, hz1, hz2⟩ := info_arn info_slot
      obtain ⟨n, hn⟩ : ∃ n, sl.length = n := ⟨_, rfl⟩
      have hrow := ha.row.alloc (.cells #[.slice none 0 0, .slice none 0 0, .slice none 0 0, .int .i64 0, .bool false] 121)
      have hall0 := ha.all.keep (Keep.of_below (blk_alloc (.cells #[.slice none 0 0, .slice none 0 0, .slice none 0 0, .int .i64 0, .bool false] 121))) fun k e => ⟨(ha.row.lt k e).2, (ha.row.lt k e).2⟩
      rw [hn] at con hlt hl hrow
      have g1 : ((n : Int) == (size : Int)) = false := by rw [beq_eq_false_iff_ne]; omega
      have g2 : ((n : Int) == (n : Int)) = true := by simp
      have hm2 : (n + 1) * 88 ≤ 140737488355328 := by omega
      have hm3 : n + 1 ≤ maxLen := by unfold maxLen; omega
      have HN := Lib.hid hn
      obtain ⟨q, cap, hv, -⟩ := ha.sl
      rw [hn] at hv
      subst hv
      replace hall0 : All Mt (.slice q n cap) _ := hall0
      clear hfr hfn ha hf hn
      go_enter Tryz.func34, Tryz.ntmps34
      go_wp2_with fail
      rw [HW0.out]
      refine con.mono ?_
      rintro e w' ⟨rfl, rfl⟩
      clear con
      go_upto_region 9 with (
        at_builtin
        go_must (refine wpList_append_all Mt rfl _ _ 115 rfl base 121 i0 (.agg #[.slice none 0 0, .slice none 0 0, .slice none 0 0, .int .i64 0, .bool false]) 5 88 Tryz.underlying115 hi0 hz0 hz1 hz2 rfl (by decide) (.slice q n cap) n (slsC sl) rfl hrow ⟨w.heap.size, 0, none⟩ 1 1 [.slice none 0 0, .slice none 0 0, .slice none 0 0, .int .i64 0, .bool false] rfl rfl (blk_cells _ _ _) (by simp [Value.oneCell']) hm3 hm2 (by simp; omega) hall0 mt_zero mt_zero ?_)
        intro v' w1 hown' hgrow hall1 hat
        have hat2 := HA.out.more (blk_alloc _) (by rw [HN.out]; exact hlt) hb (by rw [HN.out]; exact hown') hgrow hall1 hat
        have cb := (hat2.1.bl.frozen 1)
        have hbq := (HA.out.on (blk_alloc (.cells #[.slice none 0 0, .slice none 0 0, .slice none 0 0, .int .i64 0, .bool false] 121))).bl
        have hbw : BL 117 b #[.int .i64 size, .slice q n cap] w1 := (hgrow.block b hbq.lt (fun e => BL.ne_row hbq (by decide) hrow e.symm)).trans hbq
        have e0 : w1.cell? ⟨b, 0, none⟩ = some (.int .i64 size) := hbw.cell 0 _ rfl
        have e1 : w1.cell? ⟨b, 1, none⟩ = some (.slice q n cap) := hbw.cell 1 _ rfl
        have ef := hbw.frozen 1
        obtain ⟨g, cap2, rfl⟩ : ∃ g cap2, v' = .slice (some ⟨g, 0, none⟩) (n + 1) cap2 := by
          rcases hown'.2 with ⟨_, h⟩ | ⟨g, cap2, cur, h, _⟩
          · omega
          · exact ⟨g, cap2, h⟩
        obtain ⟨W, hW⟩ : ∃ W, w1.setCell ⟨b, 1, none⟩ (.slice (some ⟨g, 0, none⟩) (n + 1) cap2) = W := ⟨_, rfl⟩
        rw [hW] at hat2 cb
        have hlen : (sl ++ [(⟨0, none⟩ : Sl Bx)]).length = n + 1 := by rw [List.length_append, HN.out]; rfl
        have hA2 := hat2.1
        rw [← hlen] at hA2
        obtain ⟨Z, hZ⟩ : ∃ Z, W.drew = Z := ⟨_, rfl⟩
        have hd : Below W.heap.size W Z := hZ ▸ (Below.refl _ _).drew
        have HZ := Lib.hid hZ
        have c1W : W.cell? ⟨b, 1, none⟩ = some (.slice (some ⟨g, 0, none⟩) (n + 1) cap2) := hat2.1.bl.cell 1 _ rfl
        replace hA2 := hA2.on hd
        obtain ⟨d0, d1, d2, d3, d4⟩ := hA2.cells (i := n) (s := ⟨0, none⟩) (by rw [← HN.out]; simp)
        have f0 := hA2.row.frozenAt (n * 5)
        have f1 := hA2.row.frozenAt (n * 5 + 1)
        have f2 := hA2.row.frozenAt (n * 5 + 2)
        have f3 := hA2.row.frozenAt (n * 5 + 3)
        have f4 := hA2.row.frozenAt (n * 5 + 4)
        have bW : BL 44 w0.heap.size #[.slice x.q0 x.n0 x.c0, .slice x.q1 x.n1 x.c1, .slice x.q2 x.n2 x.c2] W := by
          have b1 := b0.on (blk_alloc (.cells #[.slice none 0 0, .slice none 0 0, .slice none 0 0, .int .i64 0, .bool false] 121))
          have b2 : BL 44 w0.heap.size #[.slice x.q0 x.n0 x.c0, .slice x.q1 x.n1 x.c1, .slice x.q2 x.n2 x.c2] w1 := (hgrow.block _ b1.lt (fun e => BL.ne_row b1 (by decide) hrow e.symm)).trans b1
          rw [← hW]
          exact b2.keep (Keep.setCell (S := fun k => k ≠ b) w1 _ _ (by simp)) (fun e => (BL.ne b2 hbw (by decide)) e)
        have bZ := bW.on hd
        have hset := hA2.set n ⟨1, some x⟩ (by rw [hlen]; omega)
        have hse : (sl ++ [(⟨0, none⟩ : Sl Bx)]).set n ⟨1, some x⟩ = sl ++ [⟨1, some x⟩] := by rw [← HN.out]; simp
        rw [hse] at hset
        have kw : IntKind.i64.wrap 1 = 1 := by decide
        obtain ⟨Y, hY⟩ : ∃ Y, (((((Z.setCell ⟨g, n * 5, none⟩ (.slice x.q0 x.n0 x.c0)).setCell ⟨g, n * 5 + 1, none⟩ (.slice x.q1 x.n1 x.c1)).setCell ⟨g, n * 5 + 2, none⟩ (.slice x.q2 x.n2 x.c2)).setCell ⟨g, n * 5 + 3, none⟩ (.int .i64 1)).setCell ⟨g, n * 5 + 4, none⟩ (.bool true)) = Y := ⟨_, rfl⟩
        rw [hlen] at hset
        replace hset : At base b size (.slice (some ⟨g, 0, none⟩) (sl ++ [(⟨1, some x⟩ : Sl Bx)]).length cap2) (sl ++ [⟨1, some x⟩]) (((((Z.setCell ⟨g, n * 5, none⟩ (.slice x.q0 x.n0 x.c0)).setCell ⟨g, n * 5 + 1, none⟩ (.slice x.q1 x.n1 x.c1)).setCell ⟨g, n * 5 + 2, none⟩ (.slice x.q2 x.n2 x.c2)).setCell ⟨g, n * 5 + 3, none⟩ (.int .i64 1)).setCell ⟨g, n * 5 + 4, none⟩ (.bool true)) ∧ Wrote b (.slice (some ⟨g, 0, none⟩) (n + 1) cap2) (.slice (some ⟨g, 0, none⟩) (sl ++ [(⟨1, some x⟩ : Sl Bx)]).length cap2) Z (((((Z.setCell ⟨g, n * 5, none⟩ (.slice x.q0 x.n0 x.c0)).setCell ⟨g, n * 5 + 1, none⟩ (.slice x.q1 x.n1 x.c1)).setCell ⟨g, n * 5 + 2, none⟩ (.slice x.q2 x.n2 x.c2)).setCell ⟨g, n * 5 + 3, none⟩ (.int .i64 1)).setCell ⟨g, n * 5 + 4, none⟩ (.bool true)) := hset
        rw [hY] at hset
        have HYY := Lib.hid hY
        obtain ⟨e0', e1', e2', e3', e4'⟩ := hset.1.cells (i := n) (s := ⟨1, some x⟩) (by rw [← HN.out]; simp)
        have HH := Lib.hid (fun W hc => handle_any g (n * 5) n 1 W hc (by omega) (by omega))
        have bY := bZ.keep hset.2.1 ⟨BL.ne bZ hA2.bl (show (44 : TypeId) ≠ 117 by decide), fun e => BL.ne_row bZ (show (44 : TypeId) ≠ 121 by decide) hA2.row e⟩
        have zp0 := bZ.cell 0 _ rfl
        have zp1 := bZ.cell 1 _ rfl
        have zp2 := bZ.cell 2 _ rfl
        have yp0 := bY.cell 0 _ rfl
        have yp1 := bY.cell 1 _ rfl
        have yp2 := bY.cell 2 _ rfl
        have hwr := hat2.2.trans (show Wrote b _ _ W Z from ⟨(Keep.of_below hd).mono fun k hk _ => hk, fun k hk => .inl hk⟩)
        have HSET := Lib.hid hset
        have HWR := Lib.hid hwr
        have HE1 := Lib.hid e3'
        have HW := Lib.hid hW
        have HAT := Lib.hid hat
        have HLEN := Lib.hid hlen
        clear bW bZ bY hd hZ hY hat2 hA2 hset hse hwr hW hown' hgrow hat hall1 hall0 hrow hbq hbw cb hlen e0' e1' e2' e3' e4')
      rw [HW.out]
      go_wp2_with fail
      refine pregion_any (fun X => X.cell? ⟨w0.heap.size, 0, none⟩ = some (.slice x.q0 x.n0 x.c0) ∧ X.cell? ⟨w0.heap.size, 1, none⟩ = some (.slice x.q1 x.n1 x.c1) ∧ X.cell? ⟨w0.heap.size, 2, none⟩ = some (.slice x.q2 x.n2 x.c2)) (by kernel_rfl) ?_
      rw [HZ.out]
      refine wpAnyH_take (i := 0) (v := (.pointer (some ⟨g, n * 5, none⟩))) rfl (by kernel_rfl) (by kernel_rfl) (by kernel_rfl) (fun _ _ _ h => h) (.inl ⟨by kernel_rfl, ?_⟩) ⟨zp0, zp1, zp2⟩ ?_
      · rintro w ⟨h0, h1, h2⟩; go_simp <;> omega
      refine plist #[true, false, false, false, false, false, false, false, false, false] (by kernel_rfl) ?_
      refine wpAnyH_take (i := 1) (v := (.agg #[.slice x.q0 x.n0 x.c0, .slice x.q1 x.n1 x.c1, .slice x.q2 x.n2 x.c2])) rfl (by kernel_rfl) (by kernel_rfl) (by kernel_rfl) (fun _ _ _ h => h) (.inl ⟨by kernel_rfl, ?_⟩) ⟨zp0, zp1, zp2⟩ ?_
      · rintro w ⟨h0, h1, h2⟩; go_simp <;> omega
      refine plist #[true, true, false, false, false, false, false, false, false, false] (by kernel_rfl) ?_
      refine wpAnyH_take (i := 2) (v := (.pointer (some ⟨g, n * 5, none⟩))) rfl (by kernel_rfl) (by kernel_rfl) (by kernel_rfl) (fun _ _ _ h => h) (.inl ⟨by kernel_rfl, ?_⟩) ⟨zp0, zp1, zp2⟩ ?_
      · rintro w ⟨h0, h1, h2⟩; go_simp <;> omega
      refine plist #[true, true, true, false, false, false, false, false, false, false] (by kernel_rfl) ?_
      refine wpAnyH_take (i := 3) (v := (.pointer (some ⟨g, n * 5, none⟩))) rfl (by kernel_rfl) (by kernel_rfl) (by kernel_rfl) (fun _ _ _ h => h) (.inl ⟨by kernel_rfl, ?_⟩) ⟨zp0, zp1, zp2⟩ ?_
      · rintro w ⟨h0, h1, h2⟩; go_simp <;> omega
      refine plist #[true, true, true, true, false, false, false, false, false, false] (by kernel_rfl) ?_
      refine wpAnyH_take (i := 4) (v := (.pointer (some ⟨g, n * 5 + 3, none⟩))) rfl (by kernel_rfl) (by kernel_rfl) (by kernel_rfl) (fun _ _ _ h => h) (.inl ⟨by kernel_rfl, ?_⟩) ⟨zp0, zp1, zp2⟩ ?_
      · rintro w ⟨h0, h1, h2⟩; go_simp <;> omega
      refine plist #[true, true, true, true, true, false, false, false, false, false] (by kernel_rfl) ?_
      refine pone 5 (by kernel_rfl) rfl fun K hK => ?_
      go_simp
      refine hK _ _ ⟨zp0, zp1, zp2⟩ ?_
      clear hK K
      refine plist #[true, true, true, true, true, true, false, false, false, false] (by kernel_rfl) ?_
      refine pone 6 (by kernel_rfl) rfl fun K hK => ?_
      go_simp
      (try rw [kw])
      refine hK _ _ ⟨zp0, zp1, zp2⟩ ?_
      clear hK K
      refine plist #[true, true, true, true, true, true, true, false, false, false] (by kernel_rfl) ?_
      refine pone 7 (by kernel_rfl) rfl fun K hK => ?_
      go_simp
      refine hK _ _ ⟨zp0, zp1, zp2⟩ ?_
      clear hK K
      refine plist #[true, true, true, true, true, true, true, true, false, false] (by kernel_rfl) ?_
      refine pone 8 (by kernel_rfl) rfl fun K hK => ?_
      go_simp
      refine hK _ _ ⟨zp0, zp1, zp2⟩ ?_
      clear hK K
      refine plist #[true, true, true, true, true, true, true, true, true, false] (by kernel_rfl) ?_
      refine pone 9 (by kernel_rfl) rfl fun K hK => ?_
      go_simp
      rw [HYY.out]
      refine hK _ _ ⟨yp0, yp1, yp2⟩ ?_
      clear hK K
      refine pdone (by kernel_rfl) ?_ _
      go_wp2_with fail
      refine (HH.out _ HE1.out).mono ?_
      rintro e w' ⟨rfl, rfl⟩
      go_wp2
      go_ret2
      exact ⟨by rw [H1.out, H2.out, HN.out]; rfl, _, by rw [H3.out]; exact HSET.out.1, HWr.out.trans (HWR.out.trans HSET.out.2)⟩
    · have H1 := Lib.hid (show putHd size sl = 0 by unfold putHd; simp only [hfr, if_neg hlt])
      have H2 := Lib.hid (show putE size sl = 6 by unfold putE; simp only [hfr, if_neg hlt])
      have H3 := Lib.hid (show putL size sl x = sl by unfold putL; simp only [hfr, if_neg hlt])
      have g1 : ((sl.length : Int) == (size : Int)) = true := by rw [beq_iff_eq]; omega
      obtain ⟨n, hn⟩ : ∃ n, sl.length = n := ⟨_, rfl⟩
      rw [hn] at con g1
      clear hfr hfn ha hf hlt hn hl
      go_enter Tryz.func34, Tryz.ntmps34
      go_wp2_with fail
      rw [HW0.out]
      refine con.mono ?_
      rintro e w' ⟨rfl, rfl⟩
      clear con
      go_wp2
      go_ret2
      exact ⟨by rw [H1.out, H2.out]; rfl, v, by rw [H3.out]; exact HA.out, HWr.out⟩
end Go.Proofs.YtkjkfgmoogbdiaaGreatDoor.Brn

namespace Go.Proofs.YtkjkfgmoogbdiaaGreatDoor
open Go.RowKit Go.Shelf
attribute [local go_sem] Oper.semAt_some

end Go.Proofs.YtkjkfgmoogbdiaaGreatDoor

namespace Go.Proofs.YtkjkfgmoogbdiaaGreatDoor.Cls
open Url Org
set_option linter.unusedVariables false

/-- Is a text just an origin's? -/
def prinB (t : List UInt8) : Bool := match parseQ 9223372036854775807 t with
  | .inr x => decide (textO x = t)
  | .inl _ => false
def blankB (b : UInt8) : Bool := b == 32 || b == 9
/-- Without the blanks at both ends. -/
def trimB (l : List UInt8) : List UInt8 := ((l.dropWhile blankB).reverse.dropWhile blankB).reverse
def neverS : List UInt8 := [110, 101, 118, 101, 114]
end Go.Proofs.YtkjkfgmoogbdiaaGreatDoor.Cls

namespace Go.Proofs.YtkjkfgmoogbdiaaGreatDoor
open Go.RowKit Go.Shelf Go.Sort

theorem SlIn.ne_box {α : Type} {enc : α → Value} {w : World} {q : Option Addr} {n : Nat} {xs : List α} {B : Nat} {t : TypeId} {v : Value} (h : SlIn enc w q n xs) (hB : Boxed w B t v) (hv : ∀ x, enc x ≠ v) : ∀ a, q = some a → 0 < n → a.block ≠ B := by
  rintro a rfl hn rfl
  obtain ⟨b, o, he, _, hc⟩ := h.at hn
  cases he
  cases xs with
  | nil => have := h.1; simp at this; omega
  | cons x xs =>
    have h1 := hc 0 x rfl
    have h2 : w.heap[b]? = some (.cells #[v] t) := hB
    simp only [World.cell?, h2] at h1
    by_cases ho : o + 0 = 0
    · rw [ho] at h1; simp at h1; exact hv x h1.symm
    · simp at h1; rw [List.getElem?_eq_none (by simp; omega)] at h1; cases h1
/-- A set does not mind what becomes of a box. -/
theorem SetIs.set {α : Type} [LT α] {enc : α → Value} {w : World} {v : Value} {xs : List α} {B : Nat} {t : TypeId} {u u' : Value} (h : SetIs enc w v xs) (hB : Boxed w B t u) (hv : ∀ x, enc x ≠ u) : SetIs enc (w.setCell ⟨B, 0, none⟩ u') v xs := by
  obtain ⟨q, n, c, rfl, h1, h2, h3, h4⟩ := h
  exact ⟨q, n, c, rfl, h1, h2, h3.keep (Keep.setCell (S := fun b => b ≠ B) _ _ _ (by simp)) (h3.ne_box hB hv), h4⟩

end Go.Proofs.YtkjkfgmoogbdiaaGreatDoor

namespace Go.Proofs.YtkjkfgmoogbdiaaGreatDoor.Pct
open Go.RowKit Go.Shelf
attribute [local go_sem] Oper.semAt_some

theorem grown_keep {W w1 : World} {n₀ B : Nat} {t e : TypeId} {size : Nat} {v v' : Value} {k m : Nat} {xs ys : List Value} {S : Nat → Prop}
    (hv : Boxed W B t v) (hte : t ≠ e) (hrow : W.ownsRow n₀ e size v k xs) (hS : ¬ S B) (hSo : ∀ b, v.ownBlock = some b → ¬ S b) (hown' : w1.ownsRow n₀ e size v' m ys) (hG : Grown W v w1 v') :
    Boxed w1 B t v ∧ Boxed (w1.setCell ⟨B, 0, none⟩ v') B t v' ∧ (w1.setCell ⟨B, 0, none⟩ v').ownsRow n₀ e size v' m ys ∧ Keep S W (w1.setCell ⟨B, 0, none⟩ v') := by
  have hv1 : Boxed w1 B t v := (hG.1 (fun b => v.ownBlock ≠ some b) (fun b hb h => h hb)).boxed hv (hv.not_row hte hrow).symm
  exact ⟨hv1, hv1.set v', hown'.kept (grownBy_setCell' w1 B v') (.inr (hv1.not_row hte hown').symm), (hG.1 S hSo).trans (Keep.setCell _ _ _ hS)⟩
theorem can_one (p : Int) (pre : List (UInt8 × Bool)) (x : UInt8) (cd : Bool) : canL p (pre ++ [(x, cd)]) = canL p pre ++ putL (canB p (x, cd)) x := by
  simp [canL]

set_option maxRecDepth 100000 in
set_option maxHeartbeats 4000000 in
theorem Canon_any (q : Option Addr) (n c : Nat) (l : List UInt8) (p : Int) (w : World) (hl : l.length = n) (hn : n ≤ 274877906944) (hb : Lib.BytesIn w q n (Lib.numsL l)) :
    Calls Tryz.prog 163 #[.slice q n c, .int .i64 p] w fun e w' => TextPost ((itemsL l).map (canL p)) w e w' := by
  obtain ⟨i0, hi0, hz0, hz1, hz2⟩ := info_parts info_u8
  obtain ⟨Wp, hWp⟩ : ∃ Wp, w.alloc (.cells #[.int .i64 p] 239) = Wp := ⟨_, rfl⟩
  have hbp : Boxed Wp w.heap.size 239 (.int .i64 p) := by rw [← hWp]; exact Boxed.new w _ _
  have hkp : ∀ S, Keep S w Wp := fun S => by rw [← hWp]; exact Keep.alloc S w _
  have hsp : Wp.heap.size = w.heap.size + 1 := by rw [← hWp]; simp
  have hql := bytes_lt hb
  replace hb := bytes_keep hb (hkp (fun _ => True)) (fun _ _ _ => trivial)
  have con := whole_any q n c l Wp hl (by omega) hb
  have HWp := Lib.hid hWp
  clear hWp
  refine (callsIn_wide (n := 1)).1 ?_
  refine callsIn_of_wp_marks Tryz.func163 rfl trivial ?_ rfl
  simp only [Tryz.ntmps163, List.size_toArray, List.length_cons, List.length_nil, Nat.reduceAdd, Nat.reduceSub, Array.replicate_succ, Array.replicate_zero, List.push_toArray, List.append_toArray, List.nil_append, List.cons_append]
  cases hw : wholeL l with
  | false =>
    have hi := whole_none l hw
    rw [hw] at con
    have HI := Lib.hid hi
    clear hi hw hl hb
    have hBp := (hkp (fun b => b < w.heap.size)).below (Nat.le_refl _)
    clear hsp hkp
    gi_wp2_with fail
    rw [HWp.out]
    refine ⟨trivial, (callsIn_wide.2 con).mono ?_⟩
    rintro e w' ⟨rfl, rfl⟩
    clear con hql
    gi_wp2
    refine ⟨_, results_tmp2 rfl _ _ _, .slice none 0 0, 2, rfl, Lib.hid (by rw [HI.out]; rfl), ?_, hBp⟩
    rw [HI.out]
    exact World.ownsRow_nil _ _ _ _
  | true =>
    obtain ⟨m, hm⟩ := whole_some l hw
    rw [hw] at con
    have hml : m.length ≤ n := by have := items_len l m hm; omega
    obtain ⟨w1, hrun, hown, hgrow⟩ := run_make_own (P := Tryz.prog) (w := Wp) (w.heap.size + 1) 30 5 i0 (.int .u8 0) 1 Tryz.underlying30 hi0 hz0 hz1 .i64 .i64 n (by rw [hz2]; omega) (by unfold maxLen; omega) (by omega)
    have hk1 : ∀ S, Keep S Wp w1 := fun S => Keep.of_grownBy hgrow (fun r h => by cases h)
    have hw1 : w.heap.size + 1 < w1.heap.size := by have := (hown.lt Wp.heap.size rfl).2; omega
    rw [hsp] at hown hrun
    obtain ⟨W1, hW1⟩ : ∃ W1, w1.alloc (.cells #[.slice (some ⟨w.heap.size + 1, 0, none⟩) 0 n] 30) = W1 := ⟨_, rfl⟩
    have hs1 : W1.heap.size = w1.heap.size + 1 := by rw [← hW1]; simp
    have b0 : Boxed (W1.alloc (.cells #[.slice q n c] 30)) w1.heap.size 30 (.slice (some ⟨w.heap.size + 1, 0, none⟩) 0 n) := by rw [← hW1]; exact (Boxed.new w1 _ _).alloc _
    have b1 := Boxed.new W1 30 (.slice q n c)
    have own0 : (W1.alloc (.cells #[.slice q n c] 30)).ownsRow (w.heap.size + 1) 5 1 (.slice (some ⟨w.heap.size + 1, 0, none⟩) 0 n) 0 [] := by rw [← hW1]; exact (hown.alloc _).alloc _
    have hk0 : ∀ S, Keep S Wp (W1.alloc (.cells #[.slice q n c] 30)) := fun S => by rw [← hW1]; exact (hk1 S).trans ((Keep.alloc S w1 _).trans (Keep.alloc S _ _))
    have hs0 : (W1.alloc (.cells #[.slice q n c] 30)).heap.size = w1.heap.size + 2 := by simp; omega
    have con2 := meant_any q n c W1
    have hb0 := bytes_keep hb (hk0 (fun _ => True)) (fun _ _ _ => trivial)
    have HM := Lib.hid hm
    have HL := Lib.hid hl
    have HW1 := Lib.hid hW1
    have HS1 := Lib.hid hs1
    have HS0 := Lib.hid hs0
    have HSP := Lib.hid hsp
    clear hm hw hl hgrow hown hk1 hW1 hs1 hs0 hb hsp
    gi_wp2_with fail
    rw [HWp.out]
    refine ⟨trivial, (callsIn_wide.2 con).mono ?_⟩
    rintro e w' ⟨rfl, rfl⟩
    clear con
    gi_wp2_with fail
    rw [HW1.out]
    refine ⟨trivial, (callsIn_wide.2 con2).mono ?_⟩
    rintro e W0 ⟨rfl, hW0⟩
    rw [← hW0] at b0 b1 own0 hk0 hb0 HS0
    clear con2 hW0 hrun
    gi_wp2
    have hs1 := HS1.out
    have hs0 := HS0.out
    replace hbp := (hk0 (fun _ => True)).boxed hbp trivial
    rw [hs1] at b1
    obtain ⟨RB, hRB⟩ : ∃ RB : Nat → Prop, RB = fun b => b < w.heap.size + 1 ∨ b = w1.heap.size + 1 := ⟨_, rfl⟩
    have hRl : ∀ b, RB b → b < W0.heap.size := fun b hb => by rw [hRB] at hb; rcases hb with h | h <;> omega
    have hRo : ∀ b, b < w.heap.size + 1 → RB b := fun b hb => by rw [hRB]; exact .inl hb
    have hRi : RB (w1.heap.size + 1) := by rw [hRB]; exact .inr rfl
    have hRn : ¬ RB w1.heap.size := fun hb => by rw [hRB] at hb; rcases hb with h | h <;> omega
    have hRr : ∀ b, RB b → w.heap.size + 1 ≤ b → b = w1.heap.size + 1 := fun b hb h => by rw [hRB] at hb; rcases hb with h' | h'; omega; exact h'
    clear hRB
    rw [hs1]
    clear hs1 HS1
    refine rf_law (gf := 213) (lb := #[.pointer (some ⟨w1.heap.size + 1, 0, none⟩)]) rfl (enters_of Tryz.func213 (by kernel_rfl) rfl)
      (meant1_iter (w1.heap.size + 1) q n c l m RB W0 HL.out (by omega) HM.out hb0 (fun a ha h0 => hRo _ (by have := hql a ha h0; omega)) b1 hRi) (Keep.refl _ _) hRl (fun x args G W h => by rw [h.1]; rfl)
      (CollI (canL p) (w.heap.size + 1) w1.heap.size RB W0) (fun _ _ _ _ => False) (CollI_abide _ _ _ _ _ (by omega) hRl) (fun _ _ _ _ _ _ h _ _ => h)
      ⟨_, b0, own0, (fun _ h => h.elim), (fun _ _ h => h), Keep.refl _ _⟩ ?round ?done ?stop
    case round =>
      rintro ll pre ⟨x, cd⟩ rest Pv G args Wr hll hxs ⟨v, hbx, hrow, hge, hnv, hKW⟩ hPl hGl hPb hGP ⟨rfl, rfl⟩
      have hpl : (canL p pre).length ≤ 70368744177664 := by
        have h1 : pre.length + rest.length + 1 = m.length := by rw [hxs]; simp; omega
        have h2 := can_len p pre
        omega
      have hxx := u8_lt x
      clear b0 own0 hb0 hxs
      gi_wp2
      refine ⟨Keep.refl _ _, fun W2 hk2 hs2 r hr => ?_⟩
      have hnP : ∀ b, b < W0.heap.size → ¬ Pv b := fun b hb h => by have := hge b h; omega
      have hk2' : Keep (fun b => ¬ Pv b) Wr W2 := hk2.mono fun b _ hb h => hb (h ▸ hPl)
      replace hbx := hk2'.boxed hbx (hnP _ (by omega))
      replace hrow := hk2'.row hrow hnv
      have hK2 : Keep RB W0 W2 := hKW.trans (hk2'.mono fun b _ hb => hnP b (hRl b hb))
      have hPl2 : ∀ b, Pv b → b < W2.heap.size := fun b hb => by rw [hs2]; exact hPb b hb
      have hvn : ∀ b, v.ownBlock = some b → ¬ (RB b ∨ Pv b) := fun b hb h => by
        rcases h with h | h
        · have h1 := hrow.lt b hb
          have h2 := hRr b h h1.1
          rw [h2] at hb
          exact (hK2.boxed b1 hRi).not_row (by decide) hrow hb.symm
        · exact hnv b hb h
      clear hk2 hk2' hs2 hr hKW
      obtain ⟨Wd, hWd⟩ : ∃ Wd, W2.drew = Wd := ⟨_, rfl⟩
      have hkd : ∀ S, Keep S W2 Wd := fun S => by rw [← hWd]; exact Keep.drew S W2
      replace hbx := (hkd (fun _ => True)).boxed hbx trivial
      replace hrow := (hkd (fun _ => True)).row hrow (fun _ _ => trivial)
      have hKd := hK2.trans (hkd RB)
      replace hPl2 : ∀ b, Pv b → b < Wd.heap.size := fun b hb => by rw [← hWd]; exact hPl2 b hb
      replace hbp := hKd.boxed hbp (hRo _ (by omega))
      have cB := hbx.cell
      have hS := hbp.cell
      have hszW := hKd.size
      have hwW : w.heap.size + 1 ≤ Wd.heap.size := by omega
      have HWd := Lib.hid hWd
      have c1 := isFree_any x
      have c2 := stands_any x p
      have c3 := fun s => appendByte_any (w.heap.size + 1) v (canL p pre) x s Wd hrow hwW hpl
      obtain ⟨z1, H1⟩ : ∃ z, Hid (freeB x = z) := ⟨_, rfl⟩
      obtain ⟨z2, H2⟩ : ∃ z, Hid (standsB p x = z) := ⟨_, rfl⟩
      rw [H1.out] at c1
      rw [H2.out] at c2
      have hcb : canB p (x, cd) = (z1 || (!cd && z2)) := by unfold canB; rw [H1.out, H2.out]
      clear hWd H1 H2
      gi_wp2_with fail
      refine region_any (fun X => X.cell? ⟨w.heap.size, 0, none⟩ = some (.int .i64 p)) (by kernel_rfl) ?_
      rw [HWd.out]
      cases z1
      · cases cd
        · have HC := Lib.hid (show canB p (x, false) = z2 by rw [hcb]; rfl)
          clear hcb
          refine anyC_take 1 (v := (.int .u8 (x.toNat : Int))) rfl (by kernel_rfl) (by kernel_rfl) (by kernel_rfl) (by kernel_rfl) (fun _ _ _ h => h) (.inl ⟨by rfl, fun X hX => ⟨fun _ _ => trivial, .inl ?_⟩⟩) hS ?_
          · go_simp
          simp only [Act.put, List.getElem_toArray, List.getElem_cons_zero, List.getElem_cons_succ, List.setIfInBounds_toArray, List.set_cons_zero, List.set_cons_succ]
          refine anyH_list #[false, true, false, false, false, false, false, false, false, false, false, false, false, false, false] (by kernel_rfl) ?_
          refine anyC_take 2 (v := (.int .u8 (x.toNat : Int))) rfl (by kernel_rfl) (by kernel_rfl) (by kernel_rfl) (by kernel_rfl) (fun _ _ _ h => h) (.inl ⟨by rfl, fun X hX => ⟨fun _ _ => trivial, .inl ?_⟩⟩) hS ?_
          · go_simp
          simp only [Act.put, List.getElem_toArray, List.getElem_cons_zero, List.getElem_cons_succ, List.setIfInBounds_toArray, List.set_cons_zero, List.set_cons_succ]
          refine anyH_list #[false, true, true, false, false, false, false, false, false, false, false, false, false, false, false] (by kernel_rfl) ?_
          refine anyC_take 3 (v := (.bool false)) rfl (by kernel_rfl) (by kernel_rfl) (by kernel_rfl) (by kernel_rfl) (fun _ _ _ h => h) (.inl ⟨by rfl, fun X hX => ⟨fun _ _ => trivial, .inr ⟨193, #[.int .u8 (x.toNat : Int)], ?_, (fun h => by cases h), (CallsIn.inRound ll (callsIn_wide.2 (c1 X))).mono (fun _ _ h => ⟨h.1, h.2.symm⟩)⟩⟩⟩) hS ?_
          · go_simp
          simp only [Act.put, List.getElem_toArray, List.getElem_cons_zero, List.getElem_cons_succ, List.setIfInBounds_toArray, List.set_cons_zero, List.set_cons_succ]
          refine anyH_list #[false, true, true, true, false, false, false, false, false, false, false, false, false, false, false] (by kernel_rfl) ?_
          refine anyC_take 4 (v := (.bool false)) rfl (by kernel_rfl) (by kernel_rfl) (by kernel_rfl) (by kernel_rfl) (fun _ _ _ h => h) (.inl ⟨by rfl, fun X hX => ⟨fun _ _ => trivial, .inl ?_⟩⟩) hS ?_
          · go_simp
          simp only [Act.put, List.getElem_toArray, List.getElem_cons_zero, List.getElem_cons_succ, List.setIfInBounds_toArray, List.set_cons_zero, List.set_cons_succ]
          refine anyH_list #[false, true, true, true, true, false, false, false, false, false, false, false, false, false, false] (by kernel_rfl) ?_
          refine anyC_take 5 (v := (.bool false)) rfl (by kernel_rfl) (by kernel_rfl) (by kernel_rfl) (by kernel_rfl) (fun _ _ _ h => h) (.inl ⟨by rfl, fun X hX => ⟨fun _ _ => trivial, .inl ?_⟩⟩) hS ?_
          · go_simp
          simp only [Act.put, List.getElem_toArray, List.getElem_cons_zero, List.getElem_cons_succ, List.setIfInBounds_toArray, List.set_cons_zero, List.set_cons_succ]
          refine anyH_list #[false, true, true, true, true, true, false, false, false, false, false, false, false, false, false] (by kernel_rfl) ?_
          refine anyC_take 6 (v := (.bool true)) rfl (by kernel_rfl) (by kernel_rfl) (by kernel_rfl) (by kernel_rfl) (fun _ _ _ h => h) (.inl ⟨by rfl, fun X hX => ⟨fun _ _ => trivial, .inl ?_⟩⟩) hS ?_
          · go_simp
          simp only [Act.put, List.getElem_toArray, List.getElem_cons_zero, List.getElem_cons_succ, List.setIfInBounds_toArray, List.set_cons_zero, List.set_cons_succ]
          refine anyH_list #[false, true, true, true, true, true, true, false, false, false, false, false, false, false, false] (by kernel_rfl) ?_
          refine anyC_take 7 (v := (.bool true)) rfl (by kernel_rfl) (by kernel_rfl) (by kernel_rfl) (by kernel_rfl) (fun _ _ _ h => h) (.inl ⟨by rfl, fun X hX => ⟨fun _ _ => trivial, .inl ?_⟩⟩) hS ?_
          · go_simp
          simp only [Act.put, List.getElem_toArray, List.getElem_cons_zero, List.getElem_cons_succ, List.setIfInBounds_toArray, List.set_cons_zero, List.set_cons_succ]
          refine anyH_list #[false, true, true, true, true, true, true, true, false, false, false, false, false, false, false] (by kernel_rfl) ?_
          refine anyC_take 8 (v := (.int .u8 (x.toNat : Int))) rfl (by kernel_rfl) (by kernel_rfl) (by kernel_rfl) (by kernel_rfl) (fun _ _ _ h => h) (.inl ⟨by rfl, fun X hX => ⟨fun _ _ => trivial, .inl ?_⟩⟩) hS ?_
          · go_simp
          simp only [Act.put, List.getElem_toArray, List.getElem_cons_zero, List.getElem_cons_succ, List.setIfInBounds_toArray, List.set_cons_zero, List.set_cons_succ]
          refine anyH_list #[false, true, true, true, true, true, true, true, true, false, false, false, false, false, false] (by kernel_rfl) ?_
          refine anyC_take 9 (v := (.int .i64 p)) rfl (by kernel_rfl) (by kernel_rfl) (by kernel_rfl) (by kernel_rfl) (fun _ _ _ h => h) (.inl ⟨by rfl, fun X hX => ⟨fun _ _ => trivial, .inl ?_⟩⟩) hS ?_
          · go_simp
          simp only [Act.put, List.getElem_toArray, List.getElem_cons_zero, List.getElem_cons_succ, List.setIfInBounds_toArray, List.set_cons_zero, List.set_cons_succ]
          refine anyH_list #[false, true, true, true, true, true, true, true, true, true, false, false, false, false, false] (by kernel_rfl) ?_
          refine anyC_take 10 (v := (.bool z2)) rfl (by kernel_rfl) (by kernel_rfl) (by kernel_rfl) (by kernel_rfl) (fun _ _ _ h => h) (.inl ⟨by rfl, fun X hX => ⟨fun _ _ => trivial, .inr ⟨194, #[.int .u8 (x.toNat : Int), .int .i64 p], ?_, (fun h => by cases h), (CallsIn.inRound ll (callsIn_wide.2 (c2 X))).mono (fun _ _ h => ⟨h.1, h.2.symm⟩)⟩⟩⟩) hS ?_
          · go_simp
          simp only [Act.put, List.getElem_toArray, List.getElem_cons_zero, List.getElem_cons_succ, List.setIfInBounds_toArray, List.set_cons_zero, List.set_cons_succ]
          refine anyH_list #[false, true, true, true, true, true, true, true, true, true, true, false, false, false, false] (by kernel_rfl) ?_
          refine anyC_take 11 (v := (.bool z2)) rfl (by kernel_rfl) (by kernel_rfl) (by kernel_rfl) (by kernel_rfl) (fun _ _ _ h => h) (.inl ⟨by rfl, fun X hX => ⟨fun _ _ => trivial, .inl ?_⟩⟩) hS ?_
          · go_simp
          simp only [Act.put, List.getElem_toArray, List.getElem_cons_zero, List.getElem_cons_succ, List.setIfInBounds_toArray, List.set_cons_zero, List.set_cons_succ]
          refine anyH_list #[false, true, true, true, true, true, true, true, true, true, true, true, false, false, false] (by kernel_rfl) ?_
          refine anyC_take 12 (v := (.bool z2)) rfl (by kernel_rfl) (by kernel_rfl) (by kernel_rfl) (by kernel_rfl) (fun _ _ _ h => h) (.inl ⟨by rfl, fun X hX => ⟨fun _ _ => trivial, .inl ?_⟩⟩) hS ?_
          · go_simp
          simp only [Act.put, List.getElem_toArray, List.getElem_cons_zero, List.getElem_cons_succ, List.setIfInBounds_toArray, List.set_cons_zero, List.set_cons_succ]
          refine anyH_list #[false, true, true, true, true, true, true, true, true, true, true, true, true, false, false] (by kernel_rfl) ?_
          refine anyH_one 0 (by kernel_rfl) rfl fun K hK => ?_
          go_simp
          refine hK _ _ hS ?_
          clear hK K
          refine anyH_list #[true, true, true, true, true, true, true, true, true, true, true, true, true, false, false] (by kernel_rfl) ?_
          refine anyH_one 13 (by kernel_rfl) rfl fun K hK => ?_
          go_simp
          refine ⟨trivial, rfl, (CallsIn.inRound ll (callsIn_wide.2 (c3 z2))).mono ?_⟩
          rintro e w3 ⟨v', rfl, hr3, hG⟩
          obtain ⟨nt, hnt⟩ : ∃ nt, canL p pre ++ putL z2 x = nt := ⟨_, rfl⟩
          rw [hnt] at hr3
          have HN := Lib.hid hnt
          clear hnt
          obtain ⟨q3, cc3, rfl, _⟩ := row_open hr3
          obtain ⟨hv1, hv2, hr2, hkk⟩ := grown_keep (S := fun b => RB b ∨ Pv b) hbx (by decide) hrow (fun h => h.elim hRn (hnP _ (by omega))) hvn hr3 hG
          have hS3 := ((hG.1 (fun b => b = w.heap.size) (fun b hb h => by have := (hrow.lt b hb).1; omega)).boxed hbp rfl).cell
          have hS4 := (hkk.boxed hbp (.inl (hRo _ (by omega)))).cell
          have hc1 := hv1.cell
          have hf1 := hv1.frozen
          refine hK _ _ hS3 ?_
          clear hK K
          refine anyH_list #[true, true, true, true, true, true, true, true, true, true, true, true, true, true, false] (by kernel_rfl) ?_
          refine anyH_one 14 (by kernel_rfl) rfl fun K hK => ?_
          go_simp
          refine hK _ _ hS4 ?_
          clear hK K
          refine anyH_done (by kernel_rfl) ?_ _
          clear hS3 hc1 hf1 c1 c2 c3
          gi_wp2
          refine ⟨(hkd _).trans hkk, _, hv2, ?_, fun b hb => hge b hb, fun b hb hp => ?_, hKd.trans (hkk.mono fun b _ h => .inl h)⟩
          · rw [can_one, HC.out, HN.out]; exact hr2
          · rcases hG.2 b hb with h | h
            · exact hnv b h hp
            · have h5 := hPl2 _ hp; omega
        · have HC := Lib.hid (show canB p (x, true) = false by rw [hcb]; rfl)
          clear hcb
          refine anyC_take 1 (v := (.int .u8 (x.toNat : Int))) rfl (by kernel_rfl) (by kernel_rfl) (by kernel_rfl) (by kernel_rfl) (fun _ _ _ h => h) (.inl ⟨by rfl, fun X hX => ⟨fun _ _ => trivial, .inl ?_⟩⟩) hS ?_
          · go_simp
          simp only [Act.put, List.getElem_toArray, List.getElem_cons_zero, List.getElem_cons_succ, List.setIfInBounds_toArray, List.set_cons_zero, List.set_cons_succ]
          refine anyH_list #[false, true, false, false, false, false, false, false, false, false, false, false, false, false, false] (by kernel_rfl) ?_
          refine anyC_take 2 (v := (.int .u8 (x.toNat : Int))) rfl (by kernel_rfl) (by kernel_rfl) (by kernel_rfl) (by kernel_rfl) (fun _ _ _ h => h) (.inl ⟨by rfl, fun X hX => ⟨fun _ _ => trivial, .inl ?_⟩⟩) hS ?_
          · go_simp
          simp only [Act.put, List.getElem_toArray, List.getElem_cons_zero, List.getElem_cons_succ, List.setIfInBounds_toArray, List.set_cons_zero, List.set_cons_succ]
          refine anyH_list #[false, true, true, false, false, false, false, false, false, false, false, false, false, false, false] (by kernel_rfl) ?_
          refine anyC_take 3 (v := (.bool false)) rfl (by kernel_rfl) (by kernel_rfl) (by kernel_rfl) (by kernel_rfl) (fun _ _ _ h => h) (.inl ⟨by rfl, fun X hX => ⟨fun _ _ => trivial, .inr ⟨193, #[.int .u8 (x.toNat : Int)], ?_, (fun h => by cases h), (CallsIn.inRound ll (callsIn_wide.2 (c1 X))).mono (fun _ _ h => ⟨h.1, h.2.symm⟩)⟩⟩⟩) hS ?_
          · go_simp
          simp only [Act.put, List.getElem_toArray, List.getElem_cons_zero, List.getElem_cons_succ, List.setIfInBounds_toArray, List.set_cons_zero, List.set_cons_succ]
          refine anyH_list #[false, true, true, true, false, false, false, false, false, false, false, false, false, false, false] (by kernel_rfl) ?_
          refine anyC_take 4 (v := (.bool false)) rfl (by kernel_rfl) (by kernel_rfl) (by kernel_rfl) (by kernel_rfl) (fun _ _ _ h => h) (.inl ⟨by rfl, fun X hX => ⟨fun _ _ => trivial, .inl ?_⟩⟩) hS ?_
          · go_simp
          simp only [Act.put, List.getElem_toArray, List.getElem_cons_zero, List.getElem_cons_succ, List.setIfInBounds_toArray, List.set_cons_zero, List.set_cons_succ]
          refine anyH_list #[false, true, true, true, true, false, false, false, false, false, false, false, false, false, false] (by kernel_rfl) ?_
          refine anyC_take 5 (v := (.bool true)) rfl (by kernel_rfl) (by kernel_rfl) (by kernel_rfl) (by kernel_rfl) (fun _ _ _ h => h) (.inl ⟨by rfl, fun X hX => ⟨fun _ _ => trivial, .inl ?_⟩⟩) hS ?_
          · go_simp
          simp only [Act.put, List.getElem_toArray, List.getElem_cons_zero, List.getElem_cons_succ, List.setIfInBounds_toArray, List.set_cons_zero, List.set_cons_succ]
          refine anyH_list #[false, true, true, true, true, true, false, false, false, false, false, false, false, false, false] (by kernel_rfl) ?_
          refine anyC_take 6 (v := (.bool false)) rfl (by kernel_rfl) (by kernel_rfl) (by kernel_rfl) (by kernel_rfl) (fun _ _ _ h => h) (.inl ⟨by rfl, fun X hX => ⟨fun _ _ => trivial, .inl ?_⟩⟩) hS ?_
          · go_simp
          simp only [Act.put, List.getElem_toArray, List.getElem_cons_zero, List.getElem_cons_succ, List.setIfInBounds_toArray, List.set_cons_zero, List.set_cons_succ]
          refine anyH_list #[false, true, true, true, true, true, true, false, false, false, false, false, false, false, false] (by kernel_rfl) ?_
          refine anyC_take 7 (v := (.bool false)) rfl (by kernel_rfl) (by kernel_rfl) (by kernel_rfl) (by kernel_rfl) (fun _ _ _ h => h) (.inl ⟨by rfl, fun X hX => ⟨fun _ _ => trivial, .inl ?_⟩⟩) hS ?_
          · go_simp
          simp only [Act.put, List.getElem_toArray, List.getElem_cons_zero, List.getElem_cons_succ, List.setIfInBounds_toArray, List.set_cons_zero, List.set_cons_succ]
          refine anyH_list #[false, true, true, true, true, true, true, true, false, false, false, false, false, false, false] (by kernel_rfl) ?_
          refine anyC_take 8 (v := undef) rfl (by kernel_rfl) (by kernel_rfl) (by kernel_rfl) (by kernel_rfl) (fun _ _ _ h => h) (.inr ⟨by rfl, rfl, fun _ _ _ => trivial⟩) hS ?_
          simp only [Act.put, List.getElem_toArray, List.getElem_cons_zero, List.getElem_cons_succ, List.setIfInBounds_toArray, List.set_cons_zero, List.set_cons_succ]
          refine anyH_list #[false, true, true, true, true, true, true, true, true, false, false, false, false, false, false] (by kernel_rfl) ?_
          refine anyC_take 9 (v := undef) rfl (by kernel_rfl) (by kernel_rfl) (by kernel_rfl) (by kernel_rfl) (fun _ _ _ h => h) (.inr ⟨by rfl, rfl, fun _ _ _ => trivial⟩) hS ?_
          simp only [Act.put, List.getElem_toArray, List.getElem_cons_zero, List.getElem_cons_succ, List.setIfInBounds_toArray, List.set_cons_zero, List.set_cons_succ]
          refine anyH_list #[false, true, true, true, true, true, true, true, true, true, false, false, false, false, false] (by kernel_rfl) ?_
          refine anyC_take 10 (v := undef) rfl (by kernel_rfl) (by kernel_rfl) (by kernel_rfl) (by kernel_rfl) (fun _ _ _ h => h) (.inr ⟨by rfl, rfl, fun _ _ _ => trivial⟩) hS ?_
          simp only [Act.put, List.getElem_toArray, List.getElem_cons_zero, List.getElem_cons_succ, List.setIfInBounds_toArray, List.set_cons_zero, List.set_cons_succ]
          refine anyH_list #[false, true, true, true, true, true, true, true, true, true, true, false, false, false, false] (by kernel_rfl) ?_
          refine anyC_take 11 (v := (.bool false)) rfl (by kernel_rfl) (by kernel_rfl) (by kernel_rfl) (by kernel_rfl) (fun _ _ _ h => h) (.inl ⟨by rfl, fun X hX => ⟨fun _ _ => trivial, .inl ?_⟩⟩) hS ?_
          · go_simp
          simp only [Act.put, List.getElem_toArray, List.getElem_cons_zero, List.getElem_cons_succ, List.setIfInBounds_toArray, List.set_cons_zero, List.set_cons_succ]
          refine anyH_list #[false, true, true, true, true, true, true, true, true, true, true, true, false, false, false] (by kernel_rfl) ?_
          refine anyC_take 12 (v := (.bool false)) rfl (by kernel_rfl) (by kernel_rfl) (by kernel_rfl) (by kernel_rfl) (fun _ _ _ h => h) (.inl ⟨by rfl, fun X hX => ⟨fun _ _ => trivial, .inl ?_⟩⟩) hS ?_
          · go_simp
          simp only [Act.put, List.getElem_toArray, List.getElem_cons_zero, List.getElem_cons_succ, List.setIfInBounds_toArray, List.set_cons_zero, List.set_cons_succ]
          refine anyH_list #[false, true, true, true, true, true, true, true, true, true, true, true, true, false, false] (by kernel_rfl) ?_
          refine anyH_one 0 (by kernel_rfl) rfl fun K hK => ?_
          go_simp
          refine hK _ _ hS ?_
          clear hK K
          refine anyH_list #[true, true, true, true, true, true, true, true, true, true, true, true, true, false, false] (by kernel_rfl) ?_
          refine anyH_one 13 (by kernel_rfl) rfl fun K hK => ?_
          go_simp
          refine ⟨trivial, rfl, (CallsIn.inRound ll (callsIn_wide.2 (c3 false))).mono ?_⟩
          rintro e w3 ⟨v', rfl, hr3, hG⟩
          obtain ⟨nt, hnt⟩ : ∃ nt, canL p pre ++ putL false x = nt := ⟨_, rfl⟩
          rw [hnt] at hr3
          have HN := Lib.hid hnt
          clear hnt
          obtain ⟨q3, cc3, rfl, _⟩ := row_open hr3
          obtain ⟨hv1, hv2, hr2, hkk⟩ := grown_keep (S := fun b => RB b ∨ Pv b) hbx (by decide) hrow (fun h => h.elim hRn (hnP _ (by omega))) hvn hr3 hG
          have hS3 := ((hG.1 (fun b => b = w.heap.size) (fun b hb h => by have := (hrow.lt b hb).1; omega)).boxed hbp rfl).cell
          have hS4 := (hkk.boxed hbp (.inl (hRo _ (by omega)))).cell
          have hc1 := hv1.cell
          have hf1 := hv1.frozen
          refine hK _ _ hS3 ?_
          clear hK K
          refine anyH_list #[true, true, true, true, true, true, true, true, true, true, true, true, true, true, false] (by kernel_rfl) ?_
          refine anyH_one 14 (by kernel_rfl) rfl fun K hK => ?_
          go_simp
          refine hK _ _ hS4 ?_
          clear hK K
          refine anyH_done (by kernel_rfl) ?_ _
          clear hS3 hc1 hf1 c1 c2 c3
          gi_wp2
          refine ⟨(hkd _).trans hkk, _, hv2, ?_, fun b hb => hge b hb, fun b hb hp => ?_, hKd.trans (hkk.mono fun b _ h => .inl h)⟩
          · rw [can_one, HC.out, HN.out]; exact hr2
          · rcases hG.2 b hb with h | h
            · exact hnv b h hp
            · have h5 := hPl2 _ hp; omega
      · have HC := Lib.hid (show canB p (x, cd) = true by rw [hcb]; rfl)
        clear hcb
        refine anyC_take 1 (v := (.int .u8 (x.toNat : Int))) rfl (by kernel_rfl) (by kernel_rfl) (by kernel_rfl) (by kernel_rfl) (fun _ _ _ h => h) (.inl ⟨by rfl, fun X hX => ⟨fun _ _ => trivial, .inl ?_⟩⟩) hS ?_
        · go_simp
        simp only [Act.put, List.getElem_toArray, List.getElem_cons_zero, List.getElem_cons_succ, List.setIfInBounds_toArray, List.set_cons_zero, List.set_cons_succ]
        refine anyH_list #[false, true, false, false, false, false, false, false, false, false, false, false, false, false, false] (by kernel_rfl) ?_
        refine anyC_take 2 (v := (.int .u8 (x.toNat : Int))) rfl (by kernel_rfl) (by kernel_rfl) (by kernel_rfl) (by kernel_rfl) (fun _ _ _ h => h) (.inl ⟨by rfl, fun X hX => ⟨fun _ _ => trivial, .inl ?_⟩⟩) hS ?_
        · go_simp
        simp only [Act.put, List.getElem_toArray, List.getElem_cons_zero, List.getElem_cons_succ, List.setIfInBounds_toArray, List.set_cons_zero, List.set_cons_succ]
        refine anyH_list #[false, true, true, false, false, false, false, false, false, false, false, false, false, false, false] (by kernel_rfl) ?_
        refine anyC_take 3 (v := (.bool true)) rfl (by kernel_rfl) (by kernel_rfl) (by kernel_rfl) (by kernel_rfl) (fun _ _ _ h => h) (.inl ⟨by rfl, fun X hX => ⟨fun _ _ => trivial, .inr ⟨193, #[.int .u8 (x.toNat : Int)], ?_, (fun h => by cases h), (CallsIn.inRound ll (callsIn_wide.2 (c1 X))).mono (fun _ _ h => ⟨h.1, h.2.symm⟩)⟩⟩⟩) hS ?_
        · go_simp
        simp only [Act.put, List.getElem_toArray, List.getElem_cons_zero, List.getElem_cons_succ, List.setIfInBounds_toArray, List.set_cons_zero, List.set_cons_succ]
        refine anyH_list #[false, true, true, true, false, false, false, false, false, false, false, false, false, false, false] (by kernel_rfl) ?_
        refine anyC_take 4 (v := (.bool true)) rfl (by kernel_rfl) (by kernel_rfl) (by kernel_rfl) (by kernel_rfl) (fun _ _ _ h => h) (.inl ⟨by rfl, fun X hX => ⟨fun _ _ => trivial, .inl ?_⟩⟩) hS ?_
        · go_simp
        simp only [Act.put, List.getElem_toArray, List.getElem_cons_zero, List.getElem_cons_succ, List.setIfInBounds_toArray, List.set_cons_zero, List.set_cons_succ]
        refine anyH_list #[false, true, true, true, true, false, false, false, false, false, false, false, false, false, false] (by kernel_rfl) ?_
        refine anyC_take 5 (v := undef) rfl (by kernel_rfl) (by kernel_rfl) (by kernel_rfl) (by kernel_rfl) (fun _ _ _ h => h) (.inr ⟨by rfl, rfl, fun _ _ _ => trivial⟩) hS ?_
        simp only [Act.put, List.getElem_toArray, List.getElem_cons_zero, List.getElem_cons_succ, List.setIfInBounds_toArray, List.set_cons_zero, List.set_cons_succ]
        refine anyH_list #[false, true, true, true, true, true, false, false, false, false, false, false, false, false, false] (by kernel_rfl) ?_
        refine anyC_take 6 (v := undef) rfl (by kernel_rfl) (by kernel_rfl) (by kernel_rfl) (by kernel_rfl) (fun _ _ _ h => h) (.inr ⟨by rfl, rfl, fun _ _ _ => trivial⟩) hS ?_
        simp only [Act.put, List.getElem_toArray, List.getElem_cons_zero, List.getElem_cons_succ, List.setIfInBounds_toArray, List.set_cons_zero, List.set_cons_succ]
        refine anyH_list #[false, true, true, true, true, true, true, false, false, false, false, false, false, false, false] (by kernel_rfl) ?_
        refine anyC_take 7 (v := undef) rfl (by kernel_rfl) (by kernel_rfl) (by kernel_rfl) (by kernel_rfl) (fun _ _ _ h => h) (.inr ⟨by rfl, rfl, fun _ _ _ => trivial⟩) hS ?_
        simp only [Act.put, List.getElem_toArray, List.getElem_cons_zero, List.getElem_cons_succ, List.setIfInBounds_toArray, List.set_cons_zero, List.set_cons_succ]
        refine anyH_list #[false, true, true, true, true, true, true, true, false, false, false, false, false, false, false] (by kernel_rfl) ?_
        refine anyC_take 8 (v := undef) rfl (by kernel_rfl) (by kernel_rfl) (by kernel_rfl) (by kernel_rfl) (fun _ _ _ h => h) (.inr ⟨by rfl, rfl, fun _ _ _ => trivial⟩) hS ?_
        simp only [Act.put, List.getElem_toArray, List.getElem_cons_zero, List.getElem_cons_succ, List.setIfInBounds_toArray, List.set_cons_zero, List.set_cons_succ]
        refine anyH_list #[false, true, true, true, true, true, true, true, true, false, false, false, false, false, false] (by kernel_rfl) ?_
        refine anyC_take 9 (v := undef) rfl (by kernel_rfl) (by kernel_rfl) (by kernel_rfl) (by kernel_rfl) (fun _ _ _ h => h) (.inr ⟨by rfl, rfl, fun _ _ _ => trivial⟩) hS ?_
        simp only [Act.put, List.getElem_toArray, List.getElem_cons_zero, List.getElem_cons_succ, List.setIfInBounds_toArray, List.set_cons_zero, List.set_cons_succ]
        refine anyH_list #[false, true, true, true, true, true, true, true, true, true, false, false, false, false, false] (by kernel_rfl) ?_
        refine anyC_take 10 (v := undef) rfl (by kernel_rfl) (by kernel_rfl) (by kernel_rfl) (by kernel_rfl) (fun _ _ _ h => h) (.inr ⟨by rfl, rfl, fun _ _ _ => trivial⟩) hS ?_
        simp only [Act.put, List.getElem_toArray, List.getElem_cons_zero, List.getElem_cons_succ, List.setIfInBounds_toArray, List.set_cons_zero, List.set_cons_succ]
        refine anyH_list #[false, true, true, true, true, true, true, true, true, true, true, false, false, false, false] (by kernel_rfl) ?_
        refine anyC_take 11 (v := undef) rfl (by kernel_rfl) (by kernel_rfl) (by kernel_rfl) (by kernel_rfl) (fun _ _ _ h => h) (.inr ⟨by rfl, rfl, fun _ _ _ => trivial⟩) hS ?_
        simp only [Act.put, List.getElem_toArray, List.getElem_cons_zero, List.getElem_cons_succ, List.setIfInBounds_toArray, List.set_cons_zero, List.set_cons_succ]
        refine anyH_list #[false, true, true, true, true, true, true, true, true, true, true, true, false, false, false] (by kernel_rfl) ?_
        refine anyC_take 12 (v := (.bool true)) rfl (by kernel_rfl) (by kernel_rfl) (by kernel_rfl) (by kernel_rfl) (fun _ _ _ h => h) (.inl ⟨by rfl, fun X hX => ⟨fun _ _ => trivial, .inl ?_⟩⟩) hS ?_
        · go_simp
        simp only [Act.put, List.getElem_toArray, List.getElem_cons_zero, List.getElem_cons_succ, List.setIfInBounds_toArray, List.set_cons_zero, List.set_cons_succ]
        refine anyH_list #[false, true, true, true, true, true, true, true, true, true, true, true, true, false, false] (by kernel_rfl) ?_
        refine anyH_one 0 (by kernel_rfl) rfl fun K hK => ?_
        go_simp
        refine hK _ _ hS ?_
        clear hK K
        refine anyH_list #[true, true, true, true, true, true, true, true, true, true, true, true, true, false, false] (by kernel_rfl) ?_
        refine anyH_one 13 (by kernel_rfl) rfl fun K hK => ?_
        go_simp
        refine ⟨trivial, rfl, (CallsIn.inRound ll (callsIn_wide.2 (c3 true))).mono ?_⟩
        rintro e w3 ⟨v', rfl, hr3, hG⟩
        obtain ⟨nt, hnt⟩ : ∃ nt, canL p pre ++ putL true x = nt := ⟨_, rfl⟩
        rw [hnt] at hr3
        have HN := Lib.hid hnt
        clear hnt
        obtain ⟨q3, cc3, rfl, _⟩ := row_open hr3
        obtain ⟨hv1, hv2, hr2, hkk⟩ := grown_keep (S := fun b => RB b ∨ Pv b) hbx (by decide) hrow (fun h => h.elim hRn (hnP _ (by omega))) hvn hr3 hG
        have hS3 := ((hG.1 (fun b => b = w.heap.size) (fun b hb h => by have := (hrow.lt b hb).1; omega)).boxed hbp rfl).cell
        have hS4 := (hkk.boxed hbp (.inl (hRo _ (by omega)))).cell
        have hc1 := hv1.cell
        have hf1 := hv1.frozen
        refine hK _ _ hS3 ?_
        clear hK K
        refine anyH_list #[true, true, true, true, true, true, true, true, true, true, true, true, true, true, false] (by kernel_rfl) ?_
        refine anyH_one 14 (by kernel_rfl) rfl fun K hK => ?_
        go_simp
        refine hK _ _ hS4 ?_
        clear hK K
        refine anyH_done (by kernel_rfl) ?_ _
        clear hS3 hc1 hf1 c1 c2 c3
        gi_wp2
        refine ⟨(hkd _).trans hkk, _, hv2, ?_, fun b hb => hge b hb, fun b hb hp => ?_, hKd.trans (hkk.mono fun b _ h => .inl h)⟩
        · rw [can_one, HC.out, HN.out]; exact hr2
        · rcases hG.2 b hb with h | h
          · exact hnv b h hp
          · have h5 := hPl2 _ hp; omega
    case done =>
      rintro D Pv Wd hD hPD hPl ⟨v, hbx, hrow, hge, hnv, hKW⟩ hK
      have cB := hbx.cell
      clear b0 b1 own0 hb0
      gi_wp2
      refine ⟨by simp, .inl ⟨_, _, rfl, run_takeDeferred hK, ?_⟩⟩
      refine ⟨_, results_tmp2 rfl _ _ _, v, 0, rfl, Lib.hid (by rw [HM.out]; rfl), ?_, ?_⟩
      · rw [HM.out]
        exact row_base ((Keep.putObj (S := fun b => ¬ Pv b) Wd D _ (fun h => h hPD)).row hrow hnv) (by omega)
      · exact (((((hkp (fun b => b < w.heap.size)).trans (hk0 _)).trans (hKW.mono fun b _ h => hRo b (by omega)))).trans (Keep.putObj _ _ _ (by omega))).below (Nat.le_refl _)
    case stop =>
      rintro D c pre rest Pv Wd _ _ _ _ h _
      exact h.elim

end Go.Proofs.YtkjkfgmoogbdiaaGreatDoor.Pct

namespace Go.Proofs.YtkjkfgmoogbdiaaGreatDoor.Brn
open Go.RowKit Go.Shelf Arn
attribute [local go_sem] Oper.semAt_some wide_fn
set_option linter.unusedVariables false

/-- The value (gf, lb) is an iterator over slots, as they lie when their turn comes; what it asks of a world is Lies. -/
def IterV {α : Type} (val : α → Value) (P : Program) (gf : Nat) (lb : Array Value) (Lies : List (Sl α) → World → Prop) : Prop :=
  ∀ (l : Nat) (J : List (Sl α) → Nat → World → Prop) (sl0 : List (Sl α)) (W : World),
    (∀ sl k W, J sl k W → Lies sl W) → (∀ sl k W n, J sl k W → J sl k (W.drewN n)) →
    (∀ sl k W s, J sl k W → sl[k]? = some s → s.x = none → J sl (k + 1) W) →
    (∀ sl k W s x, J sl k W → sl[k]? = some s → s.x = some x → YieldAt Fence.wide 0 P l #[.int .i64 (hOf s.n k), val x] W fun e W' => e = .returned (.bool true) ∧ ∃ sl', sl'.length = sl.length ∧ J sl' (k + 1) W') →
    J sl0 0 W → Calls P gf (#[.func (.yield l) #[] #[]] ++ lb) W fun e W' => (∃ v, e = .returned v) ∧ ∃ sl, sl.length = sl0.length ∧ J sl sl0.length W'

/-- What the iterator of an arena at b asks. -/
def LiesA (base b size pb : Nat) (sl : List (Sl Bx)) (W : World) : Prop := (∃ v, At base b size v sl W) ∧ Few 1099511627776 sl ∧ W.cell? ⟨pb, 0, none⟩ = some (.pointer (some ⟨b, 0, none⟩))

set_option maxRecDepth 100000 in
set_option maxHeartbeats 4000000 in
theorem All2_iter (base b size pb : Nat) : IterV Bx.val Tryz.prog 90 #[.pointer (some ⟨pb, 0, none⟩)] (LiesA base b size pb) := by
  intro l J sl0 W hL hD hS hY h0
  refine (callsIn_wide (n := 1)).1 ?_
  refine callsIn_of_wp Tryz.func90 rfl trivial ?_ rfl
  simp only [Tryz.ntmps90, List.size_toArray, List.length_cons, List.length_nil, Nat.reduceAdd, Nat.reduceSub, Array.replicate_succ, Array.replicate_zero, List.push_toArray, List.append_toArray, List.nil_append, List.cons_append]
  obtain ⟨n, hn⟩ : ∃ n, sl0.length = n := ⟨_, rfl⟩
  have hns : n ≤ 1024 := by
    obtain ⟨⟨v, ha⟩, -⟩ := hL _ _ _ h0
    have := ha.len; have := ha.size2; omega
  rw [hn]
  have HN := Lib.hid hn
  have HL := Lib.hid hL
  have HD := Lib.hid hD
  have HS := Lib.hid hS
  have HY := Lib.hid hY
  clear hL hD hS hY hn
  gi_wp2
  gi_loopw [3] (fun i wr => ∃ (k : Nat) (sl : List (Sl Bx)), k ≤ n ∧ i = .int .i64 k ∧ Hid (sl.length = n) ∧ Hid (J sl k wr)) (fun i _ => n - (intOf i).toNat)
  case atStart => exact ⟨0, sl0, Nat.zero_le _, rfl, HN, Lib.hid h0⟩
  case round =>
    obtain ⟨k, sl, hk, rfl, HLN, HJ⟩ := hrel
    clear h0
    obtain ⟨⟨v, ha⟩, hfew, cp⟩ := HL.out _ _ _ HJ.out
    obtain ⟨q, cap, rfl, hq⟩ := ha.sl
    have c1 : wr.cell? ⟨b, 1, none⟩ = some (.slice q sl.length cap) := ha.bl.cell 1 _ rfl
    rw [HLN.out] at c1
    by_cases hlt : k < n
    · obtain ⟨s, hsk⟩ : ∃ s, sl[k]? = some s := ⟨_, List.getElem?_eq_getElem (by have := HLN.out; omega)⟩
      obtain ⟨g, rfl, hcs⟩ := hq k s hsk
      have hsn := hfew s (List.mem_of_getElem? hsk)
      have HSK := Lib.hid hsk
      cases hx : s.x with
      | none =>
        have c5 := hcs.2.2.2.2
        rw [hx] at c5
        clear hcs
        replace c5 : wr.cell? ⟨g, k * 5 + 4, none⟩ = some (.bool false) := c5
        have HJ2 := Lib.hid (HS.out _ _ _ _ HJ.out HSK.out hx)
        clear ha hfew hq hsk hx
        have HDR := Lib.hid fun m => HD.out sl (k + 1) wr m HJ2.out
        clear HJ2
        gi_wp2_with (gi_quiet (fail))
        go_roundw
        case rel => exact ⟨k + 1, sl, by omega, by go_num, HLN, Lib.hid (HDR.out _)⟩
        case measure => simp [intOf]; omega
      | some x =>
        rw [gx_some hx, hx] at hcs
        obtain ⟨a0, a1, a2, a3, a4⟩ := hcs
        replace a4 : wr.cell? ⟨g, k * 5 + 4, none⟩ = some (.bool true) := a4
        obtain ⟨Z, hZ⟩ : ∃ Z, wr.drew = Z := ⟨_, rfl⟩
        have z0 : Z.cell? ⟨g, k * 5, none⟩ = some (.slice x.q0 x.n0 x.c0) := by rw [← hZ]; exact a0
        have z1 : Z.cell? ⟨g, k * 5 + 1, none⟩ = some (.slice x.q1 x.n1 x.c1) := by rw [← hZ]; exact a1
        have z2 : Z.cell? ⟨g, k * 5 + 2, none⟩ = some (.slice x.q2 x.n2 x.c2) := by rw [← hZ]; exact a2
        have z3 : Z.cell? ⟨g, k * 5 + 3, none⟩ = some (.int .i64 s.n) := by rw [← hZ]; exact a3
        have z4 : Z.cell? ⟨g, k * 5 + 4, none⟩ = some (.bool true) := by rw [← hZ]; exact a4
        have HJZ := Lib.hid (show J sl k Z by rw [← hZ]; exact HD.out sl k wr 1 HJ.out)
        have HC := Lib.hid ((callsIn_wide (n := 0)).2 ((handle_any g (k * 5) k s.n Z z3 hsn (by omega)).mono fun e w' ⟨he, hw⟩ => And.intro he hw.symm))
        have HYX := Lib.hid (HY.out sl k Z s x HJZ.out HSK.out hx)
        obtain ⟨H, hH⟩ : ∃ H, hOf s.n k = H := ⟨_, rfl⟩
        rw [hH] at HC HYX
        have HZ := Lib.hid hZ
        clear ha hfew hq hsk hx hZ z3 hH a0 a1 a2 a3 a4
        gi_wp2
        refine region_any (fun _ => True) (by kernel_rfl) ?_
        rw [HZ.out]
        refine anyH_one 0 (by kernel_rfl) rfl fun K hK => ?_
        go_simp
        refine hK _ _ trivial ?_
        clear hK K
        refine anyH_one 1 (by kernel_rfl) rfl fun K hK => ?_
        go_simp
        refine hK _ _ trivial ?_
        clear hK K
        refine anyH_one 2 (by kernel_rfl) rfl fun K hK => ?_
        go_simp
        refine hK _ _ trivial ?_
        clear hK K
        refine anyH_one 3 (by kernel_rfl) rfl fun K hK => ?_
        go_simp
        refine hK _ _ trivial ?_
        clear hK K
        refine anyH_one 4 (by kernel_rfl) rfl fun K hK => ?_
        go_simp
        refine hK _ _ trivial ?_
        clear hK K
        refine anyH_take 5 (v := (.func (.yield l) #[] #[])) rfl (by kernel_rfl) (by kernel_rfl) (by kernel_rfl) (by kernel_rfl) (fun _ _ _ h => h) ⟨.inl ⟨by rfl, ?_⟩, fun _ => rfl⟩ trivial ?_
        · rintro w -; go_simp
        simp only [Act.put, List.getElem_toArray, List.getElem_cons_zero, List.getElem_cons_succ, List.setIfInBounds_toArray, List.set_cons_zero, List.set_cons_succ]
        refine anyH_take 6 (v := (.pointer (some ⟨g, k * 5, none⟩))) rfl (by kernel_rfl) (by kernel_rfl) (by kernel_rfl) (by kernel_rfl) (fun _ _ _ h => h) ⟨.inl ⟨by rfl, ?_⟩, fun _ => rfl⟩ trivial ?_
        · rintro w -; go_simp
        simp only [Act.put, List.getElem_toArray, List.getElem_cons_zero, List.getElem_cons_succ, List.setIfInBounds_toArray, List.set_cons_zero, List.set_cons_succ]
        refine anyH_take 7 (v := (.int .i64 k)) rfl (by kernel_rfl) (by kernel_rfl) (by kernel_rfl) (by kernel_rfl) (fun _ _ _ h => h) ⟨.inl ⟨by rfl, ?_⟩, fun _ => rfl⟩ trivial ?_
        · rintro w -; go_simp
        simp only [Act.put, List.getElem_toArray, List.getElem_cons_zero, List.getElem_cons_succ, List.setIfInBounds_toArray, List.set_cons_zero, List.set_cons_succ]
        refine anyH_take 9 (v := (.pointer (some ⟨g, k * 5, none⟩))) rfl (by kernel_rfl) (by kernel_rfl) (by kernel_rfl) (by kernel_rfl) (fun _ _ _ h => h) ⟨.inl ⟨by rfl, ?_⟩, fun _ => rfl⟩ trivial ?_
        · rintro w -; go_simp
        simp only [Act.put, List.getElem_toArray, List.getElem_cons_zero, List.getElem_cons_succ, List.setIfInBounds_toArray, List.set_cons_zero, List.set_cons_succ]
        refine anyH_take 10 (v := (.pointer (some ⟨g, k * 5, none⟩))) rfl (by kernel_rfl) (by kernel_rfl) (by kernel_rfl) (by kernel_rfl) (fun _ _ _ h => h) ⟨.inl ⟨by rfl, ?_⟩, fun _ => rfl⟩ trivial ?_
        · rintro w -; go_simp
        simp only [Act.put, List.getElem_toArray, List.getElem_cons_zero, List.getElem_cons_succ, List.setIfInBounds_toArray, List.set_cons_zero, List.set_cons_succ]
        refine anyH_take 11 (v := (.pointer (some ⟨g, k * 5, none⟩))) rfl (by kernel_rfl) (by kernel_rfl) (by kernel_rfl) (by kernel_rfl) (fun _ _ _ h => h) ⟨.inl ⟨by rfl, ?_⟩, fun _ => rfl⟩ trivial ?_
        · rintro w -; go_simp
        simp only [Act.put, List.getElem_toArray, List.getElem_cons_zero, List.getElem_cons_succ, List.setIfInBounds_toArray, List.set_cons_zero, List.set_cons_succ]
        refine anyH_pair 8 12 (by kernel_rfl) rfl rfl (fun K hK => ?_) (fun K hK => ?_)
        · go_simp
          refine HC.out.mono ?_
          rintro e w' ⟨rfl, rfl⟩
          refine hK _ _ trivial ?_
          clear hK K
          refine anyH_one 12 (by kernel_rfl) rfl fun K hK => ?_
          go_simp
          refine hK _ _ trivial ?_
          clear hK K
          refine anyH_one 13 (by kernel_rfl) rfl fun K hK => ?_
          go_simp
          refine Arn.uponIn_yield HYX.out ?_ ?_ ?_
          rotate_left
          · rintro c w ⟨h, _⟩; cases h
          · rintro w ⟨h, _⟩; cases h
          rintro v' W3 ⟨he, sl', hsl, hJ3⟩
          cases he
          refine hK _ _ trivial ?_
          clear hK K
          refine anyH_one 14 (by kernel_rfl) rfl fun K hK => ?_
          go_simp
          refine hK _ _ trivial ?_
          clear hK K
          refine anyH_one 15 (by kernel_rfl) rfl fun K hK => ?_
          go_simp
          refine hK _ _ trivial ?_
          clear hK K
          refine anyH_done (by kernel_rfl) ?_ _
          have HJ3 := Lib.hid hJ3
          have HSL := Lib.hid (show sl'.length = n by rw [hsl, HLN.out])
          clear hJ3 hsl HYX HC HJZ HJ HZ z0 z1 z2 z4 HSK HLN
          gi_wp2
          go_roundw
          case rel => exact ⟨k + 1, sl', by omega, by go_num, HSL, HJ3⟩
          case measure => simp [intOf]; omega
        · go_simp
          refine hK _ _ trivial ?_
          clear hK K
          refine anyH_one 8 (by kernel_rfl) rfl fun K hK => ?_
          go_simp
          refine HC.out.mono ?_
          rintro e w' ⟨rfl, rfl⟩
          refine hK _ _ trivial ?_
          clear hK K
          refine anyH_one 13 (by kernel_rfl) rfl fun K hK => ?_
          go_simp
          refine Arn.uponIn_yield HYX.out ?_ ?_ ?_
          rotate_left
          · rintro c w ⟨h, _⟩; cases h
          · rintro w ⟨h, _⟩; cases h
          rintro v' W3 ⟨he, sl', hsl, hJ3⟩
          cases he
          refine hK _ _ trivial ?_
          clear hK K
          refine anyH_one 14 (by kernel_rfl) rfl fun K hK => ?_
          go_simp
          refine hK _ _ trivial ?_
          clear hK K
          refine anyH_one 15 (by kernel_rfl) rfl fun K hK => ?_
          go_simp
          refine hK _ _ trivial ?_
          clear hK K
          refine anyH_done (by kernel_rfl) ?_ _
          have HJ3 := Lib.hid hJ3
          have HSL := Lib.hid (show sl'.length = n by rw [hsl, HLN.out])
          clear hJ3 hsl HYX HC HJZ HJ HZ z0 z1 z2 z4 HSK HLN
          gi_wp2
          go_roundw
          case rel => exact ⟨k + 1, sl', by omega, by go_num, HSL, HJ3⟩
          case measure => simp [intOf]; omega
    · have hkn : k = n := by omega
      clear ha hfew hq
      gi_wp2
      refine bodyPost_end (results_none rfl _ _ _) rfl ?_
      subst hkn
      exact ⟨⟨_, rfl⟩, sl, HLN.out, HJ.out⟩
/-- How a round's body ends: it goes on. -/
def bodyPostV {α : Type} (D : Nat) (I : List (Sl α) → Nat → World → Prop) (n k : Nat) (W : World) : Exit → Act → World → Prop
  | .normal, _, W' => Keep (fun b => b = D ∨ b = D + 1) W W' ∧ ∃ sl : List (Sl α), sl.length = n ∧ I sl k W'
  | _, _, _ => False

theorem rf_lawV {α : Type} {val : α → Value} {P : Program} {g : Operand} {ps : Array Tmp} {assign body : Code} {Q : Exit → Act → World → Prop} {a : Act} {w : World} {n : Nat}
    {gf : Nat} {lb : Array Value} (hg : a.eval g = .func (.func gf) #[] lb) (eg : ∀ args w, (callFunc gf args).run P w = .ok (.enter gf args) w)
    {Lies : List (Sl α) → World → Prop} (hiter : IterV val P gf lb Lies) (hps : ps.size = 2)
    (I : List (Sl α) → Nat → World → Prop) (sl0 : List (Sl α)) (hIL : ∀ sl k W, I sl k W → Lies sl W) (hIA : ∀ sl k A B, I sl k A → Below A.heap.size A B → I sl k B)
    (hIl : ∀ sl k A B, I sl k A → (∃ r, A.heap[w.heap.size + 1]? = some (.loop r)) → Keep (fun b => b ≠ w.heap.size + 1) A B → B.heap.size = A.heap.size → I sl k B)
    (hIs : ∀ sl k W s, I sl k W → sl[k]? = some s → s.x = none → I sl (k + 1) W) (h0 : I sl0 0 w)
    (hround : ∀ (sl : List (Sl α)) (k : Nat) (s : Sl α) (x : α) (W : World), I sl k W → sl[k]? = some s → s.x = some x → (∃ r, W.heap[w.heap.size + 1]? = some (.loop r)) → W.heap[w.heap.size]? = some (.deferred (some [])) →
      assign.wpIn (Fence.wide.inRound (w.heap.size + 1)) 0 P (Exit.then (fun a₁ W₁ => Keep (fun b => b = w.heap.size ∨ b = w.heap.size + 1) W W₁ ∧ ∀ W₂, Keep (fun b => b ≠ w.heap.size + 1) W₁ W₂ → W₂.heap.size = W₁.heap.size → (∃ r, W₂.heap[w.heap.size + 1]? = some (.loop r)) →
          body.wpIn (Fence.wide.inRound (w.heap.size + 1)) 0 P (bodyPostV w.heap.size I sl.length (k + 1) W₂) a₁ W₂) (fun _ _ _ => False))
        { tmps := (ps.zip #[.int .i64 (hOf s.n k), val x]).foldl (fun t (p, v) => t.setIfInBounds p v) a.tmps, defers := [] } W)
    (hdone : ∀ (sl : List (Sl α)) (W : World), sl.length = sl0.length → I sl sl0.length W → W.heap[w.heap.size]? = some (.deferred (some [])) → w.heap.size + 1 < W.heap.size → Q .normal { a with defers := { target := .collected w.heap.size, args := #[] } :: a.defers } W) :
    (Code.rangeFunc g ps assign body).wpIn Fence.wide n P Q a w := by
  refine wpIn_rangeFunc ?_
  intro fn hfn
  obtain ⟨rec, hrec⟩ : ∃ rec : LoopState → Option Code → Loop, rec = fun st pe => { state := st, pending := pe, fn, tmps := a.tmps, params := ps, assign, body, defers := w.heap.size } := ⟨_, rfl⟩
  obtain ⟨W1, hW1⟩ : ∃ W1, (w.alloc (.deferred (some []))).alloc (.loop (rec .ready none)) = W1 := ⟨_, rfl⟩
  have hL1 : W1.heap[w.heap.size + 1]? = some (.loop (rec .ready none)) := by
    rw [← hW1]; have := World.alloc_heap_new (w.alloc (.deferred (some []))) (.loop (rec .ready none)); rwa [World.size_alloc] at this
  have hK1 : W1.heap[w.heap.size]? = some (.deferred (some [])) := by
    rw [← hW1]; exact (Below.heap_alloc _ _ _ (by simp)).trans (World.alloc_heap_new w _)
  have hsz1 : W1.heap.size = w.heap.size + 2 := by rw [← hW1]; simp
  have hbw : Below w.heap.size w W1 := by rw [← hW1]; exact ((Below.refl _ w).alloc (Nat.le_refl _) _).alloc (by simp) _
  refine ⟨w.heap.size + 1, [{ target := .collected w.heap.size, args := #[] }], W1, { target := .fn (.func gf) lb, args := #[.func (.yield (w.heap.size + 1)) #[] #[]] }, W1, gf,
    #[.func (.yield (w.heap.size + 1)) #[] #[]] ++ lb, W1, ?_, ?_, ?_, ?_, ?_, ?_⟩
  · rw [← hW1, hrec]; exact run_enterLoop_outer _ _ _ _ _
  · simp only [resolve, hg]
    simp [go_sem]
  · intro f' _; trivial
  · simp [invoke, go_sem, eg]
  · intro h; simp [Fence.wide] at h
  · refine (callsIn_wide.2 (hiter (w.heap.size + 1) (fun sl k W => I sl k W ∧ W.heap[w.heap.size + 1]? = some (.loop (rec .ready none)) ∧ W.heap[w.heap.size]? = some (.deferred (some [])))
      sl0 W1 (fun sl k W h => hIL sl k W h.1) ?_ (fun sl k W s h hs hx => ⟨hIs sl k W s h.1 hs hx, h.2⟩) ?_ ⟨hIA _ _ _ _ h0 hbw, hL1, hK1⟩)).mono ?_
    · rintro sl k W m ⟨h1, h2, h3⟩
      exact ⟨hIA _ _ _ _ h1 ⟨rfl, rfl, rfl, Nat.le_refl _, fun _ _ => rfl⟩, h2, h3⟩
    · -- a round
      rintro sl k W s x ⟨hi, hl, hD⟩ hs hx
      have hlt : w.heap.size + 1 < W.heap.size := (Array.getElem?_eq_some_iff.1 hl).1
      have hy := run_yield (P := P) (args := #[.int .i64 (hOf s.n k), val x]) hl (by rw [hrec]; exact hps.symm)
      rw [hrec] at hy
      refine ⟨fn, _, assign, body, hy, roundIn_of_wpIn hfn ?_⟩
      refine wpIn_mono (hround sl k s x W hi hs hx ⟨_, hl⟩ hD) ?_
      rintro e a₁ W₁ hp
      cases e with
      | normal =>
        obtain ⟨hk1, hbody⟩ := hp
        have hl1 : W₁.heap[w.heap.size + 1]? = some (.loop (rec .ready none)) := hk1.heap (.inr rfl) hl
        have hD1 : W₁.heap[w.heap.size]? = some (.deferred (some [])) := hk1.heap (.inl rfl) hD
        have hlt1 : w.heap.size + 1 < W₁.heap.size := (Array.getElem?_eq_some_iff.1 hl1).1
        refine ⟨_, run_beginRound hl1 (by rw [hrec]), ?_⟩
        obtain ⟨W₂, hW2⟩ : ∃ W₂, W₁.putObj (w.heap.size + 1) (.loop { rec .ready none with state := .busy }) = W₂ := ⟨_, rfl⟩
        have hk12 : Keep (fun b => b ≠ w.heap.size + 1) W₁ W₂ := by rw [← hW2]; exact Keep.putObj _ _ _ (by simp)
        have hs12 : W₂.heap.size = W₁.heap.size := by rw [← hW2]; simp
        have hl2 : W₂.heap[w.heap.size + 1]? = some (.loop { rec .ready none with state := .busy }) := by rw [← hW2]; exact World.putObj_heap_same hlt1
        have hD2 : W₂.heap[w.heap.size]? = some (.deferred (some [])) := hk12.heap (by omega) hD1
        rw [hW2]
        refine wpIn_mono (hbody W₂ hk12 hs12 ⟨_, hl2⟩) ?_
        rintro e a3 W3 hp
        cases e with
        | normal =>
          obtain ⟨hk3, sl', hln, hi3⟩ := hp
          have hl3 : W3.heap[w.heap.size + 1]? = some (.loop { rec .ready none with state := .busy }) := hk3.heap (.inr rfl) hl2
          have hD3 : W3.heap[w.heap.size]? = some (.deferred (some [])) := hk3.heap (.inl rfl) hD2
          have he := run_endRound (P := P) none hl3
          have k34 : ∀ o, Keep (fun b => b ≠ w.heap.size + 1) W3 (W3.putObj (w.heap.size + 1) o) := fun o => Keep.putObj _ _ _ (by simp)
          have hl4 : ∀ o, (W3.putObj (w.heap.size + 1) o).heap[w.heap.size + 1]? = some o := fun o => World.putObj_heap_same (Array.getElem?_eq_some_iff.1 hl3).1
          refine ⟨_, _, he, rfl, sl', hln, hIl _ _ _ _ hi3 ⟨_, hl3⟩ (k34 _) (by simp), ?_, (k34 _).heap (by omega) hD3⟩
          have := hl4 (.loop (rec .ready none))
          rw [hrec] at this ⊢
          exact this
        | exit id => exact hp.elim
        | goto id => exact hp.elim
        | ret => exact hp.elim
        | panic ch => exact hp.elim
        | outgrown => exact hp.elim
      | exit id => exact hp.elim
      | goto id => exact hp.elim
      | ret => exact hp.elim
      | panic ch => exact hp.elim
      | outgrown => exact hp.elim
    · -- behind the iterator
      rintro e W2 ⟨⟨v, rfl⟩, sl, hln, hi, hl, hD⟩
      have kk : ∀ o, Keep (fun b => b ≠ w.heap.size + 1) W2 (W2.putObj (w.heap.size + 1) o) := fun o => Keep.putObj _ _ _ (by simp)
      refine ⟨none, _, by have := run_endLoop (P := P) hl (by rw [hrec]; simp); rw [hrec] at this; exact this, ?_⟩
      exact hdone sl _ hln (hIl _ _ _ _ hi ⟨_, hl⟩ (kk _) (by simp)) ((kk _).heap (by omega) hD) (by rw [World.putObj_size]; exact (Array.getElem?_eq_some_iff.1 hl).1)
end Go.Proofs.YtkjkfgmoogbdiaaGreatDoor.Brn

namespace Go.Proofs.YtkjkfgmoogbdiaaGreatDoor
open Go.RowKit Go.Shelf

/-- The example's text, laid; its bytes. -/
theorem bytes_lit {w : World} (cs : Array Value) (l : List UInt8) (fr : Nat × Nat) (h : cs.toList = (Lib.numsL l).map (Value.int .u8)) : Lib.BytesIn (w.alloc (.cells cs 5 fr)) (some ⟨w.heap.size, 0, none⟩) l.length (Lib.numsL l) := fun _ =>
  ⟨_, _, rfl, fun i hi => by
    have hi' : i < (Lib.numsL l).length := by rw [Lib.numsL_length]; exact hi
    rw [Nat.zero_add, World.cell?_alloc_mark, ← Array.getElem?_toList, h]
    simp [List.getElem?_eq_getElem hi', List.getD]⟩
end Go.Proofs.YtkjkfgmoogbdiaaGreatDoor

namespace Go.Proofs.YtkjkfgmoogbdiaaGreatDoor
open Go.RowKit Go.Shelf

/-- The pieces of a text, out of their bounds. -/
def piecesOf (l : List UInt8) (xs : List (Nat × Nat)) : List (List UInt8) := xs.map fun x => sub l x.1 x.2
theorem sub_snoc (l : List UInt8) (f k : Nat) (hf : f ≤ k) (hk : k < l.length) : sub l f (k + 1) = sub l f k ++ [l.getD k 0] := by
  unfold sub
  rw [show k + 1 - f = (k - f) + 1 from by omega, List.take_succ_eq_append_getElem (by simp; omega)]
  simp [List.getD, List.getElem?_eq_getElem hk]
  congr 1
  omega
theorem sub_nil (l : List UInt8) (k : Nat) : sub l k k = [] := by unfold sub; simp

end Go.Proofs.YtkjkfgmoogbdiaaGreatDoor

namespace Go.Proofs.YtkjkfgmoogbdiaaGreatDoor.Arn
open Go.RowKit Go.Shelf
attribute [local go_sem] Oper.semAt_some wide_fn
set_option linter.unusedVariables false

/-! ### plain -/
theorem row_not_obj {w : World} {base n l : Nat} {e : TypeId} {size : Nat} {v : Value} {xs : List Value} (h : w.ownsRow base e size v n xs) {o : Obj} (hl : w.heap[l]? = some o) (ho : ∀ c t f, o ≠ .cells c t f) : v.ownBlock ≠ some l := by
  rcases h.2 with ⟨rfl, _⟩ | ⟨g, cap, cur, rfl, _, hg, _⟩
  · exact fun e => by cases e
  · intro hb
    have hb2 : g = l := by simpa [Value.ownBlock] using hb
    subst hb2
    rw [hl] at hg
    cases hg
    exact ho _ _ _ rfl
theorem box_not_obj {w : World} {B l : Nat} {t : TypeId} {v : Value} (h : Boxed w B t v) {o : Obj} (hl : w.heap[l]? = some o) (ho : ∀ c t f, o ≠ .cells c t f) : B ≠ l := fun e => by
  subst e
  unfold Boxed at h
  rw [hl] at h
  cases h
  exact ho _ _ _ rfl
/-! ### All -/
/-! ### all -/
end Go.Proofs.YtkjkfgmoogbdiaaGreatDoor.Arn

namespace Go.Proofs.YtkjkfgmoogbdiaaGreatDoor
open Go.RowKit Go.Shelf
attribute [local go_sem] Oper.semAt_some

/-- Between two rounds of Sub: nothing was in the one alone; or something was. -/
def SubI {α : Type} (T : TypeId) (Bo : Nat) (RB : Nat → Prop) (W0 : World) (pre : List (Nat × α)) (Pv : Nat → Prop) (W : World) : Prop :=
  Boxed W Bo T (.bool false) ∧ (∀ b, Pv b → W0.heap.size ≤ b) ∧ Keep RB W0 W ∧ (pre.any fun p => p.1 == 1) = false
def SubX {α : Type} (T : TypeId) (Bo : Nat) (RB : Nat → Prop) (W0 : World) (c : Code) (pre : List (Nat × α)) (Pv : Nat → Prop) (W : World) : Prop :=
  c = .ret ∧ Boxed W Bo T (.bool false) ∧ (∀ b, Pv b → W0.heap.size ≤ b) ∧ Keep RB W0 W ∧ (pre.any fun p => p.1 == 1) = true

theorem SubI_abide {α : Type} (T : TypeId) (Bo : Nat) (RB : Nat → Prop) (W0 : World) (hBo : Bo < W0.heap.size) (hRB : ∀ b, RB b → b < W0.heap.size) : Abide (SubI (α := α) T Bo RB W0) := by
  rintro pre Pv Pv' A B ⟨h1, h3, h6, h7⟩ hk hp
  have hs := h6.size
  refine ⟨hk.boxed h1 (fun h => by have := h3 _ h; omega), fun b hb => ?_, h6.trans (hk.mono fun b _ hb hpb => by have := h3 b hpb; have := hRB b hb; omega), h7⟩
  rcases (hp b hb).1 with h | h
  · exact h3 b h
  · omega
theorem SubX_abide {α : Type} (T : TypeId) (Bo : Nat) (RB : Nat → Prop) (W0 : World) (hBo : Bo < W0.heap.size) (hRB : ∀ b, RB b → b < W0.heap.size) (c : Code) : Abide (SubX (α := α) T Bo RB W0 c) := by
  rintro pre Pv Pv' A B ⟨h0, h1, h3, h6, h7⟩ hk hp
  have hs := h6.size
  refine ⟨h0, hk.boxed h1 (fun h => by have := h3 _ h; omega), fun b hb => ?_, h6.trans (hk.mono fun b _ hb hpb => by have := h3 b hpb; have := hRB b hb; omega), h7⟩
  rcases (hp b hb).1 with h | h
  · exact h3 b h
  · omega

end Go.Proofs.YtkjkfgmoogbdiaaGreatDoor

namespace Go.Proofs.YtkjkfgmoogbdiaaGreatDoor.Cls
open Url Org Frm
set_option linter.unusedVariables false

/-- The clause of principals, or the error's number. -/
def ofC (l : List (List UInt8)) : Sum Int (List (List UInt8)) := if l.all prinB = true then (if (sortR l).length ≤ 16 then .inr (sortR l) else .inl 3) else .inl 2
/-- The clause of a text. -/
def parseC (t : List UInt8) : Sum Int (List (List UInt8)) := if 4096 < t.length then .inl 3 else if trimB t = neverS then .inr [] else ofC ((Ref.splitL 124 t).map trimB)
/-- A clause: principals, rising, at most 16. -/
structure COk (c : List (List UInt8)) : Prop where
  rise : Rises c
  prin : ∀ p ∈ c, prinB p = true
  few : c.length ≤ 16
theorem of_ok (l c : List (List UInt8)) (h : ofC l = .inr c) : COk c ∧ ∀ p, p ∈ c ↔ p ∈ l := by
  unfold ofC at h
  split at h
  · rename_i hp
    split at h
    · rename_i hf
      cases h
      exact ⟨⟨sort_rises l, fun p hp2 => List.all_eq_true.1 hp p ((mem_sort p l).1 hp2), hf⟩, fun p => mem_sort p l⟩
    · cases h
  · cases h
theorem never_ok : COk [] := ⟨Rises.nil, fun p hp => (by cases hp), by decide⟩
theorem parseC_ok (t : List UInt8) (c : List (List UInt8)) (h : parseC t = .inr c) : COk c := by
  unfold parseC at h
  split at h
  · cases h
  · split at h
    · cases h; exact never_ok
    · exact (of_ok _ c h).1
def alwaysS : List UInt8 := [97, 108, 119, 97, 121, 115]
/-- Clauses of pieces, or the first error's number. -/
def clausesL : List (List UInt8) → Sum Int (List (List (List UInt8)))
  | [] => .inr []
  | p :: r => match parseC p with
    | .inl e => .inl e
    | .inr c => match clausesL r with
      | .inl e => .inl e
      | .inr l => .inr (c :: l)
/-- The formula of clauses. -/
def ofF (l : List (List (List UInt8))) : Sum Int (List (List (List UInt8))) := if (redL l).length ≤ 16 then .inr (redL l) else .inl 3
/-- The formula of a text. -/
def parseF (t : List UInt8) : Sum Int (List (List (List UInt8))) := if 4096 < t.length then .inl 3 else if trimB t = alwaysS then .inr [] else match clausesL (Ref.splitL 38 t) with
  | .inl e => .inl e
  | .inr l => ofF l
structure FOk (f : List (List (List UInt8))) : Prop where
  canon : Canon f
  each : ∀ c ∈ f, COk c
  few : f.length ≤ 16
theorem clauses_ok : ∀ (l : List (List UInt8)) (r : List (List (List UInt8))), clausesL l = .inr r → ∀ c ∈ r, COk c
  | [], r, h, c, hc => by cases h; cases hc
  | p :: l, r, h, c, hc => by
    unfold clausesL at h
    split at h
    · cases h
    · rename_i x hx
      split at h
      · cases h
      · rename_i y hy
        cases h
        rcases List.mem_cons.1 hc with rfl | hc
        · exact parseC_ok p _ hx
        · exact clauses_ok l y hy c hc
theorem ofF_ok (l f : List (List (List UInt8))) (hl : ∀ c ∈ l, COk c) (h : ofF l = .inr f) : FOk f ∧ f = redL l := by
  unfold ofF at h
  split at h
  · rename_i hf
    cases h
    exact ⟨⟨red_canon l fun c hc => (hl c hc).rise, fun c hc => hl c ((mem_red l c).1 hc).1, hf⟩, rfl⟩
  · cases h
theorem always_ok : FOk [] := ⟨always_canon, fun c hc => (by cases hc), by decide⟩
theorem parseF_ok (t : List UInt8) (f : List (List (List UInt8))) (h : parseF t = .inr f) : FOk f := by
  unfold parseF at h
  split at h
  · cases h
  · split at h
    · cases h; exact always_ok
    · split at h
      · cases h
      · rename_i l hl
        exact (ofF_ok l f (clauses_ok _ l hl) h).1
/-- The label of a text. -/
def parseL (t : List UInt8) : Sum Int Lab := if 4096 < t.length then .inl 3 else match Ref.splitL 59 t with
  | [s] => match parseF s with
    | .inl e => .inl e
    | .inr f => .inr ⟨f, []⟩
  | [s, i] => match parseF s with
    | .inl e => .inl e
    | .inr f => match parseF i with
      | .inl e => .inl e
      | .inr g => .inr ⟨f, g⟩
  | _ => .inl 2
end Go.Proofs.YtkjkfgmoogbdiaaGreatDoor.Cls

namespace Go.Proofs.YtkjkfgmoogbdiaaGreatDoor
open Go.RowKit Go.Shelf
attribute [local go_sem] Oper.semAt_some

end Go.Proofs.YtkjkfgmoogbdiaaGreatDoor

namespace Go.Proofs.YtkjkfgmoogbdiaaGreatDoor
open Go.RowKit Go.Shelf
attribute [local go_sem] Oper.semAt_some

end Go.Proofs.YtkjkfgmoogbdiaaGreatDoor

namespace Go.Proofs.YtkjkfgmoogbdiaaGreatDoor
open Go.RowKit Go.Shelf

theorem splitOf_len (l : List UInt8) (xs : List (Nat × Nat)) : (splitOf l xs).length = xs.length := by simp [splitOf]
theorem splitX_num (c : UInt8) (l : List UInt8) (pre : List (Nat × List UInt8)) (x : Nat × List UInt8) (rest : List (Nat × List UInt8)) (h : splitX c l = pre ++ x :: rest) : x.1 = pre.length := by
  have h1 : (splitX c l)[pre.length]? = some x := by rw [h]; simp
  unfold splitX splitOf at h1
  rw [List.getElem?_map, List.getElem?_zipIdx] at h1
  cases hx : (spansL (isB c) l)[pre.length]? with
  | none => rw [hx] at h1; simp at h1
  | some y => rw [hx] at h1; simp at h1; rw [← h1]
theorem splitX_small (c : UInt8) (l : List UInt8) (n : Nat) (h : l.length = n) : ∀ x ∈ splitX c l, x.2.length ≤ n := by
  intro x hx
  unfold splitX splitOf at hx
  obtain ⟨y, hy, rfl⟩ := List.mem_map.1 hx
  have hb := spansL_bounds (isB c) l y.1 (List.fst_mem_of_mem_zipIdx hy)
  simp only
  rw [sub_length _ _ _ hb.2]
  omega
theorem splitX_len (c : UInt8) (l : List UInt8) : (splitX c l).length ≤ l.length + 1 := by
  unfold splitX
  rw [splitOf_len]
  exact spansGo_len _ _ _ _

theorem Split_iter {w w' : World} {B n : Nat} {c : UInt8} {v' : Value} {l : List UInt8} (hn : n ≤ 140737488355328) (hB : Boxed w' B 30 v') (hBc : Boxed w' w.heap.size 5 (.int .u8 (c.toNat : Int))) (hrow : w'.ownsRow (w.heap.size + 1) 5 1 v' n ((Lib.numsL l).map (Value.int .u8))) :
    IterC Tryz.prog 78 #[.pointer (some ⟨B, 0, none⟩), .pointer (some ⟨w.heap.size, 0, none⟩)] NumRowArg (splitX c l) (fun b => b = B ∨ b = w.heap.size ∨ v'.ownBlock = some b) w' := by
  obtain ⟨q, cc, rfl, hl, hnc, _, hbs, hblk⟩ := row_open hrow
  exact Split1_iter B w.heap.size c q n cc l _ w' hl hn hnc hbs (fun a ha _ => .inr (.inr (hblk a ha).2.2)) hB (.inl rfl) hBc (.inr (.inl rfl)) (fun b hb => by
    rcases hb with rfl | rfl | hb
    · exact hB.lt
    · exact hBc.lt
    · exact (hrow.lt b hb).2)

theorem info_u8 : (Tryz.prog.info? 5).map (fun i => (i.zero, i.size, i.bytes)) = some (some (.int .u8 0), 1, 1) := by kernel_rfl

/-- 'append(dst, src...)', dst the call's own, src whatever slice of bytes. -/
theorem wpList_append_bytes {ops : Array Oper} {rest : List Oper} {o : Oper} {a : Act} {w : World} {Q : Exit → Act → World → Prop} (hgd : o.guard = none) (s x : Operand)
    (ho : o.op = .call { callee := .builtin .append, args := #[s, x], argTypes := #[30, 30] })
    (base : Nat) (v : Value) (n : Nat) (xs : List Value) (hs : a.eval s = v) (hown : w.ownsRow base 5 1 v n xs) (p : Option Addr) (m c : Nat) (bs : List UInt8) (hx : a.eval x = .slice p m c) (hp : p = none → m = 0 ∧ c = 0)
    (hl : bs.length = m) (hb : Lib.BytesIn w p m (Lib.numsL bs)) (h47 : n + m ≤ 140737488355328) (hbase : base ≤ w.heap.size)
    (h : ∀ v' w', w'.ownsRow base 5 1 v' (n + m) (xs ++ (Lib.numsL bs).map (Value.int .u8)) → w.grownBy w' v.ownBlock → wpList Tryz.prog ops Q rest (a.put o.dst v') w') : wpList Tryz.prog ops Q (o :: rest) a w := by
  obtain ⟨i0, hi0, hz0, hz1, hz2⟩ := info_parts info_u8
  cases p with
  | none =>
    obtain ⟨rfl, rfl⟩ := hp rfl
    obtain rfl : bs = [] := List.eq_nil_of_length_eq_zero hl
    refine wpList_append_own_none hgd s x _ ho base 5 i0 1 Tryz.underlying30 hi0 v n xs hs hown hx (h v w ?_ ⟨rfl, rfl, rfl, Nat.le_refl _, fun _ _ _ => rfl⟩)
    simpa [Lib.numsL] using hown
  | some ad =>
    refine wpList_append_own w hgd s x _ ho base 5 i0 (.int .u8 0) 1 1 Tryz.underlying30 hi0 hz0 hz1 hz2 rfl (by decide) v n xs hs hown ad m c ((Lib.numsL bs).map (Value.int .u8)) hx (by simp [Lib.numsL, hl]) (fun j u hj => ?_) (by simp [Lib.numsL, Value.oneCell']) (by unfold maxLen; omega) (by omega) hbase (fun v' w' h1 h2 _ => h v' w' h1 h2)
    rcases Nat.lt_or_ge j m with h' | h'
    · obtain ⟨b, o, he, hcc⟩ := hb.at (by omega)
      cases he
      have hj' : j < (Lib.numsL bs).length := by rw [Lib.numsL_length]; omega
      rw [Go.WideShapes.add_plain, hcc j h']
      rw [List.getElem?_map, List.getElem?_eq_getElem hj'] at hj
      simp only [Option.map_some, Option.some.injEq] at hj
      rw [← hj, List.getD, List.getElem?_eq_getElem hj']
      rfl
    · rw [List.getElem?_eq_none (by rw [List.length_map, Lib.numsL_length]; omega)] at hj
      cases hj

end Go.Proofs.YtkjkfgmoogbdiaaGreatDoor

namespace Go.Proofs.YtkjkfgmoogbdiaaGreatDoor.Brn
open Go.RowKit Go.Shelf Arn
attribute [local go_sem] Oper.semAt_some wide_fn
set_option linter.unusedVariables false

theorem lenS_take {α : Type} {sl : List (Sl α)} {k : Nat} {s : Sl α} (h : sl[k]? = some s) : lenS (sl.take (k + 1)) = lenS (sl.take k) + (if s.x.isSome then 1 else 0) := by
  obtain ⟨hk, rfl⟩ := List.getElem?_eq_some_iff.1 h
  unfold lenS
  rw [List.take_succ_eq_append_getElem hk, List.filter_append, List.length_append]
  congr 1
  rw [List.filter_cons]
  split <;> rfl
theorem lenS_le {α : Type} (sl : List (Sl α)) : lenS sl ≤ sl.length := List.length_filter_le _ _
theorem box_bl {w : World} {B : Nat} {t : TypeId} {v : Value} (h : Boxed w B t v) : BL t B #[v] w := h
/-! ### All -/
theorem All_any (p : Option Addr) (w : World) (b : Nat) (hp : p = some ⟨b, 0, none⟩) :
    Calls Tryz.prog 68 #[.pointer p] w fun e w' => e = .returned (.func (.func 90) #[] #[.pointer (some ⟨w.heap.size, 0, none⟩)]) ∧ w' = w.alloc (.cells #[.pointer p] 85) := by
  subst hp
  have hmf : ∀ (fn : Fn) (first cap : Array Value) (w : World), (Instr.makeFunc fn first cap).run Tryz.prog w = .ok (.func fn first cap) w := fun _ _ _ _ => rfl
  go_enter Tryz.func68, Tryz.ntmps68
  go_wp2
  go_ret
  exact ⟨rfl, rfl⟩
/-- A box of one number: how many were told. -/
def LenI (w : World) (B : Nat) (sl0 : List (Sl Bx)) (sl : List (Sl Bx)) (k : Nat) (W : World) : Prop :=
  sl = sl0 ∧ k ≤ sl0.length ∧ w.heap.size ≤ B ∧ Below w.heap.size w W ∧ Boxed W B 3 (.int .i64 (lenS (sl0.take k)))

set_option maxRecDepth 100000 in
set_option maxHeartbeats 8000000 in
theorem Len_of (p : Option Addr) (gf : Nat) (lb : Array Value) (Lies : List (Sl Bx) → World → Prop) (sl : List (Sl Bx)) (w : World) (o : Obj) (eg : ∀ args w, (callFunc gf args).run Tryz.prog w = .ok (.enter gf args) w)
    (con : Calls Tryz.prog 68 #[.pointer p] (w.alloc (.cells #[.int .i64 0] 3)) fun e w' => e = .returned (.func (.func gf) #[] lb) ∧ w' = (w.alloc (.cells #[.int .i64 0] 3)).alloc o)
    (hi : IterV Bx.val Tryz.prog gf lb Lies) (hL2 : ∀ W, Below w.heap.size w W → W.heap[w.heap.size + 1]? = some o → Lies sl W) (hN : sl.length ≤ 1024) :
    Calls Tryz.prog 47 #[.pointer p] w fun e w' => e = .returned (.int .i64 (lenS sl)) ∧ Below w.heap.size w w' := by
  refine (callsIn_wide (n := 1)).1 ?_
  refine callsIn_of_wp_marks Tryz.func47 rfl trivial ?_ rfl
  simp only [Tryz.ntmps47, List.size_toArray, List.length_cons, List.length_nil, Nat.reduceAdd, Nat.reduceSub, Array.replicate_succ, Array.replicate_zero, List.push_toArray, List.append_toArray, List.nil_append, List.cons_append]
  gi_wp2_with fail
  refine (callsIn_wide.2 con).mono ?_
  rintro e W1 ⟨rfl, rfl⟩
  clear con
  have bO := (Boxed.new w 3 (.int .i64 0)).alloc o
  have hO := World.alloc_heap_new (w.alloc (.cells #[.int .i64 0] 3)) o
  rw [World.size_alloc] at hO
  obtain ⟨W0, hW0⟩ : ∃ W0, (w.alloc (.cells #[.int .i64 0] 3)).alloc o = W0 := ⟨_, rfl⟩
  rw [hW0] at bO hO ⊢
  have hB0 : Below w.heap.size w W0 := hW0 ▸ ((Below.refl _ w).alloc (Nat.le_refl _) _).alloc (by simp) _
  have hs0 : W0.heap.size = w.heap.size + 2 := by rw [← hW0]; simp
  clear hW0
  gi_wp2
  refine rf_lawV (gf := gf) (lb := lb) rfl eg hi rfl (fun sl' k W => LenI w w.heap.size sl sl' k W ∧ W.heap[w.heap.size + 1]? = some o) sl ?_ ?_ ?_ ?_ ⟨⟨rfl, Nat.zero_le _, Nat.le_refl _, hB0, bO⟩, hO⟩ ?round ?done
  · rintro sl' k W ⟨⟨rfl, -, -, hb, -⟩, ho⟩
    exact hL2 W hb ho
  · rintro sl' k A B ⟨⟨rfl, hk, hn, hb, hT⟩, ho⟩ hB
    have hol := (Array.getElem?_eq_some_iff.1 ho).1
    exact ⟨⟨rfl, hk, hn, hb.trans (hB.mono hb.size), (Keep.of_below hB).boxed hT hT.lt⟩, (hB.block _ hol).trans ho⟩
  · rintro sl' k A B ⟨⟨rfl, hk, hn, hb, hT⟩, ho⟩ ⟨r, hr⟩ hB hs
    exact ⟨⟨rfl, hk, hn, hb.trans ((hB.mono fun j _ hj => by omega).below hb.size), hB.boxed hT (by omega)⟩, hB.heap (by omega) ho⟩
  · rintro sl' k W s ⟨⟨rfl, hk, hn, hb, hT⟩, ho⟩ hs hx
    have e := lenS_take hs
    rw [hx] at e
    replace e : lenS (sl'.take (k + 1)) = lenS (sl'.take k) := e
    exact ⟨⟨rfl, (List.getElem?_eq_some_iff.1 hs).1, hn, hb, by rw [e]; exact hT⟩, ho⟩
  case round =>
    rintro sl' k s x W ⟨⟨rfl, hk, hn, hb, hT⟩, ho⟩ hs hx ⟨r, hr⟩ hD
    have e := lenS_take hs
    rw [hx] at e
    replace e : lenS (sl'.take (k + 1)) = lenS (sl'.take k) + 1 := e
    have HE := Lib.hid e
    have hk1 := (List.getElem?_eq_some_iff.1 hs).1
    have HDr := Lib.hid hD
    have hln : lenS (sl'.take k) ≤ 1024 := by have := lenS_le (sl'.take k); rw [List.length_take] at this; omega
    obtain ⟨m, hm⟩ : ∃ m, lenS (sl'.take k) = m := ⟨_, rfl⟩
    have HM := Lib.hid (show lenS (sl'.take (k + 1)) = m + 1 by rw [HE.out, hm])
    rw [hm] at hln hT
    clear e hs hx hm HE hD
    gi_wp2
    refine ⟨Keep.refl _ _, fun W2 hk2 hs2 ⟨r2, hr2⟩ => ?_⟩
    replace hT := hk2.boxed hT (by omega)
    replace ho := hk2.heap (by omega) ho
    have hb2 : Below w.heap.size w W2 := hb.trans ((hk2.mono fun j _ hj => by omega).below hb.size)
    have c1 := hT.cell
    have f1 := hT.frozen
    have HT := Lib.hid (hT.set (.int .i64 ((m : Int) + 1)))
    have HO := Lib.hid ho
    have HB2 := Lib.hid hb2
    have HS0 := Lib.hid hs0
    clear hk2 hr hb hr2 hs2 hT ho hb2
    gi_wp2
    refine ⟨Keep.setCell _ _ _ (by simp; omega), sl', rfl, ⟨rfl, hk1, hn, ?_, ?_⟩, (Keep.setCell (S := fun j => j ≠ w.heap.size) W2 _ _ (by simp)).heap (by omega) HO.out⟩
    · exact HB2.out.trans ((Keep.setCell (S := fun j => j < w.heap.size) W2 _ _ (by simp)).below HB2.out.size)
    · rw [HM.out]
      exact HT.out
  case done =>
    rintro sl' W hsl ⟨⟨rfl, hk, hn, hb, hT⟩, ho⟩ hD hlt
    rw [List.take_length] at hT
    have c1 := hT.cell
    have HB := Lib.hid hb
    have HD := Lib.hid hD
    have hDl := hD
    rw [hs0] at hDl
    clear hT hb hD ho
    gi_wp2
    refine ⟨by simp, .inl ⟨_, _, rfl, run_takeDeferred (show W.heap[w.heap.size + 2]? = some (.deferred (some [])) by rw [← hs0]; exact HD.out), ?_⟩⟩
    refine ⟨.int .i64 (lenS sl'), by simp [results, Tryz.f47, go_sem], rfl, ?_⟩
    exact HB.out.trans ((Keep.putObj (S := fun j => j < w.heap.size) W _ _ (by simp)).below HB.out.size)
theorem eg_all2 : ∀ args w, (callFunc 90 args).run Tryz.prog w = .ok (.enter 90 args) w := enters_of Tryz.func90 (by kernel_rfl) rfl
theorem Len_any (base b size : Nat) (v : Value) (sl : List (Sl Bx)) (w : World) (ha : At base b size v sl w) (hf : Few 1099511627776 sl) :
    Calls Tryz.prog 47 #[.pointer (some ⟨b, 0, none⟩)] w fun e w' => e = .returned (.int .i64 (lenS sl)) ∧ Below w.heap.size w w' := by
  have con := All_any (some ⟨b, 0, none⟩) (w.alloc (.cells #[.int .i64 0] 3)) b rfl
  rw [World.size_alloc] at con
  refine Len_of (some ⟨b, 0, none⟩) _ _ _ sl w _ eg_all2 con (All2_iter base b size (w.heap.size + 1)) (fun W hb ho => ?_) (by have := ha.len; have := ha.size2; omega)
  refine ⟨⟨v, ha.on hb⟩, hf, ?_⟩
  have hbx : Boxed W (w.heap.size + 1) 85 (.pointer (some ⟨b, 0, none⟩)) := ho
  exact hbx.cell
end Go.Proofs.YtkjkfgmoogbdiaaGreatDoor.Brn

namespace Go.Proofs.YtkjkfgmoogbdiaaGreatDoor
open Go.RowKit Go.Shelf

/-- A text with small letters. -/
def lowL (l : List UInt8) : List UInt8 := l.map low
theorem lowL_length (l : List UInt8) : (lowL l).length = l.length := by simp [lowL]
theorem lowL_getD (l : List UInt8) (k : Nat) (h : k < l.length) : (lowL l).getD k 0 = low (l.getD k 0) := by simp [lowL, List.getD, List.getElem?_eq_getElem h]
set_option maxRecDepth 100000 in
set_option maxHeartbeats 2000000 in
theorem Lower_any (q : Option Addr) (n c : Nat) (l : List UInt8) (w : World) (hl : l.length = n) (hn : n ≤ 140737488355328) (hb : Lib.BytesIn w q n (Lib.numsL l)) :
    Calls Tryz.prog 161 #[.slice q n c] w fun e w' => ∃ v', e = .returned v' ∧ w'.ownsRow w.heap.size 5 1 v' n ((Lib.numsL (lowL l)).map (Value.int .u8)) ∧ Below w.heap.size w w' := by
  obtain ⟨i0, hi0, hz0, hz1, hz2⟩ := info_parts info_u8
  have HL := Lib.hid hl
  clear hl
  go_enter Tryz.func161, Tryz.ntmps161
  go_wp2_with (at_make; refine wpList_make_full _ rfl _ _ 30 rfl w.heap.size 5 i0 (.int .u8 0) 1 Tryz.underlying30 hi0 hz0 hz1 .i64 .i64 _ _ n rfl rfl rfl rfl (by rw [hz2]; omega) (by unfold maxLen; omega) (Nat.le_refl _) ?_; intro w1 hown hgrow)
  have hbel : Below w.heap.size w w1 := (Below.refl _ _).grown hgrow (Nat.le_refl _) (fun _ h => by cases h)
  obtain ⟨cur0, hg0, hs0⟩ : ∃ cur, w1.heap[w.heap.size]? = some (.cells cur 5 (0, 0)) ∧ cur.size = n := by
    rcases hown.2 with ⟨h1, _⟩ | ⟨g, cap, cur, h1, _, hg, _, _, h3, _⟩
    · cases h1
    · cases h1; exact ⟨cur, hg, by simpa using h3⟩
  clear hown hgrow
  go_loopw [11] (fun i wr => ∃ k : Nat, ∃ cur : Array Value, k ≤ n ∧ i = .int .i64 k ∧ Below w.heap.size w wr ∧ wr.heap[w.heap.size]? = some (.cells cur 5 (0, 0)) ∧ Hid (cur.size = n) ∧ Hid (∀ j, j < k → cur[j]? = some (.int .u8 ((low (l.getD j 0)).toNat : Int)))) (fun i _ => n - (intOf i).toNat)
  case atStart => exact ⟨0, cur0, Nat.zero_le _, rfl, hbel, hg0, hs0, fun j hj => absurd hj (Nat.not_lt_zero _)⟩
  case round =>
    obtain ⟨k, cur, hk, rfl, hbr, hg, HS, HC⟩ := hrel
    by_cases hlt : k < n
    · obtain ⟨b, o, rfl, hc⟩ := hb.at (by omega)
      have hck : wr.cell? ⟨b, o + k, none⟩ = some (.int .u8 ((l.getD k 0).toNat : Int)) := by
        rw [← numsL_getD l k (by rw [HL.out]; exact hlt), ← hc k hlt]
        exact hbr.cell (World.block_lt_of_cell? w _ (hc k hlt))
      have hkc : k < cur.size := by rw [HS.out]; exact hlt
      have hgk : wr.cell? ⟨w.heap.size, k, none⟩ = some cur[k] := by simp [World.cell?, hg, Array.getElem?_eq_getElem hkc]
      have hfk : wr.frozen? ⟨w.heap.size, k, none⟩ = false := by simp [World.frozen?, hg]
      have HG := Lib.hid hg
      obtain ⟨bk, HB⟩ : ∃ bk, Hid (bk = l.getD k 0) := ⟨_, rfl⟩
      rw [← HB.out] at hck
      have hk1 := lowerByte_any bk
      obtain ⟨y, HY⟩ : ∃ y, Hid (y = low bk) := ⟨_, rfl⟩
      rw [← HY.out] at hk1
      clear hc hb hg
      generalize cur[k] = cv at hgk
      go_wp2_with (go_at_call 178; refine (hk1 _).mono ?_; rintro e w' ⟨rfl, rfl⟩)
      go_roundw
      case rel =>
        refine ⟨k + 1, cur.setIfInBounds k (.int .u8 (y.toNat : Int)), by omega, by go_num, hbr.setCell (p := ⟨w.heap.size, k, none⟩) (Nat.le_refl _) _, Joins.block_setCell HG.out _, ?_, fun j hj => ?_⟩
        · show (cur.setIfInBounds k _).size = n
          rw [Array.size_setIfInBounds]; exact HS.out
        · by_cases hjk : j = k
          · subst hjk
            rw [Array.getElem?_setIfInBounds_self_of_lt hkc, HY.out, HB.out]
          · rw [Array.getElem?_setIfInBounds_ne (Ne.symm hjk)]
            exact HC.out j (by omega)
      case measure => simp [intOf]; omega
    · have hkn : k = n := by omega
      have hrow : wr.ownsRow w.heap.size 5 1 (.slice (some ⟨w.heap.size, 0, none⟩) n n) n ((Lib.numsL (lowL l)).map (Value.int .u8)) := by
        refine ⟨by rw [List.length_map, Lib.numsL_length, lowL_length, HL.out, Nat.mul_one], .inr ⟨w.heap.size, n, cur, rfl, Nat.le_refl _, hg, Nat.le_refl _, by unfold maxLen; omega, by rw [HS.out, Nat.mul_one], ?_⟩⟩
        have hcs := HS.out
        have hll := HL.out
        apply List.ext_getElem?
        intro j
        rw [Nat.mul_one, List.take_of_length_le (by rw [Array.length_toList, hcs]; exact Nat.le_refl _), Array.getElem?_toList]
        rcases Nat.lt_or_ge j n with hj | hj
        · have hj' : j < (Lib.numsL (lowL l)).length := by rw [Lib.numsL_length, lowL_length, hll]; exact hj
          have hn1 := numsL_getD (lowL l) j (by rw [lowL_length, hll]; exact hj)
          rw [lowL_getD l j (by rw [hll]; exact hj), List.getD, List.getElem?_eq_getElem hj', Option.getD_some] at hn1
          rw [HC.out j (by omega), List.getElem?_map, List.getElem?_eq_getElem hj', Option.map_some, hn1]
        · rw [Array.getElem?_eq_none (by omega), List.getElem?_eq_none (by rw [List.length_map, Lib.numsL_length, lowL_length, hll]; exact hj)]
      clear HS HC hg hkn
      go_wp2
      go_ret
      exact ⟨_, rfl, hrow, hbr⟩

/-- Equal but for great and small letters. -/
def sameLow (x y : List UInt8) : Bool := decide (lowL x = lowL y)

theorem Same1_any (a b : UInt8) (w : World) : Calls Tryz.prog 177 #[.int .u8 (a.toNat : Int), .int .u8 (b.toNat : Int)] w fun e w' => e = .returned (.bool (isB (low b) (low a))) ∧ w = w' := by
  have h1 := lowerByte_any a
  have h2 := lowerByte_any b
  have hx := u8_lt (low a)
  have hy := u8_lt (low b)
  generalize low a = x at *
  generalize low b = y at *
  have H := Lib.hid (show isB y x = ((x.toNat : Int) == (y.toNat : Int)) by unfold isB; rw [Bool.eq_iff_iff, beq_iff_eq, beq_iff_eq, ← UInt8.toNat_inj]; omega)
  go_enter Tryz.func177, Tryz.ntmps177
  go_wp2_with fail
  refine (h1 _).mono ?_
  rintro e w' ⟨rfl, rfl⟩
  go_wp2_with fail
  refine (h2 _).mono ?_
  rintro e w' ⟨rfl, rfl⟩
  go_wp2
  go_ret
  exact ⟨(by rw [H.out]; try rfl), rfl⟩

set_option maxRecDepth 100000 in
set_option maxHeartbeats 2000000 in
theorem EqualFunc_any (p1 p2 : Option Addr) (n c m d : Nat) (xs ys : List UInt8) (w : World) (hx : xs.length = n) (hy : ys.length = m) (hn : n ≤ 140737488355328) (hm : m ≤ 140737488355328) (h1 : Lib.BytesIn w p1 n (Lib.numsL xs)) (h2 : Lib.BytesIn w p2 m (Lib.numsL ys)) :
    Calls Tryz.prog 176 #[.slice p1 n c, .slice p2 m d, .func (.func 177) #[] #[]] w fun e w' => e = .returned (.bool (sameLow xs ys)) ∧ w = w' := by
  by_cases hnm : n = m
  · subst hnm
    have e0 : ((n : Int) != (n : Int)) = false := by simp
    go_enter Tryz.func176, Tryz.ntmps176
    go_wp2
    go_loop [17] (fun i => ∃ k : Nat, k ≤ n ∧ i = .int .i64 k ∧ Hid (sameLow xs ys = sameLow (xs.drop k) (ys.drop k))) (fun i => n - (intOf i).toNat)
    case atStart => exact ⟨0, Nat.zero_le _, rfl, rfl⟩
    case round =>
      obtain ⟨k, hk, rfl, HR⟩ := hrel
      by_cases hlt : k < n
      · obtain ⟨b1, o1, rfl, hc1⟩ := h1.at (by omega)
        obtain ⟨b2, o2, rfl, hc2⟩ := h2.at (by omega)
        have c1 := hc1 k hlt
        have c2 := hc2 k hlt
        rw [numsL_getD _ _ (by omega)] at c1 c2
        have d1 := drop_cons xs k (by omega)
        have d2 := drop_cons ys k (by omega)
        clear hc1 hc2 h1 h2 e0
        generalize xs.getD k 0 = x at c1 d1
        generalize ys.getD k 0 = y at c2 d2
        have hs := Same1_any x y w
        by_cases hxy : low x = low y
        · have HR2 := Lib.hid (show sameLow xs ys = sameLow (xs.drop (k + 1)) (ys.drop (k + 1)) by rw [HR.out, d1, d2]; unfold sameLow lowL; simp [hxy])
          rw [show isB (low y) (low x) = true from by unfold isB; rw [beq_iff_eq]; exact hxy] at hs
          clear d1 d2 HR hxy
          go_wp2_with (go_at_call 177; refine hs.mono ?_; rintro e w' ⟨rfl, hw⟩; subst hw)
          go_round
          case rel => exact ⟨k + 1, by omega, by go_num, HR2⟩
          case measure => simp [intOf]; omega
        · have H := Lib.hid (show sameLow xs ys = false by rw [HR.out, d1, d2]; unfold sameLow lowL; simp [hxy])
          rw [show isB (low y) (low x) = false from by unfold isB; rw [beq_eq_false_iff_ne]; exact hxy] at hs
          clear d1 d2 HR hxy
          go_wp2_with (go_at_call 177; refine hs.mono ?_; rintro e w' ⟨rfl, hw⟩; subst hw)
          go_ret
          exact ⟨(by rw [H.out]; try rfl), rfl⟩
      · have H := Lib.hid (show sameLow xs ys = true by rw [HR.out, List.drop_of_length_le (by omega), List.drop_of_length_le (by omega)]; rfl)
        clear HR
        go_wp2
        go_ret
        exact ⟨(by rw [H.out]; try rfl), rfl⟩
  · have e0 : ((n : Int) != (m : Int)) = true := by rw [bne_iff_ne]; omega
    have H := Lib.hid (show sameLow xs ys = false by unfold sameLow; rw [decide_eq_false_iff_not]; intro h; apply hnm; rw [← hx, ← hy, ← lowL_length xs, ← lowL_length ys, h])
    go_enter Tryz.func176, Tryz.ntmps176
    go_wp2
    go_ret
    exact ⟨(by rw [H.out]; try rfl), rfl⟩

theorem cutSame_any (p1 p2 : Option Addr) (n c m d : Nat) (xs ys : List UInt8) (w : World) (hx : xs.length = n) (hy : ys.length = m) (hn : n ≤ 140737488355328) (hm : m ≤ 140737488355328) (h1 : Lib.BytesIn w p1 n (Lib.numsL xs)) (h2 : Lib.BytesIn w p2 m (Lib.numsL ys)) :
    Calls Tryz.prog 153 #[.slice p1 n c, .slice p2 m d] w fun e w' => e = .returned (.bool (sameLow xs ys)) ∧ w = w' := by
  have con := EqualFunc_any p1 p2 n c m d xs ys w hx hy hn hm h1 h2
  clear h1 h2
  go_enter Tryz.func153, Tryz.ntmps153
  go_wp2_with (go_at_call 176; refine con.mono ?_; rintro e w' ⟨rfl, rfl⟩)
  go_ret
  exact ⟨rfl, rfl⟩

end Go.Proofs.YtkjkfgmoogbdiaaGreatDoor

namespace Go.Proofs.YtkjkfgmoogbdiaaGreatDoor.Brn
open Go.RowKit Go.Shelf Arn
attribute [local go_sem] Oper.semAt_some wide_fn
set_option linter.unusedVariables false

theorem row_lower {w : World} {base base' : Nat} {e : TypeId} {size : Nat} {v : Value} {n : Nat} {xs : List Value} (h : w.ownsRow base e size v n xs) (hb : base' ≤ base) : w.ownsRow base' e size v n xs := by
  refine ⟨h.1, ?_⟩
  rcases h.2 with h | ⟨g, cap, cur, h1, h2, h3⟩
  · exact .inl h
  · exact .inr ⟨g, cap, cur, h1, Nat.le_trans hb h2, h3⟩
theorem row_sl {w : World} {base n : Nat} {e : TypeId} {size : Nat} {v : Value} {xs : List Value} (h : w.ownsRow base e size v n xs) : ∃ q c, v = .slice q n c := by
  rcases h.2 with ⟨rfl, rfl⟩ | ⟨g, cap, cur, rfl, _⟩
  · exact ⟨none, 0, rfl⟩
  · exact ⟨_, cap, rfl⟩
theorem slsC_mt : ∀ (sl : List (Sl Bx)), ∀ u ∈ slsC sl, u.oneCell' = true ∧ Mt u
  | [], u, hu => by cases hu
  | s :: r, u, hu => by
    rcases List.mem_append.1 hu with h | h
    · refine ⟨slC_one u h, ?_⟩
      simp only [slC, List.mem_cons, List.not_mem_nil, or_false] at h
      rcases h with rfl | rfl | rfl | rfl | rfl <;> exact ⟨fun x h => (by cases h), fun n h => (by cases h)⟩
    · exact slsC_mt r u h
theorem Clone_any (v : Value) (sl : List (Sl Bx)) (base : Nat) (w : World) (h : w.ownsRow base 121 5 v sl.length (slsC sl)) (hn : sl.length ≤ 1024) :
    Calls Tryz.prog 70 #[v] w fun e w' => ∃ v', e = .returned v' ∧ w'.ownsRow w.heap.size 121 5 v' sl.length (slsC sl) ∧ Below w.heap.size w w' ∧ All Mt v' w' := by
  have q24 : ∀ (w : World) (a : Option Addr) (n c n' c' : Nat), (binOp .eql 115 (.slice a n c) (.slice none n' c')).run Tryz.prog w = .ok (.bool a.isNone) w := fun w a n c n' c' => Lib.run_eql_slice_nil w _ _ a n c n' c' Tryz.underlying115
  have hl := slsC_len sl
  have hone := slsC_mt sl
  rcases h.2 with ⟨rfl, h0⟩ | ⟨g, cap, cur, rfl, hb, hg, h1, h2, h3, h4⟩
  · have hs : sl = [] := List.eq_nil_of_length_eq_zero h0
    subst hs
    clear h hl hone
    go_enter Tryz.func70, Tryz.ntmps70
    go_wp2
    go_ret
    exact ⟨_, rfl, World.ownsRow_nil _ _ _ _, Below.refl _ _, fun g hg => by cases hg⟩
  · obtain ⟨i0, hi0, hz0, hz1, hz2⟩ := info_arn info_slot
    have hc : ∀ j u, (slsC sl)[j]? = some u → (w.alloc (.cells #[] 121)).cell? ((⟨g, 0, none⟩ : Addr).add j) = some u := fun j u hu => by
      have hj := (List.getElem?_eq_some_iff.1 hu).1
      have e : (⟨g, 0, none⟩ : Addr).add j = ⟨g, j, none⟩ := by unfold Addr.add; split <;> simp_all
      rw [e, World.cell?_of_block (a := ⟨g, j, none⟩) ((blk_alloc (w := w) (.cells #[] 121)).block g (Array.getElem?_eq_some_iff.1 hg).1), h.cellAt j (by omega)]
      exact hu
    obtain ⟨n, hn2⟩ : ∃ n, sl.length = n := ⟨_, rfl⟩
    rw [hn2] at hl hn ⊢
    generalize slsC sl = xs at *
    have HC := Lib.hid hc
    have HO := Lib.hid hone
    have HL := Lib.hid hl
    have hm2 : (0 + n) * 88 ≤ 140737488355328 := by omega
    have hm3 : 0 + n ≤ maxLen := by unfold maxLen; omega
    have HALL := Lib.hid (show All Mt (.slice (some ⟨w.heap.size, 0, none⟩) 0 0) (w.alloc (.cells #[] 121)) from fun g' hg' j u hu => by
      cases hg'
      have k := BL.new 121 w #[]
      unfold BL at k
      unfold World.cell? at hu
      rw [k] at hu
      simp at hu)
    clear h hn2 hc hone hl hg h1 h2 h3 h4
    go_enter Tryz.func70, Tryz.ntmps70
    go_wp2_with (at_builtin; go_must (refine wpList_append_all Mt rfl _ _ 115 rfl w.heap.size 121 i0 (.agg #[.slice none 0 0, .slice none 0 0, .slice none 0 0, .int .i64 0, .bool false]) 5 88 Tryz.underlying115 hi0 hz0 hz1 hz2 rfl (by decide) _ 0 [] rfl (World.ownsRow_made w #[] 0 (Nat.le_refl _) (Nat.zero_le _) rfl) ⟨g, 0, none⟩ n cap xs rfl HL.out HC.out (fun u hu => (HO.out u hu).1) hm3 hm2 (by simp) HALL.out (fun u hu => (HO.out u hu).2) mt_zero ?_); intro v1 w1 hown hgrow hall hat)
    go_wp2
    go_ret
    refine ⟨_, rfl, by simpa using hown, ((Below.refl _ w).alloc (Nat.le_refl _) _).grown hgrow (by simp) (fun k hk => by have e : some w.heap.size = some k := hk; cases e; exact Nat.le_refl _), hall⟩
end Go.Proofs.YtkjkfgmoogbdiaaGreatDoor.Brn

namespace Go.Proofs.YtkjkfgmoogbdiaaGreatDoor
open Go.RowKit Go.Shelf

theorem index_at : ∀ (l : List UInt8) (c : UInt8) (k : Nat), k < l.length → l.getD k 0 = c → (∀ j, j < k → l.getD j 0 ≠ c) → Lib.indexByte l c = (k : Int)
  | [], _, k, h, _, _ => absurd h (Nat.not_lt_zero k)
  | x :: r, c, 0, _, h, _ => by
    have : x = c := h
    subst this
    simp [Lib.indexByte]
  | x :: r, c, k + 1, h, hk, hj => by
    have hx : x ≠ c := hj 0 (Nat.succ_pos k)
    have ih := index_at r c k (by simpa using h) hk (fun j hjk => hj (j + 1) (by omega))
    unfold Lib.indexByte
    rw [if_neg (by simpa using hx), ih]
    simp
theorem index_no : ∀ (l : List UInt8) (c : UInt8), (∀ j, j < l.length → l.getD j 0 ≠ c) → Lib.indexByte l c = -1
  | [], _, _ => rfl
  | x :: r, c, h => by
    have hx : x ≠ c := h 0 (Nat.succ_pos _)
    have ih := index_no r c (fun j hj => h (j + 1) (by simpa using hj))
    unfold Lib.indexByte
    rw [if_neg (by simpa using hx), ih]
    simp

def atFst (b : UInt8) (l : List UInt8) : List UInt8 := if 0 ≤ Lib.indexByte l b then l.take (Lib.indexByte l b).toNat else l
def atSnd (b : UInt8) (l : List UInt8) : List UInt8 := if 0 ≤ Lib.indexByte l b then l.drop ((Lib.indexByte l b).toNat + 1) else []
def atOk (b : UInt8) (l : List UInt8) : Bool := decide (0 ≤ Lib.indexByte l b)
theorem at_found (b : UInt8) (l : List UInt8) (k : Nat) (h : Lib.indexByte l b = (k : Int)) : atFst b l = l.take k ∧ atSnd b l = l.drop (k + 1) ∧ atOk b l = true := by
  unfold atFst atSnd atOk
  rw [h]
  simp
theorem at_none (b : UInt8) (l : List UInt8) (h : Lib.indexByte l b = -1) : atFst b l = l ∧ atSnd b l = [] ∧ atOk b l = false := by
  unfold atFst atSnd atOk
  rw [h]
  simp
end Go.Proofs.YtkjkfgmoogbdiaaGreatDoor

namespace Go.Proofs.YtkjkfgmoogbdiaaGreatDoor

theorem piecesOf_cons (l : List UInt8) (x : Nat × Nat) (r : List (Nat × Nat)) : piecesOf l (x :: r) = sub l x.1 x.2 :: piecesOf l r := rfl
theorem pieces_go (c : UInt8) (l : List UInt8) : ∀ (r : List UInt8) (i f : Nat), l.drop i = r → f ≤ i → i ≤ l.length → piecesOf l (spansGo (isB c) r i f) = Ref.onto (sub l f i) (Ref.splitL c r)
  | [], i, f, _, _, _ => by
    unfold spansGo
    rw [piecesOf_cons]
    simp [piecesOf, Ref.splitL, Ref.onto]
  | b :: r, i, f, hd, hf, hi => by
    have hlt : i < l.length := by
      rcases Nat.lt_or_ge i l.length with h | h
      · exact h
      · rw [List.drop_of_length_le h] at hd; cases hd
    have hdc := drop_cons l i hlt
    rw [hd] at hdc
    simp only [List.cons.injEq] at hdc
    have hb : b = l.getD i 0 := hdc.1
    have hr : l.drop (i + 1) = r := hdc.2.symm
    by_cases h : b = c
    · have hp : isB c b = true := by unfold isB; rw [beq_iff_eq]; exact h
      have e : spansGo (isB c) (b :: r) i f = (f, i) :: spansGo (isB c) r (i + 1) (i + 1) := by conv => lhs; unfold spansGo; rw [if_pos hp]
      rw [e, piecesOf_cons, pieces_go c l r (i + 1) (i + 1) hr (Nat.le_refl _) hlt, sub_nil, h, Ref.split_is, Ref.onto_nil _ (Ref.split_ne c r)]
      simp [Ref.onto]
    · have hp : ¬ isB c b = true := by unfold isB; rw [beq_iff_eq]; exact h
      have e : spansGo (isB c) (b :: r) i f = spansGo (isB c) r (i + 1) f := by conv => lhs; unfold spansGo; rw [if_neg hp]
      rw [e, pieces_go c l r (i + 1) f hr (by omega) hlt, sub_snoc l f i hf hlt, Ref.split_not c b r h, ← hb, Ref.onto_onto _ _ _ (Ref.split_ne c r)]
theorem pieces_split (c : UInt8) (l : List UInt8) : piecesOf l (spansL (isB c) l) = Ref.splitL c l := by
  unfold spansL
  rw [pieces_go c l l 0 0 (List.drop_zero) (Nat.le_refl _) (Nat.zero_le _), sub_nil, Ref.onto_nil _ (Ref.split_ne c l)]

theorem digit_dec (b : UInt8) : digitB b = Ref.decB b := rfl
theorem numGo_ref (most : Int) : ∀ (l : List UInt8) (n : Int), numGo most l n = Ref.numGo most l n
  | [], _ => rfl
  | b :: r, n => by
    unfold numGo Ref.numGo
    rw [digit_dec, numGo_ref most r]
theorem numOf_ref (most : Int) (l : List UInt8) : numOf most l = Ref.numOf most l := by
  unfold numOf Ref.numOf
  rw [numGo_ref]

end Go.Proofs.YtkjkfgmoogbdiaaGreatDoor

namespace Go.Proofs.YtkjkfgmoogbdiaaGreatDoor
open Go.RowKit Go.Shelf

theorem bytesOf_numsL (l : List UInt8) : Lib.bytesOf (Lib.numsL l) = l := by
  unfold Lib.bytesOf Lib.numsL
  rw [List.map_map]
  conv => rhs; rw [← List.map_id l]
  apply List.map_congr_left
  intro b _
  simp

theorem IndexByte_any (q : Option Addr) (n c : Nat) (l : List UInt8) (b : UInt8) (w : World) (hl : l.length = n) (hq : q = none → n = 0 ∧ c = 0) (h : Lib.BytesIn w q n (Lib.numsL l)) :
    Calls Tryz.prog 76 #[.slice q n c, .int .u8 (b.toNat : Int)] w fun e w' => e = .returned (.int .i64 (Lib.indexByte l b)) ∧ w' = w := by
  cases q with
  | none =>
    obtain ⟨rfl, rfl⟩ := hq rfl
    obtain rfl : l = [] := List.eq_nil_of_length_eq_zero hl
    exact Tryz.bytes_IndexByte_nil (b.toNat : Int) w
  | some a =>
    have h1 := Tryz.bytes_IndexByte_at a n c (Lib.numsL l) (b.toNat : Int) w (by rw [Lib.numsL_length, hl]) (fun i hi => by
      obtain ⟨b', o, he, hc⟩ := h.at (by omega)
      cases he
      rw [Go.WideShapes.add_plain]
      exact hc i hi)
    rw [bytesOf_numsL, show (b.toNat : Int).toNat.toUInt8 = b from by simp] at h1
    exact h1

theorem index_lt : ∀ (l : List UInt8) (c : UInt8), Lib.indexByte l c < (l.length : Int)
  | [], _ => by simp [Lib.indexByte]
  | x :: r, c => by
    have ih := index_lt r c
    unfold Lib.indexByte
    split
    · simp
    · simp only [beq_iff_eq]
      split <;> simp <;> omega

theorem run_slice_to (q : Option Addr) (n c j : Nat) (W : World) (hj : j ≤ c) :
    (Instr.slice 30 (.slice q n c) none (some (.int .i64 (j : Int))) none).run Tryz.prog W = .ok (.slice (subA q c 0) j c) W := by
  have hs : ∀ w, (Go.sizeOf 5).run Tryz.prog w = .ok 1 w := Tryz.sizeOf5
  have he : Tryz.prog.elem 30 = 5 := by kernel_rfl
  have h := run_slice_h (P := Tryz.prog) (w := W) 30 q n c (by rw [he]; exact Tryz.underlying30) .i64 j (by omega) (by omega)
  rw [h, he, hs]
  simp [Result.andThen, sliced, subA]

theorem run_slice_from (q : Option Addr) (n c i : Nat) (W : World) (hi : i + 1 ≤ n) :
    (Instr.slice 30 (.slice q n c) (some (.int .i64 ((i : Int) + 1))) none none).run Tryz.prog W = .ok (.slice (subA q c (i + 1)) (n - (i + 1)) (c - (i + 1))) W := by
  have hs : ∀ w, (Go.sizeOf 5).run Tryz.prog w = .ok 1 w := Tryz.sizeOf5
  have he : Tryz.prog.elem 30 = 5 := by kernel_rfl
  have h := run_slice_l (P := Tryz.prog) (w := W) 30 q n c (by rw [he]; exact Tryz.underlying30) .i64 ((i : Int) + 1) (by omega) (by omega)
  rw [h, he, hs]
  simp only [Result.andThen, sliced, subA, Nat.mul_one, show ((i : Int) + 1).toNat = i + 1 from by omega]

theorem sub_to (l : List UInt8) (k : Nat) : sub l 0 k = l.take k := by unfold sub; simp
theorem sub_from (l : List UInt8) (k : Nat) : sub l k l.length = l.drop k := by unfold sub; rw [List.take_of_length_le (by simp)]

set_option maxRecDepth 100000 in
set_option maxHeartbeats 8000000 in
theorem At_any (q : Option Addr) (n c : Nat) (l : List UInt8) (b : UInt8) (w : World) (hl : l.length = n) (hn : n ≤ 1099511627775) (hcp : n ≤ c) (hq : q = none → n = 0 ∧ c = 0) (h : Lib.BytesIn w q n (Lib.numsL l)) :
    Calls Tryz.prog 51 #[.slice q n c, .int .u8 (b.toNat : Int)] w fun e w' => ∃ v1 v2, e = .returned (.tuple #[v1, v2, .bool (atOk b l)]) ∧
      w'.ownsRow w.heap.size 5 1 v1 (atFst b l).length ((Lib.numsL (atFst b l)).map (Value.int .u8)) ∧
      w'.ownsRow w.heap.size 5 1 v2 (atSnd b l).length ((Lib.numsL (atSnd b l)).map (Value.int .u8)) ∧ Below w.heap.size w w' := by
  have hix := IndexByte_any q n c l b w hl hq h
  have hge := Lib.indexByte_ge l b
  have hlt := index_lt l b
  by_cases h0 : 0 ≤ Lib.indexByte l b
  · obtain ⟨k, hk⟩ : ∃ k : Nat, Lib.indexByte l b = (k : Int) := ⟨(Lib.indexByte l b).toNat, by omega⟩
    obtain ⟨e1, e2, e3⟩ := at_found b l k hk
    rw [hk] at hix hlt
    have hkn : k < n := by omega
    rw [e1, e2, e3]
    have hb1 := bytes_sub h hl (Nat.zero_le k) (by omega) hcp
    have hb2 := bytes_sub h hl (show k + 1 ≤ n from hkn) (Nat.le_refl n) hcp
    have hs2 : sub l (k + 1) n = l.drop (k + 1) := by rw [← hl]; exact sub_from l (k + 1)
    rw [sub_to, Nat.sub_zero] at hb1
    rw [hs2] at hb2
    have hl1 : (l.take k).length = k := by rw [List.length_take]; omega
    have hl2 : (l.drop (k + 1)).length = n - (k + 1) := by rw [List.length_drop]; omega
    have hwr : IntKind.i64.wrap ((k : Int) + 1) = (k : Int) + 1 := by rw [IntKind.wrap_i64]; omega
    have hr1 : ∀ W, (Instr.slice 30 (.slice q n c) none (some (.int .i64 (k : Int))) none).run Tryz.prog W = .ok (.slice (subA q c 0) k c) W := fun W => run_slice_to q n c k W (by omega)
    have hr2 : ∀ W, (Instr.slice 30 (.slice q n c) (some (.int .i64 ((k : Int) + 1))) none none).run Tryz.prog W = .ok (.slice (subA q c (k + 1)) (n - (k + 1)) (c - (k + 1))) W := fun W => run_slice_from q n c k W hkn
    clear e1 e2 e3 h0 hge hk hs2 h
    rw [hl1, hl2]
    generalize l.take k = l1 at *
    generalize l.drop (k + 1) = l2 at *
    generalize hqa : subA q c 0 = qa at *
    generalize hqb : subA q c (k + 1) = qb at *
    clear hqa hqb
    go_enter Tryz.func51, Tryz.ntmps51
    go_wp2_with fail
    refine hix.mono ?_
    rintro e w' ⟨rfl, hw⟩
    subst hw
    go_wp2_with fail
    refine pregion_any (fun _ => True) (by kernel_rfl) ?_
    refine wpAnyH_take (i := 0) (v := .slice q n c) rfl (by kernel_rfl) (by kernel_rfl) (by kernel_rfl) (fun _ _ _ h => h) (.inl ⟨by kernel_rfl, ?_⟩) trivial ?_
    · rintro w -; go_simp
    refine wpAnyH_take (i := 1) (v := .int .i64 (k : Int)) rfl (by kernel_rfl) (by kernel_rfl) (by kernel_rfl) (fun _ _ _ h => h) (.inl ⟨by kernel_rfl, ?_⟩) trivial ?_
    · rintro w -; go_simp
    refine wpAnyH_take (i := 2) (v := .slice qa k c) rfl (by kernel_rfl) (by kernel_rfl) (by kernel_rfl) (fun _ _ _ h => h) (.inl ⟨by kernel_rfl, ?_⟩) trivial ?_
    · rintro w -; go_simp
    refine wpAnyH_take (i := 4) (v := .slice q n c) rfl (by kernel_rfl) (by kernel_rfl) (by kernel_rfl) (fun _ _ _ h => h) (.inl ⟨by kernel_rfl, ?_⟩) trivial ?_
    · rintro w -; go_simp
    refine wpAnyH_take (i := 5) (v := .int .i64 (k : Int)) rfl (by kernel_rfl) (by kernel_rfl) (by kernel_rfl) (fun _ _ _ h => h) (.inl ⟨by kernel_rfl, ?_⟩) trivial ?_
    · rintro w -; go_simp
    refine wpAnyH_take (i := 6) (v := .int .i64 ((k : Int) + 1)) rfl (by kernel_rfl) (by kernel_rfl) (by kernel_rfl) (fun _ _ _ h => h) (.inl ⟨by kernel_rfl, ?_⟩) trivial ?_
    · rintro w -; go_simp
    refine wpAnyH_take (i := 7) (v := .slice qb (n - (k + 1)) (c - (k + 1))) rfl (by kernel_rfl) (by kernel_rfl) (by kernel_rfl) (fun _ _ _ h => h) (.inl ⟨by kernel_rfl, ?_⟩) trivial ?_
    · rintro w -; go_simp
    have hd1 := bytes_keep hb1 (Keep.drew (fun _ => True) _) (fun _ _ _ => trivial)
    have hd2 := bytes_keep hb2 (Keep.drew (fun _ => True) _) (fun _ _ _ => trivial)
    refine pone 3 (by kernel_rfl) rfl fun K hK => ?_
    go_simp
    refine (Clone_any qa k c l1 _ hl1 (by omega) hd1).mono ?_
    rintro e w1 ⟨v1, rfl, hrow1, hbel1⟩
    have hd3 := bytes_keep hd2 (Keep.of_below hbel1) (fun a h1 h2 => bytes_lt hd2 a h1 h2)
    rw [drew_size] at hrow1 hbel1
    refine hK _ _ trivial ?_
    clear hK K
    refine pone 8 (by kernel_rfl) rfl fun K hK => ?_
    go_simp
    refine (Clone_any qb (n - (k + 1)) (c - (k + 1)) l2 _ hl2 (by omega) hd3).mono ?_
    rintro e w2 ⟨v2, rfl, hrow2, hbel2⟩
    have hrow1' := (Keep.of_below hbel2).row hrow1 (fun b hb => (hrow1.lt b hb).2)
    have hsz := hbel1.size
    rw [drew_size] at hsz
    have hrow2' := row_base hrow2 hsz
    have hfin : Below w'.heap.size w' w2 := (Below.refl _ _).drew.trans (hbel1.trans (hbel2.mono hsz))
    refine hK _ _ trivial ?_
    clear hK K hrow1 hrow2 hbel1 hbel2 hd1 hd2 hd3 hb1 hb2
    refine wpAnyH_take (i := 9) (v := v1) rfl (by kernel_rfl) (by kernel_rfl) (by kernel_rfl) (fun _ _ _ h => h) (.inl ⟨by kernel_rfl, ?_⟩) trivial ?_
    · rintro w -; go_simp
    refine wpAnyH_take (i := 10) (v := v2) rfl (by kernel_rfl) (by kernel_rfl) (by kernel_rfl) (fun _ _ _ h => h) (.inl ⟨by kernel_rfl, ?_⟩) trivial ?_
    · rintro w -; go_simp
    refine wpAnyH_take (i := 11) (v := .bool true) rfl (by kernel_rfl) (by kernel_rfl) (by kernel_rfl) (fun _ _ _ h => h) (.inl ⟨by kernel_rfl, ?_⟩) trivial ?_
    · rintro w -; go_simp
    refine pdone (by kernel_rfl) ?_ _
    go_wp2
    go_ret3
    exact ⟨v1, v2, rfl, hrow1', hrow2', hfin⟩
  · have hk : Lib.indexByte l b = -1 := by omega
    obtain ⟨e1, e2, e3⟩ := at_none b l hk
    rw [hk] at hix
    rw [e1, e2, e3, hl]
    clear e1 e2 e3 h0 hge hk hlt
    go_enter Tryz.func51, Tryz.ntmps51
    go_wp2_with fail
    refine hix.mono ?_
    rintro e w' ⟨rfl, hw⟩
    subst hw
    go_wp2_with fail
    refine (Clone_any q n c l _ hl (by omega) h).mono ?_
    rintro e w1 ⟨v1, rfl, hrow1, hbel1⟩
    go_wp2
    go_ret3
    exact ⟨v1, _, rfl, hrow1, World.ownsRow_nil _ _ _ _, hbel1⟩

end Go.Proofs.YtkjkfgmoogbdiaaGreatDoor

namespace Go.Proofs.YtkjkfgmoogbdiaaGreatDoor
open Go.RowKit Go.Shelf

set_option maxHeartbeats 1000000 in
theorem isBlank_any (b : UInt8) (w : World) :
    Calls Tryz.prog 77 #[.int .u8 (b.toNat : Int)] w fun e w' => e = .returned (.bool (blankB b)) ∧ w = w' := by
  have hb := u8_lt b
  by_cases h1 : b.toNat = 32
  · have d1 : ((b.toNat : Int) == 32) = true := by rw [beq_iff_eq]; omega
    have H := Lib.hid (show blankB b = true by simp [blankB]; omega)
    clear h1
    go_enter Tryz.func77, Tryz.ntmps77
    go_wp2
    go_ret
    exact ⟨(by rw [H.out]; try rfl), rfl⟩
  · have d1 : ((b.toNat : Int) == 32) = false := by rw [beq_eq_false_iff_ne]; omega
    have H := Lib.hid (show blankB b = ((b.toNat : Int) == 9) by rw [Bool.eq_iff_iff, beq_iff_eq]; simp [blankB]; omega)
    clear h1
    go_enter Tryz.func77, Tryz.ntmps77
    go_wp2
    go_ret
    exact ⟨(by rw [H.out]; try rfl), rfl⟩

/-- From f to e lies what is left of l without the blanks at both ends. -/
def Trims (l : List UInt8) (f e : Nat) : Prop :=
  (f = l.length ∧ e = l.length ∧ ∀ j, j < l.length → blankB (l.getD j 0) = true) ∨
  (f < e ∧ e ≤ l.length ∧ (∀ j, j < f → blankB (l.getD j 0) = true) ∧ blankB (l.getD f 0) = false ∧ blankB (l.getD (e - 1) 0) = false ∧ ∀ j, e ≤ j → j < l.length → blankB (l.getD j 0) = true)

theorem first_no (l : List UInt8) : ∀ (d m : Nat), l.length - m = d → (∀ j, j < m → blankB (l.getD j 0) = true) → m ≤ l.length →
    (∀ j, j < l.length → blankB (l.getD j 0) = true) ∨ ∃ f, f < l.length ∧ (∀ j, j < f → blankB (l.getD j 0) = true) ∧ blankB (l.getD f 0) = false
  | 0, m, hd, h, hm => .inl (fun j hj => h j (by omega))
  | d + 1, m, hd, h, hm => by
    by_cases hb : blankB (l.getD m 0) = true
    · exact first_no l d (m + 1) (by omega) (fun j hj => by
        by_cases he : j = m
        · subst he; exact hb
        · exact h j (by omega)) (by omega)
    · exact .inr ⟨m, by omega, h, by simpa using hb⟩
theorem last_no (l : List UInt8) (f : Nat) (hf : blankB (l.getD f 0) = false) : ∀ (m : Nat), f < m → m ≤ l.length → (∀ j, m ≤ j → j < l.length → blankB (l.getD j 0) = true) →
    ∃ e, f < e ∧ e ≤ l.length ∧ blankB (l.getD (e - 1) 0) = false ∧ ∀ j, e ≤ j → j < l.length → blankB (l.getD j 0) = true
  | 0, h, _, _ => absurd h (Nat.not_lt_zero f)
  | m + 1, h, hm, ha => by
    by_cases hb : blankB (l.getD m 0) = true
    · have hne : f ≠ m := by rintro rfl; rw [hf] at hb; cases hb
      exact last_no l f hf m (by omega) (by omega) (fun j hj hl => by
        by_cases he : j = m
        · subst he; exact hb
        · exact ha j (by omega) hl)
    · exact ⟨m + 1, h, hm, by rw [Nat.add_sub_cancel]; simpa using hb, ha⟩
theorem trims (l : List UInt8) : ∃ f e, Trims l f e := by
  rcases first_no l l.length 0 (by omega) (fun j hj => absurd hj (Nat.not_lt_zero j)) (Nat.zero_le _) with h | ⟨f, h1, h2, h3⟩
  · exact ⟨_, _, .inl ⟨rfl, rfl, h⟩⟩
  · obtain ⟨e, h4, h5, h6, h7⟩ := last_no l f h3 l.length h1 (Nat.le_refl _) (fun j h1 h2 => absurd h1 (by omega))
    exact ⟨f, e, .inr ⟨h4, h5, h2, h3, h6, h7⟩⟩
theorem Trims.le {l : List UInt8} {f e : Nat} (h : Trims l f e) : f ≤ e ∧ e ≤ l.length := by
  rcases h with ⟨h1, h2, _⟩ | ⟨h1, h2, _⟩ <;> omega

set_option maxRecDepth 100000 in
set_option maxHeartbeats 4000000 in
theorem cutTrim_any (q : Option Addr) (n c f e : Nat) (l : List UInt8) (w : World) (hl : l.length = n) (hn : n ≤ 1099511627775) (hnc : n ≤ c) (hb : Lib.BytesIn w q n (Lib.numsL l)) (ht : Trims l f e) :
    Calls Tryz.prog 56 #[.slice q n c] w fun e' w' => ∃ v', e' = .returned v' ∧ w'.ownsRow w.heap.size 5 1 v' (sub l f e).length ((Lib.numsL (sub l f e)).map (Value.int .u8)) ∧ Below w.heap.size w w' := by
  have hle := ht.le
  have con := Clone_any (subA q c f) (e - f) (c - f) (sub l f e) w (by rw [sub_length _ _ _ hle.2]) (by omega) (bytes_sub hb hl hle.1 (by omega) hnc)
  have hsl := fun W => run_slice_sub q n c f e W hle.1 (by omega)
  have hcell : ∀ j, j < n → ∃ b o, q = some ⟨b, o, none⟩ ∧ w.cell? ⟨b, o + j, none⟩ = some (.int .u8 ((l.getD j 0).toNat : Int)) := fun j hj => by
    obtain ⟨b, o, rfl, hc⟩ := hb.at (by omega)
    exact ⟨b, o, rfl, by rw [← numsL_getD l j (by omega)]; exact hc j hj⟩
  have hsz := sub_length l f e hle.2
  rw [hsz]
  rw [hl] at hle
  clear hb hsz
  go_enter Tryz.func56, Tryz.ntmps56
  go_wp2
  go_loop [3] (fun i => ∃ k : Nat, k ≤ f ∧ i = .int .i64 k) (fun i => f - (intOf i).toNat)
  case atStart => exact ⟨0, Nat.zero_le _, rfl⟩
  case round =>
    obtain ⟨k, hk, rfl⟩ := hrel
    by_cases hlt : k < f
    · obtain ⟨b, o, rfl, hck⟩ := hcell k (by omega)
      have hbk : blankB (l.getD k 0) = true := by
        rcases ht with ⟨h1, h2, h3⟩ | ⟨h1, h2, h3, _⟩
        · exact h3 k (by omega)
        · exact h3 k hlt
      have cb := isBlank_any (l.getD k 0)
      rw [hbk] at cb
      clear con hsl hcell ht hbk
      generalize l.getD k 0 = bk at *
      have hkn : k < n := by omega
      go_wp2_with (go_at_call 77; refine (cb _).mono ?_; rintro e w' ⟨rfl, rfl⟩)
      go_round
      case rel => exact ⟨k + 1, by omega, by go_num⟩
      case measure => simp [intOf]; omega
    · obtain rfl : k = f := by omega
      rcases ht with ⟨rfl, rfl, h3⟩ | ⟨h1, h2, h3, h4, h5, h6⟩
      · rw [hl] at hk con hsl hle hlt ⊢
        clear hcell h3
        rw [Nat.sub_self] at con hsl
        go_wp2_with fail
        go_loop [4] (fun i => i = .int .i64 (n : Int)) (fun _ => 0)
        case atStart => rfl
        case round =>
          obtain rfl := hrel
          go_wp2_with fail
          refine con.mono ?_
          rintro e w' ⟨v', rfl, hrow, hbel⟩
          go_wp2
          go_ret
          exact ⟨v', rfl, by first | exact hrow | (rw [Nat.sub_self, hl]; exact hrow), hbel⟩
      · obtain ⟨b, o, rfl, hck⟩ := hcell k (by omega)
        have cb := isBlank_any (l.getD k 0)
        rw [h4] at cb
        clear h4
        generalize l.getD k 0 = bk at *
        have hkn : k < n := by omega
        go_wp2_with fail
        refine (cb _).mono ?_
        rintro e w' ⟨rfl, rfl⟩
        go_wp2_with fail
        clear hck h3 hkn
        go_loop [4] (fun i => ∃ t : Nat, e ≤ t + 1 ∧ t + 1 ≤ n ∧ i = .int .i64 ((t : Int) + 1)) (fun i => (intOf i).toNat - e)
        case atStart => exact ⟨n - 1, by omega, by omega, by congr 1; omega⟩
        case round =>
          obtain ⟨t, ht1, ht2, rfl⟩ := hrel
          obtain ⟨b2, o2, hq2, hct⟩ := hcell t (by omega)
          cases hq2
          have ct := isBlank_any (l.getD t 0)
          have d3 : decide ((k : Int) < (t : Int) + 1) = true := by simp; omega
          by_cases het : e < t + 1
          · rw [h6 t (by omega) (by omega)] at ct
            clear h5 h6 con hsl cb hcell
            generalize l.getD t 0 = bt at *
            go_wp2_with fail
            refine (ct _).mono ?_
            rintro e w' ⟨rfl, rfl⟩
            go_wp2
            go_round
            case rel => exact ⟨t - 1, by omega, by omega, by go_num⟩
            case measure => simp [intOf]; omega
          · obtain rfl : e = t + 1 := by omega
            rw [Nat.add_sub_cancel] at h5
            rw [h5] at ct
            push_cast at hsl
            clear h5 h6 cb hcell
            generalize l.getD t 0 = bt at *
            go_wp2_with fail
            refine (ct _).mono ?_
            rintro e w' ⟨rfl, rfl⟩
            go_wp2_with fail
            refine con.mono ?_
            rintro e w' ⟨v', rfl, hrow, hbel⟩
            go_wp2
            go_ret
            exact ⟨_, rfl, hrow, hbel⟩

end Go.Proofs.YtkjkfgmoogbdiaaGreatDoor

namespace Go.Proofs.YtkjkfgmoogbdiaaGreatDoor.S
open Go.RowKit Go.Shelf

theorem isNaN_any (x : ByteArray) (w : World) : Calls Tryz.prog 156 #[.string x] w fun e w' => e = .returned (.bool false) ∧ w' = w := by
  go_enter Tryz.func156, Tryz.ntmps156
  go_wp2
  go_ret
  exact ⟨by simp, rfl⟩

/-- Which of two texts is less? -/
def cmpS (x y : List UInt8) : Int := if x < y then -1 else if y < x then 1 else 0
theorem cmpS_lt (x y : List UInt8) (h : x < y) : cmpS x y = -1 := by unfold cmpS; rw [if_pos h]
theorem cmpS_gt (x y : List UInt8) (h : y < x) : cmpS x y = 1 := by unfold cmpS; rw [if_neg (lin_asym h), if_pos h]
theorem cmpS_eq (x y : List UInt8) (h : x = y) : cmpS x y = 0 := by unfold cmpS; rw [h, if_neg (Lin.irr y), if_neg (Lin.irr y)]
theorem mk_toList (x : List UInt8) : (⟨x.toArray⟩ : ByteArray).toList = x := by rw [Lib.toList_data]

theorem cmpS_any (x y : List UInt8) (w : World) : Calls Tryz.prog 144 #[.string ⟨x.toArray⟩, .string ⟨y.toArray⟩] w fun e w' => e = .returned (.int .i64 (cmpS x y)) ∧ w' = w := by
  obtain ⟨s, hs⟩ : ∃ s : ByteArray, (⟨x.toArray⟩ : ByteArray) = s := ⟨_, rfl⟩
  obtain ⟨t, ht⟩ : ∃ t : ByteArray, (⟨y.toArray⟩ : ByteArray) = t := ⟨_, rfl⟩
  have hsl : s.toList = x := by rw [← hs]; exact mk_toList x
  have htl : t.toList = y := by rw [← ht]; exact mk_toList y
  have b1 : Op.bytesLess s.toList t.toList = decide (x < y) := by rw [Go.Proofs.bytesLess_eq, hsl, htl]
  have b2 : (s.toList == t.toList) = decide (x = y) := by rw [hsl, htl, Bool.eq_iff_iff, beq_iff_eq]; simp
  rw [hs, ht]
  have con := fun x w => isNaN_any x w
  clear hs ht hsl htl
  rcases Lin.tri x y with h | h | h
  · have H := Lib.hid (cmpS_lt x y h)
    rw [decide_eq_true h] at b1
    clear b2 h
    go_enter Tryz.func144, Tryz.ntmps144
    go_wp2_with fail
    refine (con s _).mono ?_
    rintro e w' ⟨rfl, rfl⟩
    go_wp2_with fail
    refine (con t _).mono ?_
    rintro e w' ⟨rfl, rfl⟩
    go_wp2
    go_ret
    exact ⟨(by rw [H.out]; try rfl), rfl⟩
  · have H := Lib.hid (cmpS_eq x y h)
    rw [decide_eq_false (by rw [h]; exact Lin.irr y)] at b1
    rw [decide_eq_true h] at b2
    clear h
    go_enter Tryz.func144, Tryz.ntmps144
    go_wp2_with fail
    refine (con s _).mono ?_
    rintro e w' ⟨rfl, rfl⟩
    go_wp2_with fail
    refine (con t _).mono ?_
    rintro e w' ⟨rfl, rfl⟩
    go_wp2
    go_ret
    exact ⟨(by rw [H.out]; try rfl), rfl⟩
  · have H := Lib.hid (cmpS_gt x y h)
    rw [decide_eq_false (lin_asym h)] at b1
    rw [decide_eq_false (fun e => Lin.irr y (by rw [e] at h; exact h))] at b2
    clear h
    go_enter Tryz.func144, Tryz.ntmps144
    go_wp2_with fail
    refine (con s _).mono ?_
    rintro e w' ⟨rfl, rfl⟩
    go_wp2_with fail
    refine (con t _).mono ?_
    rintro e w' ⟨rfl, rfl⟩
    go_wp2
    go_ret
    exact ⟨(by rw [H.out]; try rfl), rfl⟩

end Go.Proofs.YtkjkfgmoogbdiaaGreatDoor.S

namespace Go.Proofs.YtkjkfgmoogbdiaaGreatDoor.Host
open Go.RowKit Go.Shelf Ref

set_option maxHeartbeats 1000000 in
theorem isDigit_any (b : UInt8) (w : World) :
    Calls Tryz.prog 209 #[.int .u8 (b.toNat : Int)] w fun e w' => e = .returned (.bool (Ref.decB b)) ∧ w = w' := by
  have hb := Ref.u8_lt b
  by_cases h1 : 48 ≤ b.toNat
  · by_cases h2 : b.toNat ≤ 57
    · have H := Lib.hid (show Ref.decB b = true by simp [Ref.decB]; omega)
      have d1 : decide ((48 : Int) ≤ (b.toNat : Int)) = true := by simp; omega
      have d2 : decide ((b.toNat : Int) ≤ (57 : Int)) = true := by simp; omega
      go_enter Tryz.func209, Tryz.ntmps209
      go_wp2
      go_ret
      exact ⟨(by rw [H.out]; try rfl), rfl⟩
    · have H := Lib.hid (show Ref.decB b = false by simp [Ref.decB]; omega)
      have d2 : decide ((b.toNat : Int) ≤ (57 : Int)) = false := by simp; omega
      go_enter Tryz.func209, Tryz.ntmps209
      go_wp2
      go_ret
      exact ⟨(by rw [H.out]; try rfl), rfl⟩
  · have H := Lib.hid (show Ref.decB b = false by simp [Ref.decB]; omega)
    have d1 : decide ((48 : Int) ≤ (b.toNat : Int)) = false := by simp; omega
    go_enter Tryz.func209, Tryz.ntmps209
    go_wp2
    go_ret
    exact ⟨(by rw [H.out]; try rfl), rfl⟩

set_option maxHeartbeats 1000000 in
theorem isLetter_any (b : UInt8) (w : World) :
    Calls Tryz.prog 227 #[.int .u8 (b.toNat : Int)] w fun e w' => e = .returned (.bool (Ref.letB b)) ∧ w = w' := by
  have hb := Ref.u8_lt b
  obtain ⟨x1, h1⟩ : ∃ x, decide ((65 : Int) ≤ (b.toNat : Int)) = x := ⟨_, rfl⟩
  obtain ⟨x2, h2⟩ : ∃ x, decide ((b.toNat : Int) ≤ (90 : Int)) = x := ⟨_, rfl⟩
  obtain ⟨x3, h3⟩ : ∃ x, decide ((97 : Int) ≤ (b.toNat : Int)) = x := ⟨_, rfl⟩
  obtain ⟨x4, h4⟩ : ∃ x, decide ((b.toNat : Int) ≤ (122 : Int)) = x := ⟨_, rfl⟩
  have H := Lib.hid (show Ref.letB b = ((x1 && x2) || (x3 && x4)) by
    rw [← h1, ← h2, ← h3, ← h4, Bool.eq_iff_iff]
    simp only [Ref.letB, decide_eq_true_eq, Bool.or_eq_true, Bool.and_eq_true]
    omega)
  cases x1 <;> cases x2 <;> cases x3 <;> cases x4
  all_goals
    go_enter Tryz.func227, Tryz.ntmps227
    go_wp2
    go_ret
    exact ⟨(by rw [H.out]; try rfl), rfl⟩

theorem part_parts (p : List UInt8) : partB p = (!p.isEmpty && decide (p.length ≤ 63) && p.getD 0 0 != 45 && p.getD (p.length - 1) 0 != 45 && p.all hostByte) := rfl
theorem hostByte_of (b : UInt8) : hostByte b = (Ref.letB b || Ref.decB b || b == 45) := rfl
theorem all_host_drop (l : List UInt8) (k : Nat) (h : k < l.length) : (l.drop k).all hostByte = (hostByte (l.getD k 0) && (l.drop (k + 1)).all hostByte) := by
  rw [Ref.drop_cons l k h, List.all_cons]

set_option maxRecDepth 100000 in
set_option maxHeartbeats 8000000 in
theorem isPart_any (q : Option Addr) (n c : Nat) (l : List UInt8) (w : World) (hl : l.length = n) (hn : n ≤ 140737488355328) (h : Lib.BytesIn w q n (Lib.numsL l)) :
    Calls Tryz.prog 208 #[.slice q n c] w fun e w' => e = .returned (.bool (partB l)) ∧ w = w' := by
  have PP := Lib.hid (part_parts l)
  by_cases hz : n = 0
  · subst hz
    obtain rfl : l = [] := List.eq_nil_of_length_eq_zero hl
    have H := Lib.hid (show partB [] = false from rfl)
    clear PP h
    go_enter Tryz.func208, Tryz.ntmps208
    go_wp2
    go_ret
    exact ⟨(by rw [H.out]; try rfl), rfl⟩
  · have hz' : 0 < n := by omega
    have e0 : ((n : Int) == 0) = false := by rw [beq_eq_false_iff_ne]; omega
    have hne : l.isEmpty = false := by cases l with | nil => simp at hl; omega | cons a r => rfl
    obtain ⟨b, o, rfl, hc⟩ := h.at hz'
    have HC := Lib.hid (fun k (hk : k < n) => show w.cell? ⟨b, o + k, none⟩ = some (.int .u8 ((l.getD k 0).toNat : Int)) by rw [hc k hk, numsL_getD l k (by omega)])
    clear hc h
    by_cases h63 : 63 < n
    · have d3 : decide ((63 : Int) < (n : Int)) = true := by simp; omega
      have H := Lib.hid (show partB l = false by rw [PP.out, hl, decide_eq_false (by omega)]; simp)
      clear PP HC hl hz hne
      go_enter Tryz.func208, Tryz.ntmps208
      go_wp2
      go_ret
      exact ⟨(by rw [H.out]; try rfl), rfl⟩
    · have d3 : decide ((63 : Int) < (n : Int)) = false := by simp; omega
      have ck0 : w.cell? ⟨b, o, none⟩ = some (.int .u8 ((l.getD 0 0).toNat : Int)) := HC.out 0 hz'
      have ckl := HC.out (n - 1) (by omega)
      have PQ := Lib.hid (show partB l = (l.getD 0 0 != 45 && l.getD (n - 1) 0 != 45 && l.all hostByte) by rw [PP.out, hl, decide_eq_true (by omega), hne]; simp)
      have wn : IntKind.i64.wrap ((n : Int) - 1) = ((n - 1 : Nat) : Int) := by rw [IntKind.wrap_i64]; omega
      clear PP hne
      generalize l.getD 0 0 = b0 at *
      by_cases h45 : b0 = 45
      · have e1 : ((b0.toNat : Int) == 45) = true := by rw [h45]; rfl
        have H := Lib.hid (show partB l = false by rw [PQ.out, h45]; rfl)
        clear PQ HC hl hz h45 ckl wn
        go_enter Tryz.func208, Tryz.ntmps208
        go_wp2
        go_ret
        exact ⟨(by rw [H.out]; try rfl), rfl⟩
      · have e1 : ((b0.toNat : Int) == 45) = false := by
          rw [beq_eq_false_iff_ne]; intro h; exact h45 (UInt8.toNat_inj.1 (by have : (45 : UInt8).toNat = 45 := rfl; omega))
        generalize l.getD (n - 1) 0 = bl at *
        by_cases h45' : bl = 45
        · have e2 : ((bl.toNat : Int) == 45) = true := by rw [h45']; rfl
          have H := Lib.hid (show partB l = false by rw [PQ.out, h45']; simp)
          clear PQ HC hl h45 h45'
          go_enter Tryz.func208, Tryz.ntmps208
          go_wp2
          go_ret
          exact ⟨(by rw [H.out]; try rfl), rfl⟩
        · have e2 : ((bl.toNat : Int) == 45) = false := by
            rw [beq_eq_false_iff_ne]; intro h; exact h45' (UInt8.toNat_inj.1 (by have : (45 : UInt8).toNat = 45 := rfl; omega))
          have PA := Lib.hid (show partB l = l.all hostByte by rw [PQ.out, bne_iff_ne.2 h45, bne_iff_ne.2 h45']; simp)
          clear PQ h45 h45'
          have HL := Lib.hid hl
          clear hl
          go_enter Tryz.func208, Tryz.ntmps208
          go_wp2
          clear e0 e1 e2 d3 ck0 ckl wn hz
          go_loop [30] (fun i => ∃ k : Nat, k ≤ n ∧ i = .int .i64 k ∧ Hid (partB l = (l.drop k).all hostByte)) (fun i => n - (intOf i).toNat)
          case atStart => exact ⟨0, Nat.zero_le _, rfl, PA⟩
          case round =>
            obtain ⟨k, hk, rfl, HR⟩ := hrel
            by_cases hlt : k < n
            · have ck := HC.out k hlt
              have hd := all_host_drop l k (by rw [HL.out]; exact hlt)
              rw [hostByte_of] at hd
              generalize l.getD k 0 = bk at *
              have c1 := isLetter_any bk
              have c2 := isDigit_any bk
              have hbk := Ref.u8_lt bk
              cases hle : Ref.letB bk with
              | true =>
                rw [hle] at c1 hd
                have HR2 := Lib.hid (show partB l = (l.drop (k + 1)).all hostByte by rw [HR.out, hd]; simp)
                clear hd hle HR c2 PA
                go_wp2_with (go_at_call 227; refine (c1 _).mono ?_; rintro e w' ⟨rfl, rfl⟩)
                go_round
                case rel => exact ⟨k + 1, by omega, by go_num, HR2⟩
                case measure => simp [intOf]; omega
              | false =>
                cases hde : Ref.decB bk with
                | true =>
                  rw [hle] at c1 hd
                  rw [hde] at c2 hd
                  have HR2 := Lib.hid (show partB l = (l.drop (k + 1)).all hostByte by rw [HR.out, hd]; simp)
                  clear hd hle hde HR PA
                  go_wp2_with (first | (go_at_call 227; refine (c1 _).mono ?_; rintro e w' ⟨rfl, rfl⟩) | (go_at_call 209; refine (c2 _).mono ?_; rintro e w' ⟨rfl, rfl⟩))
                  go_round
                  case rel => exact ⟨k + 1, by omega, by go_num, HR2⟩
                  case measure => simp [intOf]; omega
                | false =>
                  rw [hle] at c1 hd
                  rw [hde] at c2 hd
                  by_cases hmi : bk = 45
                  · have e3 : ((bk.toNat : Int) != 45) = false := by rw [hmi]; rfl
                    have HR2 := Lib.hid (show partB l = (l.drop (k + 1)).all hostByte by rw [HR.out, hd, hmi]; rfl)
                    clear hd hle hde HR hmi PA
                    go_wp2_with (first | (go_at_call 227; refine (c1 _).mono ?_; rintro e w' ⟨rfl, rfl⟩) | (go_at_call 209; refine (c2 _).mono ?_; rintro e w' ⟨rfl, rfl⟩))
                    go_round
                    case rel => exact ⟨k + 1, by omega, by go_num, HR2⟩
                    case measure => simp [intOf]; omega
                  · have e3 : ((bk.toNat : Int) != 45) = true := by
                      rw [bne_iff_ne]; intro h; exact hmi (UInt8.toNat_inj.1 (by have : (45 : UInt8).toNat = 45 := rfl; omega))
                    have H := Lib.hid (show partB l = false by rw [HR.out, hd, beq_false_of_ne hmi]; rfl)
                    clear hd hle hde HR hmi PA
                    go_wp2_with (first | (go_at_call 227; refine (c1 _).mono ?_; rintro e w' ⟨rfl, rfl⟩) | (go_at_call 209; refine (c2 _).mono ?_; rintro e w' ⟨rfl, rfl⟩))
                    go_ret
                    exact ⟨(by rw [H.out]; try rfl), rfl⟩
            · have H := Lib.hid (show partB l = true by rw [HR.out, List.drop_of_length_le (by rw [HL.out]; omega)]; rfl)
              clear HR PA
              go_wp2
              go_ret
              exact ⟨(by rw [H.out]; try rfl), rfl⟩

end Go.Proofs.YtkjkfgmoogbdiaaGreatDoor.Host

namespace Go.Proofs.YtkjkfgmoogbdiaaGreatDoor.S
open Go.RowKit Go.Shelf
attribute [local go_sem] Oper.semAt_some

theorem whereNext_any (q1 q2 : Option Addr) (n1 c1 n2 c2 : Nat) (xs ys : List (List UInt8)) (w : World) (h1 : SlIn encStr w q1 n1 xs) (h2 : SlIn encStr w q2 n2 ys) (hn1 : n1 ≤ 140737488355328) (hn2 : n2 ≤ 140737488355328) :
    Calls Tryz.prog 128 #[.slice q1 n1 c1, .slice q2 n2 c2] w fun e w' => e = .returned (.int .u8 (whereL xs ys : Nat)) ∧ ∃ k, w' = w.drewN k := by
  have l1 := h1.1
  have l2 := h2.1
  cases ys with
  | nil =>
    obtain rfl : n2 = 0 := by simpa using l2.symm
    have H := Lib.hid (show whereL xs [] = 1 by unfold whereL; rfl)
    clear h1 h2 l1 l2
    go_enter Tryz.func128, Tryz.ntmps128
    go_wp2
    go_ret
    exact ⟨by rw [H.out]; rfl, 0, rfl⟩
  | cons y ys =>
    have z2 : ((n2 : Int) == 0) = false := by rw [beq_eq_false_iff_ne]; simp at l2; omega
    have p2 : 0 < n2 := by simp at l2; omega
    cases xs with
    | nil =>
      obtain rfl : n1 = 0 := by simpa using l1.symm
      have H := Lib.hid (show whereL ([] : List (List UInt8)) (y :: ys) = 2 by unfold whereL; rfl)
      clear h1 h2 l1 l2
      go_enter Tryz.func128, Tryz.ntmps128
      go_wp2
      go_ret
      exact ⟨by rw [H.out]; rfl, 0, rfl⟩
    | cons x xs =>
      have z1 : ((n1 : Int) == 0) = false := by rw [beq_eq_false_iff_ne]; simp at l1; omega
      have p1 : 0 < n1 := by simp at l1; omega
      obtain ⟨b1, o1, rfl, _, k1⟩ := h1.at p1
      obtain ⟨b2, o2, rfl, _, k2⟩ := h2.at p2
      have e1 : w.cell? ⟨b1, o1, none⟩ = some (.string ⟨x.toArray⟩) := k1 0 x rfl
      have e2 : w.cell? ⟨b2, o2, none⟩ = some (.string ⟨y.toArray⟩) := k2 0 y rfl
      clear k1 k2 h1 h2 l1 l2
      rcases Lin.tri x y with hxy | hxy | hxy
      · have H := Lib.hid (show whereL (x :: xs) (y :: ys) = 1 by rw [whereL_cons]; rw [if_pos hxy])
        have con := fun w => cmpS_any x y w
        rw [cmpS_lt x y hxy] at con
        clear hxy
        go_enter Tryz.func128, Tryz.ntmps128
        go_wp2_with (go_quiet ((go_at_call 144; exact Calls.quiet_of_same (con _))))
        go_ret
        exact ⟨by rw [H.out]; rfl, _, rfl⟩
      · have H := Lib.hid (show whereL (x :: xs) (y :: ys) = 3 by rw [whereL_cons, hxy]; rw [if_neg (Lin.irr y), if_neg (Lin.irr y)])
        have con := fun w => cmpS_any x y w
        rw [cmpS_eq x y hxy] at con
        clear hxy
        go_enter Tryz.func128, Tryz.ntmps128
        go_wp2_with (go_quiet ((go_at_call 144; exact Calls.quiet_of_same (con _))))
        go_ret
        exact ⟨by rw [H.out]; rfl, _, rfl⟩
      · have H := Lib.hid (show whereL (x :: xs) (y :: ys) = 2 by rw [whereL_cons]; rw [if_neg (lin_asym hxy), if_pos hxy])
        have con := fun w => cmpS_any x y w
        rw [cmpS_gt x y hxy] at con
        clear hxy
        go_enter Tryz.func128, Tryz.ntmps128
        go_wp2_with (go_quiet ((go_at_call 144; exact Calls.quiet_of_same (con _))))
        go_ret
        exact ⟨by rw [H.out]; rfl, _, rfl⟩

theorem run_slice_tail (q : Option Addr) (n c : Nat) (W : World) (hn : 0 < n) (_hnc : n ≤ c) :
    (Instr.slice 108 (.slice q n c) (some (.int .i64 1)) none none).run Tryz.prog W = .ok (.slice (tlA q c) (n - 1) (c - 1)) W := by
  have hs : ∀ w, (Go.sizeOf 9).run Tryz.prog w = .ok 1 w := Tryz.sizeOf9
  have he : Tryz.prog.elem 108 = 9 := by kernel_rfl
  have h := run_slice_l (P := Tryz.prog) (w := W) 108 q n c (by rw [he]; exact Tryz.underlying108) .i64 1 (by omega) (by omega)
  rw [h, he, hs]
  simp only [Result.andThen, sliced, tlA]
  try congr 2

set_option maxRecDepth 100000 in
set_option maxHeartbeats 2000000 in
/-- What both tells: all values, each with where it is. -/
theorem both1_iter (B1 B2 : Nat) (q1 q2 : Option Addr) (n1 c1 n2 c2 : Nat) (xs ys : List (List UInt8)) (RB : Nat → Prop) (w0 : World) (hn1 : n1 ≤ c1) (hn2 : n2 ≤ c2) (hm1 : n1 ≤ 140737488355328) (hm2 : n2 ≤ 140737488355328)
    (h1 : SlIn encStr w0 q1 n1 xs) (h2 : SlIn encStr w0 q2 n2 ys) (hq1 : ∀ a, q1 = some a → 0 < n1 → RB a.block) (hq2 : ∀ a, q2 = some a → 0 < n2 → RB a.block)
    (b1 : Boxed w0 B1 110 (.slice q1 n1 c1)) (b2 : Boxed w0 B2 110 (.slice q2 n2 c2)) (hR1 : RB B1) (hR2 : RB B2) :
    IterC Tryz.prog 127 #[.pointer (some ⟨B1, 0, none⟩), .pointer (some ⟨B2, 0, none⟩)] (WhArg encStr) (mrg xs ys) RB w0 := by
  intro l J Jx W hW hJ hJx hY h0
  refine (callsIn_wide (n := 1)).1 ?_
  refine callsIn_of_wp Tryz.func127 rfl trivial ?_ rfl
  simp only [Tryz.ntmps127, List.size_toArray, List.length_cons, List.length_nil, Nat.reduceAdd, Nat.reduceSub, Array.replicate_succ, Array.replicate_zero, List.push_toArray, List.append_toArray, List.nil_append, List.cons_append]
  have k1 := (hW.boxed b1 hR1).cell
  have k2 := (hW.boxed b2 hR2).cell
  gi_wp2_with (gi_quiet (fail))
  gi_loopw [4, 5] (fun this that wr => BothI encStr RB W (mrg xs ys) J this that wr) (fun this that _ => slen this + slen that)
  case atStart =>
    exact ⟨q1, n1, c1, xs, q2, n2, c2, ys, [], rfl, rfl, hn1, hn2, hm1, hm2, (h1.keep hW hq1).drewN _, (h2.keep hW hq2).drewN _, hq1, hq2, Keep.drewN _ _ _, rfl, hJ _ _ _ _ _ h0 (Keep.drewN _ _ _) (fun _ h => h.elim)⟩
  case round =>
    clear h1 h2 hn1 hn2 hm1 hm2 hq1 hq2 b1 b2 k1 k2 h0
    obtain ⟨q1, n1, c1, ts, q2, n2, c2, us, pre, rfl, rfl, hn1, hn2, hm1, hm2, h1, h2, hq1, hq2, hK, HX, hJr⟩ := hrel
    have hl1 := h1.1
    have hl2 := h2.1
    by_cases hz : ts ≠ [] ∨ us ≠ []
    · obtain ⟨x, ts', us', hcase⟩ := mrg_step ts us hz
      have con := whereNext_any q1 q2 n1 c1 n2 c2 ts us wr h1 h2 hm1 hm2
      rcases hcase with ⟨hw, hm, rfl, rfl⟩ | ⟨hw, hm, rfl, rfl⟩ | ⟨hw, hm, rfl, y, rfl⟩
      · rw [hw] at con
        have p1 : 0 < n1 := by simp at hl1; omega
        have p1' : decide ((0 : Int) < (n1 : Int)) = true := by simp; omega
        obtain ⟨b1, o1, rfl, _, k1⟩ := h1.at p1
        have e1 : wr.cell? ⟨b1, o1, none⟩ = some (.string ⟨x.toArray⟩) := k1 0 x rfl
        have hsl1 := fun W => run_slice_tail (some ⟨b1, o1, none⟩) n1 c1 W p1 hn1
        have t1 := h1.tail hn1
        have hq1' := tlA_blk (c := c1) hq1
        generalize tlA (some ⟨b1, o1, none⟩) c1 = q1' at hsl1 t1 hq1'
        have HX2 := Lib.hid (show mrg xs ys = pre ++ (1, x) :: mrg ts' us' by rw [HX.out, hm])
        have t2 := h2
        have hq2' := hq2
        clear k1 hw hm HX hl1 hl2 hz h1 h2 hq1 hq2
        gi_wp2_with fail
        refine ⟨trivial, (callsIn_wide.2 con).mono ?_⟩
        rintro e w' ⟨rfl, k, rfl⟩
        gi_wp2_with (gi_quiet (fail))
        obtain ⟨fn, tmps, assign, body, hy, hR⟩ := hY pre (1, x) _ (fun _ => False) (fun _ => False) #[.int .u8 1, .string ⟨x.toArray⟩] (wr.drewN (k + nq)) HX2.out (hJ _ _ _ _ _ hJr (Keep.drewN _ _ _) (fun _ h => h.elim)) (fun _ h => h.elim) ⟨rfl, rfl⟩ (fun _ h => h)
        rw [hy]
        clear hY hy con
        simp only [Oper.uponIn]
        refine ⟨fun _ => Nat.le_refl _, RoundIn.mono hR ?_⟩
        rintro e W3 ⟨hk3, (⟨rfl, hJ3⟩ | ⟨rfl, hJx3⟩)⟩
        · have hK3 : Keep RB wr W3 := (Keep.drewN RB wr (k + nq)).trans (hk3.mono fun _ _ h => .inl h)
          clear hR
          gi_wp2
          go_roundw
          case rel => exact ⟨q1', n1 - 1, c1 - 1, ts', q2, n2, c2, us', pre ++ [(1, x)], rfl, rfl, by omega, by omega, by omega, by omega, t1.keep hK3 hq1', t2.keep hK3 hq2', hq1', hq2', hK.trans hK3, Lib.hid (by rw [HX2.out]; simp), hJ _ _ _ _ _ hJ3 (Keep.refl _ _) (fun _ h => h.elim)⟩
          case measure => simp [slen]; omega
        · gi_wp2
          refine bodyPost_ret (results_none rfl _ _ _) rfl ?_
          exact ⟨⟨_, rfl⟩, fun _ => False, fun _ h => h.elim, .inr ⟨pre ++ [(1, x)], _, by rw [HX2.out, List.append_assoc]; rfl, hJx _ _ _ _ _ hJx3 (Keep.refl _ _) (fun _ h => h.elim)⟩⟩
      · rw [hw] at con
        have p2 : 0 < n2 := by simp at hl2; omega
        have p2' : decide ((0 : Int) < (n2 : Int)) = true := by simp; omega
        obtain ⟨b2, o2, rfl, _, k2⟩ := h2.at p2
        have e2 : wr.cell? ⟨b2, o2, none⟩ = some (.string ⟨x.toArray⟩) := k2 0 x rfl
        have hsl2 := fun W => run_slice_tail (some ⟨b2, o2, none⟩) n2 c2 W p2 hn2
        have t2 := h2.tail hn2
        have hq2' := tlA_blk (c := c2) hq2
        generalize tlA (some ⟨b2, o2, none⟩) c2 = q2' at hsl2 t2 hq2'
        have HX2 := Lib.hid (show mrg xs ys = pre ++ (2, x) :: mrg ts' us' by rw [HX.out, hm])
        have t1 := h1
        have hq1' := hq1
        clear k2 hw hm HX hl2 hz h1 h2 hq1 hq2
        by_cases hc0 : 0 < n1
        · have p1' : decide ((0 : Int) < (n1 : Int)) = true := by simp; omega
          clear hl1
          gi_wp2_with fail
          refine ⟨trivial, (callsIn_wide.2 con).mono ?_⟩
          rintro e w' ⟨rfl, k, rfl⟩
          gi_wp2_with (gi_quiet (fail))
          obtain ⟨fn, tmps, assign, body, hy, hR⟩ := hY pre (2, x) _ (fun _ => False) (fun _ => False) #[.int .u8 2, .string ⟨x.toArray⟩] (wr.drewN (k + nq)) HX2.out (hJ _ _ _ _ _ hJr (Keep.drewN _ _ _) (fun _ h => h.elim)) (fun _ h => h.elim) ⟨rfl, rfl⟩ (fun _ h => h)
          rw [hy]
          clear hY hy con
          simp only [Oper.uponIn]
          refine ⟨fun _ => Nat.le_refl _, RoundIn.mono hR ?_⟩
          rintro e W3 ⟨hk3, (⟨rfl, hJ3⟩ | ⟨rfl, hJx3⟩)⟩
          · have hK3 : Keep RB wr W3 := (Keep.drewN RB wr (k + nq)).trans (hk3.mono fun _ _ h => .inl h)
            clear hR
            gi_wp2
            go_roundw
            case rel => exact ⟨q1, n1, c1, ts', q2', n2 - 1, c2 - 1, us', pre ++ [(2, x)], rfl, rfl, by omega, by omega, by omega, by omega, t1.keep hK3 hq1', t2.keep hK3 hq2', hq1', hq2', hK.trans hK3, Lib.hid (by rw [HX2.out]; simp), hJ _ _ _ _ _ hJ3 (Keep.refl _ _) (fun _ h => h.elim)⟩
            case measure => simp [slen]; omega
          · gi_wp2
            refine bodyPost_ret (results_none rfl _ _ _) rfl ?_
            exact ⟨⟨_, rfl⟩, fun _ => False, fun _ h => h.elim, .inr ⟨pre ++ [(2, x)], _, by rw [HX2.out, List.append_assoc]; rfl, hJx _ _ _ _ _ hJx3 (Keep.refl _ _) (fun _ h => h.elim)⟩⟩
        · obtain rfl : n1 = 0 := by omega
          have p1' : decide ((0 : Int) < ((0 : Nat) : Int)) = false := by simp
          clear hl1
          gi_wp2_with fail
          refine ⟨trivial, (callsIn_wide.2 con).mono ?_⟩
          rintro e w' ⟨rfl, k, rfl⟩
          gi_wp2_with (gi_quiet (fail))
          obtain ⟨fn, tmps, assign, body, hy, hR⟩ := hY pre (2, x) _ (fun _ => False) (fun _ => False) #[.int .u8 2, .string ⟨x.toArray⟩] (wr.drewN (k + nq)) HX2.out (hJ _ _ _ _ _ hJr (Keep.drewN _ _ _) (fun _ h => h.elim)) (fun _ h => h.elim) ⟨rfl, rfl⟩ (fun _ h => h)
          rw [hy]
          clear hY hy con
          simp only [Oper.uponIn]
          refine ⟨fun _ => Nat.le_refl _, RoundIn.mono hR ?_⟩
          rintro e W3 ⟨hk3, (⟨rfl, hJ3⟩ | ⟨rfl, hJx3⟩)⟩
          · have hK3 : Keep RB wr W3 := (Keep.drewN RB wr (k + nq)).trans (hk3.mono fun _ _ h => .inl h)
            clear hR
            gi_wp2
            go_roundw
            case rel => exact ⟨q1, 0, c1, ts', q2', n2 - 1, c2 - 1, us', pre ++ [(2, x)], rfl, rfl, by omega, by omega, by omega, by omega, t1.keep hK3 hq1', t2.keep hK3 hq2', hq1', hq2', hK.trans hK3, Lib.hid (by rw [HX2.out]; simp), hJ _ _ _ _ _ hJ3 (Keep.refl _ _) (fun _ h => h.elim)⟩
            case measure => simp [slen]; omega
          · gi_wp2
            refine bodyPost_ret (results_none rfl _ _ _) rfl ?_
            exact ⟨⟨_, rfl⟩, fun _ => False, fun _ h => h.elim, .inr ⟨pre ++ [(2, x)], _, by rw [HX2.out, List.append_assoc]; rfl, hJx _ _ _ _ _ hJx3 (Keep.refl _ _) (fun _ h => h.elim)⟩⟩
      · rw [hw] at con
        have p1 : 0 < n1 := by simp at hl1; omega
        have p1' : decide ((0 : Int) < (n1 : Int)) = true := by simp; omega
        obtain ⟨b1, o1, rfl, _, k1⟩ := h1.at p1
        have e1 : wr.cell? ⟨b1, o1, none⟩ = some (.string ⟨x.toArray⟩) := k1 0 x rfl
        have hsl1 := fun W => run_slice_tail (some ⟨b1, o1, none⟩) n1 c1 W p1 hn1
        have t1 := h1.tail hn1
        have hq1' := tlA_blk (c := c1) hq1
        generalize tlA (some ⟨b1, o1, none⟩) c1 = q1' at hsl1 t1 hq1'
        have p2 : 0 < n2 := by simp at hl2; omega
        have p2' : decide ((0 : Int) < (n2 : Int)) = true := by simp; omega
        obtain ⟨b2, o2, rfl, _, k2⟩ := h2.at p2
        have e2 : wr.cell? ⟨b2, o2, none⟩ = some (.string ⟨y.toArray⟩) := k2 0 y rfl
        have hsl2 := fun W => run_slice_tail (some ⟨b2, o2, none⟩) n2 c2 W p2 hn2
        have t2 := h2.tail hn2
        have hq2' := tlA_blk (c := c2) hq2
        generalize tlA (some ⟨b2, o2, none⟩) c2 = q2' at hsl2 t2 hq2'
        have HX2 := Lib.hid (show mrg xs ys = pre ++ (3, x) :: mrg ts' us' by rw [HX.out, hm])
        clear k1 k2 hw hm HX hl1 hl2 hz h1 h2 hq1 hq2
        gi_wp2_with fail
        refine ⟨trivial, (callsIn_wide.2 con).mono ?_⟩
        rintro e w' ⟨rfl, k, rfl⟩
        gi_wp2_with (gi_quiet (fail))
        refine uponIn_yield (hY pre (3, x) _ (fun _ => False) (fun _ => False) #[.int .u8 3, .string ⟨x.toArray⟩] _ HX2.out (hJ _ _ _ _ _ hJr (Keep.drewN _ _ _) (fun _ h => h.elim)) (fun _ h => h.elim) ⟨rfl, rfl⟩ (fun _ h => h)) ?_ ?_ ?_
        rotate_left
        · rintro c w ⟨_, ⟨h, _⟩ | ⟨h, _⟩⟩ <;> cases h
        · rintro w ⟨_, ⟨h, _⟩ | ⟨h, _⟩⟩ <;> cases h
        clear hY con
        rintro v W3 ⟨hk3, (⟨he, hJ3⟩ | ⟨he, hJx3⟩)⟩
        all_goals cases he
        · have hK3 : Keep RB wr W3 := (Keep.drewN RB wr _).trans (hk3.mono fun _ _ h => .inl h)
          gi_wp2
          go_roundw
          case rel => exact ⟨q1', n1 - 1, c1 - 1, ts', q2', n2 - 1, c2 - 1, us', pre ++ [(3, x)], rfl, rfl, by omega, by omega, by omega, by omega, t1.keep hK3 hq1', t2.keep hK3 hq2', hq1', hq2', hK.trans hK3, Lib.hid (by rw [HX2.out]; simp), hJ _ _ _ _ _ hJ3 (Keep.refl _ _) (fun _ h => h.elim)⟩
          case measure => simp [slen]; omega
        · gi_wp2
          refine bodyPost_ret (results_none rfl _ _ _) rfl ?_
          exact ⟨⟨_, rfl⟩, fun _ => False, fun _ h => h.elim, .inr ⟨pre ++ [(3, x)], _, by rw [HX2.out, List.append_assoc]; rfl, hJx _ _ _ _ _ hJx3 (Keep.refl _ _) (fun _ h => h.elim)⟩⟩
    · obtain ⟨rfl, rfl⟩ : ts = [] ∧ us = [] := by
        constructor
        · exact Classical.byContradiction fun h => hz (.inl h)
        · exact Classical.byContradiction fun h => hz (.inr h)
      obtain rfl : n1 = 0 := by simpa using hl1.symm
      obtain rfl : n2 = 0 := by simpa using hl2.symm
      have HX2 := Lib.hid (show mrg xs ys = pre by rw [HX.out]; unfold mrg; simp)
      clear hY h1 h2 hl1 hl2 hz HX
      gi_wp2
      refine bodyPost_end (results_none rfl _ _ _) rfl ?_
      exact ⟨⟨_, rfl⟩, fun _ => False, fun _ h => h.elim, .inl (by rw [HX2.out]; exact hJr)⟩

end Go.Proofs.YtkjkfgmoogbdiaaGreatDoor.S

namespace Go.Proofs.YtkjkfgmoogbdiaaGreatDoor.S
open Go.RowKit Go.Shelf
attribute [local go_sem] Oper.semAt_some

theorem both_any (q1 q2 : Option Addr) (n1 c1 n2 c2 : Nat) (w : World) :
    Calls Tryz.prog 108 #[.agg #[.slice q1 n1 c1], .agg #[.slice q2 n2 c2]] w fun e w' => e = .returned (.func (.func 127) #[] #[.pointer (some ⟨w.heap.size, 0, none⟩), .pointer (some ⟨w.heap.size + 1, 0, none⟩)]) ∧
      w' = (w.alloc (.cells #[.slice q1 n1 c1] 110)).alloc (.cells #[.slice q2 n2 c2] 110) := by
  go_enter Tryz.func108, Tryz.ntmps108
  go_wp2
  go_ret
  exact ⟨rfl, rfl⟩

theorem info_str : (Tryz.prog.info? 9).map (fun i => (i.zero, i.size, i.bytes)) = some (some (.string ByteArray.empty), 1, 16) := by kernel_rfl

end Go.Proofs.YtkjkfgmoogbdiaaGreatDoor.S

namespace Go.Proofs.YtkjkfgmoogbdiaaGreatDoor.S
open Go.RowKit Go.Shelf Go.Sort
attribute [local go_sem] Oper.semAt_some

theorem setS_eq (zs : List (List UInt8)) : setS zs = Lib.compact (zs.mergeSort fun x y => decide (x ≤ y)) := rfl

theorem ordered_any (blk cap : Nat) (zs : List (List UInt8)) (w : World) (hH : Holds encStr w blk 0 zs.toArray) (hblk : blk < w.heap.size) (hcap : zs.length ≤ cap) (hm : zs.length ≤ 1099511627776) :
    Calls Tryz.prog 112 #[.slice (some ⟨blk, 0, none⟩) zs.length cap] w fun e w' => e = .returned (.agg #[.slice (some ⟨blk, 0, none⟩) (setS zs).length cap]) ∧ SetIs encStr w' (.agg #[.slice (some ⟨blk, 0, none⟩) (setS zs).length cap]) (setS zs) ∧ Keep (fun b => b ≠ blk) w w' := by
  have b0 := Boxed.new w 110 (.slice none 0 0)
  have hH0 := holds_keep hH (Keep.alloc (fun _ => True) w (.cells #[.slice none 0 0] 110)) trivial hblk
  have k0 := Keep.alloc (fun b => b ≠ blk) w (.cells #[.slice none 0 0] 110)
  obtain ⟨W, hW⟩ : ∃ W, w.alloc (.cells #[.slice none 0 0] 110) = W := ⟨_, rfl⟩
  have hbW : blk < W.heap.size := by rw [← hW]; simp; omega
  have hsz : w.heap.size < W.heap.size := by rw [← hW]; simp
  rw [hW] at b0 hH0 k0
  have con1 := Tryz.slices_Sort_string blk 0 cap zs W hH0 hbW (by omega)
  have HW := Lib.hid hW
  have HL := Lib.hid (List.length_mergeSort (le := fun x y : List UInt8 => decide (x ≤ y)) zs)
  have HC := Lib.hid (setS_length zs)
  have HS := Lib.hid (setS_eq zs)
  generalize (zs.mergeSort fun x y : List UInt8 => decide (x ≤ y)) = ss at con1 HL HS
  clear hW hH
  go_enter Tryz.func112, Tryz.ntmps112
  go_wp2_with fail
  rw [HW.out]
  refine con1.mono ?_
  rintro e W2 ⟨rfl, n, os, hW2⟩
  have hk2 : ∀ S : Nat → Prop, ¬ S blk → Keep S W W2 := fun S hS => by
    rw [hW2]; exact ((keep_ahead S W n).trans (keep_putRow S _ _ _ _ _ hS)).trans (keep_grow S _ os)
  have hH2 : Holds encStr W2 blk 0 ss.toArray := by
    rw [hW2]
    exact holds_keep (holds_putRow _ _ _ _ zs.toArray ss.toArray (holds_ahead _ W n blk 0 _ hH0) (by simp [HL.out])) (keep_grow (fun _ => True) _ os) trivial (by simp; exact hbW)
  have hs2 := (hk2 (fun _ => False) (fun h => h)).size
  clear hW2
  have con2 := Tryz.slices_Compact_string blk 0 cap ss W2 hH2 (by rw [HL.out]; omega) (by rw [HL.out]; exact hcap)
  rw [HL.out] at con2
  go_wp2_with fail
  refine con2.mono ?_
  rintro e W3 ⟨rfl, n3, hW3⟩
  rw [← HS.out] at hW3
  have HL3 : ((setS zs ++ List.replicate (zs.length - (setS zs).length) []).toArray).size = ss.toArray.size := by have := HC.out; simp [HL.out]; omega
  have hk3 : ∀ S : Nat → Prop, ¬ S blk → Keep S W2 W3 := fun S hS => by
    rw [hW3]; exact (keep_ahead S W2 n3).trans (keep_putRow S _ _ _ _ _ hS)
  have hH3 : Holds encStr W3 blk 0 (setS zs ++ List.replicate (zs.length - (setS zs).length) []).toArray := by
    rw [hW3]
    exact holds_putRow _ _ _ _ ss.toArray _ (holds_ahead _ W2 n3 blk 0 _ hH2) HL3
  have hs3 := (hk3 (fun _ => False) (fun h => h)).size
  clear hW3 HL3
  have k3 := k0.trans ((hk2 (fun b => b ≠ blk) (by simp)).trans (hk3 _ (by simp)))
  have b3 := (hk3 (fun b => b ≠ blk) (by simp)).boxed ((hk2 (fun b => b ≠ blk) (by simp)).boxed b0 (by omega)) (by omega)
  have cR := b3.cell
  have fR := b3.frozen
  rw [← HS.out]
  have HCc := HC.out
  have hsl : SlIn encStr W3 (some ⟨blk, 0, none⟩) (setS zs).length (setS zs) := by
    refine ⟨rfl, fun _ => ⟨blk, 0, rfl, by omega, fun i x hx => ?_⟩⟩
    have hi : i < (setS zs).length := (List.getElem?_eq_some_iff.1 hx).1
    have := (hH3 i (by simp; omega)).1
    rw [this]
    congr 1
    have hx' := List.getElem?_eq_some_iff.1 hx
    obtain ⟨_, rfl⟩ := hx'
    simp
    rw [List.getElem?_append_left hi, List.getElem?_eq_getElem hi]
    rfl
  clear hH3 hH2 hH0 con1 con2
  go_wp2
  have hbr2 := (b3.set (.slice (some ⟨blk, 0, none⟩) (setS zs).length cap)).cell
  have hne : blk ≠ w.heap.size := by omega
  refine bodyPost_ret (v := .agg #[.slice (some ⟨blk, 0, none⟩) (setS zs).length cap]) (by simp [results, Tryz.f112, go_sem, hbr2]) rfl ⟨rfl, ⟨_, _, _, rfl, by omega, by omega, ?_, setS_rises zs⟩, ?_⟩
  · exact hsl.keep (Keep.setCell (S := fun b => b ≠ w.heap.size) _ _ _ (by simp)) fun a h _ => by cases h; exact hne
  · exact ((k3.mono (T := fun b => b < w.heap.size ∧ b ≠ blk) fun k _ h => h.2).trans (Keep.setCell _ _ _ (by simp))).mono fun k hk h => ⟨hk, h⟩

theorem ordered_none (q : Option Addr) (cap : Nat) (w : World) (_hcap : q = none → cap = 0) :
    Calls Tryz.prog 112 #[.slice q 0 cap] w fun e w' => e = .returned (.agg #[.slice q 0 cap]) ∧ Below w.heap.size w w' := by
  have con1 := fun W => Tryz.slices_Sort_string_none q cap W
  have con2 := fun W => Tryz.slices_Compact_string_empty q cap W
  have b0 := Boxed.new w 110 (.slice none 0 0)
  go_enter Tryz.func112, Tryz.ntmps112
  go_wp2_with fail
  refine (con1 _).mono ?_
  rintro e w1 ⟨rfl, rfl⟩
  go_wp2_with fail
  refine (con2 _).mono ?_
  rintro e w2 ⟨rfl, rfl⟩
  go_wp2
  have hbr2 := (b0.set (.slice q 0 cap)).cell
  refine bodyPost_ret (v := .agg #[.slice q 0 cap]) (by simp [results, Tryz.f112, go_sem]) rfl ⟨rfl, below_alloc _⟩

theorem setS_nil : setS [] = [] := List.eq_nil_of_length_eq_zero (Nat.le_zero.1 (setS_length []))

/-- ordered at a row of one's own. -/
theorem ordered_own (base : Nat) (v : Value) (n : Nat) (zs : List (List UInt8)) (w : World) (h : w.ownsRow base 9 1 v n (zs.map encStr)) (hbase : base ≤ w.heap.size) (hm : n ≤ 1099511627776) :
    Calls Tryz.prog 112 #[v] w fun e w' => ∃ q c, e = .returned (.agg #[.slice q (setS zs).length c]) ∧ SetIs encStr w' (.agg #[.slice q (setS zs).length c]) (setS zs) ∧ (∀ a, q = some a → base ≤ a.block ∧ a.block < w.heap.size) ∧ Below base w w' := by
  by_cases hv : v = .slice none 0 0
  · subst hv
    have hl : zs = [] := by
      have h1 := h.1
      rcases h.2 with ⟨_, h2⟩ | ⟨g, cap, cur, h2, _⟩
      · simp [h2] at h1; exact h1
      · cases h2
    subst hl
    refine (ordered_none none 0 w (fun _ => rfl)).mono fun e w' ⟨he, hb⟩ => ?_
    rw [setS_nil]
    exact ⟨none, 0, he, ⟨_, _, _, rfl, Nat.le_refl _, Nat.zero_le _, SlIn.nil _ _ _, List.Pairwise.nil⟩, (by intro a h; cases h), hb.mono hbase⟩
  · obtain ⟨g, cap, rfl, hb, hlt, hn, hcm, hl, hH⟩ := Lib.holds_of_ownsRow h hv
    subst hl
    refine (ordered_any g cap zs w hH hlt hn hm).mono fun e w' ⟨he, hs, hk⟩ => ⟨_, _, he, hs, by intro a h; cases h; exact ⟨hb, hlt⟩, (hk.mono fun b _ h => by omega).below hbase⟩

end Go.Proofs.YtkjkfgmoogbdiaaGreatDoor.S

namespace Go.Proofs.YtkjkfgmoogbdiaaGreatDoor.S
open Go.RowKit Go.Shelf
attribute [local go_sem] Oper.semAt_some

theorem Len_any (v : Value) (xs : List (List UInt8)) (w : World) (h : SetIs encStr w v xs) :
    Calls Tryz.prog 111 #[v] w fun e w' => e = .returned (.int .i64 xs.length) ∧ Below w.heap.size w w' := by
  obtain ⟨q, n, c, rfl, _, _, hs, _⟩ := h
  have hl := Lib.hid hs.1
  clear hs
  go_enter Tryz.func111, Tryz.ntmps111
  go_wp2
  go_ret
  exact ⟨(by rw [hl.out]; try rfl), below_alloc _⟩

end Go.Proofs.YtkjkfgmoogbdiaaGreatDoor.S
