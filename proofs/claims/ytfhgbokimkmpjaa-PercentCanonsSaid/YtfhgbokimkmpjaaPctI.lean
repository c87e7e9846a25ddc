/- The iterator of what a text stands for. Conditions: a text is of at most the model's greatest length, and each percent sign has its digits. -/
import Derived.Test.YtfhgbokimkmpjaaPctD
import Derived.Test.YtfhgbokimkmpjaaOrd
import Derived.Sort.QuietIn
import Derived.TacticsInMore
import Derived.LoopNIn
import Derived.LoopIn
import Derived.IntWalk
import Derived.Shelf.Abstract
import Derived.Shelf.RegionOpen
namespace Go.Proofs.Ytfhgbokimkmpjaa.Pct
open Go.RowKit Go.Shelf
theorem wide_fn (f : FuncId) : Fence.wide.fn f = True := rfl
attribute [local go_sem] Oper.semAt_some wide_fn

/-- A byte and whether it stood encoded, as yield takes them. -/
def ItArg (x : UInt8 × Bool) (args : Array Value) (G : Nat → Prop) (_W : World) : Prop := args = #[.int .u8 (x.1.toNat : Int), .bool x.2] ∧ G = fun _ => False

theorem Keep.drewN (S : Nat → Prop) (w : World) (k : Nat) : Keep S w (w.drewN k) := ⟨rfl, rfl, rfl, Nat.le_refl _, fun _ _ _ => rfl⟩
/-- A call of yield, outside of a round. -/
theorem uponIn_yield {P : Program} {o : Oper} {a : Act} {K : Act → World → Prop} {Q : Exit → Act → World → Prop} {l : Nat} {args : Array Value} {W : World} {R : Ending → World → Prop} (h : YieldAt Fence.wide 0 P l args W R)
    (hk : ∀ v w, R (.returned v) w → K (a.put o.dst v) w) (hp : ∀ c w, ¬ R (.panicked c) w) (ho : ∀ w, ¬ R .outgrown w) : Oper.uponIn Fence.wide 1 P o a K Q ((Instr.yield l args).run P W) := by
  obtain ⟨fn, tmps, assign, body, hy, hR⟩ := h
  rw [hy]
  simp only [Oper.uponIn]
  refine ⟨fun _ => Nat.le_refl _, RoundIn.mono hR fun e w' hr => ?_⟩
  cases e with
  | returned v => exact hk v w' hr
  | panicked c => exact (hp c w' hr).elim
  | outgrown => exact (ho w' hr).elim

theorem bytes_keep {S : Nat → Prop} {w w' : World} {q : Option Addr} {n : Nat} {xs : List Int} (h : Lib.BytesIn w q n xs) (hk : Keep S w w') (hq : ∀ a, q = some a → 0 < n → S a.block) : Lib.BytesIn w' q n xs := fun h0 => by
  obtain ⟨b, o, rfl, hc⟩ := h.at h0
  have hlt := World.block_lt_of_cell? w _ (hc 0 h0)
  have hb := hk.block b hlt (hq _ rfl h0)
  exact ⟨b, o, rfl, fun i hi => by rw [← hc i hi]; simp only [World.cell?, hb]⟩

theorem meant_any (q : Option Addr) (n c : Nat) (w : World) :
    Calls Try.prog 19 #[.slice q n c] w fun e w' => e = .returned (.func (.func 27) #[] #[.pointer (some ⟨w.heap.size, 0, none⟩)]) ∧ w' = w.alloc (.cells #[.slice q n c] 22) := by
  go_enter Try.func19, Try.ntmps19
  go_wp2
  go_ret
  exact ⟨rfl, rfl⟩

theorem worth_lt' (x : UInt8) (h : hexB x = true) : (worth x).toNat < 16 := by
  have h' : ∀ i : Fin 256, hexB (UInt8.ofNat i.1) = true → (worth (UInt8.ofNat i.1)).toNat < 16 := by decide +kernel
  have h1 := h' ⟨x.toNat, u8_lt x⟩
  rw [UInt8.ofNat_toNat] at h1
  exact h1 h
theorem or_nat : ∀ u v : Fin 16, bits BinOp.or IntKind.u8 ((u.1 : Int) * 16 % 256) (v.1 : Int) = ((((UInt8.ofNat u.1) <<< 4) ||| (UInt8.ofNat v.1)).toNat : Int) := by decide +kernel
theorem or_pair (x y : UInt8) (hx : hexB x = true) (hy : hexB y = true) : bits BinOp.or IntKind.u8 (((worth x).toNat : Int) * 16 % 256) ((worth y).toNat : Int) = ((pairV x y).toNat : Int) := by
  have h := or_nat ⟨(worth x).toNat, worth_lt' x hx⟩ ⟨(worth y).toNat, worth_lt' y hy⟩
  simp only [UInt8.ofNat_toNat] at h
  exact h
theorem worth_same (b : UInt8) (w : World) (hx : hexB b = true) :
    Calls Try.prog 28 #[.int .u8 (b.toNat : Int)] w fun e w' => e = .returned (.int .u8 ((worth b).toNat : Int)) ∧ w' = w :=
  (worth_any b w hx).mono fun _ _ ⟨h1, h2⟩ => ⟨h1, h2.symm⟩

set_option maxRecDepth 100000 in
set_option maxHeartbeats 4000000 in
theorem meant1_iter (B : Nat) (q : Option Addr) (n c : Nat) (bs : List UInt8) (m : List (UInt8 × Bool)) (RB : Nat → Prop) (w0 : World) (hx : bs.length = n) (hn : n ≤ 140737488355328) (hm : itemsL bs = some m)
    (h : Lib.BytesIn w0 q n (Lib.numsL bs)) (hq : ∀ a, q = some a → 0 < n → RB a.block) (b : Boxed w0 B 22 (.slice q n c)) (hR : RB B) :
    IterC Try.prog 27 #[.pointer (some ⟨B, 0, none⟩)] ItArg m RB w0 := by
  intro l J Jx W hW hJ hJx hY h0
  refine (callsIn_wide (n := 1)).1 ?_
  refine callsIn_of_wp Try.func27 rfl trivial ?_ rfl
  simp only [Try.ntmps27, List.size_toArray, List.length_cons, List.length_nil, Nat.reduceAdd, Nat.reduceSub, Array.replicate_succ, Array.replicate_zero, List.push_toArray, List.append_toArray, List.nil_append, List.cons_append]
  have hl := Lib.hid hx
  have HM := Lib.hid hm
  clear hx hm
  gi_wp2
  gi_loopw [3] (fun i wr => ∃ k : Nat, ∃ pre rest : List (UInt8 × Bool), k ≤ n ∧ i = .int .i64 k ∧ Keep RB W wr ∧ Hid (m = pre ++ rest) ∧ Hid (itemsL (bs.drop k) = some rest) ∧ J pre (fun _ => False) wr) (fun i _ => n - (intOf i).toNat)
  case atStart => exact ⟨0, [], m, Nat.zero_le _, rfl, Keep.refl _ _, rfl, HM.out, h0⟩
  case round =>
    obtain ⟨k, pre, rest, hk, rfl, hK, HX, HI, hJr⟩ := hrel
    have k1 := ((hW.trans hK).boxed b hR).cell
    by_cases hlt : k < n
    · obtain ⟨bb, o, hqe, hc⟩ := (bytes_keep h (hW.trans hK) hq).at (by omega)
      subst hqe
      have hck : wr.cell? ⟨bb, o + k, none⟩ = some (.int .u8 ((bs.getD k 0).toNat : Int)) := by
        rw [← numsL_getD bs k (by rw [hl.out]; exact hlt)]; exact hc k hlt
      rcases items_step bs k rest (by rw [hl.out]; exact hlt) HI.out with ⟨hne, m', hr, hi⟩ | ⟨heq, hk2, hx1, hx2, m', hr, hi⟩
      · generalize bs.getD k 0 = x at *
        have e1 : ((x.toNat : Int) == 37) = false := by
          rw [beq_eq_false_iff_ne]; intro h; exact hne (UInt8.toNat_inj.1 (by have : (37 : UInt8).toNat = 37 := rfl; omega))
        have HX2 := Lib.hid (show m = pre ++ (x, false) :: m' by rw [HX.out, hr])
        have HI2 := Lib.hid hi
        clear HX hr hi hc hne HI h HM
        gi_wp2_with (gi_quiet (fail))
        refine uponIn_yield (hY pre (x, false) _ (fun _ => False) (fun _ => False) #[.int .u8 (x.toNat : Int), .bool false] _ HX2.out (hJ _ _ _ _ _ hJr (Keep.drewN _ _ _) (fun _ h => h.elim)) (fun _ h => h.elim) ⟨rfl, rfl⟩ (fun _ h => h)) ?_ ?_ ?_
        rotate_left
        · rintro c w ⟨_, ⟨h, _⟩ | ⟨h, _⟩⟩ <;> cases h
        · rintro w ⟨_, ⟨h, _⟩ | ⟨h, _⟩⟩ <;> cases h
        clear hY
        rintro v W3 ⟨hk3, (⟨he, hJ3⟩ | ⟨he, hJx3⟩)⟩
        all_goals cases he
        · have hK3 : Keep RB wr W3 := (Keep.drewN RB wr _).trans (hk3.mono fun _ _ h => .inl h)
          gi_wp2
          go_roundw
          case rel => exact ⟨k + 1, pre ++ [(x, false)], m', by omega, by go_num, hK.trans hK3, Lib.hid (by rw [HX2.out]; simp), HI2, hJ _ _ _ _ _ hJ3 (Keep.refl _ _) (fun _ h => h.elim)⟩
          case measure => simp [intOf]; omega
        · gi_wp2
          refine bodyPost_ret (results_none rfl _ _ _) rfl ?_
          exact ⟨⟨_, rfl⟩, fun _ => False, fun _ h => h.elim, .inr ⟨pre ++ [(x, false)], _, by rw [HX2.out, List.append_assoc]; rfl, hJx _ _ _ _ _ hJx3 (Keep.refl _ _) (fun _ h => h.elim)⟩⟩
      · have hk2' : k + 2 < n := by have := hl.out; omega
        have hc1 : wr.cell? ⟨bb, o + (k + 1), none⟩ = some (.int .u8 ((bs.getD (k + 1) 0).toNat : Int)) := by
          rw [← numsL_getD bs (k + 1) (by omega)]; exact hc (k + 1) (by omega)
        have hc2 : wr.cell? ⟨bb, o + (k + 2), none⟩ = some (.int .u8 ((bs.getD (k + 2) 0).toNat : Int)) := by
          rw [← numsL_getD bs (k + 2) (by omega)]; exact hc (k + 2) hk2'
        rw [heq] at hck
        generalize bs.getD (k + 1) 0 = x at *
        generalize bs.getD (k + 2) 0 = y at *
        have HX2 := Lib.hid (show m = pre ++ (pairV x y, true) :: m' by rw [HX.out, hr])
        have HI2 := Lib.hid hi
        clear HX hr hi hc HI h heq hk2 HM
        have s1 : IntKind.i64.wrap ((k : Int) + 1) = (k : Int) + 1 := IntWalk.i64_in _ (by omega)
        have s2 : IntKind.i64.wrap ((k : Int) + 2) = (k : Int) + 2 := IntWalk.i64_in _ (by omega)
        have p1 : (0 : Int) ≤ (k : Int) + 1 := by omega
        have p2 : (0 : Int) ≤ (k : Int) + 2 := by omega
        have q1 : (k : Int) + 1 < (n : Int) := by omega
        have q2 : (k : Int) + 2 < (n : Int) := by omega
        have t1 : ((k : Int) + 1).toNat = k + 1 := by omega
        have t2 : ((k : Int) + 2).toNat = k + 2 := by omega
        gi_wp2_with (gi_quiet (fail))
        refine wpIn_region_quiet_lit rfl (by kernel_rfl) (by kernel_rfl) ?_
        repeat (gi_big_quiet_step (fail))
        refine wpQuietIn_step (fun _ _ _ _ => trivial) (fun K hK => ?_)
        go_simp
        refine ⟨.int .u8 ((worth x).toNat : Int), fun a => (callsIn_wide.2 (worth_same x _ hx1)).mono ?_, ?_⟩
        · rintro e w2 ⟨rfl, rfl⟩; exact ⟨rfl, a, rfl⟩
        refine hK _ ?_
        clear hK K
        repeat (gi_big_quiet_step (fail))
        refine wpQuietIn_step (fun _ _ _ _ => trivial) (fun K hK => ?_)
        go_simp
        refine ⟨.int .u8 ((worth y).toNat : Int), fun a => (callsIn_wide.2 (worth_same y _ hx2)).mono ?_, ?_⟩
        · rintro e w2 ⟨rfl, rfl⟩; exact ⟨rfl, a, rfl⟩
        refine hK _ ?_
        clear hK K
        repeat (gi_big_quiet_step (fail))
        refine wpQuietIn_nil ?_
        rintro w' ⟨nq2, rfl⟩
        rw [or_pair x y hx1 hx2]
        have hdd : ∀ j, Keep RB wr (wr.drewN j) := fun j => Keep.drewN RB wr j
        have hjj : ∀ j, J pre (fun _ => False) (wr.drewN j) := fun j => hJ _ _ _ _ _ hJr (Keep.drewN _ _ j) (fun _ h => h.elim)
        generalize pairV x y = pv at *
        have hpv := u8_lt pv
        clear hx1 hx2 hc1 hc2 hck k1 s1 p1 q1 t1 p2 q2 t2
        gi_wp2
        refine uponIn_yield (hY pre (pv, true) _ (fun _ => False) (fun _ => False) #[.int .u8 (pv.toNat : Int), .bool true] _ HX2.out (hjj _) (fun _ h => h.elim) ⟨rfl, rfl⟩ (fun _ h => h)) ?_ ?_ ?_
        rotate_left
        · rintro c w ⟨_, ⟨h, _⟩ | ⟨h, _⟩⟩ <;> cases h
        · rintro w ⟨_, ⟨h, _⟩ | ⟨h, _⟩⟩ <;> cases h
        clear hY
        rintro v W3 ⟨hk3, (⟨he, hJ3⟩ | ⟨he, hJx3⟩)⟩
        all_goals cases he
        · have hK3 : Keep RB wr W3 := (hdd _).trans (hk3.mono fun _ _ h => .inl h)
          gi_wp2
          go_roundw
          case rel => exact ⟨k + 3, pre ++ [(pv, true)], m', by omega, by go_num, hK.trans hK3, Lib.hid (by rw [HX2.out]; simp), HI2, hJ _ _ _ _ _ hJ3 (Keep.refl _ _) (fun _ h => h.elim)⟩
          case measure => simp [intOf]; omega
        · gi_wp2
          refine bodyPost_ret (results_none rfl _ _ _) rfl ?_
          exact ⟨⟨_, rfl⟩, fun _ => False, fun _ h => h.elim, .inr ⟨pre ++ [(pv, true)], _, by rw [HX2.out, List.append_assoc]; rfl, hJx _ _ _ _ _ hJx3 (Keep.refl _ _) (fun _ h => h.elim)⟩⟩
    · have HX2 := Lib.hid (show m = pre by
        have h1 := HI.out
        rw [List.drop_of_length_le (by rw [hl.out]; omega), items_nil] at h1
        cases h1
        rw [HX.out, List.append_nil])
      clear HX HI h hY HM
      gi_wp2
      refine bodyPost_end (results_none rfl _ _ _) rfl ?_
      exact ⟨⟨_, rfl⟩, fun _ => False, fun _ h => h.elim, .inl (by rw [HX2.out]; exact hJr)⟩

end Go.Proofs.Ytfhgbokimkmpjaa.Pct
