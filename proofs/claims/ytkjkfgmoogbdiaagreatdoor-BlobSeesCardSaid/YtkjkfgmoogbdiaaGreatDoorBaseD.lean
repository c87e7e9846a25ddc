/- The texts that these laws rest on, put together, part 4. Conditions: as each says. -/
import Derived.Test.YtkjkfgmoogbdiaaGreatDoorBaseC
import Derived.Shelf.SlSortCmp.QuietGrown

namespace Go.Proofs.YtkjkfgmoogbdiaaGreatDoor.Org
open Go.RowKit Go.Shelf Url
attribute [local go_sem] Oper.semAt_some

theorem dig_le : ∀ k n : Nat, 1 ≤ k → n < 10 ^ k → (digL n).length ≤ k
  | 0, n, h, _ => absurd h (by omega)
  | k + 1, n, _, h => by
    by_cases h1 : n < 10
    · rw [dig_small n h1]; simp
    · rw [dig_big n h1, List.length_append]
      have : n / 10 < 10 ^ k := by rw [Nat.pow_succ] at h; omega
      rcases Nat.eq_zero_or_pos k with hk | hk
      · subst hk; omega
      · have := dig_le k (n / 10) hk this
        simp only [List.length_cons, List.length_nil]; omega
set_option maxRecDepth 100000 in
set_option maxHeartbeats 8000000 in
/-- A closed one's text. -/
theorem Text_closed (n : Nat) (h1 : 1 ≤ n) (h2 : n ≤ 9223372036854775807) (w : World) (hG : Gl w) :
    Calls Tryz.prog 110 #[orgV [] [] 0 (n : Int)] w fun e w' => e = .returned (.string ⟨(closedS ++ digL n).toArray⟩) ∧ Below w.heap.size w w' := by
  unfold orgV
  obtain ⟨X, hX⟩ : ∃ X, w.alloc (.cells #[.string ⟨#[]⟩, .string ⟨#[]⟩, .int .i64 0, .int .i64 (n : Int)] 184) = X := ⟨_, rfl⟩
  have B1 : Below w.heap.size w X := by rw [← hX]; exact (Below.refl _ w).alloc (Nat.le_refl _) _
  have hO : OB w.heap.size #[.string ⟨#[]⟩, .string ⟨#[]⟩, .int .i64 0, .int .i64 (n : Int)] X := by rw [← hX]; exact OB.new w _
  have hdl : (digL n).length ≤ 19 := dig_le 19 n (by decide) (by omega)
  have c3 := hO.box 3 _ rfl
  have con := Itoa_any n X h2 (hG.on B1)
  have HX := Lib.hid hX
  have e0 : ((n : Int) == 0) = false := by rw [beq_eq_false_iff_ne]; omega
  have e1 : ((n : Int) != 0) = true := by rw [bne_iff_ne]; omega
  have l1 : 7 + (digL n).length ≤ 9223372036854775807 := by omega
  clear hX hG h1 h2 hdl
  generalize digL n = D at *
  go_enter Tryz.func110, Tryz.ntmps110
  go_wp2_with fail
  rw [HX.out]
  refine con.mono ?_
  rintro e w' ⟨rfl, hb⟩
  have B2 := B1.trans (hb.mono B1.size)
  clear con hb B1 c3 hO HX
  go_wp2
  go_ret
  exact ⟨congrArg (fun s => Ending.returned (Value.string s)) (by rw [← str_app]; rfl), B2⟩

/-- What parse tells. -/
def retQ : Sum Int (Sum Nat U) → Value
  | .inl m => .tuple #[orgV [] [] 0 0, .int .i64 m]
  | .inr (.inl n) => .tuple #[orgV [] [] 0 (n : Int), .int .i64 0]
  | .inr (.inr u) => .tuple #[orgV u.scheme u.host u.port 0, .int .i64 0]
theorem closed_num (most : Nat) (l : List UInt8) : closedQ most l = if (numOf most l).getD 0 < 1 then .inl 2 else .inr (.inl ((numOf most l).getD 0).toNat) := by
  unfold closedQ
  rw [numOf_ref]
  cases h : Ref.numOf most l with
  | none => rfl
  | some n =>
    simp only [Option.getD_some]
    by_cases hn : n < 1
    · rw [if_neg (by omega), if_pos hn]
    · rw [if_pos (by omega), if_neg hn]

set_option maxRecDepth 100000 in
set_option maxHeartbeats 8000000 in
theorem parseClosed_any (q : Option Addr) (n c : Nat) (l : List UInt8) (most : Nat) (w : World) (hby : By w (.slice q n c) l) (hn : n ≤ 4096) (hm : most ≤ 9223372036854775807) :
    Calls Tryz.prog 130 #[.slice q n c, .int .i64 (most : Int)] w fun e w' => e = .returned (retQ (closedQ most l)) ∧ Below w.heap.size w w' := by
  obtain ⟨X, hX⟩ : ∃ X, w.alloc (.cells #[.string ⟨#[]⟩, .string ⟨#[]⟩, .int .i64 0, .int .i64 0] 184) = X := ⟨_, rfl⟩
  have B1 : Below w.heap.size w X := by rw [← hX]; exact (Below.refl _ w).alloc (Nat.le_refl _) _
  have hO : OB w.heap.size #[.string ⟨#[]⟩, .string ⟨#[]⟩, .int .i64 0, .int .i64 0] X := by rw [← hX]; exact OB.new w _
  have con1 := Number_any q n c l (most : Int) X hby.at.1 (by omega) (hby.on B1).at.2.2.2.2 (by omega) (by omega)
  unfold numV at con1
  rw [closed_num]
  generalize (numOf (most : Int) l).getD 0 = k at *
  generalize (numOf (most : Int) l).isSome = bo at *
  have con2 := Closed_any k X
  have HX := Lib.hid hX
  clear hX hby
  unfold orgV at con2
  by_cases hk : k < 1
  · rw [if_pos hk] at con2 ⊢
    clear hk
    go_enter Tryz.func130, Tryz.ntmps130
    go_wp2_with fail
    rw [HX.out]
    refine con1.mono ?_
    rintro e w1 ⟨rfl, rfl⟩
    clear con1
    go_wp2_with fail
    refine con2.mono ?_
    rintro e w2 ⟨rfl, hb⟩
    have B2 := B1.trans (hb.mono B1.size)
    have hO2 := hO.on hb
    clear con2 hb hO B1 HX
    have A3 := (Below.refl _ w2).alloc (Nat.le_refl _) (.cells #[.string ⟨#[]⟩, .string ⟨#[]⟩, .int .i64 0, .int .i64 0] 184)
    have B3 := B2.trans (A3.mono B2.size)
    have hO3 := hO2.on A3
    have hN := OB.new w2 #[.string ⟨#[]⟩, .string ⟨#[]⟩, .int .i64 0, .int .i64 0]
    have n0 := hN.box 0 _ rfl
    have n1 := hN.box 1 _ rfl
    have n2 := hN.box 2 _ rfl
    have n3 := hN.box 3 _ rfl
    have z0 := hO3.box 0 _ rfl
    have z1 := hO3.box 1 _ rfl
    have z2 := hO3.box 2 _ rfl
    have z3 := hO3.box 3 _ rfl
    have f0 := hO3.frozen 0
    have f1 := hO3.frozen 1
    have f2 := hO3.frozen 2
    have f3 := hO3.frozen 3
    go_wp2
    obtain ⟨Y, hY, hU, hkY, hbY⟩ := OB.put hO3 (.string ⟨#[]⟩) (.string ⟨#[]⟩) (.int .i64 0) (.int .i64 0)
    rw [hY]
    (try simp only [Exit.inBlock, Exit.then])
    refine bodyPost_ret (ret_org2 rfl _ _ w.heap.size _ rfl hU rfl) rfl ?_
    exact ⟨rfl, B3.trans (hbY _ (Nat.le_refl _))⟩
  · rw [if_neg hk] at con2 ⊢
    have HK := Lib.hid (show ((k.toNat : Int)) = k by omega)
    clear hk
    go_enter Tryz.func130, Tryz.ntmps130
    go_wp2_with fail
    rw [HX.out]
    refine con1.mono ?_
    rintro e w1 ⟨rfl, rfl⟩
    clear con1
    go_wp2_with fail
    refine con2.mono ?_
    rintro e w2 ⟨rfl, hb⟩
    have B2 := B1.trans (hb.mono B1.size)
    have hO2 := hO.on hb
    clear con2 hb hO B1 HX
    have A3 := (Below.refl _ w2).alloc (Nat.le_refl _) (.cells #[.string ⟨#[]⟩, .string ⟨#[]⟩, .int .i64 0, .int .i64 k] 184)
    have B3 := B2.trans (A3.mono B2.size)
    have hO3 := hO2.on A3
    have hN := OB.new w2 #[.string ⟨#[]⟩, .string ⟨#[]⟩, .int .i64 0, .int .i64 k]
    have n0 := hN.box 0 _ rfl
    have n1 := hN.box 1 _ rfl
    have n2 := hN.box 2 _ rfl
    have n3 := hN.box 3 _ rfl
    have z0 := hO3.box 0 _ rfl
    have z1 := hO3.box 1 _ rfl
    have z2 := hO3.box 2 _ rfl
    have z3 := hO3.box 3 _ rfl
    have f0 := hO3.frozen 0
    have f1 := hO3.frozen 1
    have f2 := hO3.frozen 2
    have f3 := hO3.frozen 3
    go_wp2
    obtain ⟨Y, hY, hU, hkY, hbY⟩ := OB.put hO3 (.string ⟨#[]⟩) (.string ⟨#[]⟩) (.int .i64 0) (.int .i64 k)
    rw [hY]
    (try simp only [Exit.inBlock, Exit.then])
    refine bodyPost_ret (ret_org2 rfl _ _ w.heap.size _ rfl hU rfl) rfl ?_
    exact ⟨by unfold retQ orgV; simp only; rw [HK.out]; rfl, B3.trans (hbY _ (Nat.le_refl _))⟩

end Go.Proofs.YtkjkfgmoogbdiaaGreatDoor.Org

namespace Go.Proofs.YtkjkfgmoogbdiaaGreatDoor.Url
open Go.RowKit Go.Shelf
attribute [local go_sem] Oper.semAt_some

/-- A URL, or the error's number, whatever the text's length. -/
def canonU (t : List UInt8) : Sum Int U := match sepL t with
  | none => .inl 15
  | some (s, r) => if Ref.lowL s = httpS ∨ Ref.lowL s = httpsS then restU (Ref.lowL s) r else .inl 15
theorem parse_canon (t : List UInt8) (h : t.length ≤ 4096) : parseU t = canonU t := by
  unfold parseU canonU; rw [if_neg (by omega)]; rfl
theorem canon_none (t : List UInt8) (h : sepL t = none) : canonU t = .inl 15 := by unfold canonU; rw [h]
theorem own_zero (s : List UInt8) : ownP s = 0 ↔ ¬ (s = httpS ∨ s = httpsS) := by
  unfold ownP
  by_cases h1 : s = httpS
  · simp [h1]
  · by_cases h2 : s = httpsS
    · rw [if_neg h1, if_pos h2]; simp [h2]
    · rw [if_neg h1, if_neg h2]; simp [h1, h2]
theorem canon_other (t s r : List UInt8) (h : sepL t = some (s, r)) (ho : ownP (Ref.lowL s) = 0) : canonU t = .inl 15 := by
  unfold canonU; rw [h]; exact if_neg ((own_zero _).1 ho)
theorem canon_rest (t s r : List UInt8) (h : sepL t = some (s, r)) (ho : ownP (Ref.lowL s) ≠ 0) : canonU t = restU (Ref.lowL s) r := by
  unfold canonU; rw [h]; exact if_pos (Decidable.not_not.1 fun hn => ho ((own_zero _).2 hn))
theorem ahead_drop (c : UInt8) (l : List UInt8) : l.drop (aheadL c l).length = [] ∨ ∃ r, l.drop (aheadL c l).length = c :: r := by
  by_cases h : c ∈ l
  · obtain ⟨x, y, rfl, hx⟩ := List.eq_append_cons_of_mem h
    rw [(ahead_yes c x y hx).1]
    exact .inr ⟨y, by simp⟩
  · rw [(ahead_no c l h).1]
    exact .inl (by simp)
def srvL (r : List UInt8) : List UInt8 := aheadL 47 (atFst 63 (atFst 35 r))
def pthL (r : List UInt8) : List UInt8 := (atFst 63 (atFst 35 r)).drop (srvL r).length
/-- A port that is not told, or its number; 0 is none. -/
def portC (s d : List UInt8) (hp : Bool) : Int := if hp = true then (numOf 65535 d).getD 0 else (ownP s : Int)
def optC (b : Bool) (l : List UInt8) : Option (List UInt8) := if b = true then formL 2 l else some []
def portX (s d : List UInt8) (hp : Bool) : Option Nat := if 1 ≤ portC s d hp then some (portC s d hp).toNat else none
/-- What stands behind "://", as the code goes through it. -/
theorem rest_core (s r : List UInt8) (hs : s = httpS ∨ s = httpsS) : restU s r = if Host.parseE (atFst 58 (srvL r)) ≠ 0 then .inl (Host.parseE (atFst 58 (srvL r))) else
    match portX s (atSnd 58 (srvL r)) (atOk 58 (srvL r)), pathL (pthL r), optC (atOk 63 (atFst 35 r)) (atSnd 63 (atFst 35 r)), optC (atOk 35 r) (atSnd 35 r) with
    | some n, some p, some q, some f => .inr ⟨s, Ref.lowL (atFst 58 (srvL r)), n, p, q, f, atOk 63 (atFst 35 r), atOk 35 r⟩
    | _, _, _, _ => .inl 2 := by
  have e1 := (at_ahead 35 r).1
  have e2 := (at_ahead 63 (atFst 35 r)).1
  have e3 := (at_ahead 58 (srvL r)).1
  have ho : ∀ (c : UInt8) (l : List UInt8), optL (Host.tailL c l) = optC (atOk c l) (atSnd c l) ∧ (Host.tailL c l).isSome = atOk c l := fun c l => by
    rw [(at_ahead c l).2.1]
    cases atOk c l <;> exact ⟨rfl, rfl⟩
  have hp : portL s (Host.tailL 58 (srvL r)) = portX s (atSnd 58 (srvL r)) (atOk 58 (srvL r)) := by
    rw [(at_ahead 58 (srvL r)).2.1]
    unfold portX portC
    cases atOk 58 (srvL r) with
    | false =>
      have := (own_pos s hs).1
      simp only [Bool.false_eq_true, if_false]
      rw [portL, if_pos (by omega)]; simp
    | true =>
      simp only [if_true]
      rw [portL, numOf_ref]
      cases Ref.numOf 65535 (atSnd 58 (srvL r)) <;> rfl
  have x1 : aheadL 47 (aheadL 63 (aheadL 35 r)) = srvL r := by unfold srvL; rw [e2, e1]
  have x2 : (aheadL 63 (aheadL 35 r)).drop (srvL r).length = pthL r := by unfold pthL; rw [e2, e1]
  conv => lhs; unfold restU
  simp only
  rw [x1, x2, ← e3, hp, (ho 35 r).1, (ho 35 r).2, ← e1, (ho 63 _).1, (ho 63 _).2]
  rfl
theorem rest_host (s r : List UInt8) (hs : s = httpS ∨ s = httpsS) (h : Host.parseE (atFst 58 (srvL r)) ≠ 0) : restU s r = .inl (Host.parseE (atFst 58 (srvL r))) := by rw [rest_core s r hs, if_pos h]
theorem numGo_nonneg (most : Int) : ∀ (l : List UInt8) (n m : Int), Ref.numGo most l n = some m → 0 ≤ n → 0 ≤ m
  | [], n, m, h, h0 => by rw [Ref.numGo] at h; cases h; exact h0
  | b :: r, n, m, h, h0 => by
    rw [Ref.numGo] at h
    split at h
    · rename_i hc
      have := (Ref.decB_of b).1 hc.1
      exact numGo_nonneg most r _ m h (by omega)
    · cases h
theorem rest_good (s r : List UInt8) (hs : s = httpS ∨ s = httpsS) (h : Host.parseE (atFst 58 (srvL r)) = 0) (p q f : List UInt8) (h1 : portC s (atSnd 58 (srvL r)) (atOk 58 (srvL r)) ≠ 0) (h2 : pathL (pthL r) = some p) (h3 : optC (atOk 63 (atFst 35 r)) (atSnd 63 (atFst 35 r)) = some q) (h4 : optC (atOk 35 r) (atSnd 35 r) = some f) :
    ∃ n : Nat, portC s (atSnd 58 (srvL r)) (atOk 58 (srvL r)) = (n : Int) ∧ restU s r = .inr ⟨s, Ref.lowL (atFst 58 (srvL r)), n, p, q, f, atOk 63 (atFst 35 r), atOk 35 r⟩ := by
  have hge : 0 ≤ portC s (atSnd 58 (srvL r)) (atOk 58 (srvL r)) := by
    unfold portC
    split
    · rw [numOf_ref]
      cases hn : Ref.numOf 65535 (atSnd 58 (srvL r)) with
      | none => simp
      | some m =>
        unfold Ref.numOf at hn
        split at hn
        · cases hn
        · have := numGo_nonneg 65535 _ _ _ hn (by omega); simp; omega
    · omega
  refine ⟨_, (Int.toNat_of_nonneg hge).symm, ?_⟩
  have hx : portX s (atSnd 58 (srvL r)) (atOk 58 (srvL r)) = some (portC s (atSnd 58 (srvL r)) (atOk 58 (srvL r))).toNat := by unfold portX; rw [if_pos (by omega)]
  rw [rest_core s r hs, if_neg (by rw [h]; simp), hx, h2, h3, h4]
theorem rest_port (s r : List UInt8) (hs : s = httpS ∨ s = httpsS) (h : Host.parseE (atFst 58 (srvL r)) = 0) (h1 : portC s (atSnd 58 (srvL r)) (atOk 58 (srvL r)) = 0) : restU s r = .inl 2 := by
  have hx : portX s (atSnd 58 (srvL r)) (atOk 58 (srvL r)) = none := by unfold portX; rw [if_neg (by omega)]
  rw [rest_core s r hs, if_neg (by rw [h]; simp), hx]
theorem rest_path (s r : List UInt8) (hs : s = httpS ∨ s = httpsS) (h : Host.parseE (atFst 58 (srvL r)) = 0) (h2 : pathL (pthL r) = none) : restU s r = .inl 2 := by
  rw [rest_core s r hs, if_neg (by rw [h]; simp), h2]
  cases portX s (atSnd 58 (srvL r)) (atOk 58 (srvL r)) <;> rfl
theorem rest_query (s r : List UInt8) (hs : s = httpS ∨ s = httpsS) (h : Host.parseE (atFst 58 (srvL r)) = 0) (h3 : optC (atOk 63 (atFst 35 r)) (atSnd 63 (atFst 35 r)) = none) : restU s r = .inl 2 := by
  rw [rest_core s r hs, if_neg (by rw [h]; simp), h3]
  cases portX s (atSnd 58 (srvL r)) (atOk 58 (srvL r)) <;> cases pathL (pthL r) <;> rfl
theorem rest_frag (s r : List UInt8) (hs : s = httpS ∨ s = httpsS) (h : Host.parseE (atFst 58 (srvL r)) = 0) (h4 : optC (atOk 35 r) (atSnd 35 r) = none) : restU s r = .inl 2 := by
  rw [rest_core s r hs, if_neg (by rw [h]; simp), h4]
  cases portX s (atSnd 58 (srvL r)) (atOk 58 (srvL r)) <;> cases pathL (pthL r) <;> cases optC (atOk 63 (atFst 35 r)) (atSnd 63 (atFst 35 r)) <;> rfl
/-- What canonOf answers. -/
def CanonOut : Sum Int U → World → Ending → World → Prop
  | .inl n, w, e, w' => n ≠ 0 ∧ e = .returned (.tuple #[.agg zeroU, .int .i64 n]) ∧ Below w.heap.size w w'
  | .inr u, w, e, w' => ∃ v, e = .returned (.tuple #[v, .int .i64 0]) ∧ UrlIn w' v u ∧ Below w.heap.size w w'
/-- A slice of bytes is not where a URL's cells are. -/
theorem By.set {B i : Nat} {cs : Array Value} {X : World} {v u : Value} {l : List UInt8} (h : By X v l) (hU : UB B cs X) (hcs : ∀ (j : Nat) (x : Value), cs[j]? = some x → ∀ z : Int, x ≠ .int .u8 z) : By (X.setCell ⟨B, i, none⟩ u) v l := by
  obtain ⟨q, c, rfl, h2, h3, h4, h5⟩ := h
  refine ⟨q, c, rfl, h2, h3, h4, fun h0 => ?_⟩
  obtain ⟨b, o, he, hc⟩ := h5 h0
  refine ⟨b, o, he, fun j hj => ?_⟩
  have hne : b ≠ B := fun e => by
    subst e
    have h1 := hc j hj
    simp only [World.cell?, show X.heap[b]? = _ from hU] at h1
    exact hcs _ _ h1 _ rfl
  exact (World.cell?_of_block ((Keep.setCell (S := fun k => k ≠ B) X ⟨B, i, none⟩ u (fun h => h rfl)).block b (World.block_lt_of_cell? X _ (hc j hj)) hne)).trans (hc j hj)
theorem UB.other {B C i : Nat} {cs : Array Value} {X : World} (h : UB B cs X) (hne : B ≠ C) (u : Value) : UB B cs (X.setCell ⟨C, i, none⟩ u) :=
  ((Keep.setCell (S := fun k => k = B) X ⟨C, i, none⟩ u (fun h => hne h.symm)).block B h.lt rfl).trans h
theorem nb8 {a0 a1 a3 a4 a5 : Value} {p : Int} {b c : Bool} (h0 : ∃ q n c, a0 = .slice q n c) (h1 : ∃ q n c, a1 = .slice q n c) (h3 : ∃ q n c, a3 = .slice q n c) (h4 : ∃ q n c, a4 = .slice q n c) (h5 : ∃ q n c, a5 = .slice q n c) :
    ∀ (j : Nat) x, (#[a0, a1, .int .i64 p, a3, a4, a5, .bool b, .bool c] : Array Value)[j]? = some x → ∀ z, x ≠ .int .u8 z := by
  obtain ⟨_, _, _, rfl⟩ := h0
  obtain ⟨_, _, _, rfl⟩ := h1
  obtain ⟨_, _, _, rfl⟩ := h3
  obtain ⟨_, _, _, rfl⟩ := h4
  obtain ⟨_, _, _, rfl⟩ := h5
  intro j x hx z he
  subst he
  match j, hx with
  | 0, hx => simp at hx
  | 1, hx => simp at hx
  | 2, hx => simp at hx
  | 3, hx => simp at hx
  | 4, hx => simp at hx
  | 5, hx => simp at hx
  | 6, hx => simp at hx
  | 7, hx => simp at hx
  | n + 8, hx => simp at hx

end Go.Proofs.YtkjkfgmoogbdiaaGreatDoor.Url

namespace Go.Proofs.YtkjkfgmoogbdiaaGreatDoor.Url
open Go.RowKit Go.Shelf
attribute [local go_sem] Oper.semAt_some

theorem nbz : ∀ (j : Nat) (x : Value), zeroU[j]? = some x → ∀ z : Int, x ≠ .int .u8 z := nb8 ⟨_, _, _, rfl⟩ ⟨_, _, _, rfl⟩ ⟨_, _, _, rfl⟩ ⟨_, _, _, rfl⟩ ⟨_, _, _, rfl⟩
/-- A slice of bytes outlives what is written where a URL's cells are. -/
theorem By.away {B : Nat} {cs : Array Value} {X Y : World} {v : Value} {l : List UInt8} (h : By X v l) (hU : UB B cs X) (hcs : ∀ (j : Nat) (x : Value), cs[j]? = some x → ∀ z : Int, x ≠ .int .u8 z) (hk : ∀ S : Nat → Prop, ¬ S B → Keep S X Y) : By Y v l := by
  obtain ⟨q, c, rfl, h2, h3, h4, h5⟩ := h
  refine ⟨q, c, rfl, h2, h3, h4, fun h0 => ?_⟩
  obtain ⟨b, o, he, hc⟩ := h5 h0
  refine ⟨b, o, he, fun j hj => ?_⟩
  have hne : b ≠ B := fun e => by
    subst e
    have h1 := hc j hj
    simp only [World.cell?, show X.heap[b]? = _ from hU] at h1
    exact hcs _ _ h1 _ rfl
  exact (World.cell?_of_block ((hk (fun k => k ≠ B) (fun h => h rfl)).block b (World.block_lt_of_cell? X _ (hc j hj)) hne)).trans (hc j hj)
theorem UB.set8 {B : Nat} {X : World} {a0 a1 a2 a3 a4 a5 a6 a7 : Value} (h : UB B #[a0, a1, a2, a3, a4, a5, a6, a7] X) (v : Value) :
    UB B #[a0, a1, v, a3, a4, a5, a6, a7] (X.setCell ⟨B, 2, none⟩ v) ∧ UB B #[a0, a1, a2, v, a4, a5, a6, a7] (X.setCell ⟨B, 3, none⟩ v) ∧ UB B #[a0, a1, a2, a3, v, a5, a6, a7] (X.setCell ⟨B, 4, none⟩ v) ∧ UB B #[a0, a1, a2, a3, a4, v, a6, a7] (X.setCell ⟨B, 5, none⟩ v) := by
  have h2 := h.set 2 v; have h3 := h.set 3 v; have h4 := h.set 4 v; have h5 := h.set 5 v
  simp only [List.setIfInBounds_toArray, List.set_cons_zero, List.set_cons_succ] at h2 h3 h4 h5
  exact ⟨h2, h3, h4, h5⟩

set_option maxRecDepth 100000 in
set_option maxHeartbeats 16000000 in
theorem canonOf_any (q : Option Addr) (n c : Nat) (t : List UInt8) (w : World) (hby : By w (.slice q n c) t) (hn : n ≤ 4096) (hG : Gl w) :
    Calls Tryz.prog 148 #[.slice q n c] w fun e w' => CanonOut (canonU t) w e w' := by
  have kc := fun (w : World) (C : Array Value) (n c : Nat) => Lib.run_convert_bytes_const (P := Tryz.prog) w 30 5 C n c Tryz.underlying30 Tryz.underlying5
  obtain ⟨X0, hX0⟩ : ∃ X0, (w.alloc (.cells #[.slice none 0 0, .slice none 0 0, .int .i64 0, .slice none 0 0, .slice none 0 0, .slice none 0 0, .bool false, .bool false] 208)).alloc (.cells #[.int .u8 58, .int .u8 47, .int .u8 47] 5 (3, 4)) = X0 := ⟨_, rfl⟩
  have hBz := (Below.refl _ w).alloc (Nat.le_refl _) (.cells #[.slice none 0 0, .slice none 0 0, .int .i64 0, .slice none 0 0, .slice none 0 0, .slice none 0 0, .bool false, .bool false] 208)
  have B_0 : Below w.heap.size w X0 := by rw [← hX0]; exact hBz.alloc hBz.size _
  have U_0 : UB w.heap.size zeroU X0 := by rw [← hX0]; exact (UB.new w zeroU).on ((Below.refl _ _).alloc (Nat.le_refl _) _)
  have hsep : Lib.BytesIn X0 (some ⟨w.heap.size + 1, 0, none⟩) 3 (Lib.numsL sepS) := by
    have := bytes_lit (w := w.alloc (.cells #[.slice none 0 0, .slice none 0 0, .int .i64 0, .slice none 0 0, .slice none 0 0, .slice none 0 0, .bool false, .bool false] 208)) #[.int .u8 58, .int .u8 47, .int .u8 47] sepS (3, 4) rfl
    rw [World.size_alloc] at this
    rw [← hX0]; exact this
  have kc1 := kc (w.alloc (.cells #[.slice none 0 0, .slice none 0 0, .int .i64 0, .slice none 0 0, .slice none 0 0, .slice none 0 0, .bool false, .bool false] 208)) #[.int .u8 58, .int .u8 47, .int .u8 47] 3 3
  rw [World.size_alloc] at kc1
  have con := Cut_any q (some ⟨w.heap.size + 1, 0, none⟩) n c 3 t X0 (hby.on B_0) (by omega) (hG.on B_0) hsep
  have HX0 := Lib.hid hX0
  have T_0 := hby.on B_0
  have hTl := hby.at.1
  clear hX0 hBz hsep hby hG
  rcases sep_cases t with ⟨hk, hsp⟩ | ⟨k, hk, hkl, hsp⟩
  · rw [cut_none hk] at con
    have HC := Lib.hid (canon_none t hsp)
    clear hsp hk T_0
    go_enter Tryz.func148, Tryz.ntmps148
    go_wp2_with fail
    rw [HX0.out]
    refine con.mono ?_
    rintro e X1 ⟨rfl, m, hm⟩
    have hb : Below X0.heap.size X0 X1 := by rw [hm]; exact below_drewN _ _
    clear con hm kc1 HX0
    have B_1 := B_0.trans (hb.mono B_0.size)
    have U_1 := U_0.on hb
    clear U_0 B_0 hb
    have zb := U_1.box
    have zc0 := zb 0 _ rfl
    have zf0 := U_1.frozen 0
    have zc1 := zb 1 _ rfl
    have zf1 := U_1.frozen 1
    have zc2 := zb 2 _ rfl
    have zf2 := U_1.frozen 2
    have zc3 := zb 3 _ rfl
    have zf3 := U_1.frozen 3
    have zc4 := zb 4 _ rfl
    have zf4 := U_1.frozen 4
    have zc5 := zb 5 _ rfl
    have zf5 := U_1.frozen 5
    have zc6 := zb 6 _ rfl
    have zf6 := U_1.frozen 6
    have zc7 := zb 7 _ rfl
    have zf7 := U_1.frozen 7
    clear zb
    go_wp2
    obtain ⟨Y, hY, hU, hkY, hbY⟩ := UB.put (show UB w.heap.size #[.slice none 0 0, .slice none 0 0, .int .i64 0, .slice none 0 0, .slice none 0 0, .slice none 0 0, .bool false, .bool false] _ from U_1) (.slice none 0 0) (.slice none 0 0) (.int .i64 0) (.slice none 0 0) (.slice none 0 0) (.slice none 0 0) (.bool false) (.bool false)
    rw [hY]
    (try simp only [Exit.inBlock, Exit.then])
    refine bodyPost_ret (ret_url2 rfl _ _ w.heap.size _ rfl hU rfl) rfl ?_
    rw [HC.out]
    exact ⟨by decide, rfl, B_1.trans (hbY _ (Nat.le_refl _))⟩
  · rw [cut_some hk] at con
    have S_0 := T_0.take (show k ≤ n by omega)
    have R_0 := T_0.drop (show k + 3 ≤ n by omega)
    have hnr : n - (k + 3) ≤ 4096 := by omega
    have hkn : k ≤ 4096 := by omega
    generalize t.take k = s at *
    generalize t.drop (k + 3) = r at *
    generalize hqR : subA q c (k + 3) = qR at *
    generalize hnR : n - (k + 3) = nR at *
    generalize hcR : c - (k + 3) = cR at *
    have HSP := Lib.hid hsp
    clear hsp hk T_0 hkl hTl hqR hnR hcR
    obtain ⟨own, hown⟩ : ∃ o, ownP (Ref.lowL s) = o := ⟨_, rfl⟩
    have HOW := Lib.hid hown
    clear hown
    go_enter Tryz.func148, Tryz.ntmps148
    go_wp2_with fail
    rw [HX0.out]
    refine con.mono ?_
    rintro e X1 ⟨rfl, m, hm⟩
    have hb : Below X0.heap.size X0 X1 := by rw [hm]; exact below_drewN _ _
    clear con hm kc1 HX0
    have B_1 := B_0.trans (hb.mono B_0.size)
    have U_1 := U_0.on hb
    have S_1 := S_0.on hb
    have R_1 := R_0.on hb
    clear R_0 S_0 U_0 B_0 hb
    have con := Own_any q k c s X1 S_1.at.1 (by omega) S_1.at.2.2.2.2
    rw [HOW.out] at con
    by_cases ho : own = 0
    · have e0 : ((own : Int) == 0) = true := by rw [ho]; rfl
      have HC := Lib.hid (canon_other t s r HSP.out (by rw [HOW.out]; exact ho))
      clear ho
      go_wp2_with fail
      refine con.mono ?_
      rintro e X2 ⟨rfl, hb⟩
      clear con
      have B_2 := B_1.trans (hb.mono B_1.size)
      have U_2 := U_1.on hb
      have S_2 := S_1.on hb
      have R_2 := R_1.on hb
      clear R_1 S_1 U_1 B_1 hb
      have zb := U_2.box
      have zc0 := zb 0 _ rfl
      have zf0 := U_2.frozen 0
      have zc1 := zb 1 _ rfl
      have zf1 := U_2.frozen 1
      have zc2 := zb 2 _ rfl
      have zf2 := U_2.frozen 2
      have zc3 := zb 3 _ rfl
      have zf3 := U_2.frozen 3
      have zc4 := zb 4 _ rfl
      have zf4 := U_2.frozen 4
      have zc5 := zb 5 _ rfl
      have zf5 := U_2.frozen 5
      have zc6 := zb 6 _ rfl
      have zf6 := U_2.frozen 6
      have zc7 := zb 7 _ rfl
      have zf7 := U_2.frozen 7
      clear zb
      go_wp2
      obtain ⟨Y, hY, hU, hkY, hbY⟩ := UB.put (show UB w.heap.size #[.slice none 0 0, .slice none 0 0, .int .i64 0, .slice none 0 0, .slice none 0 0, .slice none 0 0, .bool false, .bool false] _ from U_2) (.slice none 0 0) (.slice none 0 0) (.int .i64 0) (.slice none 0 0) (.slice none 0 0) (.slice none 0 0) (.bool false) (.bool false)
      rw [hY]
      (try simp only [Exit.inBlock, Exit.then])
      refine bodyPost_ret (ret_url2 rfl _ _ w.heap.size _ rfl hU rfl) rfl ?_
      rw [HC.out]
      exact ⟨by decide, rfl, B_2.trans (hbY _ (Nat.le_refl _))⟩
    have e0 : ((own : Int) == 0) = false := by rw [beq_eq_false_iff_ne]; omega
    have hs0 : Ref.lowL s = httpS ∨ Ref.lowL s = httpsS := Decidable.not_not.1 fun h => ho (by rw [← HOW.out]; exact (own_zero _).2 h)
    have HS := Lib.hid hs0
    have HC := Lib.hid (canon_rest t s r HSP.out (by rw [HOW.out]; exact ho))
    clear ho HSP hs0
    go_wp2_with fail
    refine con.mono ?_
    rintro e X2 ⟨rfl, hb⟩
    clear con
    have B_2 := B_1.trans (hb.mono B_1.size)
    have U_2 := U_1.on hb
    have S_2 := S_1.on hb
    have R_2 := R_1.on hb
    clear R_1 S_1 U_1 B_1 hb
    obtain ⟨bf, hbf⟩ : ∃ b, atOk 35 (r) = b := ⟨_, rfl⟩
    have con := At_any qR nR cR (r) 35 X2 R_2.at.1 (by have := R_2.at.1; omega) R_2.at.2.1 R_2.at.2.2.2.1 R_2.at.2.2.2.2
    rw [hbf] at con
    have Hbf := Lib.hid hbf
    clear hbf
    go_wp2_with fail
    refine con.mono ?_
    rintro e X3 ⟨v1, v2, rfl, hr1, hr2, hb⟩
    clear con
    obtain ⟨nA, hnA⟩ : ∃ n, (atFst 35 (r)).length = n := ⟨_, rfl⟩
    rw [hnA] at hr1
    obtain ⟨qA, cA, rfl, _, _, _, _, _⟩ := row_open hr1
    have A_3 := By.row hr1
    have hmA : nA ≤ 4096 := by have h1 := at_len 35 (r); have h2 := R_2.at.1; omega
    clear hr1 hnA
    obtain ⟨nF, hnF⟩ : ∃ n, (atSnd 35 (r)).length = n := ⟨_, rfl⟩
    rw [hnF] at hr2
    obtain ⟨qF, cF, rfl, _, _, _, _, _⟩ := row_open hr2
    have F_3 := By.row hr2
    have hmF : nF ≤ 4096 := by have h1 := at_len 35 (r); have h2 := R_2.at.1; omega
    clear hr2 hnF
    have B_3 := B_2.trans (hb.mono B_2.size)
    have U_3 := U_2.on hb
    have S_3 := S_2.on hb
    have R_3 := R_2.on hb
    clear R_2 S_2 U_2 B_2 hb
    clear e0
    clear R_3
    obtain ⟨bq, hbq⟩ : ∃ b, atOk 63 (atFst 35 r) = b := ⟨_, rfl⟩
    have con := At_any qA nA cA (atFst 35 r) 63 X3 A_3.at.1 (by have := A_3.at.1; omega) A_3.at.2.1 A_3.at.2.2.2.1 A_3.at.2.2.2.2
    rw [hbq] at con
    have Hbq := Lib.hid hbq
    clear hbq
    go_wp2_with fail
    refine con.mono ?_
    rintro e X4 ⟨v1, v2, rfl, hr1, hr2, hb⟩
    clear con
    obtain ⟨nE, hnE⟩ : ∃ n, (atFst 63 (atFst 35 r)).length = n := ⟨_, rfl⟩
    rw [hnE] at hr1
    obtain ⟨qE, cE, rfl, _, _, _, _, _⟩ := row_open hr1
    have E_4 := By.row hr1
    have hmE : nE ≤ 4096 := by have h1 := at_len 63 (atFst 35 r); have h2 := A_3.at.1; omega
    clear hr1 hnE
    obtain ⟨nQ, hnQ⟩ : ∃ n, (atSnd 63 (atFst 35 r)).length = n := ⟨_, rfl⟩
    rw [hnQ] at hr2
    obtain ⟨qQ, cQ, rfl, _, _, _, _, _⟩ := row_open hr2
    have Q_4 := By.row hr2
    have hmQ : nQ ≤ 4096 := by have h1 := at_len 63 (atFst 35 r); have h2 := A_3.at.1; omega
    clear hr2 hnQ
    have B_4 := B_3.trans (hb.mono B_3.size)
    have U_4 := U_3.on hb
    have S_4 := S_3.on hb
    have A_4 := A_3.on hb
    have F_4 := F_3.on hb
    clear F_3 A_3 S_3 U_3 B_3 hb
    clear A_4
    have con := atSlash_any qE nE cE (atFst 63 (atFst 35 r)) X4 E_4
    go_wp2_with fail
    refine con.mono ?_
    rintro e X5 ⟨v1, v2, rfl, V_4, P_4, hb, -⟩
    have V_5 := V_4.on hb
    have P_5 := P_4.on hb
    clear con V_4 P_4
    obtain ⟨qV, cV, rfl, _⟩ := id V_5
    obtain ⟨qP, cP, rfl, _⟩ := id P_5
    have hP5 := ahead_drop 47 (atFst 63 (atFst 35 r))
    have hVl := ahead_len 47 (atFst 63 (atFst 35 r))
    have hEl := E_4.at.1
    replace V_5 : By X5 (.slice qV (srvL r).length cV) (srvL r) := V_5
    replace P_5 : By X5 (.slice qP (pthL r).length cP) (pthL r) := P_5
    have HPF := Lib.hid (show pthL r = [] ∨ ∃ x, pthL r = 47 :: x from hP5)
    have hPl : (pthL r).length ≤ 4096 := by
      have : (pthL r).length ≤ (atFst 63 (atFst 35 r)).length := by unfold pthL; rw [List.length_drop]; omega
      omega
    have hVl' : (srvL r).length ≤ 4096 := by have : (srvL r).length ≤ (atFst 63 (atFst 35 r)).length := hVl; omega
    change By X5 (.slice qV (aheadL 47 (atFst 63 (atFst 35 r))).length cV) (srvL r) at V_5
    change By X5 (.slice qP ((atFst 63 (atFst 35 r)).drop (aheadL 47 (atFst 63 (atFst 35 r))).length).length cP) (pthL r) at P_5
    obtain ⟨nV, hnV⟩ : ∃ n, (aheadL 47 (atFst 63 (atFst 35 r))).length = n := ⟨_, rfl⟩
    obtain ⟨nP, hnP⟩ : ∃ n, ((atFst 63 (atFst 35 r)).drop (aheadL 47 (atFst 63 (atFst 35 r))).length).length = n := ⟨_, rfl⟩
    rw [hnP] at P_5 ⊢
    rw [hnV] at V_5 ⊢
    have hmV : nV ≤ 4096 := by rw [← hnV]; exact hVl'
    have hmP : nP ≤ 4096 := by rw [← hnP]; exact hPl
    clear hP5 hVl hEl hPl hVl' hnV hnP
    have B_5 := B_4.trans (hb.mono B_4.size)
    have U_5 := U_4.on hb
    have S_5 := S_4.on hb
    have F_5 := F_4.on hb
    have E_5 := E_4.on hb
    have Q_5 := Q_4.on hb
    clear Q_4 E_4 F_4 S_4 U_4 B_4 hb
    clear E_5
    obtain ⟨bp, hbp⟩ : ∃ b, atOk 58 (srvL r) = b := ⟨_, rfl⟩
    have con := At_any qV nV cV (srvL r) 58 X5 V_5.at.1 (by have := V_5.at.1; omega) V_5.at.2.1 V_5.at.2.2.2.1 V_5.at.2.2.2.2
    rw [hbp] at con
    have Hbp := Lib.hid hbp
    clear hbp
    go_wp2_with fail
    refine con.mono ?_
    rintro e X6 ⟨v1, v2, rfl, hr1, hr2, hb⟩
    clear con
    obtain ⟨nN, hnN⟩ : ∃ n, (atFst 58 (srvL r)).length = n := ⟨_, rfl⟩
    rw [hnN] at hr1
    obtain ⟨qN, cN, rfl, _, _, _, _, _⟩ := row_open hr1
    have N_6 := By.row hr1
    have hmN : nN ≤ 4096 := by have h1 := at_len 58 (srvL r); have h2 := V_5.at.1; omega
    clear hr1 hnN
    obtain ⟨nD, hnD⟩ : ∃ n, (atSnd 58 (srvL r)).length = n := ⟨_, rfl⟩
    rw [hnD] at hr2
    obtain ⟨qD, cD, rfl, _, _, _, _, _⟩ := row_open hr2
    have D_6 := By.row hr2
    have hmD : nD ≤ 4096 := by have h1 := at_len 58 (srvL r); have h2 := V_5.at.1; omega
    clear hr2 hnD
    have B_6 := B_5.trans (hb.mono B_5.size)
    have U_6 := U_5.on hb
    have S_6 := S_5.on hb
    have F_6 := F_5.on hb
    have Q_6 := Q_5.on hb
    have V_6 := V_5.on hb
    have P_6 := P_5.on hb
    clear P_5 V_5 Q_5 F_5 S_5 U_5 B_5 hb
    clear V_6
    have con := Host.Parse_any qN nN cN (atFst 58 (srvL r)) X6 N_6.at.1 (by omega) N_6.at.2.2.2.2
    obtain ⟨pe, hpe⟩ : ∃ pe, Host.parseE (atFst 58 (srvL r)) = pe := ⟨_, rfl⟩
    have HPE := Lib.hid hpe
    clear hpe
    go_wp2_with fail
    refine con.mono ?_
    rintro e X7 ⟨vH, rfl, hrH, hb⟩
    rw [HPE.out]
    obtain ⟨nH, hnH⟩ : ∃ n, (Host.canL (atFst 58 (srvL r))).length = n := ⟨_, rfl⟩
    rw [hnH] at hrH
    obtain ⟨qH, cH, rfl, _, _, _, _, _⟩ := row_open hrH
    have H_7 := By.row hrH
    clear con hrH hnH
    have B_7 := B_6.trans (hb.mono B_6.size)
    have U_7 := U_6.on hb
    have S_7 := S_6.on hb
    have F_7 := F_6.on hb
    have Q_7 := Q_6.on hb
    have P_7 := P_6.on hb
    have N_7 := N_6.on hb
    have D_7 := D_6.on hb
    clear D_6 N_6 P_6 Q_6 F_6 S_6 U_6 B_6 hb
    clear N_7
    by_cases hp7 : pe = 0
    case neg =>
      have e7 : ((pe : Int) != 0) = true := by rw [bne_iff_ne]; exact hp7
      have HE := Lib.hid (show canonU t = .inl pe by rw [HC.out, rest_host _ r HS.out (by rw [HPE.out]; exact hp7), HPE.out])
      have hp8 := Lib.hid hp7
      clear HC hp7
      have zb := U_7.box
      have zc0 := zb 0 _ rfl
      have zf0 := U_7.frozen 0
      have zc1 := zb 1 _ rfl
      have zf1 := U_7.frozen 1
      have zc2 := zb 2 _ rfl
      have zf2 := U_7.frozen 2
      have zc3 := zb 3 _ rfl
      have zf3 := U_7.frozen 3
      have zc4 := zb 4 _ rfl
      have zf4 := U_7.frozen 4
      have zc5 := zb 5 _ rfl
      have zf5 := U_7.frozen 5
      have zc6 := zb 6 _ rfl
      have zf6 := U_7.frozen 6
      have zc7 := zb 7 _ rfl
      have zf7 := U_7.frozen 7
      clear zb
      go_wp2
      obtain ⟨Y, hY, hU, hkY, hbY⟩ := UB.put (show UB w.heap.size #[.slice none 0 0, .slice none 0 0, .int .i64 0, .slice none 0 0, .slice none 0 0, .slice none 0 0, .bool false, .bool false] _ from U_7) (.slice none 0 0) (.slice none 0 0) (.int .i64 0) (.slice none 0 0) (.slice none 0 0) (.slice none 0 0) (.bool false) (.bool false)
      rw [hY]
      (try simp only [Exit.inBlock, Exit.then])
      refine bodyPost_ret (ret_url2 rfl _ _ w.heap.size _ rfl hU rfl) rfl ?_
      rw [HE.out]
      exact ⟨hp8.out, rfl, B_7.trans (hbY _ (Nat.le_refl _))⟩
    subst hp7
    have HCL := Lib.hid (show Host.canL (atFst 58 (srvL r)) = Ref.lowL (atFst 58 (srvL r)) by unfold Host.canL; rw [if_pos HPE.out])
    rw [HCL.out] at H_7
    have con := Lower_any q k c s X7 S_7.at.1 (by omega) S_7.at.2.2.2.2
    go_wp2_with fail
    refine con.mono ?_
    rintro e X8 ⟨vL, rfl, hrL, hb⟩
    obtain ⟨qL, cL, rfl, _, _, _, _, _⟩ := row_open hrL
    have L_8 : By X8 (.slice qL k cL) (Ref.lowL s) := By.row hrL
    clear con hrL HCL
    have B_8 := B_7.trans (hb.mono B_7.size)
    have U_8 := U_7.on hb
    have S_8 := S_7.on hb
    have F_8 := F_7.on hb
    have Q_8 := Q_7.on hb
    have P_8 := P_7.on hb
    have D_8 := D_7.on hb
    have H_8 := H_7.on hb
    clear H_7 D_7 P_7 Q_7 F_7 S_7 U_7 B_7 hb
    have con := Own_any q k c s X8 S_8.at.1 (by omega) S_8.at.2.2.2.2
    rw [HOW.out] at con
    go_wp2_with fail
    refine con.mono ?_
    rintro e X9 ⟨rfl, hb⟩
    clear con
    have B_9 := B_8.trans (hb.mono B_8.size)
    have U_9 := U_8.on hb
    have S_9 := S_8.on hb
    have F_9 := F_8.on hb
    have Q_9 := Q_8.on hb
    have P_9 := P_8.on hb
    have D_9 := D_8.on hb
    have H_9 := H_8.on hb
    have L_9 := L_8.on hb
    clear L_8 H_8 D_8 P_8 Q_8 F_8 S_8 U_8 B_8 hb
    clear S_9
    obtain ⟨XA, hXA⟩ : ∃ XA, X9.alloc (.cells #[.slice qL k cL, .slice qH nH cH, .int .i64 own, .slice none 0 0, .slice none 0 0, .slice none 0 0, .bool bq, .bool bf] 208) = XA := ⟨_, rfl⟩
    obtain ⟨b18, hb18⟩ : ∃ b, X9.heap.size = b := ⟨_, rfl⟩
    have W_A : UB b18 #[.slice qL k cL, .slice qH nH cH, .int .i64 own, .slice none 0 0, .slice none 0 0, .slice none 0 0, .bool bq, .bool bf] XA := by rw [← hXA, ← hb18]; exact UB.new X9 _
    have hb : Below X9.heap.size X9 XA := by rw [← hXA]; exact (Below.refl _ _).alloc (Nat.le_refl _) _
    have hne : ¬ w.heap.size = b18 := by have := U_9.lt; omega
    have hne' : ¬ b18 = w.heap.size := fun h => hne h.symm
    have hle : w.heap.size ≤ b18 := by have := U_9.lt; omega
    have HXA := Lib.hid hXA
    have HB18 := Lib.hid hb18
    clear hXA hb18
    have B_A := B_9.trans (hb.mono B_9.size)
    have U_A := U_9.on hb
    have F_A := F_9.on hb
    have Q_A := Q_9.on hb
    have P_A := P_9.on hb
    have D_A := D_9.on hb
    have H_A := H_9.on hb
    have L_A := L_9.on hb
    clear L_9 H_9 D_9 P_9 Q_9 F_9 U_9 B_9 hb
    cases bp with
    | false =>
      clear D_A
      have HPO := Lib.hid (show portC (Ref.lowL s) (atSnd 58 (srvL r)) (atOk 58 (srvL r)) = (own : Int) by rw [Hbp.out]; unfold portC; rw [if_neg (by decide), HOW.out])
      go_wp2_with fail
      rw [HB18.out, HXA.out]
      have con := canonOfPath_any qP nP cP (pthL r) XA P_A (by omega) HPF.out
      refine con.mono ?_
      rintro e XC ⟨vW, ep, rfl, hep, hr, hb⟩
      have HEP : Hid (ep = if (pathL (pthL r)).isSome then 0 else 2) := hep
      replace hr : XC.ownsRow XA.heap.size 5 1 vW ((pathL (pthL r)).getD []).length (byV ((pathL (pthL r)).getD [])) := hr
      obtain ⟨nW, hnW⟩ : ∃ n, ((pathL (pthL r)).getD []).length = n := ⟨_, rfl⟩
      rw [hnW] at hr
      obtain ⟨qW, cW, rfl, _, _, _, _, _⟩ := row_open hr
      have GP_C := By.row hr
      clear con hr hnW hep
      have B_C := B_A.trans (hb.mono B_A.size)
      have U_C := U_A.on hb
      have F_C := F_A.on hb
      have Q_C := Q_A.on hb
      have P_C := P_A.on hb
      have H_C := H_A.on hb
      have L_C := L_A.on hb
      have W_C := W_A.on hb
      clear W_A L_A H_A P_A Q_A F_A U_A B_A hb
      clear P_C
      cases bq with
      | false =>
        clear Q_C
        cases bf with
        | false =>
          clear F_C
          have yb := W_C.box
          have yc0 := yb 0 _ rfl
          have yf0 := W_C.frozen 0
          have yc1 := yb 1 _ rfl
          have yf1 := W_C.frozen 1
          have yc2 := yb 2 _ rfl
          have yf2 := W_C.frozen 2
          have yc3 := yb 3 _ rfl
          have yf3 := W_C.frozen 3
          have yc4 := yb 4 _ rfl
          have yf4 := W_C.frozen 4
          have yc5 := yb 5 _ rfl
          have yf5 := W_C.frozen 5
          have yc6 := yb 6 _ rfl
          have yf6 := W_C.frozen 6
          have yc7 := yb 7 _ rfl
          have yf7 := W_C.frozen 7
          clear yb
          have zb := U_C.box
          have zc0 := zb 0 _ rfl
          have zf0 := U_C.frozen 0
          have zc1 := zb 1 _ rfl
          have zf1 := U_C.frozen 1
          have zc2 := zb 2 _ rfl
          have zf2 := U_C.frozen 2
          have zc3 := zb 3 _ rfl
          have zf3 := U_C.frozen 3
          have zc4 := zb 4 _ rfl
          have zf4 := U_C.frozen 4
          have zc5 := zb 5 _ rfl
          have zf5 := U_C.frozen 5
          have zc6 := zb 6 _ rfl
          have zf6 := U_C.frozen 6
          have zc7 := zb 7 _ rfl
          have zf7 := U_C.frozen 7
          clear zb
          obtain ⟨XZ, hXZ⟩ : ∃ Z, XC.setCell ⟨b18, 3, none⟩ (.slice qW nW cW) = Z := ⟨_, rfl⟩
          have B_Z : Below w.heap.size w XZ := by rw [← hXZ]; exact B_C.setCell (p := ⟨b18, 3, none⟩) hle _
          have U_Z : UB w.heap.size zeroU XZ := by rw [← hXZ]; exact U_C.other hne _
          have H_Z := By.set (i := 3) (u := .slice qW nW cW) H_C W_C (nb8 ⟨_, _, _, rfl⟩ ⟨_, _, _, rfl⟩ ⟨_, _, _, rfl⟩ ⟨_, _, _, rfl⟩ ⟨_, _, _, rfl⟩)
          rw [hXZ] at H_Z
          have L_Z := By.set (i := 3) (u := .slice qW nW cW) L_C W_C (nb8 ⟨_, _, _, rfl⟩ ⟨_, _, _, rfl⟩ ⟨_, _, _, rfl⟩ ⟨_, _, _, rfl⟩ ⟨_, _, _, rfl⟩)
          rw [hXZ] at L_Z
          have GP_Z := By.set (i := 3) (u := .slice qW nW cW) GP_C W_C (nb8 ⟨_, _, _, rfl⟩ ⟨_, _, _, rfl⟩ ⟨_, _, _, rfl⟩ ⟨_, _, _, rfl⟩ ⟨_, _, _, rfl⟩)
          rw [hXZ] at GP_Z
          have W_Z : UB b18 #[.slice qL k cL, .slice qH nH cH, .int .i64 own, .slice qW nW cW, .slice none 0 0, .slice none 0 0, .bool false, .bool false] XZ := by rw [← hXZ]; exact (W_C.set8 (.slice qW nW cW)).2.1
          clear GP_C W_C L_C H_C U_C B_C
          have HXZ := Lib.hid hXZ
          clear hXZ
          by_cases hp0 : (own : Int) = 0
          case pos =>
            have e0 : (((own : Int)) == 0) = true := by rw [beq_iff_eq]; exact hp0
            have hpo := HPO.out
            rw [hp0] at hpo
            clear hp0
            have HE := Lib.hid (show canonU t = .inl 2 by rw [HC.out]; exact rest_port _ r HS.out HPE.out hpo)
            go_wp2
            rw [HXZ.out]
            obtain ⟨Y, hY, hU, hkY, hbY⟩ := UB.put (show UB w.heap.size #[.slice none 0 0, .slice none 0 0, .int .i64 0, .slice none 0 0, .slice none 0 0, .slice none 0 0, .bool false, .bool false] _ from U_Z) (.slice none 0 0) (.slice none 0 0) (.int .i64 0) (.slice none 0 0) (.slice none 0 0) (.slice none 0 0) (.bool false) (.bool false)
            rw [hY]
            (try simp only [Exit.inBlock, Exit.then])
            refine bodyPost_ret (ret_url2 rfl _ _ w.heap.size _ rfl hU rfl) rfl ?_
            rw [HE.out]
            exact ⟨by decide, rfl, B_Z.trans (hbY _ (Nat.le_refl _))⟩
          have e0 : (((own : Int)) == 0) = false := by rw [beq_eq_false_iff_ne]; exact hp0
          have hpo : portC (Ref.lowL s) (atSnd 58 (srvL r)) (atOk 58 (srvL r)) ≠ 0 := by rw [HPO.out]; exact hp0
          cases hpp : pathL (pthL r) with
          | none =>
            obtain rfl : ep = 2 := by have := HEP.out; rw [hpp] at this; exact this
            have hpp2 := Lib.hid hpp
            clear hpp
            have HE := Lib.hid (show canonU t = .inl 2 by rw [HC.out]; exact rest_path _ r HS.out HPE.out hpp2.out)
            go_wp2
            rw [HXZ.out]
            obtain ⟨Y, hY, hU, hkY, hbY⟩ := UB.put (show UB w.heap.size #[.slice none 0 0, .slice none 0 0, .int .i64 0, .slice none 0 0, .slice none 0 0, .slice none 0 0, .bool false, .bool false] _ from U_Z) (.slice none 0 0) (.slice none 0 0) (.int .i64 0) (.slice none 0 0) (.slice none 0 0) (.slice none 0 0) (.bool false) (.bool false)
            rw [hY]
            (try simp only [Exit.inBlock, Exit.then])
            refine bodyPost_ret (ret_url2 rfl _ _ w.heap.size _ rfl hU rfl) rfl ?_
            rw [HE.out]
            exact ⟨by decide, rfl, B_Z.trans (hbY _ (Nat.le_refl _))⟩
          | some pp =>
            obtain rfl : ep = 0 := by have := HEP.out; rw [hpp] at this; exact this
            have h3 : optC (atOk 63 (atFst 35 r)) (atSnd 63 (atFst 35 r)) = some [] := by rw [Hbq.out]; rfl
            have h4 : optC (atOk 35 r) (atSnd 35 r) = some [] := by rw [Hbf.out]; rfl
            obtain ⟨pn, hpn, hrg⟩ := rest_good _ r HS.out HPE.out pp [] [] hpo hpp h3 h4
            rw [Hbq.out, Hbf.out] at hrg
            have hpn2 : (own : Int) = (pn : Int) := by rw [← HPO.out]; exact hpn
            have HE := Lib.hid (HC.out.trans hrg)
            have HPN := Lib.hid hpn2
            rw [hpp] at GP_Z
            clear hpo hrg hpn hpn2 h3 h4 hpp  hp0
            go_wp2
            rw [HXZ.out]
            obtain ⟨Y, hY, hU, hkY, hbY⟩ := UB.put (show UB w.heap.size #[.slice none 0 0, .slice none 0 0, .int .i64 0, .slice none 0 0, .slice none 0 0, .slice none 0 0, .bool false, .bool false] _ from U_Z) (.slice qL k cL) (.slice qH nH cH) (.int .i64 own) (.slice qW nW cW) (.slice none 0 0) (.slice none 0 0) (.bool false) (.bool false)
            rw [hY]
            (try simp only [Exit.inBlock, Exit.then])
            refine bodyPost_ret (ret_url2 rfl _ _ w.heap.size _ rfl hU rfl) rfl ?_
            rw [HE.out]
            refine ⟨_, rfl, ⟨qL, k, cL, qH, nH, cH, qW, nW, cW, none, 0, 0, none, 0, 0, by rw [HPN.out], L_Z.away U_Z nbz hkY, H_Z.away U_Z nbz hkY, GP_Z.away U_Z nbz hkY, by_nil _, by_nil _⟩, B_Z.trans (hbY _ (Nat.le_refl _))⟩
        | true =>
          have yb := W_C.box
          have yc3 := yb 3 _ rfl
          have yf3 := W_C.frozen 3
          clear yb
          go_wp2_with fail
          clear yc3 yf3
          obtain ⟨XF, hXF⟩ : ∃ Z, XC.setCell ⟨b18, 3, none⟩ (.slice qW nW cW) = Z := ⟨_, rfl⟩
          rw [hXF]
          have B_F : Below w.heap.size w XF := by rw [← hXF]; exact B_C.setCell (p := ⟨b18, 3, none⟩) hle _
          have U_F : UB w.heap.size zeroU XF := by rw [← hXF]; exact U_C.other hne _
          have F_F := By.set (i := 3) (u := .slice qW nW cW) F_C W_C (nb8 ⟨_, _, _, rfl⟩ ⟨_, _, _, rfl⟩ ⟨_, _, _, rfl⟩ ⟨_, _, _, rfl⟩ ⟨_, _, _, rfl⟩)
          rw [hXF] at F_F
          have H_F := By.set (i := 3) (u := .slice qW nW cW) H_C W_C (nb8 ⟨_, _, _, rfl⟩ ⟨_, _, _, rfl⟩ ⟨_, _, _, rfl⟩ ⟨_, _, _, rfl⟩ ⟨_, _, _, rfl⟩)
          rw [hXF] at H_F
          have L_F := By.set (i := 3) (u := .slice qW nW cW) L_C W_C (nb8 ⟨_, _, _, rfl⟩ ⟨_, _, _, rfl⟩ ⟨_, _, _, rfl⟩ ⟨_, _, _, rfl⟩ ⟨_, _, _, rfl⟩)
          rw [hXF] at L_F
          have GP_F := By.set (i := 3) (u := .slice qW nW cW) GP_C W_C (nb8 ⟨_, _, _, rfl⟩ ⟨_, _, _, rfl⟩ ⟨_, _, _, rfl⟩ ⟨_, _, _, rfl⟩ ⟨_, _, _, rfl⟩)
          rw [hXF] at GP_F
          have W_F : UB b18 #[.slice qL k cL, .slice qH nH cH, .int .i64 own, .slice qW nW cW, .slice none 0 0, .slice none 0 0, .bool false, .bool true] XF := by rw [← hXF]; exact (W_C.set8 (.slice qW nW cW)).2.1
          clear GP_C W_C L_C H_C F_C U_C B_C
          clear hXF
          have con := Pct.Canon_any qF nF cF (atSnd 35 r) 2 XF F_F.at.1 (by omega) F_F.at.2.2.2.2
          refine con.mono ?_
          rintro e XG ⟨vZ, ef, rfl, hef, hr, hb⟩
          have HEF : Hid (ef = if (formL 2 (atSnd 35 r)).isSome then 0 else 2) := hef
          replace hr : XG.ownsRow XF.heap.size 5 1 vZ ((formL 2 (atSnd 35 r)).getD []).length (byV ((formL 2 (atSnd 35 r)).getD [])) := hr
          obtain ⟨nZ, hnZ⟩ : ∃ n, ((formL 2 (atSnd 35 r)).getD []).length = n := ⟨_, rfl⟩
          rw [hnZ] at hr
          obtain ⟨qZ, cZ, rfl, _, _, _, _, _⟩ := row_open hr
          have GF_G := By.row hr
          clear con hr hnZ hef
          have B_G := B_F.trans (hb.mono B_F.size)
          have U_G := U_F.on hb
          have F_G := F_F.on hb
          have H_G := H_F.on hb
          have L_G := L_F.on hb
          have W_G := W_F.on hb
          have GP_G := GP_F.on hb
          clear GP_F W_F L_F H_F F_F U_F B_F hb
          clear F_G
          have yb := W_G.box
          have yc0 := yb 0 _ rfl
          have yf0 := W_G.frozen 0
          have yc1 := yb 1 _ rfl
          have yf1 := W_G.frozen 1
          have yc2 := yb 2 _ rfl
          have yf2 := W_G.frozen 2
          have yc3 := yb 3 _ rfl
          have yf3 := W_G.frozen 3
          have yc4 := yb 4 _ rfl
          have yf4 := W_G.frozen 4
          have yc5 := yb 5 _ rfl
          have yf5 := W_G.frozen 5
          have yc6 := yb 6 _ rfl
          have yf6 := W_G.frozen 6
          have yc7 := yb 7 _ rfl
          have yf7 := W_G.frozen 7
          clear yb
          have zb := U_G.box
          have zc0 := zb 0 _ rfl
          have zf0 := U_G.frozen 0
          have zc1 := zb 1 _ rfl
          have zf1 := U_G.frozen 1
          have zc2 := zb 2 _ rfl
          have zf2 := U_G.frozen 2
          have zc3 := zb 3 _ rfl
          have zf3 := U_G.frozen 3
          have zc4 := zb 4 _ rfl
          have zf4 := U_G.frozen 4
          have zc5 := zb 5 _ rfl
          have zf5 := U_G.frozen 5
          have zc6 := zb 6 _ rfl
          have zf6 := U_G.frozen 6
          have zc7 := zb 7 _ rfl
          have zf7 := U_G.frozen 7
          clear zb
          obtain ⟨XZ, hXZ⟩ : ∃ Z, XG.setCell ⟨b18, 5, none⟩ (.slice qZ nZ cZ) = Z := ⟨_, rfl⟩
          have B_Z : Below w.heap.size w XZ := by rw [← hXZ]; exact B_G.setCell (p := ⟨b18, 5, none⟩) hle _
          have U_Z : UB w.heap.size zeroU XZ := by rw [← hXZ]; exact U_G.other hne _
          have H_Z := By.set (i := 5) (u := .slice qZ nZ cZ) H_G W_G (nb8 ⟨_, _, _, rfl⟩ ⟨_, _, _, rfl⟩ ⟨_, _, _, rfl⟩ ⟨_, _, _, rfl⟩ ⟨_, _, _, rfl⟩)
          rw [hXZ] at H_Z
          have L_Z := By.set (i := 5) (u := .slice qZ nZ cZ) L_G W_G (nb8 ⟨_, _, _, rfl⟩ ⟨_, _, _, rfl⟩ ⟨_, _, _, rfl⟩ ⟨_, _, _, rfl⟩ ⟨_, _, _, rfl⟩)
          rw [hXZ] at L_Z
          have GP_Z := By.set (i := 5) (u := .slice qZ nZ cZ) GP_G W_G (nb8 ⟨_, _, _, rfl⟩ ⟨_, _, _, rfl⟩ ⟨_, _, _, rfl⟩ ⟨_, _, _, rfl⟩ ⟨_, _, _, rfl⟩)
          rw [hXZ] at GP_Z
          have GF_Z := By.set (i := 5) (u := .slice qZ nZ cZ) GF_G W_G (nb8 ⟨_, _, _, rfl⟩ ⟨_, _, _, rfl⟩ ⟨_, _, _, rfl⟩ ⟨_, _, _, rfl⟩ ⟨_, _, _, rfl⟩)
          rw [hXZ] at GF_Z
          have W_Z : UB b18 #[.slice qL k cL, .slice qH nH cH, .int .i64 own, .slice qW nW cW, .slice none 0 0, .slice qZ nZ cZ, .bool false, .bool true] XZ := by rw [← hXZ]; exact (W_G.set8 (.slice qZ nZ cZ)).2.2.2
          clear GF_G GP_G W_G L_G H_G U_G B_G
          have HXZ := Lib.hid hXZ
          clear hXZ
          by_cases hp0 : (own : Int) = 0
          case pos =>
            have e0 : (((own : Int)) == 0) = true := by rw [beq_iff_eq]; exact hp0
            have hpo := HPO.out
            rw [hp0] at hpo
            clear hp0
            have HE := Lib.hid (show canonU t = .inl 2 by rw [HC.out]; exact rest_port _ r HS.out HPE.out hpo)
            go_wp2
            rw [HXZ.out]
            obtain ⟨Y, hY, hU, hkY, hbY⟩ := UB.put (show UB w.heap.size #[.slice none 0 0, .slice none 0 0, .int .i64 0, .slice none 0 0, .slice none 0 0, .slice none 0 0, .bool false, .bool false] _ from U_Z) (.slice none 0 0) (.slice none 0 0) (.int .i64 0) (.slice none 0 0) (.slice none 0 0) (.slice none 0 0) (.bool false) (.bool false)
            rw [hY]
            (try simp only [Exit.inBlock, Exit.then])
            refine bodyPost_ret (ret_url2 rfl _ _ w.heap.size _ rfl hU rfl) rfl ?_
            rw [HE.out]
            exact ⟨by decide, rfl, B_Z.trans (hbY _ (Nat.le_refl _))⟩
          have e0 : (((own : Int)) == 0) = false := by rw [beq_eq_false_iff_ne]; exact hp0
          have hpo : portC (Ref.lowL s) (atSnd 58 (srvL r)) (atOk 58 (srvL r)) ≠ 0 := by rw [HPO.out]; exact hp0
          cases hpp : pathL (pthL r) with
          | none =>
            obtain rfl : ep = 2 := by have := HEP.out; rw [hpp] at this; exact this
            have hpp2 := Lib.hid hpp
            clear hpp
            have HE := Lib.hid (show canonU t = .inl 2 by rw [HC.out]; exact rest_path _ r HS.out HPE.out hpp2.out)
            go_wp2
            rw [HXZ.out]
            obtain ⟨Y, hY, hU, hkY, hbY⟩ := UB.put (show UB w.heap.size #[.slice none 0 0, .slice none 0 0, .int .i64 0, .slice none 0 0, .slice none 0 0, .slice none 0 0, .bool false, .bool false] _ from U_Z) (.slice none 0 0) (.slice none 0 0) (.int .i64 0) (.slice none 0 0) (.slice none 0 0) (.slice none 0 0) (.bool false) (.bool false)
            rw [hY]
            (try simp only [Exit.inBlock, Exit.then])
            refine bodyPost_ret (ret_url2 rfl _ _ w.heap.size _ rfl hU rfl) rfl ?_
            rw [HE.out]
            exact ⟨by decide, rfl, B_Z.trans (hbY _ (Nat.le_refl _))⟩
          | some pp =>
            obtain rfl : ep = 0 := by have := HEP.out; rw [hpp] at this; exact this
            cases hff : formL 2 (atSnd 35 r) with
            | none =>
              obtain rfl : ef = 2 := by have := HEF.out; rw [hff] at this; exact this
              have h4 := Lib.hid (show optC (atOk 35 r) (atSnd 35 r) = none by rw [Hbf.out]; exact hff)
              clear hff hpp
              have HE := Lib.hid (show canonU t = .inl 2 by rw [HC.out]; exact rest_frag _ r HS.out HPE.out h4.out)
              go_wp2
              rw [HXZ.out]
              obtain ⟨Y, hY, hU, hkY, hbY⟩ := UB.put (show UB w.heap.size #[.slice none 0 0, .slice none 0 0, .int .i64 0, .slice none 0 0, .slice none 0 0, .slice none 0 0, .bool false, .bool false] _ from U_Z) (.slice none 0 0) (.slice none 0 0) (.int .i64 0) (.slice none 0 0) (.slice none 0 0) (.slice none 0 0) (.bool false) (.bool false)
              rw [hY]
              (try simp only [Exit.inBlock, Exit.then])
              refine bodyPost_ret (ret_url2 rfl _ _ w.heap.size _ rfl hU rfl) rfl ?_
              rw [HE.out]
              exact ⟨by decide, rfl, B_Z.trans (hbY _ (Nat.le_refl _))⟩
            | some ff =>
              obtain rfl : ef = 0 := by have := HEF.out; rw [hff] at this; exact this
              have h3 : optC (atOk 63 (atFst 35 r)) (atSnd 63 (atFst 35 r)) = some [] := by rw [Hbq.out]; rfl
              have h4 : optC (atOk 35 r) (atSnd 35 r) = some ff := by rw [Hbf.out]; exact hff
              obtain ⟨pn, hpn, hrg⟩ := rest_good _ r HS.out HPE.out pp [] ff hpo hpp h3 h4
              rw [Hbq.out, Hbf.out] at hrg
              have hpn2 : (own : Int) = (pn : Int) := by rw [← HPO.out]; exact hpn
              have HE := Lib.hid (HC.out.trans hrg)
              have HPN := Lib.hid hpn2
              rw [hpp] at GP_Z
              rw [hff] at GF_Z
              clear hpo hrg hpn hpn2 h3 h4 hpp hff hp0
              go_wp2
              rw [HXZ.out]
              obtain ⟨Y, hY, hU, hkY, hbY⟩ := UB.put (show UB w.heap.size #[.slice none 0 0, .slice none 0 0, .int .i64 0, .slice none 0 0, .slice none 0 0, .slice none 0 0, .bool false, .bool false] _ from U_Z) (.slice qL k cL) (.slice qH nH cH) (.int .i64 own) (.slice qW nW cW) (.slice none 0 0) (.slice qZ nZ cZ) (.bool false) (.bool true)
              rw [hY]
              (try simp only [Exit.inBlock, Exit.then])
              refine bodyPost_ret (ret_url2 rfl _ _ w.heap.size _ rfl hU rfl) rfl ?_
              rw [HE.out]
              refine ⟨_, rfl, ⟨qL, k, cL, qH, nH, cH, qW, nW, cW, none, 0, 0, qZ, nZ, cZ, by rw [HPN.out], L_Z.away U_Z nbz hkY, H_Z.away U_Z nbz hkY, GP_Z.away U_Z nbz hkY, by_nil _, GF_Z.away U_Z nbz hkY⟩, B_Z.trans (hbY _ (Nat.le_refl _))⟩
      | true =>
        have yb := W_C.box
        have yc3 := yb 3 _ rfl
        have yf3 := W_C.frozen 3
        clear yb
        go_wp2_with fail
        clear yc3 yf3
        obtain ⟨XD, hXD⟩ : ∃ Z, XC.setCell ⟨b18, 3, none⟩ (.slice qW nW cW) = Z := ⟨_, rfl⟩
        rw [hXD]
        have B_D : Below w.heap.size w XD := by rw [← hXD]; exact B_C.setCell (p := ⟨b18, 3, none⟩) hle _
        have U_D : UB w.heap.size zeroU XD := by rw [← hXD]; exact U_C.other hne _
        have F_D := By.set (i := 3) (u := .slice qW nW cW) F_C W_C (nb8 ⟨_, _, _, rfl⟩ ⟨_, _, _, rfl⟩ ⟨_, _, _, rfl⟩ ⟨_, _, _, rfl⟩ ⟨_, _, _, rfl⟩)
        rw [hXD] at F_D
        have Q_D := By.set (i := 3) (u := .slice qW nW cW) Q_C W_C (nb8 ⟨_, _, _, rfl⟩ ⟨_, _, _, rfl⟩ ⟨_, _, _, rfl⟩ ⟨_, _, _, rfl⟩ ⟨_, _, _, rfl⟩)
        rw [hXD] at Q_D
        have H_D := By.set (i := 3) (u := .slice qW nW cW) H_C W_C (nb8 ⟨_, _, _, rfl⟩ ⟨_, _, _, rfl⟩ ⟨_, _, _, rfl⟩ ⟨_, _, _, rfl⟩ ⟨_, _, _, rfl⟩)
        rw [hXD] at H_D
        have L_D := By.set (i := 3) (u := .slice qW nW cW) L_C W_C (nb8 ⟨_, _, _, rfl⟩ ⟨_, _, _, rfl⟩ ⟨_, _, _, rfl⟩ ⟨_, _, _, rfl⟩ ⟨_, _, _, rfl⟩)
        rw [hXD] at L_D
        have GP_D := By.set (i := 3) (u := .slice qW nW cW) GP_C W_C (nb8 ⟨_, _, _, rfl⟩ ⟨_, _, _, rfl⟩ ⟨_, _, _, rfl⟩ ⟨_, _, _, rfl⟩ ⟨_, _, _, rfl⟩)
        rw [hXD] at GP_D
        have W_D : UB b18 #[.slice qL k cL, .slice qH nH cH, .int .i64 own, .slice qW nW cW, .slice none 0 0, .slice none 0 0, .bool true, .bool bf] XD := by rw [← hXD]; exact (W_C.set8 (.slice qW nW cW)).2.1
        clear GP_C W_C L_C H_C Q_C F_C U_C B_C
        clear hXD
        have con := Pct.Canon_any qQ nQ cQ (atSnd 63 (atFst 35 r)) 2 XD Q_D.at.1 (by omega) Q_D.at.2.2.2.2
        refine con.mono ?_
        rintro e XE ⟨vY, eq, rfl, heq, hr, hb⟩
        have HEQ : Hid (eq = if (formL 2 (atSnd 63 (atFst 35 r))).isSome then 0 else 2) := heq
        replace hr : XE.ownsRow XD.heap.size 5 1 vY ((formL 2 (atSnd 63 (atFst 35 r))).getD []).length (byV ((formL 2 (atSnd 63 (atFst 35 r))).getD [])) := hr
        obtain ⟨nY, hnY⟩ : ∃ n, ((formL 2 (atSnd 63 (atFst 35 r))).getD []).length = n := ⟨_, rfl⟩
        rw [hnY] at hr
        obtain ⟨qY, cY, rfl, _, _, _, _, _⟩ := row_open hr
        have GQ_E := By.row hr
        clear con hr hnY heq
        have B_E := B_D.trans (hb.mono B_D.size)
        have U_E := U_D.on hb
        have F_E := F_D.on hb
        have Q_E := Q_D.on hb
        have H_E := H_D.on hb
        have L_E := L_D.on hb
        have W_E := W_D.on hb
        have GP_E := GP_D.on hb
        clear GP_D W_D L_D H_D Q_D F_D U_D B_D hb
        clear Q_E
        cases bf with
        | false =>
          clear F_E
          have yb := W_E.box
          have yc0 := yb 0 _ rfl
          have yf0 := W_E.frozen 0
          have yc1 := yb 1 _ rfl
          have yf1 := W_E.frozen 1
          have yc2 := yb 2 _ rfl
          have yf2 := W_E.frozen 2
          have yc3 := yb 3 _ rfl
          have yf3 := W_E.frozen 3
          have yc4 := yb 4 _ rfl
          have yf4 := W_E.frozen 4
          have yc5 := yb 5 _ rfl
          have yf5 := W_E.frozen 5
          have yc6 := yb 6 _ rfl
          have yf6 := W_E.frozen 6
          have yc7 := yb 7 _ rfl
          have yf7 := W_E.frozen 7
          clear yb
          have zb := U_E.box
          have zc0 := zb 0 _ rfl
          have zf0 := U_E.frozen 0
          have zc1 := zb 1 _ rfl
          have zf1 := U_E.frozen 1
          have zc2 := zb 2 _ rfl
          have zf2 := U_E.frozen 2
          have zc3 := zb 3 _ rfl
          have zf3 := U_E.frozen 3
          have zc4 := zb 4 _ rfl
          have zf4 := U_E.frozen 4
          have zc5 := zb 5 _ rfl
          have zf5 := U_E.frozen 5
          have zc6 := zb 6 _ rfl
          have zf6 := U_E.frozen 6
          have zc7 := zb 7 _ rfl
          have zf7 := U_E.frozen 7
          clear zb
          obtain ⟨XZ, hXZ⟩ : ∃ Z, XE.setCell ⟨b18, 4, none⟩ (.slice qY nY cY) = Z := ⟨_, rfl⟩
          have B_Z : Below w.heap.size w XZ := by rw [← hXZ]; exact B_E.setCell (p := ⟨b18, 4, none⟩) hle _
          have U_Z : UB w.heap.size zeroU XZ := by rw [← hXZ]; exact U_E.other hne _
          have H_Z := By.set (i := 4) (u := .slice qY nY cY) H_E W_E (nb8 ⟨_, _, _, rfl⟩ ⟨_, _, _, rfl⟩ ⟨_, _, _, rfl⟩ ⟨_, _, _, rfl⟩ ⟨_, _, _, rfl⟩)
          rw [hXZ] at H_Z
          have L_Z := By.set (i := 4) (u := .slice qY nY cY) L_E W_E (nb8 ⟨_, _, _, rfl⟩ ⟨_, _, _, rfl⟩ ⟨_, _, _, rfl⟩ ⟨_, _, _, rfl⟩ ⟨_, _, _, rfl⟩)
          rw [hXZ] at L_Z
          have GP_Z := By.set (i := 4) (u := .slice qY nY cY) GP_E W_E (nb8 ⟨_, _, _, rfl⟩ ⟨_, _, _, rfl⟩ ⟨_, _, _, rfl⟩ ⟨_, _, _, rfl⟩ ⟨_, _, _, rfl⟩)
          rw [hXZ] at GP_Z
          have GQ_Z := By.set (i := 4) (u := .slice qY nY cY) GQ_E W_E (nb8 ⟨_, _, _, rfl⟩ ⟨_, _, _, rfl⟩ ⟨_, _, _, rfl⟩ ⟨_, _, _, rfl⟩ ⟨_, _, _, rfl⟩)
          rw [hXZ] at GQ_Z
          have W_Z : UB b18 #[.slice qL k cL, .slice qH nH cH, .int .i64 own, .slice qW nW cW, .slice qY nY cY, .slice none 0 0, .bool true, .bool false] XZ := by rw [← hXZ]; exact (W_E.set8 (.slice qY nY cY)).2.2.1
          clear GQ_E GP_E W_E L_E H_E U_E B_E
          have HXZ := Lib.hid hXZ
          clear hXZ
          by_cases hp0 : (own : Int) = 0
          case pos =>
            have e0 : (((own : Int)) == 0) = true := by rw [beq_iff_eq]; exact hp0
            have hpo := HPO.out
            rw [hp0] at hpo
            clear hp0
            have HE := Lib.hid (show canonU t = .inl 2 by rw [HC.out]; exact rest_port _ r HS.out HPE.out hpo)
            go_wp2
            rw [HXZ.out]
            obtain ⟨Y, hY, hU, hkY, hbY⟩ := UB.put (show UB w.heap.size #[.slice none 0 0, .slice none 0 0, .int .i64 0, .slice none 0 0, .slice none 0 0, .slice none 0 0, .bool false, .bool false] _ from U_Z) (.slice none 0 0) (.slice none 0 0) (.int .i64 0) (.slice none 0 0) (.slice none 0 0) (.slice none 0 0) (.bool false) (.bool false)
            rw [hY]
            (try simp only [Exit.inBlock, Exit.then])
            refine bodyPost_ret (ret_url2 rfl _ _ w.heap.size _ rfl hU rfl) rfl ?_
            rw [HE.out]
            exact ⟨by decide, rfl, B_Z.trans (hbY _ (Nat.le_refl _))⟩
          have e0 : (((own : Int)) == 0) = false := by rw [beq_eq_false_iff_ne]; exact hp0
          have hpo : portC (Ref.lowL s) (atSnd 58 (srvL r)) (atOk 58 (srvL r)) ≠ 0 := by rw [HPO.out]; exact hp0
          cases hpp : pathL (pthL r) with
          | none =>
            obtain rfl : ep = 2 := by have := HEP.out; rw [hpp] at this; exact this
            have hpp2 := Lib.hid hpp
            clear hpp
            have HE := Lib.hid (show canonU t = .inl 2 by rw [HC.out]; exact rest_path _ r HS.out HPE.out hpp2.out)
            go_wp2
            rw [HXZ.out]
            obtain ⟨Y, hY, hU, hkY, hbY⟩ := UB.put (show UB w.heap.size #[.slice none 0 0, .slice none 0 0, .int .i64 0, .slice none 0 0, .slice none 0 0, .slice none 0 0, .bool false, .bool false] _ from U_Z) (.slice none 0 0) (.slice none 0 0) (.int .i64 0) (.slice none 0 0) (.slice none 0 0) (.slice none 0 0) (.bool false) (.bool false)
            rw [hY]
            (try simp only [Exit.inBlock, Exit.then])
            refine bodyPost_ret (ret_url2 rfl _ _ w.heap.size _ rfl hU rfl) rfl ?_
            rw [HE.out]
            exact ⟨by decide, rfl, B_Z.trans (hbY _ (Nat.le_refl _))⟩
          | some pp =>
            obtain rfl : ep = 0 := by have := HEP.out; rw [hpp] at this; exact this
            cases hqq : formL 2 (atSnd 63 (atFst 35 r)) with
            | none =>
              obtain rfl : eq = 2 := by have := HEQ.out; rw [hqq] at this; exact this
              have h3 := Lib.hid (show optC (atOk 63 (atFst 35 r)) (atSnd 63 (atFst 35 r)) = none by rw [Hbq.out]; exact hqq)
              clear hqq hpp
              have HE := Lib.hid (show canonU t = .inl 2 by rw [HC.out]; exact rest_query _ r HS.out HPE.out h3.out)
              go_wp2
              rw [HXZ.out]
              obtain ⟨Y, hY, hU, hkY, hbY⟩ := UB.put (show UB w.heap.size #[.slice none 0 0, .slice none 0 0, .int .i64 0, .slice none 0 0, .slice none 0 0, .slice none 0 0, .bool false, .bool false] _ from U_Z) (.slice none 0 0) (.slice none 0 0) (.int .i64 0) (.slice none 0 0) (.slice none 0 0) (.slice none 0 0) (.bool false) (.bool false)
              rw [hY]
              (try simp only [Exit.inBlock, Exit.then])
              refine bodyPost_ret (ret_url2 rfl _ _ w.heap.size _ rfl hU rfl) rfl ?_
              rw [HE.out]
              exact ⟨by decide, rfl, B_Z.trans (hbY _ (Nat.le_refl _))⟩
            | some qq =>
              obtain rfl : eq = 0 := by have := HEQ.out; rw [hqq] at this; exact this
              have h3 : optC (atOk 63 (atFst 35 r)) (atSnd 63 (atFst 35 r)) = some qq := by rw [Hbq.out]; exact hqq
              have h4 : optC (atOk 35 r) (atSnd 35 r) = some [] := by rw [Hbf.out]; rfl
              obtain ⟨pn, hpn, hrg⟩ := rest_good _ r HS.out HPE.out pp qq [] hpo hpp h3 h4
              rw [Hbq.out, Hbf.out] at hrg
              have hpn2 : (own : Int) = (pn : Int) := by rw [← HPO.out]; exact hpn
              have HE := Lib.hid (HC.out.trans hrg)
              have HPN := Lib.hid hpn2
              rw [hpp] at GP_Z
              rw [hqq] at GQ_Z
              clear hpo hrg hpn hpn2 h3 h4 hpp hqq  hp0
              go_wp2
              rw [HXZ.out]
              obtain ⟨Y, hY, hU, hkY, hbY⟩ := UB.put (show UB w.heap.size #[.slice none 0 0, .slice none 0 0, .int .i64 0, .slice none 0 0, .slice none 0 0, .slice none 0 0, .bool false, .bool false] _ from U_Z) (.slice qL k cL) (.slice qH nH cH) (.int .i64 own) (.slice qW nW cW) (.slice qY nY cY) (.slice none 0 0) (.bool true) (.bool false)
              rw [hY]
              (try simp only [Exit.inBlock, Exit.then])
              refine bodyPost_ret (ret_url2 rfl _ _ w.heap.size _ rfl hU rfl) rfl ?_
              rw [HE.out]
              refine ⟨_, rfl, ⟨qL, k, cL, qH, nH, cH, qW, nW, cW, qY, nY, cY, none, 0, 0, by rw [HPN.out], L_Z.away U_Z nbz hkY, H_Z.away U_Z nbz hkY, GP_Z.away U_Z nbz hkY, GQ_Z.away U_Z nbz hkY, by_nil _⟩, B_Z.trans (hbY _ (Nat.le_refl _))⟩
        | true =>
          have yb := W_E.box
          have yc4 := yb 4 _ rfl
          have yf4 := W_E.frozen 4
          clear yb
          go_wp2_with fail
          clear yc4 yf4
          obtain ⟨XF, hXF⟩ : ∃ Z, XE.setCell ⟨b18, 4, none⟩ (.slice qY nY cY) = Z := ⟨_, rfl⟩
          rw [hXF]
          have B_F : Below w.heap.size w XF := by rw [← hXF]; exact B_E.setCell (p := ⟨b18, 4, none⟩) hle _
          have U_F : UB w.heap.size zeroU XF := by rw [← hXF]; exact U_E.other hne _
          have F_F := By.set (i := 4) (u := .slice qY nY cY) F_E W_E (nb8 ⟨_, _, _, rfl⟩ ⟨_, _, _, rfl⟩ ⟨_, _, _, rfl⟩ ⟨_, _, _, rfl⟩ ⟨_, _, _, rfl⟩)
          rw [hXF] at F_F
          have H_F := By.set (i := 4) (u := .slice qY nY cY) H_E W_E (nb8 ⟨_, _, _, rfl⟩ ⟨_, _, _, rfl⟩ ⟨_, _, _, rfl⟩ ⟨_, _, _, rfl⟩ ⟨_, _, _, rfl⟩)
          rw [hXF] at H_F
          have L_F := By.set (i := 4) (u := .slice qY nY cY) L_E W_E (nb8 ⟨_, _, _, rfl⟩ ⟨_, _, _, rfl⟩ ⟨_, _, _, rfl⟩ ⟨_, _, _, rfl⟩ ⟨_, _, _, rfl⟩)
          rw [hXF] at L_F
          have GP_F := By.set (i := 4) (u := .slice qY nY cY) GP_E W_E (nb8 ⟨_, _, _, rfl⟩ ⟨_, _, _, rfl⟩ ⟨_, _, _, rfl⟩ ⟨_, _, _, rfl⟩ ⟨_, _, _, rfl⟩)
          rw [hXF] at GP_F
          have GQ_F := By.set (i := 4) (u := .slice qY nY cY) GQ_E W_E (nb8 ⟨_, _, _, rfl⟩ ⟨_, _, _, rfl⟩ ⟨_, _, _, rfl⟩ ⟨_, _, _, rfl⟩ ⟨_, _, _, rfl⟩)
          rw [hXF] at GQ_F
          have W_F : UB b18 #[.slice qL k cL, .slice qH nH cH, .int .i64 own, .slice qW nW cW, .slice qY nY cY, .slice none 0 0, .bool true, .bool true] XF := by rw [← hXF]; exact (W_E.set8 (.slice qY nY cY)).2.2.1
          clear GQ_E GP_E W_E L_E H_E F_E U_E B_E
          clear hXF
          have con := Pct.Canon_any qF nF cF (atSnd 35 r) 2 XF F_F.at.1 (by omega) F_F.at.2.2.2.2
          refine con.mono ?_
          rintro e XG ⟨vZ, ef, rfl, hef, hr, hb⟩
          have HEF : Hid (ef = if (formL 2 (atSnd 35 r)).isSome then 0 else 2) := hef
          replace hr : XG.ownsRow XF.heap.size 5 1 vZ ((formL 2 (atSnd 35 r)).getD []).length (byV ((formL 2 (atSnd 35 r)).getD [])) := hr
          obtain ⟨nZ, hnZ⟩ : ∃ n, ((formL 2 (atSnd 35 r)).getD []).length = n := ⟨_, rfl⟩
          rw [hnZ] at hr
          obtain ⟨qZ, cZ, rfl, _, _, _, _, _⟩ := row_open hr
          have GF_G := By.row hr
          clear con hr hnZ hef
          have B_G := B_F.trans (hb.mono B_F.size)
          have U_G := U_F.on hb
          have F_G := F_F.on hb
          have H_G := H_F.on hb
          have L_G := L_F.on hb
          have W_G := W_F.on hb
          have GP_G := GP_F.on hb
          have GQ_G := GQ_F.on hb
          clear GQ_F GP_F W_F L_F H_F F_F U_F B_F hb
          clear F_G
          have yb := W_G.box
          have yc0 := yb 0 _ rfl
          have yf0 := W_G.frozen 0
          have yc1 := yb 1 _ rfl
          have yf1 := W_G.frozen 1
          have yc2 := yb 2 _ rfl
          have yf2 := W_G.frozen 2
          have yc3 := yb 3 _ rfl
          have yf3 := W_G.frozen 3
          have yc4 := yb 4 _ rfl
          have yf4 := W_G.frozen 4
          have yc5 := yb 5 _ rfl
          have yf5 := W_G.frozen 5
          have yc6 := yb 6 _ rfl
          have yf6 := W_G.frozen 6
          have yc7 := yb 7 _ rfl
          have yf7 := W_G.frozen 7
          clear yb
          have zb := U_G.box
          have zc0 := zb 0 _ rfl
          have zf0 := U_G.frozen 0
          have zc1 := zb 1 _ rfl
          have zf1 := U_G.frozen 1
          have zc2 := zb 2 _ rfl
          have zf2 := U_G.frozen 2
          have zc3 := zb 3 _ rfl
          have zf3 := U_G.frozen 3
          have zc4 := zb 4 _ rfl
          have zf4 := U_G.frozen 4
          have zc5 := zb 5 _ rfl
          have zf5 := U_G.frozen 5
          have zc6 := zb 6 _ rfl
          have zf6 := U_G.frozen 6
          have zc7 := zb 7 _ rfl
          have zf7 := U_G.frozen 7
          clear zb
          obtain ⟨XZ, hXZ⟩ : ∃ Z, XG.setCell ⟨b18, 5, none⟩ (.slice qZ nZ cZ) = Z := ⟨_, rfl⟩
          have B_Z : Below w.heap.size w XZ := by rw [← hXZ]; exact B_G.setCell (p := ⟨b18, 5, none⟩) hle _
          have U_Z : UB w.heap.size zeroU XZ := by rw [← hXZ]; exact U_G.other hne _
          have H_Z := By.set (i := 5) (u := .slice qZ nZ cZ) H_G W_G (nb8 ⟨_, _, _, rfl⟩ ⟨_, _, _, rfl⟩ ⟨_, _, _, rfl⟩ ⟨_, _, _, rfl⟩ ⟨_, _, _, rfl⟩)
          rw [hXZ] at H_Z
          have L_Z := By.set (i := 5) (u := .slice qZ nZ cZ) L_G W_G (nb8 ⟨_, _, _, rfl⟩ ⟨_, _, _, rfl⟩ ⟨_, _, _, rfl⟩ ⟨_, _, _, rfl⟩ ⟨_, _, _, rfl⟩)
          rw [hXZ] at L_Z
          have GP_Z := By.set (i := 5) (u := .slice qZ nZ cZ) GP_G W_G (nb8 ⟨_, _, _, rfl⟩ ⟨_, _, _, rfl⟩ ⟨_, _, _, rfl⟩ ⟨_, _, _, rfl⟩ ⟨_, _, _, rfl⟩)
          rw [hXZ] at GP_Z
          have GQ_Z := By.set (i := 5) (u := .slice qZ nZ cZ) GQ_G W_G (nb8 ⟨_, _, _, rfl⟩ ⟨_, _, _, rfl⟩ ⟨_, _, _, rfl⟩ ⟨_, _, _, rfl⟩ ⟨_, _, _, rfl⟩)
          rw [hXZ] at GQ_Z
          have GF_Z := By.set (i := 5) (u := .slice qZ nZ cZ) GF_G W_G (nb8 ⟨_, _, _, rfl⟩ ⟨_, _, _, rfl⟩ ⟨_, _, _, rfl⟩ ⟨_, _, _, rfl⟩ ⟨_, _, _, rfl⟩)
          rw [hXZ] at GF_Z
          have W_Z : UB b18 #[.slice qL k cL, .slice qH nH cH, .int .i64 own, .slice qW nW cW, .slice qY nY cY, .slice qZ nZ cZ, .bool true, .bool true] XZ := by rw [← hXZ]; exact (W_G.set8 (.slice qZ nZ cZ)).2.2.2
          clear GF_G GQ_G GP_G W_G L_G H_G U_G B_G
          have HXZ := Lib.hid hXZ
          clear hXZ
          by_cases hp0 : (own : Int) = 0
          case pos =>
            have e0 : (((own : Int)) == 0) = true := by rw [beq_iff_eq]; exact hp0
            have hpo := HPO.out
            rw [hp0] at hpo
            clear hp0
            have HE := Lib.hid (show canonU t = .inl 2 by rw [HC.out]; exact rest_port _ r HS.out HPE.out hpo)
            go_wp2
            rw [HXZ.out]
            obtain ⟨Y, hY, hU, hkY, hbY⟩ := UB.put (show UB w.heap.size #[.slice none 0 0, .slice none 0 0, .int .i64 0, .slice none 0 0, .slice none 0 0, .slice none 0 0, .bool false, .bool false] _ from U_Z) (.slice none 0 0) (.slice none 0 0) (.int .i64 0) (.slice none 0 0) (.slice none 0 0) (.slice none 0 0) (.bool false) (.bool false)
            rw [hY]
            (try simp only [Exit.inBlock, Exit.then])
            refine bodyPost_ret (ret_url2 rfl _ _ w.heap.size _ rfl hU rfl) rfl ?_
            rw [HE.out]
            exact ⟨by decide, rfl, B_Z.trans (hbY _ (Nat.le_refl _))⟩
          have e0 : (((own : Int)) == 0) = false := by rw [beq_eq_false_iff_ne]; exact hp0
          have hpo : portC (Ref.lowL s) (atSnd 58 (srvL r)) (atOk 58 (srvL r)) ≠ 0 := by rw [HPO.out]; exact hp0
          cases hpp : pathL (pthL r) with
          | none =>
            obtain rfl : ep = 2 := by have := HEP.out; rw [hpp] at this; exact this
            have hpp2 := Lib.hid hpp
            clear hpp
            have HE := Lib.hid (show canonU t = .inl 2 by rw [HC.out]; exact rest_path _ r HS.out HPE.out hpp2.out)
            go_wp2
            rw [HXZ.out]
            obtain ⟨Y, hY, hU, hkY, hbY⟩ := UB.put (show UB w.heap.size #[.slice none 0 0, .slice none 0 0, .int .i64 0, .slice none 0 0, .slice none 0 0, .slice none 0 0, .bool false, .bool false] _ from U_Z) (.slice none 0 0) (.slice none 0 0) (.int .i64 0) (.slice none 0 0) (.slice none 0 0) (.slice none 0 0) (.bool false) (.bool false)
            rw [hY]
            (try simp only [Exit.inBlock, Exit.then])
            refine bodyPost_ret (ret_url2 rfl _ _ w.heap.size _ rfl hU rfl) rfl ?_
            rw [HE.out]
            exact ⟨by decide, rfl, B_Z.trans (hbY _ (Nat.le_refl _))⟩
          | some pp =>
            obtain rfl : ep = 0 := by have := HEP.out; rw [hpp] at this; exact this
            cases hqq : formL 2 (atSnd 63 (atFst 35 r)) with
            | none =>
              obtain rfl : eq = 2 := by have := HEQ.out; rw [hqq] at this; exact this
              have h3 := Lib.hid (show optC (atOk 63 (atFst 35 r)) (atSnd 63 (atFst 35 r)) = none by rw [Hbq.out]; exact hqq)
              clear hqq hpp
              have HE := Lib.hid (show canonU t = .inl 2 by rw [HC.out]; exact rest_query _ r HS.out HPE.out h3.out)
              go_wp2
              rw [HXZ.out]
              obtain ⟨Y, hY, hU, hkY, hbY⟩ := UB.put (show UB w.heap.size #[.slice none 0 0, .slice none 0 0, .int .i64 0, .slice none 0 0, .slice none 0 0, .slice none 0 0, .bool false, .bool false] _ from U_Z) (.slice none 0 0) (.slice none 0 0) (.int .i64 0) (.slice none 0 0) (.slice none 0 0) (.slice none 0 0) (.bool false) (.bool false)
              rw [hY]
              (try simp only [Exit.inBlock, Exit.then])
              refine bodyPost_ret (ret_url2 rfl _ _ w.heap.size _ rfl hU rfl) rfl ?_
              rw [HE.out]
              exact ⟨by decide, rfl, B_Z.trans (hbY _ (Nat.le_refl _))⟩
            | some qq =>
              obtain rfl : eq = 0 := by have := HEQ.out; rw [hqq] at this; exact this
              cases hff : formL 2 (atSnd 35 r) with
              | none =>
                obtain rfl : ef = 2 := by have := HEF.out; rw [hff] at this; exact this
                have h4 := Lib.hid (show optC (atOk 35 r) (atSnd 35 r) = none by rw [Hbf.out]; exact hff)
                clear hff hpp
                have HE := Lib.hid (show canonU t = .inl 2 by rw [HC.out]; exact rest_frag _ r HS.out HPE.out h4.out)
                go_wp2
                rw [HXZ.out]
                obtain ⟨Y, hY, hU, hkY, hbY⟩ := UB.put (show UB w.heap.size #[.slice none 0 0, .slice none 0 0, .int .i64 0, .slice none 0 0, .slice none 0 0, .slice none 0 0, .bool false, .bool false] _ from U_Z) (.slice none 0 0) (.slice none 0 0) (.int .i64 0) (.slice none 0 0) (.slice none 0 0) (.slice none 0 0) (.bool false) (.bool false)
                rw [hY]
                (try simp only [Exit.inBlock, Exit.then])
                refine bodyPost_ret (ret_url2 rfl _ _ w.heap.size _ rfl hU rfl) rfl ?_
                rw [HE.out]
                exact ⟨by decide, rfl, B_Z.trans (hbY _ (Nat.le_refl _))⟩
              | some ff =>
                obtain rfl : ef = 0 := by have := HEF.out; rw [hff] at this; exact this
                have h3 : optC (atOk 63 (atFst 35 r)) (atSnd 63 (atFst 35 r)) = some qq := by rw [Hbq.out]; exact hqq
                have h4 : optC (atOk 35 r) (atSnd 35 r) = some ff := by rw [Hbf.out]; exact hff
                obtain ⟨pn, hpn, hrg⟩ := rest_good _ r HS.out HPE.out pp qq ff hpo hpp h3 h4
                rw [Hbq.out, Hbf.out] at hrg
                have hpn2 : (own : Int) = (pn : Int) := by rw [← HPO.out]; exact hpn
                have HE := Lib.hid (HC.out.trans hrg)
                have HPN := Lib.hid hpn2
                rw [hpp] at GP_Z
                rw [hqq] at GQ_Z
                rw [hff] at GF_Z
                clear hpo hrg hpn hpn2 h3 h4 hpp hqq hff hp0
                go_wp2
                rw [HXZ.out]
                obtain ⟨Y, hY, hU, hkY, hbY⟩ := UB.put (show UB w.heap.size #[.slice none 0 0, .slice none 0 0, .int .i64 0, .slice none 0 0, .slice none 0 0, .slice none 0 0, .bool false, .bool false] _ from U_Z) (.slice qL k cL) (.slice qH nH cH) (.int .i64 own) (.slice qW nW cW) (.slice qY nY cY) (.slice qZ nZ cZ) (.bool true) (.bool true)
                rw [hY]
                (try simp only [Exit.inBlock, Exit.then])
                refine bodyPost_ret (ret_url2 rfl _ _ w.heap.size _ rfl hU rfl) rfl ?_
                rw [HE.out]
                refine ⟨_, rfl, ⟨qL, k, cL, qH, nH, cH, qW, nW, cW, qY, nY, cY, qZ, nZ, cZ, by rw [HPN.out], L_Z.away U_Z nbz hkY, H_Z.away U_Z nbz hkY, GP_Z.away U_Z nbz hkY, GQ_Z.away U_Z nbz hkY, GF_Z.away U_Z nbz hkY⟩, B_Z.trans (hbY _ (Nat.le_refl _))⟩
    | true =>
      have con := Number_any qD nD cD (atSnd 58 (srvL r)) 65535 XA D_A.at.1 (by omega) D_A.at.2.2.2.2 (by decide) (by decide)
      obtain ⟨pv, hpv⟩ : ∃ p, (numOf 65535 (atSnd 58 (srvL r))).getD 0 = p := ⟨_, rfl⟩
      have HPO := Lib.hid (show portC (Ref.lowL s) (atSnd 58 (srvL r)) (atOk 58 (srvL r)) = pv by rw [Hbp.out, ← hpv]; rfl)
      unfold numV at con
      rw [hpv] at con
      generalize (numOf 65535 (atSnd 58 (srvL r))).isSome = ps at con
      clear hpv
      go_wp2_with fail
      rw [HB18.out, HXA.out]
      refine con.mono ?_
      rintro e XB ⟨rfl, rfl⟩
      clear con
      clear D_A
      have yb := W_A.box
      have yc2 := yb 2 _ rfl
      have yf2 := W_A.frozen 2
      clear yb
      go_wp2_with fail
      clear yc2 yf2
      obtain ⟨XB, hXB⟩ : ∃ Z, XA.setCell ⟨b18, 2, none⟩ (.int .i64 pv) = Z := ⟨_, rfl⟩
      rw [hXB]
      have B_B : Below w.heap.size w XB := by rw [← hXB]; exact B_A.setCell (p := ⟨b18, 2, none⟩) hle _
      have U_B : UB w.heap.size zeroU XB := by rw [← hXB]; exact U_A.other hne _
      have F_B := By.set (i := 2) (u := .int .i64 pv) F_A W_A (nb8 ⟨_, _, _, rfl⟩ ⟨_, _, _, rfl⟩ ⟨_, _, _, rfl⟩ ⟨_, _, _, rfl⟩ ⟨_, _, _, rfl⟩)
      rw [hXB] at F_B
      have Q_B := By.set (i := 2) (u := .int .i64 pv) Q_A W_A (nb8 ⟨_, _, _, rfl⟩ ⟨_, _, _, rfl⟩ ⟨_, _, _, rfl⟩ ⟨_, _, _, rfl⟩ ⟨_, _, _, rfl⟩)
      rw [hXB] at Q_B
      have P_B := By.set (i := 2) (u := .int .i64 pv) P_A W_A (nb8 ⟨_, _, _, rfl⟩ ⟨_, _, _, rfl⟩ ⟨_, _, _, rfl⟩ ⟨_, _, _, rfl⟩ ⟨_, _, _, rfl⟩)
      rw [hXB] at P_B
      have H_B := By.set (i := 2) (u := .int .i64 pv) H_A W_A (nb8 ⟨_, _, _, rfl⟩ ⟨_, _, _, rfl⟩ ⟨_, _, _, rfl⟩ ⟨_, _, _, rfl⟩ ⟨_, _, _, rfl⟩)
      rw [hXB] at H_B
      have L_B := By.set (i := 2) (u := .int .i64 pv) L_A W_A (nb8 ⟨_, _, _, rfl⟩ ⟨_, _, _, rfl⟩ ⟨_, _, _, rfl⟩ ⟨_, _, _, rfl⟩ ⟨_, _, _, rfl⟩)
      rw [hXB] at L_B
      have W_B : UB b18 #[.slice qL k cL, .slice qH nH cH, .int .i64 pv, .slice none 0 0, .slice none 0 0, .slice none 0 0, .bool bq, .bool bf] XB := by rw [← hXB]; exact (W_A.set8 (.int .i64 pv)).1
      clear W_A L_A H_A P_A Q_A F_A U_A B_A
      clear hXB
      have con := canonOfPath_any qP nP cP (pthL r) XB P_B (by omega) HPF.out
      refine con.mono ?_
      rintro e XC ⟨vW, ep, rfl, hep, hr, hb⟩
      have HEP : Hid (ep = if (pathL (pthL r)).isSome then 0 else 2) := hep
      replace hr : XC.ownsRow XB.heap.size 5 1 vW ((pathL (pthL r)).getD []).length (byV ((pathL (pthL r)).getD [])) := hr
      obtain ⟨nW, hnW⟩ : ∃ n, ((pathL (pthL r)).getD []).length = n := ⟨_, rfl⟩
      rw [hnW] at hr
      obtain ⟨qW, cW, rfl, _, _, _, _, _⟩ := row_open hr
      have GP_C := By.row hr
      clear con hr hnW hep
      have B_C := B_B.trans (hb.mono B_B.size)
      have U_C := U_B.on hb
      have F_C := F_B.on hb
      have Q_C := Q_B.on hb
      have P_C := P_B.on hb
      have H_C := H_B.on hb
      have L_C := L_B.on hb
      have W_C := W_B.on hb
      clear W_B L_B H_B P_B Q_B F_B U_B B_B hb
      clear P_C
      cases bq with
      | false =>
        clear Q_C
        cases bf with
        | false =>
          clear F_C
          have yb := W_C.box
          have yc0 := yb 0 _ rfl
          have yf0 := W_C.frozen 0
          have yc1 := yb 1 _ rfl
          have yf1 := W_C.frozen 1
          have yc2 := yb 2 _ rfl
          have yf2 := W_C.frozen 2
          have yc3 := yb 3 _ rfl
          have yf3 := W_C.frozen 3
          have yc4 := yb 4 _ rfl
          have yf4 := W_C.frozen 4
          have yc5 := yb 5 _ rfl
          have yf5 := W_C.frozen 5
          have yc6 := yb 6 _ rfl
          have yf6 := W_C.frozen 6
          have yc7 := yb 7 _ rfl
          have yf7 := W_C.frozen 7
          clear yb
          have zb := U_C.box
          have zc0 := zb 0 _ rfl
          have zf0 := U_C.frozen 0
          have zc1 := zb 1 _ rfl
          have zf1 := U_C.frozen 1
          have zc2 := zb 2 _ rfl
          have zf2 := U_C.frozen 2
          have zc3 := zb 3 _ rfl
          have zf3 := U_C.frozen 3
          have zc4 := zb 4 _ rfl
          have zf4 := U_C.frozen 4
          have zc5 := zb 5 _ rfl
          have zf5 := U_C.frozen 5
          have zc6 := zb 6 _ rfl
          have zf6 := U_C.frozen 6
          have zc7 := zb 7 _ rfl
          have zf7 := U_C.frozen 7
          clear zb
          obtain ⟨XZ, hXZ⟩ : ∃ Z, XC.setCell ⟨b18, 3, none⟩ (.slice qW nW cW) = Z := ⟨_, rfl⟩
          have B_Z : Below w.heap.size w XZ := by rw [← hXZ]; exact B_C.setCell (p := ⟨b18, 3, none⟩) hle _
          have U_Z : UB w.heap.size zeroU XZ := by rw [← hXZ]; exact U_C.other hne _
          have H_Z := By.set (i := 3) (u := .slice qW nW cW) H_C W_C (nb8 ⟨_, _, _, rfl⟩ ⟨_, _, _, rfl⟩ ⟨_, _, _, rfl⟩ ⟨_, _, _, rfl⟩ ⟨_, _, _, rfl⟩)
          rw [hXZ] at H_Z
          have L_Z := By.set (i := 3) (u := .slice qW nW cW) L_C W_C (nb8 ⟨_, _, _, rfl⟩ ⟨_, _, _, rfl⟩ ⟨_, _, _, rfl⟩ ⟨_, _, _, rfl⟩ ⟨_, _, _, rfl⟩)
          rw [hXZ] at L_Z
          have GP_Z := By.set (i := 3) (u := .slice qW nW cW) GP_C W_C (nb8 ⟨_, _, _, rfl⟩ ⟨_, _, _, rfl⟩ ⟨_, _, _, rfl⟩ ⟨_, _, _, rfl⟩ ⟨_, _, _, rfl⟩)
          rw [hXZ] at GP_Z
          have W_Z : UB b18 #[.slice qL k cL, .slice qH nH cH, .int .i64 pv, .slice qW nW cW, .slice none 0 0, .slice none 0 0, .bool false, .bool false] XZ := by rw [← hXZ]; exact (W_C.set8 (.slice qW nW cW)).2.1
          clear GP_C W_C L_C H_C U_C B_C
          have HXZ := Lib.hid hXZ
          clear hXZ
          by_cases hp0 : (pv : Int) = 0
          case pos =>
            have e0 : (((pv : Int)) == 0) = true := by rw [beq_iff_eq]; exact hp0
            have hpo := HPO.out
            rw [hp0] at hpo
            clear hp0
            have HE := Lib.hid (show canonU t = .inl 2 by rw [HC.out]; exact rest_port _ r HS.out HPE.out hpo)
            go_wp2
            rw [HXZ.out]
            obtain ⟨Y, hY, hU, hkY, hbY⟩ := UB.put (show UB w.heap.size #[.slice none 0 0, .slice none 0 0, .int .i64 0, .slice none 0 0, .slice none 0 0, .slice none 0 0, .bool false, .bool false] _ from U_Z) (.slice none 0 0) (.slice none 0 0) (.int .i64 0) (.slice none 0 0) (.slice none 0 0) (.slice none 0 0) (.bool false) (.bool false)
            rw [hY]
            (try simp only [Exit.inBlock, Exit.then])
            refine bodyPost_ret (ret_url2 rfl _ _ w.heap.size _ rfl hU rfl) rfl ?_
            rw [HE.out]
            exact ⟨by decide, rfl, B_Z.trans (hbY _ (Nat.le_refl _))⟩
          have e0 : (((pv : Int)) == 0) = false := by rw [beq_eq_false_iff_ne]; exact hp0
          have hpo : portC (Ref.lowL s) (atSnd 58 (srvL r)) (atOk 58 (srvL r)) ≠ 0 := by rw [HPO.out]; exact hp0
          cases hpp : pathL (pthL r) with
          | none =>
            obtain rfl : ep = 2 := by have := HEP.out; rw [hpp] at this; exact this
            have hpp2 := Lib.hid hpp
            clear hpp
            have HE := Lib.hid (show canonU t = .inl 2 by rw [HC.out]; exact rest_path _ r HS.out HPE.out hpp2.out)
            go_wp2
            rw [HXZ.out]
            obtain ⟨Y, hY, hU, hkY, hbY⟩ := UB.put (show UB w.heap.size #[.slice none 0 0, .slice none 0 0, .int .i64 0, .slice none 0 0, .slice none 0 0, .slice none 0 0, .bool false, .bool false] _ from U_Z) (.slice none 0 0) (.slice none 0 0) (.int .i64 0) (.slice none 0 0) (.slice none 0 0) (.slice none 0 0) (.bool false) (.bool false)
            rw [hY]
            (try simp only [Exit.inBlock, Exit.then])
            refine bodyPost_ret (ret_url2 rfl _ _ w.heap.size _ rfl hU rfl) rfl ?_
            rw [HE.out]
            exact ⟨by decide, rfl, B_Z.trans (hbY _ (Nat.le_refl _))⟩
          | some pp =>
            obtain rfl : ep = 0 := by have := HEP.out; rw [hpp] at this; exact this
            have h3 : optC (atOk 63 (atFst 35 r)) (atSnd 63 (atFst 35 r)) = some [] := by rw [Hbq.out]; rfl
            have h4 : optC (atOk 35 r) (atSnd 35 r) = some [] := by rw [Hbf.out]; rfl
            obtain ⟨pn, hpn, hrg⟩ := rest_good _ r HS.out HPE.out pp [] [] hpo hpp h3 h4
            rw [Hbq.out, Hbf.out] at hrg
            have hpn2 : (pv : Int) = (pn : Int) := by rw [← HPO.out]; exact hpn
            have HE := Lib.hid (HC.out.trans hrg)
            have HPN := Lib.hid hpn2
            rw [hpp] at GP_Z
            clear hpo hrg hpn hpn2 h3 h4 hpp  hp0
            go_wp2
            rw [HXZ.out]
            obtain ⟨Y, hY, hU, hkY, hbY⟩ := UB.put (show UB w.heap.size #[.slice none 0 0, .slice none 0 0, .int .i64 0, .slice none 0 0, .slice none 0 0, .slice none 0 0, .bool false, .bool false] _ from U_Z) (.slice qL k cL) (.slice qH nH cH) (.int .i64 pv) (.slice qW nW cW) (.slice none 0 0) (.slice none 0 0) (.bool false) (.bool false)
            rw [hY]
            (try simp only [Exit.inBlock, Exit.then])
            refine bodyPost_ret (ret_url2 rfl _ _ w.heap.size _ rfl hU rfl) rfl ?_
            rw [HE.out]
            refine ⟨_, rfl, ⟨qL, k, cL, qH, nH, cH, qW, nW, cW, none, 0, 0, none, 0, 0, by rw [HPN.out], L_Z.away U_Z nbz hkY, H_Z.away U_Z nbz hkY, GP_Z.away U_Z nbz hkY, by_nil _, by_nil _⟩, B_Z.trans (hbY _ (Nat.le_refl _))⟩
        | true =>
          have yb := W_C.box
          have yc3 := yb 3 _ rfl
          have yf3 := W_C.frozen 3
          clear yb
          go_wp2_with fail
          clear yc3 yf3
          obtain ⟨XF, hXF⟩ : ∃ Z, XC.setCell ⟨b18, 3, none⟩ (.slice qW nW cW) = Z := ⟨_, rfl⟩
          rw [hXF]
          have B_F : Below w.heap.size w XF := by rw [← hXF]; exact B_C.setCell (p := ⟨b18, 3, none⟩) hle _
          have U_F : UB w.heap.size zeroU XF := by rw [← hXF]; exact U_C.other hne _
          have F_F := By.set (i := 3) (u := .slice qW nW cW) F_C W_C (nb8 ⟨_, _, _, rfl⟩ ⟨_, _, _, rfl⟩ ⟨_, _, _, rfl⟩ ⟨_, _, _, rfl⟩ ⟨_, _, _, rfl⟩)
          rw [hXF] at F_F
          have H_F := By.set (i := 3) (u := .slice qW nW cW) H_C W_C (nb8 ⟨_, _, _, rfl⟩ ⟨_, _, _, rfl⟩ ⟨_, _, _, rfl⟩ ⟨_, _, _, rfl⟩ ⟨_, _, _, rfl⟩)
          rw [hXF] at H_F
          have L_F := By.set (i := 3) (u := .slice qW nW cW) L_C W_C (nb8 ⟨_, _, _, rfl⟩ ⟨_, _, _, rfl⟩ ⟨_, _, _, rfl⟩ ⟨_, _, _, rfl⟩ ⟨_, _, _, rfl⟩)
          rw [hXF] at L_F
          have GP_F := By.set (i := 3) (u := .slice qW nW cW) GP_C W_C (nb8 ⟨_, _, _, rfl⟩ ⟨_, _, _, rfl⟩ ⟨_, _, _, rfl⟩ ⟨_, _, _, rfl⟩ ⟨_, _, _, rfl⟩)
          rw [hXF] at GP_F
          have W_F : UB b18 #[.slice qL k cL, .slice qH nH cH, .int .i64 pv, .slice qW nW cW, .slice none 0 0, .slice none 0 0, .bool false, .bool true] XF := by rw [← hXF]; exact (W_C.set8 (.slice qW nW cW)).2.1
          clear GP_C W_C L_C H_C F_C U_C B_C
          clear hXF
          have con := Pct.Canon_any qF nF cF (atSnd 35 r) 2 XF F_F.at.1 (by omega) F_F.at.2.2.2.2
          refine con.mono ?_
          rintro e XG ⟨vZ, ef, rfl, hef, hr, hb⟩
          have HEF : Hid (ef = if (formL 2 (atSnd 35 r)).isSome then 0 else 2) := hef
          replace hr : XG.ownsRow XF.heap.size 5 1 vZ ((formL 2 (atSnd 35 r)).getD []).length (byV ((formL 2 (atSnd 35 r)).getD [])) := hr
          obtain ⟨nZ, hnZ⟩ : ∃ n, ((formL 2 (atSnd 35 r)).getD []).length = n := ⟨_, rfl⟩
          rw [hnZ] at hr
          obtain ⟨qZ, cZ, rfl, _, _, _, _, _⟩ := row_open hr
          have GF_G := By.row hr
          clear con hr hnZ hef
          have B_G := B_F.trans (hb.mono B_F.size)
          have U_G := U_F.on hb
          have F_G := F_F.on hb
          have H_G := H_F.on hb
          have L_G := L_F.on hb
          have W_G := W_F.on hb
          have GP_G := GP_F.on hb
          clear GP_F W_F L_F H_F F_F U_F B_F hb
          clear F_G
          have yb := W_G.box
          have yc0 := yb 0 _ rfl
          have yf0 := W_G.frozen 0
          have yc1 := yb 1 _ rfl
          have yf1 := W_G.frozen 1
          have yc2 := yb 2 _ rfl
          have yf2 := W_G.frozen 2
          have yc3 := yb 3 _ rfl
          have yf3 := W_G.frozen 3
          have yc4 := yb 4 _ rfl
          have yf4 := W_G.frozen 4
          have yc5 := yb 5 _ rfl
          have yf5 := W_G.frozen 5
          have yc6 := yb 6 _ rfl
          have yf6 := W_G.frozen 6
          have yc7 := yb 7 _ rfl
          have yf7 := W_G.frozen 7
          clear yb
          have zb := U_G.box
          have zc0 := zb 0 _ rfl
          have zf0 := U_G.frozen 0
          have zc1 := zb 1 _ rfl
          have zf1 := U_G.frozen 1
          have zc2 := zb 2 _ rfl
          have zf2 := U_G.frozen 2
          have zc3 := zb 3 _ rfl
          have zf3 := U_G.frozen 3
          have zc4 := zb 4 _ rfl
          have zf4 := U_G.frozen 4
          have zc5 := zb 5 _ rfl
          have zf5 := U_G.frozen 5
          have zc6 := zb 6 _ rfl
          have zf6 := U_G.frozen 6
          have zc7 := zb 7 _ rfl
          have zf7 := U_G.frozen 7
          clear zb
          obtain ⟨XZ, hXZ⟩ : ∃ Z, XG.setCell ⟨b18, 5, none⟩ (.slice qZ nZ cZ) = Z := ⟨_, rfl⟩
          have B_Z : Below w.heap.size w XZ := by rw [← hXZ]; exact B_G.setCell (p := ⟨b18, 5, none⟩) hle _
          have U_Z : UB w.heap.size zeroU XZ := by rw [← hXZ]; exact U_G.other hne _
          have H_Z := By.set (i := 5) (u := .slice qZ nZ cZ) H_G W_G (nb8 ⟨_, _, _, rfl⟩ ⟨_, _, _, rfl⟩ ⟨_, _, _, rfl⟩ ⟨_, _, _, rfl⟩ ⟨_, _, _, rfl⟩)
          rw [hXZ] at H_Z
          have L_Z := By.set (i := 5) (u := .slice qZ nZ cZ) L_G W_G (nb8 ⟨_, _, _, rfl⟩ ⟨_, _, _, rfl⟩ ⟨_, _, _, rfl⟩ ⟨_, _, _, rfl⟩ ⟨_, _, _, rfl⟩)
          rw [hXZ] at L_Z
          have GP_Z := By.set (i := 5) (u := .slice qZ nZ cZ) GP_G W_G (nb8 ⟨_, _, _, rfl⟩ ⟨_, _, _, rfl⟩ ⟨_, _, _, rfl⟩ ⟨_, _, _, rfl⟩ ⟨_, _, _, rfl⟩)
          rw [hXZ] at GP_Z
          have GF_Z := By.set (i := 5) (u := .slice qZ nZ cZ) GF_G W_G (nb8 ⟨_, _, _, rfl⟩ ⟨_, _, _, rfl⟩ ⟨_, _, _, rfl⟩ ⟨_, _, _, rfl⟩ ⟨_, _, _, rfl⟩)
          rw [hXZ] at GF_Z
          have W_Z : UB b18 #[.slice qL k cL, .slice qH nH cH, .int .i64 pv, .slice qW nW cW, .slice none 0 0, .slice qZ nZ cZ, .bool false, .bool true] XZ := by rw [← hXZ]; exact (W_G.set8 (.slice qZ nZ cZ)).2.2.2
          clear GF_G GP_G W_G L_G H_G U_G B_G
          have HXZ := Lib.hid hXZ
          clear hXZ
          by_cases hp0 : (pv : Int) = 0
          case pos =>
            have e0 : (((pv : Int)) == 0) = true := by rw [beq_iff_eq]; exact hp0
            have hpo := HPO.out
            rw [hp0] at hpo
            clear hp0
            have HE := Lib.hid (show canonU t = .inl 2 by rw [HC.out]; exact rest_port _ r HS.out HPE.out hpo)
            go_wp2
            rw [HXZ.out]
            obtain ⟨Y, hY, hU, hkY, hbY⟩ := UB.put (show UB w.heap.size #[.slice none 0 0, .slice none 0 0, .int .i64 0, .slice none 0 0, .slice none 0 0, .slice none 0 0, .bool false, .bool false] _ from U_Z) (.slice none 0 0) (.slice none 0 0) (.int .i64 0) (.slice none 0 0) (.slice none 0 0) (.slice none 0 0) (.bool false) (.bool false)
            rw [hY]
            (try simp only [Exit.inBlock, Exit.then])
            refine bodyPost_ret (ret_url2 rfl _ _ w.heap.size _ rfl hU rfl) rfl ?_
            rw [HE.out]
            exact ⟨by decide, rfl, B_Z.trans (hbY _ (Nat.le_refl _))⟩
          have e0 : (((pv : Int)) == 0) = false := by rw [beq_eq_false_iff_ne]; exact hp0
          have hpo : portC (Ref.lowL s) (atSnd 58 (srvL r)) (atOk 58 (srvL r)) ≠ 0 := by rw [HPO.out]; exact hp0
          cases hpp : pathL (pthL r) with
          | none =>
            obtain rfl : ep = 2 := by have := HEP.out; rw [hpp] at this; exact this
            have hpp2 := Lib.hid hpp
            clear hpp
            have HE := Lib.hid (show canonU t = .inl 2 by rw [HC.out]; exact rest_path _ r HS.out HPE.out hpp2.out)
            go_wp2
            rw [HXZ.out]
            obtain ⟨Y, hY, hU, hkY, hbY⟩ := UB.put (show UB w.heap.size #[.slice none 0 0, .slice none 0 0, .int .i64 0, .slice none 0 0, .slice none 0 0, .slice none 0 0, .bool false, .bool false] _ from U_Z) (.slice none 0 0) (.slice none 0 0) (.int .i64 0) (.slice none 0 0) (.slice none 0 0) (.slice none 0 0) (.bool false) (.bool false)
            rw [hY]
            (try simp only [Exit.inBlock, Exit.then])
            refine bodyPost_ret (ret_url2 rfl _ _ w.heap.size _ rfl hU rfl) rfl ?_
            rw [HE.out]
            exact ⟨by decide, rfl, B_Z.trans (hbY _ (Nat.le_refl _))⟩
          | some pp =>
            obtain rfl : ep = 0 := by have := HEP.out; rw [hpp] at this; exact this
            cases hff : formL 2 (atSnd 35 r) with
            | none =>
              obtain rfl : ef = 2 := by have := HEF.out; rw [hff] at this; exact this
              have h4 := Lib.hid (show optC (atOk 35 r) (atSnd 35 r) = none by rw [Hbf.out]; exact hff)
              clear hff hpp
              have HE := Lib.hid (show canonU t = .inl 2 by rw [HC.out]; exact rest_frag _ r HS.out HPE.out h4.out)
              go_wp2
              rw [HXZ.out]
              obtain ⟨Y, hY, hU, hkY, hbY⟩ := UB.put (show UB w.heap.size #[.slice none 0 0, .slice none 0 0, .int .i64 0, .slice none 0 0, .slice none 0 0, .slice none 0 0, .bool false, .bool false] _ from U_Z) (.slice none 0 0) (.slice none 0 0) (.int .i64 0) (.slice none 0 0) (.slice none 0 0) (.slice none 0 0) (.bool false) (.bool false)
              rw [hY]
              (try simp only [Exit.inBlock, Exit.then])
              refine bodyPost_ret (ret_url2 rfl _ _ w.heap.size _ rfl hU rfl) rfl ?_
              rw [HE.out]
              exact ⟨by decide, rfl, B_Z.trans (hbY _ (Nat.le_refl _))⟩
            | some ff =>
              obtain rfl : ef = 0 := by have := HEF.out; rw [hff] at this; exact this
              have h3 : optC (atOk 63 (atFst 35 r)) (atSnd 63 (atFst 35 r)) = some [] := by rw [Hbq.out]; rfl
              have h4 : optC (atOk 35 r) (atSnd 35 r) = some ff := by rw [Hbf.out]; exact hff
              obtain ⟨pn, hpn, hrg⟩ := rest_good _ r HS.out HPE.out pp [] ff hpo hpp h3 h4
              rw [Hbq.out, Hbf.out] at hrg
              have hpn2 : (pv : Int) = (pn : Int) := by rw [← HPO.out]; exact hpn
              have HE := Lib.hid (HC.out.trans hrg)
              have HPN := Lib.hid hpn2
              rw [hpp] at GP_Z
              rw [hff] at GF_Z
              clear hpo hrg hpn hpn2 h3 h4 hpp hff hp0
              go_wp2
              rw [HXZ.out]
              obtain ⟨Y, hY, hU, hkY, hbY⟩ := UB.put (show UB w.heap.size #[.slice none 0 0, .slice none 0 0, .int .i64 0, .slice none 0 0, .slice none 0 0, .slice none 0 0, .bool false, .bool false] _ from U_Z) (.slice qL k cL) (.slice qH nH cH) (.int .i64 pv) (.slice qW nW cW) (.slice none 0 0) (.slice qZ nZ cZ) (.bool false) (.bool true)
              rw [hY]
              (try simp only [Exit.inBlock, Exit.then])
              refine bodyPost_ret (ret_url2 rfl _ _ w.heap.size _ rfl hU rfl) rfl ?_
              rw [HE.out]
              refine ⟨_, rfl, ⟨qL, k, cL, qH, nH, cH, qW, nW, cW, none, 0, 0, qZ, nZ, cZ, by rw [HPN.out], L_Z.away U_Z nbz hkY, H_Z.away U_Z nbz hkY, GP_Z.away U_Z nbz hkY, by_nil _, GF_Z.away U_Z nbz hkY⟩, B_Z.trans (hbY _ (Nat.le_refl _))⟩
      | true =>
        have yb := W_C.box
        have yc3 := yb 3 _ rfl
        have yf3 := W_C.frozen 3
        clear yb
        go_wp2_with fail
        clear yc3 yf3
        obtain ⟨XD, hXD⟩ : ∃ Z, XC.setCell ⟨b18, 3, none⟩ (.slice qW nW cW) = Z := ⟨_, rfl⟩
        rw [hXD]
        have B_D : Below w.heap.size w XD := by rw [← hXD]; exact B_C.setCell (p := ⟨b18, 3, none⟩) hle _
        have U_D : UB w.heap.size zeroU XD := by rw [← hXD]; exact U_C.other hne _
        have F_D := By.set (i := 3) (u := .slice qW nW cW) F_C W_C (nb8 ⟨_, _, _, rfl⟩ ⟨_, _, _, rfl⟩ ⟨_, _, _, rfl⟩ ⟨_, _, _, rfl⟩ ⟨_, _, _, rfl⟩)
        rw [hXD] at F_D
        have Q_D := By.set (i := 3) (u := .slice qW nW cW) Q_C W_C (nb8 ⟨_, _, _, rfl⟩ ⟨_, _, _, rfl⟩ ⟨_, _, _, rfl⟩ ⟨_, _, _, rfl⟩ ⟨_, _, _, rfl⟩)
        rw [hXD] at Q_D
        have H_D := By.set (i := 3) (u := .slice qW nW cW) H_C W_C (nb8 ⟨_, _, _, rfl⟩ ⟨_, _, _, rfl⟩ ⟨_, _, _, rfl⟩ ⟨_, _, _, rfl⟩ ⟨_, _, _, rfl⟩)
        rw [hXD] at H_D
        have L_D := By.set (i := 3) (u := .slice qW nW cW) L_C W_C (nb8 ⟨_, _, _, rfl⟩ ⟨_, _, _, rfl⟩ ⟨_, _, _, rfl⟩ ⟨_, _, _, rfl⟩ ⟨_, _, _, rfl⟩)
        rw [hXD] at L_D
        have GP_D := By.set (i := 3) (u := .slice qW nW cW) GP_C W_C (nb8 ⟨_, _, _, rfl⟩ ⟨_, _, _, rfl⟩ ⟨_, _, _, rfl⟩ ⟨_, _, _, rfl⟩ ⟨_, _, _, rfl⟩)
        rw [hXD] at GP_D
        have W_D : UB b18 #[.slice qL k cL, .slice qH nH cH, .int .i64 pv, .slice qW nW cW, .slice none 0 0, .slice none 0 0, .bool true, .bool bf] XD := by rw [← hXD]; exact (W_C.set8 (.slice qW nW cW)).2.1
        clear GP_C W_C L_C H_C Q_C F_C U_C B_C
        clear hXD
        have con := Pct.Canon_any qQ nQ cQ (atSnd 63 (atFst 35 r)) 2 XD Q_D.at.1 (by omega) Q_D.at.2.2.2.2
        refine con.mono ?_
        rintro e XE ⟨vY, eq, rfl, heq, hr, hb⟩
        have HEQ : Hid (eq = if (formL 2 (atSnd 63 (atFst 35 r))).isSome then 0 else 2) := heq
        replace hr : XE.ownsRow XD.heap.size 5 1 vY ((formL 2 (atSnd 63 (atFst 35 r))).getD []).length (byV ((formL 2 (atSnd 63 (atFst 35 r))).getD [])) := hr
        obtain ⟨nY, hnY⟩ : ∃ n, ((formL 2 (atSnd 63 (atFst 35 r))).getD []).length = n := ⟨_, rfl⟩
        rw [hnY] at hr
        obtain ⟨qY, cY, rfl, _, _, _, _, _⟩ := row_open hr
        have GQ_E := By.row hr
        clear con hr hnY heq
        have B_E := B_D.trans (hb.mono B_D.size)
        have U_E := U_D.on hb
        have F_E := F_D.on hb
        have Q_E := Q_D.on hb
        have H_E := H_D.on hb
        have L_E := L_D.on hb
        have W_E := W_D.on hb
        have GP_E := GP_D.on hb
        clear GP_D W_D L_D H_D Q_D F_D U_D B_D hb
        clear Q_E
        cases bf with
        | false =>
          clear F_E
          have yb := W_E.box
          have yc0 := yb 0 _ rfl
          have yf0 := W_E.frozen 0
          have yc1 := yb 1 _ rfl
          have yf1 := W_E.frozen 1
          have yc2 := yb 2 _ rfl
          have yf2 := W_E.frozen 2
          have yc3 := yb 3 _ rfl
          have yf3 := W_E.frozen 3
          have yc4 := yb 4 _ rfl
          have yf4 := W_E.frozen 4
          have yc5 := yb 5 _ rfl
          have yf5 := W_E.frozen 5
          have yc6 := yb 6 _ rfl
          have yf6 := W_E.frozen 6
          have yc7 := yb 7 _ rfl
          have yf7 := W_E.frozen 7
          clear yb
          have zb := U_E.box
          have zc0 := zb 0 _ rfl
          have zf0 := U_E.frozen 0
          have zc1 := zb 1 _ rfl
          have zf1 := U_E.frozen 1
          have zc2 := zb 2 _ rfl
          have zf2 := U_E.frozen 2
          have zc3 := zb 3 _ rfl
          have zf3 := U_E.frozen 3
          have zc4 := zb 4 _ rfl
          have zf4 := U_E.frozen 4
          have zc5 := zb 5 _ rfl
          have zf5 := U_E.frozen 5
          have zc6 := zb 6 _ rfl
          have zf6 := U_E.frozen 6
          have zc7 := zb 7 _ rfl
          have zf7 := U_E.frozen 7
          clear zb
          obtain ⟨XZ, hXZ⟩ : ∃ Z, XE.setCell ⟨b18, 4, none⟩ (.slice qY nY cY) = Z := ⟨_, rfl⟩
          have B_Z : Below w.heap.size w XZ := by rw [← hXZ]; exact B_E.setCell (p := ⟨b18, 4, none⟩) hle _
          have U_Z : UB w.heap.size zeroU XZ := by rw [← hXZ]; exact U_E.other hne _
          have H_Z := By.set (i := 4) (u := .slice qY nY cY) H_E W_E (nb8 ⟨_, _, _, rfl⟩ ⟨_, _, _, rfl⟩ ⟨_, _, _, rfl⟩ ⟨_, _, _, rfl⟩ ⟨_, _, _, rfl⟩)
          rw [hXZ] at H_Z
          have L_Z := By.set (i := 4) (u := .slice qY nY cY) L_E W_E (nb8 ⟨_, _, _, rfl⟩ ⟨_, _, _, rfl⟩ ⟨_, _, _, rfl⟩ ⟨_, _, _, rfl⟩ ⟨_, _, _, rfl⟩)
          rw [hXZ] at L_Z
          have GP_Z := By.set (i := 4) (u := .slice qY nY cY) GP_E W_E (nb8 ⟨_, _, _, rfl⟩ ⟨_, _, _, rfl⟩ ⟨_, _, _, rfl⟩ ⟨_, _, _, rfl⟩ ⟨_, _, _, rfl⟩)
          rw [hXZ] at GP_Z
          have GQ_Z := By.set (i := 4) (u := .slice qY nY cY) GQ_E W_E (nb8 ⟨_, _, _, rfl⟩ ⟨_, _, _, rfl⟩ ⟨_, _, _, rfl⟩ ⟨_, _, _, rfl⟩ ⟨_, _, _, rfl⟩)
          rw [hXZ] at GQ_Z
          have W_Z : UB b18 #[.slice qL k cL, .slice qH nH cH, .int .i64 pv, .slice qW nW cW, .slice qY nY cY, .slice none 0 0, .bool true, .bool false] XZ := by rw [← hXZ]; exact (W_E.set8 (.slice qY nY cY)).2.2.1
          clear GQ_E GP_E W_E L_E H_E U_E B_E
          have HXZ := Lib.hid hXZ
          clear hXZ
          by_cases hp0 : (pv : Int) = 0
          case pos =>
            have e0 : (((pv : Int)) == 0) = true := by rw [beq_iff_eq]; exact hp0
            have hpo := HPO.out
            rw [hp0] at hpo
            clear hp0
            have HE := Lib.hid (show canonU t = .inl 2 by rw [HC.out]; exact rest_port _ r HS.out HPE.out hpo)
            go_wp2
            rw [HXZ.out]
            obtain ⟨Y, hY, hU, hkY, hbY⟩ := UB.put (show UB w.heap.size #[.slice none 0 0, .slice none 0 0, .int .i64 0, .slice none 0 0, .slice none 0 0, .slice none 0 0, .bool false, .bool false] _ from U_Z) (.slice none 0 0) (.slice none 0 0) (.int .i64 0) (.slice none 0 0) (.slice none 0 0) (.slice none 0 0) (.bool false) (.bool false)
            rw [hY]
            (try simp only [Exit.inBlock, Exit.then])
            refine bodyPost_ret (ret_url2 rfl _ _ w.heap.size _ rfl hU rfl) rfl ?_
            rw [HE.out]
            exact ⟨by decide, rfl, B_Z.trans (hbY _ (Nat.le_refl _))⟩
          have e0 : (((pv : Int)) == 0) = false := by rw [beq_eq_false_iff_ne]; exact hp0
          have hpo : portC (Ref.lowL s) (atSnd 58 (srvL r)) (atOk 58 (srvL r)) ≠ 0 := by rw [HPO.out]; exact hp0
          cases hpp : pathL (pthL r) with
          | none =>
            obtain rfl : ep = 2 := by have := HEP.out; rw [hpp] at this; exact this
            have hpp2 := Lib.hid hpp
            clear hpp
            have HE := Lib.hid (show canonU t = .inl 2 by rw [HC.out]; exact rest_path _ r HS.out HPE.out hpp2.out)
            go_wp2
            rw [HXZ.out]
            obtain ⟨Y, hY, hU, hkY, hbY⟩ := UB.put (show UB w.heap.size #[.slice none 0 0, .slice none 0 0, .int .i64 0, .slice none 0 0, .slice none 0 0, .slice none 0 0, .bool false, .bool false] _ from U_Z) (.slice none 0 0) (.slice none 0 0) (.int .i64 0) (.slice none 0 0) (.slice none 0 0) (.slice none 0 0) (.bool false) (.bool false)
            rw [hY]
            (try simp only [Exit.inBlock, Exit.then])
            refine bodyPost_ret (ret_url2 rfl _ _ w.heap.size _ rfl hU rfl) rfl ?_
            rw [HE.out]
            exact ⟨by decide, rfl, B_Z.trans (hbY _ (Nat.le_refl _))⟩
          | some pp =>
            obtain rfl : ep = 0 := by have := HEP.out; rw [hpp] at this; exact this
            cases hqq : formL 2 (atSnd 63 (atFst 35 r)) with
            | none =>
              obtain rfl : eq = 2 := by have := HEQ.out; rw [hqq] at this; exact this
              have h3 := Lib.hid (show optC (atOk 63 (atFst 35 r)) (atSnd 63 (atFst 35 r)) = none by rw [Hbq.out]; exact hqq)
              clear hqq hpp
              have HE := Lib.hid (show canonU t = .inl 2 by rw [HC.out]; exact rest_query _ r HS.out HPE.out h3.out)
              go_wp2
              rw [HXZ.out]
              obtain ⟨Y, hY, hU, hkY, hbY⟩ := UB.put (show UB w.heap.size #[.slice none 0 0, .slice none 0 0, .int .i64 0, .slice none 0 0, .slice none 0 0, .slice none 0 0, .bool false, .bool false] _ from U_Z) (.slice none 0 0) (.slice none 0 0) (.int .i64 0) (.slice none 0 0) (.slice none 0 0) (.slice none 0 0) (.bool false) (.bool false)
              rw [hY]
              (try simp only [Exit.inBlock, Exit.then])
              refine bodyPost_ret (ret_url2 rfl _ _ w.heap.size _ rfl hU rfl) rfl ?_
              rw [HE.out]
              exact ⟨by decide, rfl, B_Z.trans (hbY _ (Nat.le_refl _))⟩
            | some qq =>
              obtain rfl : eq = 0 := by have := HEQ.out; rw [hqq] at this; exact this
              have h3 : optC (atOk 63 (atFst 35 r)) (atSnd 63 (atFst 35 r)) = some qq := by rw [Hbq.out]; exact hqq
              have h4 : optC (atOk 35 r) (atSnd 35 r) = some [] := by rw [Hbf.out]; rfl
              obtain ⟨pn, hpn, hrg⟩ := rest_good _ r HS.out HPE.out pp qq [] hpo hpp h3 h4
              rw [Hbq.out, Hbf.out] at hrg
              have hpn2 : (pv : Int) = (pn : Int) := by rw [← HPO.out]; exact hpn
              have HE := Lib.hid (HC.out.trans hrg)
              have HPN := Lib.hid hpn2
              rw [hpp] at GP_Z
              rw [hqq] at GQ_Z
              clear hpo hrg hpn hpn2 h3 h4 hpp hqq  hp0
              go_wp2
              rw [HXZ.out]
              obtain ⟨Y, hY, hU, hkY, hbY⟩ := UB.put (show UB w.heap.size #[.slice none 0 0, .slice none 0 0, .int .i64 0, .slice none 0 0, .slice none 0 0, .slice none 0 0, .bool false, .bool false] _ from U_Z) (.slice qL k cL) (.slice qH nH cH) (.int .i64 pv) (.slice qW nW cW) (.slice qY nY cY) (.slice none 0 0) (.bool true) (.bool false)
              rw [hY]
              (try simp only [Exit.inBlock, Exit.then])
              refine bodyPost_ret (ret_url2 rfl _ _ w.heap.size _ rfl hU rfl) rfl ?_
              rw [HE.out]
              refine ⟨_, rfl, ⟨qL, k, cL, qH, nH, cH, qW, nW, cW, qY, nY, cY, none, 0, 0, by rw [HPN.out], L_Z.away U_Z nbz hkY, H_Z.away U_Z nbz hkY, GP_Z.away U_Z nbz hkY, GQ_Z.away U_Z nbz hkY, by_nil _⟩, B_Z.trans (hbY _ (Nat.le_refl _))⟩
        | true =>
          have yb := W_E.box
          have yc4 := yb 4 _ rfl
          have yf4 := W_E.frozen 4
          clear yb
          go_wp2_with fail
          clear yc4 yf4
          obtain ⟨XF, hXF⟩ : ∃ Z, XE.setCell ⟨b18, 4, none⟩ (.slice qY nY cY) = Z := ⟨_, rfl⟩
          rw [hXF]
          have B_F : Below w.heap.size w XF := by rw [← hXF]; exact B_E.setCell (p := ⟨b18, 4, none⟩) hle _
          have U_F : UB w.heap.size zeroU XF := by rw [← hXF]; exact U_E.other hne _
          have F_F := By.set (i := 4) (u := .slice qY nY cY) F_E W_E (nb8 ⟨_, _, _, rfl⟩ ⟨_, _, _, rfl⟩ ⟨_, _, _, rfl⟩ ⟨_, _, _, rfl⟩ ⟨_, _, _, rfl⟩)
          rw [hXF] at F_F
          have H_F := By.set (i := 4) (u := .slice qY nY cY) H_E W_E (nb8 ⟨_, _, _, rfl⟩ ⟨_, _, _, rfl⟩ ⟨_, _, _, rfl⟩ ⟨_, _, _, rfl⟩ ⟨_, _, _, rfl⟩)
          rw [hXF] at H_F
          have L_F := By.set (i := 4) (u := .slice qY nY cY) L_E W_E (nb8 ⟨_, _, _, rfl⟩ ⟨_, _, _, rfl⟩ ⟨_, _, _, rfl⟩ ⟨_, _, _, rfl⟩ ⟨_, _, _, rfl⟩)
          rw [hXF] at L_F
          have GP_F := By.set (i := 4) (u := .slice qY nY cY) GP_E W_E (nb8 ⟨_, _, _, rfl⟩ ⟨_, _, _, rfl⟩ ⟨_, _, _, rfl⟩ ⟨_, _, _, rfl⟩ ⟨_, _, _, rfl⟩)
          rw [hXF] at GP_F
          have GQ_F := By.set (i := 4) (u := .slice qY nY cY) GQ_E W_E (nb8 ⟨_, _, _, rfl⟩ ⟨_, _, _, rfl⟩ ⟨_, _, _, rfl⟩ ⟨_, _, _, rfl⟩ ⟨_, _, _, rfl⟩)
          rw [hXF] at GQ_F
          have W_F : UB b18 #[.slice qL k cL, .slice qH nH cH, .int .i64 pv, .slice qW nW cW, .slice qY nY cY, .slice none 0 0, .bool true, .bool true] XF := by rw [← hXF]; exact (W_E.set8 (.slice qY nY cY)).2.2.1
          clear GQ_E GP_E W_E L_E H_E F_E U_E B_E
          clear hXF
          have con := Pct.Canon_any qF nF cF (atSnd 35 r) 2 XF F_F.at.1 (by omega) F_F.at.2.2.2.2
          refine con.mono ?_
          rintro e XG ⟨vZ, ef, rfl, hef, hr, hb⟩
          have HEF : Hid (ef = if (formL 2 (atSnd 35 r)).isSome then 0 else 2) := hef
          replace hr : XG.ownsRow XF.heap.size 5 1 vZ ((formL 2 (atSnd 35 r)).getD []).length (byV ((formL 2 (atSnd 35 r)).getD [])) := hr
          obtain ⟨nZ, hnZ⟩ : ∃ n, ((formL 2 (atSnd 35 r)).getD []).length = n := ⟨_, rfl⟩
          rw [hnZ] at hr
          obtain ⟨qZ, cZ, rfl, _, _, _, _, _⟩ := row_open hr
          have GF_G := By.row hr
          clear con hr hnZ hef
          have B_G := B_F.trans (hb.mono B_F.size)
          have U_G := U_F.on hb
          have F_G := F_F.on hb
          have H_G := H_F.on hb
          have L_G := L_F.on hb
          have W_G := W_F.on hb
          have GP_G := GP_F.on hb
          have GQ_G := GQ_F.on hb
          clear GQ_F GP_F W_F L_F H_F F_F U_F B_F hb
          clear F_G
          have yb := W_G.box
          have yc0 := yb 0 _ rfl
          have yf0 := W_G.frozen 0
          have yc1 := yb 1 _ rfl
          have yf1 := W_G.frozen 1
          have yc2 := yb 2 _ rfl
          have yf2 := W_G.frozen 2
          have yc3 := yb 3 _ rfl
          have yf3 := W_G.frozen 3
          have yc4 := yb 4 _ rfl
          have yf4 := W_G.frozen 4
          have yc5 := yb 5 _ rfl
          have yf5 := W_G.frozen 5
          have yc6 := yb 6 _ rfl
          have yf6 := W_G.frozen 6
          have yc7 := yb 7 _ rfl
          have yf7 := W_G.frozen 7
          clear yb
          have zb := U_G.box
          have zc0 := zb 0 _ rfl
          have zf0 := U_G.frozen 0
          have zc1 := zb 1 _ rfl
          have zf1 := U_G.frozen 1
          have zc2 := zb 2 _ rfl
          have zf2 := U_G.frozen 2
          have zc3 := zb 3 _ rfl
          have zf3 := U_G.frozen 3
          have zc4 := zb 4 _ rfl
          have zf4 := U_G.frozen 4
          have zc5 := zb 5 _ rfl
          have zf5 := U_G.frozen 5
          have zc6 := zb 6 _ rfl
          have zf6 := U_G.frozen 6
          have zc7 := zb 7 _ rfl
          have zf7 := U_G.frozen 7
          clear zb
          obtain ⟨XZ, hXZ⟩ : ∃ Z, XG.setCell ⟨b18, 5, none⟩ (.slice qZ nZ cZ) = Z := ⟨_, rfl⟩
          have B_Z : Below w.heap.size w XZ := by rw [← hXZ]; exact B_G.setCell (p := ⟨b18, 5, none⟩) hle _
          have U_Z : UB w.heap.size zeroU XZ := by rw [← hXZ]; exact U_G.other hne _
          have H_Z := By.set (i := 5) (u := .slice qZ nZ cZ) H_G W_G (nb8 ⟨_, _, _, rfl⟩ ⟨_, _, _, rfl⟩ ⟨_, _, _, rfl⟩ ⟨_, _, _, rfl⟩ ⟨_, _, _, rfl⟩)
          rw [hXZ] at H_Z
          have L_Z := By.set (i := 5) (u := .slice qZ nZ cZ) L_G W_G (nb8 ⟨_, _, _, rfl⟩ ⟨_, _, _, rfl⟩ ⟨_, _, _, rfl⟩ ⟨_, _, _, rfl⟩ ⟨_, _, _, rfl⟩)
          rw [hXZ] at L_Z
          have GP_Z := By.set (i := 5) (u := .slice qZ nZ cZ) GP_G W_G (nb8 ⟨_, _, _, rfl⟩ ⟨_, _, _, rfl⟩ ⟨_, _, _, rfl⟩ ⟨_, _, _, rfl⟩ ⟨_, _, _, rfl⟩)
          rw [hXZ] at GP_Z
          have GQ_Z := By.set (i := 5) (u := .slice qZ nZ cZ) GQ_G W_G (nb8 ⟨_, _, _, rfl⟩ ⟨_, _, _, rfl⟩ ⟨_, _, _, rfl⟩ ⟨_, _, _, rfl⟩ ⟨_, _, _, rfl⟩)
          rw [hXZ] at GQ_Z
          have GF_Z := By.set (i := 5) (u := .slice qZ nZ cZ) GF_G W_G (nb8 ⟨_, _, _, rfl⟩ ⟨_, _, _, rfl⟩ ⟨_, _, _, rfl⟩ ⟨_, _, _, rfl⟩ ⟨_, _, _, rfl⟩)
          rw [hXZ] at GF_Z
          have W_Z : UB b18 #[.slice qL k cL, .slice qH nH cH, .int .i64 pv, .slice qW nW cW, .slice qY nY cY, .slice qZ nZ cZ, .bool true, .bool true] XZ := by rw [← hXZ]; exact (W_G.set8 (.slice qZ nZ cZ)).2.2.2
          clear GF_G GQ_G GP_G W_G L_G H_G U_G B_G
          have HXZ := Lib.hid hXZ
          clear hXZ
          by_cases hp0 : (pv : Int) = 0
          case pos =>
            have e0 : (((pv : Int)) == 0) = true := by rw [beq_iff_eq]; exact hp0
            have hpo := HPO.out
            rw [hp0] at hpo
            clear hp0
            have HE := Lib.hid (show canonU t = .inl 2 by rw [HC.out]; exact rest_port _ r HS.out HPE.out hpo)
            go_wp2
            rw [HXZ.out]
            obtain ⟨Y, hY, hU, hkY, hbY⟩ := UB.put (show UB w.heap.size #[.slice none 0 0, .slice none 0 0, .int .i64 0, .slice none 0 0, .slice none 0 0, .slice none 0 0, .bool false, .bool false] _ from U_Z) (.slice none 0 0) (.slice none 0 0) (.int .i64 0) (.slice none 0 0) (.slice none 0 0) (.slice none 0 0) (.bool false) (.bool false)
            rw [hY]
            (try simp only [Exit.inBlock, Exit.then])
            refine bodyPost_ret (ret_url2 rfl _ _ w.heap.size _ rfl hU rfl) rfl ?_
            rw [HE.out]
            exact ⟨by decide, rfl, B_Z.trans (hbY _ (Nat.le_refl _))⟩
          have e0 : (((pv : Int)) == 0) = false := by rw [beq_eq_false_iff_ne]; exact hp0
          have hpo : portC (Ref.lowL s) (atSnd 58 (srvL r)) (atOk 58 (srvL r)) ≠ 0 := by rw [HPO.out]; exact hp0
          cases hpp : pathL (pthL r) with
          | none =>
            obtain rfl : ep = 2 := by have := HEP.out; rw [hpp] at this; exact this
            have hpp2 := Lib.hid hpp
            clear hpp
            have HE := Lib.hid (show canonU t = .inl 2 by rw [HC.out]; exact rest_path _ r HS.out HPE.out hpp2.out)
            go_wp2
            rw [HXZ.out]
            obtain ⟨Y, hY, hU, hkY, hbY⟩ := UB.put (show UB w.heap.size #[.slice none 0 0, .slice none 0 0, .int .i64 0, .slice none 0 0, .slice none 0 0, .slice none 0 0, .bool false, .bool false] _ from U_Z) (.slice none 0 0) (.slice none 0 0) (.int .i64 0) (.slice none 0 0) (.slice none 0 0) (.slice none 0 0) (.bool false) (.bool false)
            rw [hY]
            (try simp only [Exit.inBlock, Exit.then])
            refine bodyPost_ret (ret_url2 rfl _ _ w.heap.size _ rfl hU rfl) rfl ?_
            rw [HE.out]
            exact ⟨by decide, rfl, B_Z.trans (hbY _ (Nat.le_refl _))⟩
          | some pp =>
            obtain rfl : ep = 0 := by have := HEP.out; rw [hpp] at this; exact this
            cases hqq : formL 2 (atSnd 63 (atFst 35 r)) with
            | none =>
              obtain rfl : eq = 2 := by have := HEQ.out; rw [hqq] at this; exact this
              have h3 := Lib.hid (show optC (atOk 63 (atFst 35 r)) (atSnd 63 (atFst 35 r)) = none by rw [Hbq.out]; exact hqq)
              clear hqq hpp
              have HE := Lib.hid (show canonU t = .inl 2 by rw [HC.out]; exact rest_query _ r HS.out HPE.out h3.out)
              go_wp2
              rw [HXZ.out]
              obtain ⟨Y, hY, hU, hkY, hbY⟩ := UB.put (show UB w.heap.size #[.slice none 0 0, .slice none 0 0, .int .i64 0, .slice none 0 0, .slice none 0 0, .slice none 0 0, .bool false, .bool false] _ from U_Z) (.slice none 0 0) (.slice none 0 0) (.int .i64 0) (.slice none 0 0) (.slice none 0 0) (.slice none 0 0) (.bool false) (.bool false)
              rw [hY]
              (try simp only [Exit.inBlock, Exit.then])
              refine bodyPost_ret (ret_url2 rfl _ _ w.heap.size _ rfl hU rfl) rfl ?_
              rw [HE.out]
              exact ⟨by decide, rfl, B_Z.trans (hbY _ (Nat.le_refl _))⟩
            | some qq =>
              obtain rfl : eq = 0 := by have := HEQ.out; rw [hqq] at this; exact this
              cases hff : formL 2 (atSnd 35 r) with
              | none =>
                obtain rfl : ef = 2 := by have := HEF.out; rw [hff] at this; exact this
                have h4 := Lib.hid (show optC (atOk 35 r) (atSnd 35 r) = none by rw [Hbf.out]; exact hff)
                clear hff hpp
                have HE := Lib.hid (show canonU t = .inl 2 by rw [HC.out]; exact rest_frag _ r HS.out HPE.out h4.out)
                go_wp2
                rw [HXZ.out]
                obtain ⟨Y, hY, hU, hkY, hbY⟩ := UB.put (show UB w.heap.size #[.slice none 0 0, .slice none 0 0, .int .i64 0, .slice none 0 0, .slice none 0 0, .slice none 0 0, .bool false, .bool false] _ from U_Z) (.slice none 0 0) (.slice none 0 0) (.int .i64 0) (.slice none 0 0) (.slice none 0 0) (.slice none 0 0) (.bool false) (.bool false)
                rw [hY]
                (try simp only [Exit.inBlock, Exit.then])
                refine bodyPost_ret (ret_url2 rfl _ _ w.heap.size _ rfl hU rfl) rfl ?_
                rw [HE.out]
                exact ⟨by decide, rfl, B_Z.trans (hbY _ (Nat.le_refl _))⟩
              | some ff =>
                obtain rfl : ef = 0 := by have := HEF.out; rw [hff] at this; exact this
                have h3 : optC (atOk 63 (atFst 35 r)) (atSnd 63 (atFst 35 r)) = some qq := by rw [Hbq.out]; exact hqq
                have h4 : optC (atOk 35 r) (atSnd 35 r) = some ff := by rw [Hbf.out]; exact hff
                obtain ⟨pn, hpn, hrg⟩ := rest_good _ r HS.out HPE.out pp qq ff hpo hpp h3 h4
                rw [Hbq.out, Hbf.out] at hrg
                have hpn2 : (pv : Int) = (pn : Int) := by rw [← HPO.out]; exact hpn
                have HE := Lib.hid (HC.out.trans hrg)
                have HPN := Lib.hid hpn2
                rw [hpp] at GP_Z
                rw [hqq] at GQ_Z
                rw [hff] at GF_Z
                clear hpo hrg hpn hpn2 h3 h4 hpp hqq hff hp0
                go_wp2
                rw [HXZ.out]
                obtain ⟨Y, hY, hU, hkY, hbY⟩ := UB.put (show UB w.heap.size #[.slice none 0 0, .slice none 0 0, .int .i64 0, .slice none 0 0, .slice none 0 0, .slice none 0 0, .bool false, .bool false] _ from U_Z) (.slice qL k cL) (.slice qH nH cH) (.int .i64 pv) (.slice qW nW cW) (.slice qY nY cY) (.slice qZ nZ cZ) (.bool true) (.bool true)
                rw [hY]
                (try simp only [Exit.inBlock, Exit.then])
                refine bodyPost_ret (ret_url2 rfl _ _ w.heap.size _ rfl hU rfl) rfl ?_
                rw [HE.out]
                refine ⟨_, rfl, ⟨qL, k, cL, qH, nH, cH, qW, nW, cW, qY, nY, cY, qZ, nZ, cZ, by rw [HPN.out], L_Z.away U_Z nbz hkY, H_Z.away U_Z nbz hkY, GP_Z.away U_Z nbz hkY, GQ_Z.away U_Z nbz hkY, GF_Z.away U_Z nbz hkY⟩, B_Z.trans (hbY _ (Nat.le_refl _))⟩

end Go.Proofs.YtkjkfgmoogbdiaaGreatDoor.Url

namespace Go.Proofs.YtkjkfgmoogbdiaaGreatDoor.Url
open Go.RowKit Go.Shelf
attribute [local go_sem] Oper.semAt_some

theorem nbzL : ∀ (j : Nat) (x : Value), zeroU[j]? = some x → ∀ z : Int, x ≠ .int .u8 z := nb8 ⟨_, _, _, rfl⟩ ⟨_, _, _, rfl⟩ ⟨_, _, _, rfl⟩ ⟨_, _, _, rfl⟩ ⟨_, _, _, rfl⟩
/-- A slice of bytes outlives what is written where a URL's cells are. -/
theorem By.awayL {B : Nat} {cs : Array Value} {X Y : World} {v : Value} {l : List UInt8} (h : By X v l) (hU : UB B cs X) (hcs : ∀ (j : Nat) (x : Value), cs[j]? = some x → ∀ z : Int, x ≠ .int .u8 z) (hk : ∀ S : Nat → Prop, ¬ S B → Keep S X Y) : By Y v l := by
  obtain ⟨q, c, rfl, h2, h3, h4, h5⟩ := h
  refine ⟨q, c, rfl, h2, h3, h4, fun h0 => ?_⟩
  obtain ⟨b, o, he, hc⟩ := h5 h0
  refine ⟨b, o, he, fun j hj => ?_⟩
  have hne : b ≠ B := fun e => by
    subst e
    have h1 := hc j hj
    simp only [World.cell?, show X.heap[b]? = _ from hU] at h1
    exact hcs _ _ h1 _ rfl
  exact (World.cell?_of_block ((hk (fun k => k ≠ B) (fun h => h rfl)).block b (World.block_lt_of_cell? X _ (hc j hj)) hne)).trans (hc j hj)
/-- canonOf's contract. -/
def CanonOk : Prop := ∀ (q : Option Addr) (n c : Nat) (t : List UInt8) (w : World), By w (.slice q n c) t → n ≤ 4096 → Gl w → Calls Tryz.prog 148 #[.slice q n c] w fun e w' => CanonOut (canonU t) w e w'

set_option maxRecDepth 100000 in
set_option maxHeartbeats 8000000 in
theorem Parse_of (hcan : CanonOk) (q : Option Addr) (n c : Nat) (t : List UInt8) (w : World) (hby : By w (.slice q n c) t) (hn : n ≤ 4096) (hG : Gl w) (hT : ∀ u, canonU t = .inr u → (textU u).length ≤ 4096) :
    Calls Tryz.prog 131 #[.slice q n c] w fun e w' => CanonOut (canonU t) w e w' := by
  have d0 : decide ((4096 : Int) < (n : Int)) = false := by simp; omega
  obtain ⟨X0, hX0⟩ : ∃ X0, w.alloc (.cells #[.slice none 0 0, .slice none 0 0, .int .i64 0, .slice none 0 0, .slice none 0 0, .slice none 0 0, .bool false, .bool false] 208) = X0 := ⟨_, rfl⟩
  have B_0 : Below w.heap.size w X0 := by rw [← hX0]; exact (Below.refl _ w).alloc (Nat.le_refl _) _
  have U_0 : UB w.heap.size zeroU X0 := by rw [← hX0]; exact UB.new w zeroU
  have con := hcan q n c t X0 (hby.on B_0) hn (hG.on B_0)
  have hok : ∀ u, canonU t = .inr u → Ok u := fun u h => parse_ok t u (by rw [parse_canon t (by rw [hby.at.1]; exact hn)]; exact h)
  have HX0 := Lib.hid hX0
  have HG := Lib.hid hG
  clear hX0 hby hG
  cases hc : canonU t with
  | inl m =>
    rw [hc] at con
    clear hc hok hT
    go_enter Tryz.func131, Tryz.ntmps131
    go_wp2_with fail
    rw [HX0.out]
    refine con.mono ?_
    rintro e X1 ⟨hm, rfl, hb⟩
    have U_1 := U_0.on hb
    have B_1 := B_0.trans (hb.mono B_0.size)
    clear con hb U_0 B_0 HX0
    have e1 : ((m : Int) != 0) = true := by rw [bne_iff_ne]; exact hm
    have HM := Lib.hid hm
    clear hm
    unfold zeroU
    have zc : ∀ o, UB w.heap.size zeroU (X1.alloc o) := fun o => U_1.on ((Below.refl _ _).alloc (Nat.le_refl _) _)
    have zc0 := fun o => (zc o).box 0 _ rfl
    have zc1 := fun o => (zc o).box 1 _ rfl
    have zc2 := fun o => (zc o).box 2 _ rfl
    have zc3 := fun o => (zc o).box 3 _ rfl
    have zc4 := fun o => (zc o).box 4 _ rfl
    have zc5 := fun o => (zc o).box 5 _ rfl
    have zc6 := fun o => (zc o).box 6 _ rfl
    have zc7 := fun o => (zc o).box 7 _ rfl
    have zf0 := fun o => (zc o).frozen 0
    have zf1 := fun o => (zc o).frozen 1
    have zf2 := fun o => (zc o).frozen 2
    have zf3 := fun o => (zc o).frozen 3
    have zf4 := fun o => (zc o).frozen 4
    have zf5 := fun o => (zc o).frozen 5
    have zf6 := fun o => (zc o).frozen 6
    have zf7 := fun o => (zc o).frozen 7
    clear zc
    go_wp2
    have U_2 := U_1.on ((Below.refl X1.heap.size X1).alloc (Nat.le_refl _) (.cells #[.slice none 0 0, .slice none 0 0, .int .i64 0, .slice none 0 0, .slice none 0 0, .slice none 0 0, .bool false, .bool false] 208))
    have B_2 := B_1.alloc B_1.size (.cells #[.slice none 0 0, .slice none 0 0, .int .i64 0, .slice none 0 0, .slice none 0 0, .slice none 0 0, .bool false, .bool false] 208)
    obtain ⟨Y, hY, hU, hkY, hbY⟩ := UB.put (show UB w.heap.size #[.slice none 0 0, .slice none 0 0, .int .i64 0, .slice none 0 0, .slice none 0 0, .slice none 0 0, .bool false, .bool false] _ from U_2) (.slice none 0 0) (.slice none 0 0) (.int .i64 0) (.slice none 0 0) (.slice none 0 0) (.slice none 0 0) (.bool false) (.bool false)
    rw [hY]
    (try simp only [Exit.inBlock, Exit.then])
    refine bodyPost_ret (ret_url2 rfl _ _ w.heap.size _ rfl hU rfl) rfl ?_
    exact ⟨HM.out, rfl, B_2.trans (hbY _ (Nat.le_refl _))⟩
  | inr u =>
    rw [hc] at con
    have HO := Lib.hid (hok u hc)
    have HT := Lib.hid (hT u hc)
    clear hc hok hT
    go_enter Tryz.func131, Tryz.ntmps131
    go_wp2_with fail
    rw [HX0.out]
    refine con.mono ?_
    rintro e X1 ⟨v, rfl, hin, hb⟩
    have U_1 := U_0.on hb
    have B_1 := B_0.trans (hb.mono B_0.size)
    clear con hb U_0 B_0 HX0
    obtain ⟨q0, n0, c0, q1, n1, c1, q3, n3, c3, q4, n4, c4, q5, n5, c5, rfl, i0, i1, i3, i4, i5⟩ := id hin
    obtain ⟨X2, hX2⟩ : ∃ X2, X1.alloc (.cells #[.slice q0 n0 c0, .slice q1 n1 c1, .int .i64 u.port, .slice q3 n3 c3, .slice q4 n4 c4, .slice q5 n5 c5, .bool u.hq, .bool u.hf] 208) = X2 := ⟨_, rfl⟩
    have hb : Below X1.heap.size X1 X2 := by rw [← hX2]; exact (Below.refl _ _).alloc (Nat.le_refl _) _
    obtain ⟨b4, hb4⟩ : ∃ b, X1.heap.size = b := ⟨_, rfl⟩
    have W_2 : UB b4 #[.slice q0 n0 c0, .slice q1 n1 c1, .int .i64 u.port, .slice q3 n3 c3, .slice q4 n4 c4, .slice q5 n5 c5, .bool u.hq, .bool u.hf] X2 := by rw [← hX2, ← hb4]; exact UB.new X1 _
    have hne : ¬ w.heap.size = b4 := by have := U_1.lt; omega
    have hne' : ¬ b4 = w.heap.size := fun h => hne h.symm
    have U_2 := U_1.on hb
    have B_2 := B_1.trans (hb.mono B_1.size)
    have HX2 := Lib.hid hX2
    have HB4 := Lib.hid hb4
    have con := Text_any u _ X2 (hin.on hb) HO.out (HG.out.on B_2) (by have := HT.out; omega)
    have j0 := i0.on hb
    have j1 := i1.on hb
    have j3 := i3.on hb
    have j4 := i4.on hb
    have j5 := i5.on hb
    obtain ⟨L, hL⟩ : ∃ L, (textU u).length = L := ⟨_, rfl⟩
    have d1 : decide ((4096 : Int) < (L : Int)) = false := by have := HT.out; simp; omega
    rw [hL] at con
    clear hX2 hb4 U_1 B_1 hin i0 i1 i3 i4 i5 hb hL
    go_wp2_with fail
    rw [HB4.out, HX2.out]
    refine con.mono ?_
    rintro e X3 ⟨v3, rfl, hr, hb⟩
    obtain ⟨qt, ct, rfl, _, _, _, _, _⟩ := row_open hr
    have U_3 := U_2.on hb
    have W_3 := W_2.on hb
    have B_3 := B_2.trans (hb.mono B_2.size)
    have k0 := j0.on hb
    have k1 := j1.on hb
    have k3 := j3.on hb
    have k4 := j4.on hb
    have k5 := j5.on hb
    clear con hr hb U_2 W_2 B_2 j0 j1 j3 j4 j5 HX2 HB4
    have yb := W_3.box
    have yc0 := yb 0 _ rfl
    have yf0 := W_3.frozen 0
    have yc1 := yb 1 _ rfl
    have yf1 := W_3.frozen 1
    have yc2 := yb 2 _ rfl
    have yf2 := W_3.frozen 2
    have yc3 := yb 3 _ rfl
    have yf3 := W_3.frozen 3
    have yc4 := yb 4 _ rfl
    have yf4 := W_3.frozen 4
    have yc5 := yb 5 _ rfl
    have yf5 := W_3.frozen 5
    have yc6 := yb 6 _ rfl
    have yf6 := W_3.frozen 6
    have yc7 := yb 7 _ rfl
    have yf7 := W_3.frozen 7
    clear yb
    have zb := U_3.box
    have zc0 := zb 0 _ rfl
    have zf0 := U_3.frozen 0
    have zc1 := zb 1 _ rfl
    have zf1 := U_3.frozen 1
    have zc2 := zb 2 _ rfl
    have zf2 := U_3.frozen 2
    have zc3 := zb 3 _ rfl
    have zf3 := U_3.frozen 3
    have zc4 := zb 4 _ rfl
    have zf4 := U_3.frozen 4
    have zc5 := zb 5 _ rfl
    have zf5 := U_3.frozen 5
    have zc6 := zb 6 _ rfl
    have zf6 := U_3.frozen 6
    have zc7 := zb 7 _ rfl
    have zf7 := U_3.frozen 7
    clear zb
    go_wp2
    obtain ⟨Y, hY, hU, hkY, hbY⟩ := UB.put (show UB w.heap.size #[.slice none 0 0, .slice none 0 0, .int .i64 0, .slice none 0 0, .slice none 0 0, .slice none 0 0, .bool false, .bool false] _ from U_3) (.slice q0 n0 c0) (.slice q1 n1 c1) (.int .i64 u.port) (.slice q3 n3 c3) (.slice q4 n4 c4) (.slice q5 n5 c5) (.bool u.hq) (.bool u.hf)
    rw [hY]
    (try simp only [Exit.inBlock, Exit.then])
    refine bodyPost_ret (ret_url2 rfl _ _ w.heap.size _ rfl hU rfl) rfl ?_
    exact ⟨_, rfl, ⟨q0, n0, c0, q1, n1, c1, q3, n3, c3, q4, n4, c4, q5, n5, c5, rfl, k0.awayL U_3 nbzL hkY, k1.awayL U_3 nbzL hkY, k3.awayL U_3 nbzL hkY, k4.awayL U_3 nbzL hkY, k5.awayL U_3 nbzL hkY⟩, B_3.trans (hbY _ (Nat.le_refl _))⟩

end Go.Proofs.YtkjkfgmoogbdiaaGreatDoor.Url

namespace Go.Proofs.YtkjkfgmoogbdiaaGreatDoor.Org
open Go.RowKit Go.Shelf Url
attribute [local go_sem] Oper.semAt_some

theorem canonOk : CanonOk := fun q n c t w h1 h2 h3 => canonOf_any q n c t w h1 h2 h3
end Go.Proofs.YtkjkfgmoogbdiaaGreatDoor.Org

namespace Go.Proofs.YtkjkfgmoogbdiaaGreatDoor.Org
open Go.RowKit Go.Shelf Url
attribute [local go_sem] Oper.semAt_some

end Go.Proofs.YtkjkfgmoogbdiaaGreatDoor.Org

namespace Go.Proofs.YtkjkfgmoogbdiaaGreatDoor.Org
open Go.RowKit Go.Shelf Url
attribute [local go_sem] Oper.semAt_some
set_option linter.unusedVariables false

end Go.Proofs.YtkjkfgmoogbdiaaGreatDoor.Org

namespace Go.Proofs.YtkjkfgmoogbdiaaGreatDoor.Org
open Go.RowKit Go.Shelf Url
attribute [local go_sem] Oper.semAt_some

theorem trim_eq {q : Option Addr} {n c : Nat} {t : List UInt8} {w : World} (hby : By w (.slice q n c) t) (h : Lib.hasPrefix t closedS = true) :
    7 ≤ n ∧ Lib.trimPrefixV q n c (Lib.numsL t) (Lib.numsL closedS) = .slice (subA q c 7) (n - 7) (c - 7) := by
  obtain ⟨h1, h2, h3, h4, h5⟩ := hby.at
  have h7 : 7 ≤ n := by
    have := (List.isPrefixOf_iff_prefix.1 h).length_le
    rw [h1] at this; exact this
  refine ⟨h7, ?_⟩
  obtain ⟨b, o, rfl, _⟩ := h5.at (by omega)
  show Lib.bytesTrimPrefix b o n c (Lib.numsL t) (Lib.numsL closedS) = _
  unfold Lib.bytesTrimPrefix Lib.sliceFrom subA
  rw [bytesOf_numsL, bytesOf_numsL, h, if_pos rfl]
  show Value.slice (if c = 7 then _ else _) _ _ = _
  split <;> rfl
theorem trim_no {q : Option Addr} {n c : Nat} {t : List UInt8} {w : World} (hby : By w (.slice q n c) t) (h : Lib.hasPrefix t closedS = false) :
    Lib.trimPrefixV q n c (Lib.numsL t) (Lib.numsL closedS) = .slice q n c := by
  obtain ⟨h1, h2, h3, h4, h5⟩ := hby.at
  unfold Lib.trimPrefixV
  split
  · unfold Lib.bytesTrimPrefix
    rw [bytesOf_numsL, bytesOf_numsL, h, if_neg (by simp)]
  · rfl
theorem Cut_pre (q : Option Addr) (n c : Nat) (t : List UInt8) (X : World) (a : Option Addr) (hby : By X (.slice q n c) t) (hs : By X (.slice a 7 7) closedS) :
    Calls Tryz.prog 129 #[.slice q n c, .slice a 7 7] X fun e w' => e = .returned (.tuple #[if closedS.isPrefixOf t = true then .slice (subA q c 7) (n - 7) (c - 7) else .slice q n c, .bool (closedS.isPrefixOf t)]) ∧ w' = X := by
  obtain ⟨h1, h2, h3, h4, h5⟩ := hby.at
  refine (Tryz.bytes_CutPrefix_all q a n c 7 7 (Lib.numsL t) (Lib.numsL closedS) X (by rw [Lib.numsL_length, h1]) rfl h2 h5 hs.at.2.2.2.2).mono ?_
  rintro e w' ⟨rfl, rfl⟩
  rw [bytesOf_numsL, bytesOf_numsL]
  have e : Lib.hasPrefix t closedS = closedS.isPrefixOf t := rfl
  refine ⟨?_, rfl⟩
  cases hp : closedS.isPrefixOf t with
  | true => rw [(trim_eq hby (e.trans hp)).2, e, hp, if_pos rfl]
  | false => rw [trim_no hby (e.trans hp), e, hp, if_neg (by simp)]

theorem stop_sep (r : List UInt8) : (∀ j, j < (stopL r).length → r.getD j 0 ∉ sepC) ∧ ((stopL r).length = r.length ∨ ((stopL r).length < r.length ∧ r.getD (stopL r).length 0 ∈ sepC)) := by
  have hm : ∀ b : UInt8, stopB b = true ↔ b ∈ sepC := fun b => by unfold stopB sepC; simp [or_assoc]
  obtain ⟨_, h2, h3⟩ := stop_at r
  refine ⟨fun j hj h => ?_, ?_⟩
  · have := stop_mem r _ (h2 j hj)
    rw [(hm _).2 h] at this; cases this
  · rcases h3 with h3 | ⟨h3, h4⟩
    · exact .inl h3
    · exact .inr ⟨h3, (hm _).1 h4⟩
theorem closed_pos (most : Nat) (t : List UInt8) (h : closedS.isPrefixOf t = true) : parseQ most t = closedQ most (t.drop 7) := by unfold parseQ; rw [if_pos h]
theorem closed_neg (most : Nat) (t : List UInt8) (h : closedS.isPrefixOf t = false) : parseQ most t = match parseU t with
  | .inl e => .inl e
  | .inr u => if moreB t = true then .inl 2 else .inr (.inr u) := by
  unfold parseQ; rw [if_neg (by rw [h]; simp)]; rfl

def moreQ (mo : Bool) (u : U) : Sum Int (Sum Nat U) := if mo = true then .inl 2 else .inr (.inr u)
theorem retQ_form (x : Sum Int (Sum Nat U)) : ∃ a0 a1 a2 a3 m, retQ x = .tuple #[.agg #[.string a0, .string a1, .int .i64 a2, .int .i64 a3], .int .i64 m] := by
  rcases x with m | n | u
  · exact ⟨_, _, _, _, _, rfl⟩
  · exact ⟨_, _, _, _, _, rfl⟩
  · exact ⟨_, _, _, _, _, rfl⟩
set_option maxRecDepth 100000 in
set_option maxHeartbeats 8000000 in
theorem parse_any (q : Option Addr) (n c : Nat) (t : List UInt8) (most : Nat) (w : World) (hby : By w (.slice q n c) t) (hn : n ≤ 4096) (hm : most ≤ 9223372036854775807) (hG : Gl w) (hT : ∀ u, parseU t = .inr u → (textU u).length ≤ 4096) :
    Calls Tryz.prog 109 #[.slice q n c, .int .i64 (most : Int)] w fun e w' => e = .returned (retQ (parseQ most t)) ∧ Below w.heap.size w w' := by
  have kc := fun (w : World) (C : Array Value) (n c : Nat) => Lib.run_convert_bytes_const (P := Tryz.prog) w 30 5 C n c Tryz.underlying30 Tryz.underlying5
  obtain ⟨X0, hX0⟩ : ∃ Z, w.alloc (.cells #[.string ⟨#[]⟩, .string ⟨#[]⟩, .int .i64 0, .int .i64 0] 184) = Z := ⟨_, rfl⟩
  have A_0 : Below w.heap.size w X0 := by rw [← hX0]; exact (Below.refl _ w).alloc (Nat.le_refl _) _
  have hO_0 : OB w.heap.size #[.string ⟨#[]⟩, .string ⟨#[]⟩, .int .i64 0, .int .i64 0] X0 := by rw [← hX0]; exact OB.new w _
  have hs0 : X0.heap.size = w.heap.size + 1 := by rw [← hX0, World.size_alloc]
  obtain ⟨X1, hX1⟩ : ∃ Z, X0.alloc (.cells #[.int .u8 99, .int .u8 108, .int .u8 111, .int .u8 115, .int .u8 101, .int .u8 100, .int .u8 58] 5 (7, 8)) = Z := ⟨_, rfl⟩
  have hb : Below X0.heap.size X0 X1 := by rw [← hX1]; exact (Below.refl _ _).alloc (Nat.le_refl _) _
  have B_1 := A_0.trans (hb.mono A_0.size)
  have hO_1 := hO_0.on hb
  have hlit := by_lit X0 #[.int .u8 99, .int .u8 108, .int .u8 111, .int .u8 115, .int .u8 101, .int .u8 100, .int .u8 58] closedS (7, 8) 7 rfl rfl (by decide)
  rw [hX1, hs0] at hlit
  have T_1 := hby.on B_1
  have con := Cut_pre q n c t X1 _ T_1 hlit
  have kc1 := kc (w.alloc (.cells #[.string ⟨#[]⟩, .string ⟨#[]⟩, .int .i64 0, .int .i64 0] 184)) #[.int .u8 99, .int .u8 108, .int .u8 111, .int .u8 115, .int .u8 101, .int .u8 100, .int .u8 58] 7 7
  rw [World.size_alloc] at kc1
  have HX0 := Lib.hid hX0
  have HX1 := Lib.hid hX1
  have HG := Lib.hid hG
  have HS0 := Lib.hid hs0
  have hTl := hby.at.1
  clear hX0 hX1 hlit hby hG A_0 hO_0 hb hs0
  cases hp : closedS.isPrefixOf t with
  | true =>
    rw [hp, if_pos rfl] at con
    have h7 : 7 ≤ n := (trim_eq T_1 hp).1
    have con2 := parseClosed_any (subA q c 7) (n - 7) (c - 7) (t.drop 7) most X1 (T_1.drop h7) (by omega) hm
    rw [closed_pos most t hp]
    obtain ⟨a0, a1, a2, a3, m, hr⟩ := retQ_form (closedQ most (t.drop 7))
    rw [hr] at con2
    have HR := Lib.hid hr
    clear hr hp T_1 hTl
    go_enter Tryz.func109, Tryz.ntmps109
    go_wp2_with fail
    rw [HX0.out, HX1.out]
    refine con.mono ?_
    rintro e w1 ⟨rfl, rfl⟩
    clear con
    go_wp2_with fail
    refine con2.mono ?_
    rintro e w2 ⟨rfl, hb⟩
    have B_2 := B_1.trans (hb.mono B_1.size)
    have hO_2 := hO_1.on hb
    clear con2 hb hO_1 B_1 HX0 HX1
    have z0 := hO_2.box 0 _ rfl
    have z1 := hO_2.box 1 _ rfl
    have z2 := hO_2.box 2 _ rfl
    have z3 := hO_2.box 3 _ rfl
    have f0 := hO_2.frozen 0
    have f1 := hO_2.frozen 1
    have f2 := hO_2.frozen 2
    have f3 := hO_2.frozen 3
    go_wp2
    obtain ⟨Y, hY, hU, hkY, hbY⟩ := OB.put hO_2 (.string a0) (.string a1) (.int .i64 a2) (.int .i64 a3)
    rw [hY]
    (try simp only [Exit.inBlock, Exit.then])
    refine bodyPost_ret (ret_org2 rfl _ _ w.heap.size _ rfl hU rfl) rfl ?_
    exact ⟨by rw [HR.out]; rfl, B_2.trans (hbY _ (Nat.le_refl _))⟩
  | false =>
    rw [hp, if_neg (by simp)] at con
    rw [closed_neg most t hp]
    have hpc := parse_canon t (by omega)
    have con2 := Parse_of canonOk q n c t X1 T_1 hn (HG.out.on B_1) (fun u hu => hT u (hpc.trans hu))
    cases hc : canonU t with
    | inl m =>
      rw [hpc, hc]
      rw [hc] at con2
      clear hc hpc hp hT T_1 hTl
      go_enter Tryz.func109, Tryz.ntmps109
      go_wp2_with fail
      rw [HX0.out, HX1.out]
      refine con.mono ?_
      rintro e w1 ⟨rfl, rfl⟩
      clear con
      go_wp2_with fail
      refine con2.mono ?_
      rintro e w2 ⟨hm0, rfl, hb⟩
      have e1 : ((m : Int) != 0) = true := by rw [bne_iff_ne]; exact hm0
      have B_2 := B_1.trans (hb.mono B_1.size)
      have hO_2 := hO_1.on hb
      have A_3 := (Below.refl _ w2).alloc (Nat.le_refl _) (.cells zeroU 208)
      have B_3 := B_2.trans (A_3.mono B_2.size)
      have hO_3 := hO_2.on A_3
      unfold zeroU at *
      clear con2 hb hO_1 B_1 HX0 HX1 hm0
      have z0 := hO_3.box 0 _ rfl
      have z1 := hO_3.box 1 _ rfl
      have z2 := hO_3.box 2 _ rfl
      have z3 := hO_3.box 3 _ rfl
      have f0 := hO_3.frozen 0
      have f1 := hO_3.frozen 1
      have f2 := hO_3.frozen 2
      have f3 := hO_3.frozen 3
      go_wp2
      obtain ⟨Y, hY, hU, hkY, hbY⟩ := OB.put hO_3 (.string ⟨#[]⟩) (.string ⟨#[]⟩) (.int .i64 0) (.int .i64 0)
      rw [hY]
      (try simp only [Exit.inBlock, Exit.then])
      refine bodyPost_ret (ret_org2 rfl _ _ w.heap.size _ rfl hU rfl) rfl ?_
      exact ⟨rfl, B_3.trans (hbY _ (Nat.le_refl _))⟩
    | inr u =>
      rw [hpc, hc]
      rw [hc] at con2
      obtain ⟨s, r, hsep, hsm⟩ := parse_sep t u (hpc.trans hc)
      rcases sep_cases t with ⟨hk, hsp⟩ | ⟨k, hk, hkl, hsp⟩
      · rw [hsep] at hsp; cases hsp
      rw [hsep] at hsp
      obtain ⟨rfl, rfl⟩ := Prod.mk.inj (Option.some.inj hsp)
      have hmore : moreB t = decide ((stopL (t.drop (k + 3))).length < (t.drop (k + 3)).length) := by unfold moreB; rw [hsep]
      simp only
      rw [hmore]
      have hdl : (t.drop (k + 3)).length = n - (k + 3) := by rw [List.length_drop]; omega
      obtain ⟨hst1, hst2⟩ := stop_sep (t.drop (k + 3))
      have hst3 := (stop_at (t.drop (k + 3))).2.1
      have conK := fun X (hX : By X (.slice q n c) t) => ContainsAny_sep (subA q c (k + 3)) (n - (k + 3)) (c - (k + 3)) (stopL (t.drop (k + 3))).length (t.drop (k + 3)) X (hX.drop (by omega)) (by omega) (fun j hj => ⟨hsm _ (hst3 j hj), hst1 j hj⟩) (by rw [← hdl]; exact hst2)
      have hcs := cut_some (q := q) (n := n) (c := c) hk
      rw [hdl]
      clear hc hpc hp hT hsep hsp hmore hst1 hst2 hst3 hsm hk
      generalize (stopL (t.drop (k + 3))).length = K at *
      generalize decide (K < n - (k + 3)) = mo at *
      show Calls _ _ _ _ fun e w' => e = .returned (retQ (moreQ mo u)) ∧ _
      have HK := Lib.hid conK
      have HCS := Lib.hid hcs
      clear conK hcs hdl
      go_enter Tryz.func109, Tryz.ntmps109
      go_wp2_with fail
      rw [HX0.out, HX1.out]
      refine con.mono ?_
      rintro e w1 ⟨rfl, rfl⟩
      clear con
      go_wp2_with fail
      refine con2.mono ?_
      rintro e X2 ⟨v, rfl, hin, hb⟩
      have B_2 := B_1.trans (hb.mono B_1.size)
      have hO_2 := hO_1.on hb
      have T_2 := T_1.on hb
      clear con2 hb hO_1 B_1 HX0 HX1 T_1
      obtain ⟨q0, n0, c0, q1, n1, c1, q3, n3, c3, q4, n4, c4, q5, n5, c5, rfl, _⟩ := id hin
      obtain ⟨X3, hX3⟩ : ∃ Z, X2.alloc (.cells #[.slice q0 n0 c0, .slice q1 n1 c1, .int .i64 u.port, .slice q3 n3 c3, .slice q4 n4 c4, .slice q5 n5 c5, .bool u.hq, .bool u.hf] 208) = Z := ⟨_, rfl⟩
      obtain ⟨b8, hb8⟩ : ∃ b, X2.heap.size = b := ⟨_, rfl⟩
      have U_3 : UB b8 #[.slice q0 n0 c0, .slice q1 n1 c1, .int .i64 u.port, .slice q3 n3 c3, .slice q4 n4 c4, .slice q5 n5 c5, .bool u.hq, .bool u.hf] X3 := by rw [← hX3, ← hb8]; exact UB.new X2 _
      have hb : Below X2.heap.size X2 X3 := by rw [← hX3]; exact (Below.refl _ _).alloc (Nat.le_refl _) _
      have B_3 := B_2.trans (hb.mono B_2.size)
      have hO_3 := hO_2.on hb
      have T_3 := T_2.on hb
      have I_3 := hin.on hb
      have hs3 : X3.heap.size = b8 + 1 := by rw [← hX3, ← hb8, World.size_alloc]
      have HX3 := Lib.hid hX3
      have HB8 := Lib.hid hb8
      clear hX3 hb8 hb hO_2 B_2 T_2 hin
      obtain ⟨X4, hX4⟩ : ∃ Z, X3.alloc (.cells #[.int .u8 58, .int .u8 47, .int .u8 47] 5 (3, 4)) = Z := ⟨_, rfl⟩
      have hb : Below X3.heap.size X3 X4 := by rw [← hX4]; exact (Below.refl _ _).alloc (Nat.le_refl _) _
      have hlit := bytes_lit (w := X3) #[.int .u8 58, .int .u8 47, .int .u8 47] sepS (3, 4) rfl
      rw [hX4, hs3] at hlit
      have B_4 := B_3.trans (hb.mono B_3.size)
      have hO_4 := hO_3.on hb
      have T_4 := T_3.on hb
      have I_4 := I_3.on hb
      have U_4 := U_3.on hb
      have con := Cut_any q (some ⟨b8 + 1, 0, none⟩) n c 3 t X4 T_4 (by omega) (HG.out.on B_4) hlit
      rw [HCS.out] at con
      have kc3 := kc (X2.alloc (.cells #[.slice q0 n0 c0, .slice q1 n1 c1, .int .i64 u.port, .slice q3 n3 c3, .slice q4 n4 c4, .slice q5 n5 c5, .bool u.hq, .bool u.hf] 208)) #[.int .u8 58, .int .u8 47, .int .u8 47] 3 3
      rw [World.size_alloc] at kc3
      have HX4 := Lib.hid hX4
      clear hX4 hs3 hb hO_3 B_3 T_3 I_3 U_3 hlit
      go_wp2_with fail
      rw [HB8.out, HX3.out, HX4.out]
      refine con.mono ?_
      rintro e X5 ⟨rfl, m, hX5⟩
      have hb : Below X4.heap.size X4 X5 := by rw [hX5]; exact Url.below_drewN _ _
      have B_5 := B_4.trans (hb.mono B_4.size)
      have hO_5 := hO_4.on hb
      have T_5 := T_4.on hb
      have I_5 := I_4.on hb
      have U_5 := U_4.on hb
      clear con hX5 hb hO_4 B_4 T_4 I_4 U_4 HX3 HX4 kc3
      have con := HK.out X5 T_5
      go_wp2_with fail
      refine con.mono ?_
      rintro e X6 ⟨rfl, hb⟩
      have B_6 := B_5.trans (hb.mono B_5.size)
      have hO_6 := hO_5.on hb
      have I_6 := I_5.on hb
      have U_6 := U_5.on hb
      clear con hb hO_5 B_5 T_5 I_5 U_5 HK
      cases mo with
      | true =>
        have z0 := hO_6.box 0 _ rfl
        have z1 := hO_6.box 1 _ rfl
        have z2 := hO_6.box 2 _ rfl
        have z3 := hO_6.box 3 _ rfl
        have f0 := hO_6.frozen 0
        have f1 := hO_6.frozen 1
        have f2 := hO_6.frozen 2
        have f3 := hO_6.frozen 3
        go_wp2
        obtain ⟨Y, hY, hU, hkY, hbY⟩ := OB.put hO_6 (.string ⟨#[]⟩) (.string ⟨#[]⟩) (.int .i64 0) (.int .i64 0)
        rw [hY]
        (try simp only [Exit.inBlock, Exit.then])
        refine bodyPost_ret (ret_org2 rfl _ _ w.heap.size _ rfl hU rfl) rfl ?_
        exact ⟨rfl, B_6.trans (hbY _ (Nat.le_refl _))⟩
      | false =>
        have con := Of_any u _ X6 I_6
        unfold orgV at con
        have x0 := U_6.box 0 _ rfl
        have x1 := U_6.box 1 _ rfl
        have x2 := U_6.box 2 _ rfl
        have x3 := U_6.box 3 _ rfl
        have x4 := U_6.box 4 _ rfl
        have x5 := U_6.box 5 _ rfl
        have x6 := U_6.box 6 _ rfl
        have x7 := U_6.box 7 _ rfl
        go_wp2_with fail
        refine con.mono ?_
        rintro e X7 ⟨rfl, hb⟩
        have B_7 := B_6.trans (hb.mono B_6.size)
        have hO_7 := hO_6.on hb
        clear con hb hO_6 B_6 I_6 U_6 x0 x1 x2 x3 x4 x5 x6 x7
        have z0 := hO_7.box 0 _ rfl
        have z1 := hO_7.box 1 _ rfl
        have z2 := hO_7.box 2 _ rfl
        have z3 := hO_7.box 3 _ rfl
        have f0 := hO_7.frozen 0
        have f1 := hO_7.frozen 1
        have f2 := hO_7.frozen 2
        have f3 := hO_7.frozen 3
        go_wp2
        obtain ⟨Y, hY, hU, hkY, hbY⟩ := OB.put hO_7 (.string ⟨u.scheme.toArray⟩) (.string ⟨u.host.toArray⟩) (.int .i64 u.port) (.int .i64 0)
        rw [hY]
        (try simp only [Exit.inBlock, Exit.then])
        refine bodyPost_ret (ret_org2 rfl _ _ w.heap.size _ rfl hU rfl) rfl ?_
        exact ⟨rfl, B_7.trans (hbY _ (Nat.le_refl _))⟩

end Go.Proofs.YtkjkfgmoogbdiaaGreatDoor.Org

namespace Go.Proofs.YtkjkfgmoogbdiaaGreatDoor.Org
open Go.RowKit Go.Shelf Url
attribute [local go_sem] Oper.semAt_some

/-- What an origin is as a value. -/
def valQ : Sum Nat U → Value
  | .inl n => orgV [] [] 0 (n : Int)
  | .inr u => orgV u.scheme u.host u.port 0
theorem retQ_inr (x : Sum Nat U) : retQ (.inr x) = .tuple #[valQ x, .int .i64 0] := by cases x <;> rfl
/-- It is one: a number from 1 on, or a URL in its one form. -/
def QOk : Sum Nat U → Prop
  | .inl n => 1 ≤ n ∧ n ≤ 9223372036854775807
  | .inr u => Ok u
theorem Text_val (x : Sum Nat U) (h : QOk x) (w : World) (hG : Gl w) :
    Calls Tryz.prog 110 #[valQ x] w fun e w' => e = .returned (.string ⟨(textO x).toArray⟩) ∧ Below w.heap.size w w' := by
  cases x with
  | inl n => exact Text_closed n h.1 h.2 w hG
  | inr u => exact Text_server u h w hG
theorem val_form (x : Sum Nat U) : ∃ a0 a1 a2 a3, valQ x = .agg #[.string a0, .string a1, .int .i64 a2, .int .i64 a3] := by
  cases x <;> exact ⟨_, _, _, _, rfl⟩

end Go.Proofs.YtkjkfgmoogbdiaaGreatDoor.Org

namespace Go.Proofs.YtkjkfgmoogbdiaaGreatDoor.Org
open Go.RowKit Go.Shelf Url
set_option linter.unusedVariables false

theorem rest_err (s r : List UInt8) (n : Int) (h : restU s r = .inl n) : n ≠ 0 := by
  unfold restU at h
  simp only at h
  split at h
  · rename_i hh
    cases h; exact hh
  · split at h
    · cases h
    · cases h; decide
theorem parse_err (t : List UInt8) (n : Int) (h : parseU t = .inl n) : n ≠ 0 := by
  unfold parseU at h
  split at h
  · cases h; decide
  · split at h
    · cases h; decide
    · split at h
      · exact rest_err _ _ _ h
      · cases h; decide
theorem Q_err (most : Nat) (t : List UInt8) (n : Int) (h : parseQ most t = .inl n) : n ≠ 0 := by
  unfold parseQ at h
  split at h
  · unfold closedQ at h
    split at h
    · split at h
      · cases h
      · cases h; decide
    · cases h; decide
  · split at h
    · rename_i e he
      cases h; exact parse_err t _ he
    · split at h
      · cases h; decide
      · cases h
end Go.Proofs.YtkjkfgmoogbdiaaGreatDoor.Org

namespace Go.Proofs.YtkjkfgmoogbdiaaGreatDoor.Cls
open Go.RowKit Go.Shelf Url Org
attribute [local go_sem] Oper.semAt_some

theorem prin_err (t : List UInt8) (n : Int) (h : parseQ 9223372036854775807 t = .inl n) : prinB t = false := by unfold prinB; rw [h]
theorem prin_is (t : List UInt8) (x : Sum Nat U) (h : parseQ 9223372036854775807 t = .inr x) : prinB t = decide (textO x = t) := by unfold prinB; rw [h]
theorem q_ok (t : List UInt8) (x : Sum Nat U) (h : parseQ 9223372036854775807 t = .inr x) : QOk x := by
  rcases Q_in _ t x h with ⟨n, rfl, h1, h2⟩ | ⟨u, rfl, hu⟩
  · exact ⟨h1, h2⟩
  · exact parse_ok t u hu
set_option maxRecDepth 100000 in
set_option maxHeartbeats 8000000 in
theorem Principal_any (t : List UInt8) (w : World) (hn : t.length ≤ 1300) (hG : Gl w) :
    Calls Tryz.prog 93 #[.string ⟨t.toArray⟩] w fun e w' => e = .returned (.bool (prinB t)) ∧ Below w.heap.size w w' := by
  obtain ⟨c, X, k0, hby, B1, -⟩ := conv_new w t (by omega)
  have con := parse_any (some ⟨w.heap.size, 0, none⟩) t.length c t 9223372036854775807 X hby (by omega) (by omega) (hG.on B1) (fun u hu => by have := text_len t u hu; omega)
  have HG := Lib.hid hG
  cases hq : parseQ 9223372036854775807 t with
  | inl n =>
    have HP := Lib.hid (prin_err t n hq)
    have e1 : ((n : Int) == 0) = false := by rw [beq_eq_false_iff_ne]; exact Q_err _ t n hq
    rw [hq] at con
    unfold retQ orgV at con
    clear hby hG hq
    go_enter Tryz.func93, Tryz.ntmps93
    go_wp2_with fail
    (try rw [k0])
    go_wp2_with fail
    refine con.mono ?_
    rintro e X2 ⟨rfl, hb⟩
    have B2 := B1.trans (hb.mono B1.size)
    have B3 := B2.alloc B2.size (.cells #[.string ⟨#[]⟩, .string ⟨#[]⟩, .int .i64 0, .int .i64 0] 184)
    clear hb B1 B2 k0 con
    go_wp2
    go_ret
    exact ⟨by rw [HP.out]; try rfl, B3⟩
  | inr x =>
    have HP := Lib.hid (prin_is t x hq)
    have con2 := fun Y (hY : Gl Y) => Text_val x (q_ok t x hq) Y hY
    rw [hq, retQ_inr] at con
    obtain ⟨a0, a1, a2, a3, hv⟩ := val_form x
    rw [hv] at con con2
    have e2 := strs_eq (textO x) t
    generalize textO x = T at *
    have HC := Lib.hid con2
    clear hby hG hq hv con2
    obtain ⟨z, hz⟩ : ∃ z, decide (T = t) = z := ⟨_, rfl⟩
    have e3 : (T == t) = z := by rw [← hz, Bool.eq_iff_iff, beq_iff_eq, decide_eq_true_iff]
    rw [hz] at HP e2
    clear hz
    go_enter Tryz.func93, Tryz.ntmps93
    go_wp2_with fail
    (try rw [k0])
    go_wp2_with fail
    refine con.mono ?_
    rintro e X2 ⟨rfl, hb⟩
    have B2 := B1.trans (hb.mono B1.size)
    have A3 := (Below.refl _ X2).alloc (Nat.le_refl _) (.cells #[.string a0, .string a1, .int .i64 a2, .int .i64 a3] 184)
    have hN := OB.new X2 #[.string a0, .string a1, .int .i64 a2, .int .i64 a3]
    have B3 := B2.trans (A3.mono B2.size)
    have n0 := hN.box 0 _ rfl
    have n1 := hN.box 1 _ rfl
    have n2 := hN.box 2 _ rfl
    have n3 := hN.box 3 _ rfl
    have con := HC.out _ (HG.out.on B3)
    clear hb B1 B2 A3 k0 hN
    go_wp2_with fail
    refine con.mono ?_
    rintro e X4 ⟨rfl, hb⟩
    clear con
    go_wp2
    go_ret
    exact ⟨by rw [HP.out, ← e3]; try rfl, B3.trans (hb.mono B3.size)⟩

end Go.Proofs.YtkjkfgmoogbdiaaGreatDoor.Cls

namespace Go.Proofs.YtkjkfgmoogbdiaaGreatDoor.Cls
open Go.RowKit Go.Shelf Url Org Frm
attribute [local go_sem] Oper.semAt_some

def errC {α : Type} : Sum Int α → Int
  | .inl n => n
  | .inr _ => 0
def valC {α : Type} : Sum Int (List α) → List α
  | .inl _ => []
  | .inr x => x
theorem set_nil (w : World) : SetIs encStr w (.agg #[.slice none 0 0]) [] := ⟨none, 0, 0, rfl, Nat.le_refl _, Nat.zero_le _, SlIn.nil _ _ _, Rises.nil⟩
theorem set_form {w : World} {v : Value} {x : List (List UInt8)} (h : SetIs encStr w v x) : ∃ q n c, v = .agg #[.slice q n c] := by
  obtain ⟨q, n, c, rfl, _⟩ := h
  exact ⟨q, n, c, rfl⟩
theorem set_keep {w w' : World} {v : Value} {x : List (List UInt8)} (h : SetIs encStr w v x) (hk : Keep (· < w.heap.size) w w') : SetIs encStr w' v x := by
  obtain ⟨q, n, c, rfl, h1, h2, h3, h4⟩ := h
  exact ⟨q, n, c, rfl, h1, h2, h3.keep hk h3.lt, h4⟩
theorem ret_cls2 {fn : Func} {p u : Tmp} (h : fn.results = #[.cell p 112, .tmp u]) (tmps : Array Value) (w : World) (B : Nat) (v : Value) (hp : tmps.getD p undef = .pointer (some ⟨B, 0, none⟩)) (hU : Boxed w B 112 v) :
    (results fn tmps).run Tryz.prog w = .ok (.tuple #[.agg #[v], tmps.getD u undef]) w := by
  rw [results_cell_tmp h, hp]
  simp [asAddr, Result.andThen, run_loadVar_row w B 112 _ #[v] (0, 0) _ hU Tryz.underlying112 rfl (by kernel_rfl)]

set_option maxHeartbeats 1000000 in
theorem Implies_any (v1 v2 : Value) (x y : List (List UInt8)) (w : World) (h1 : SetIs encStr w v1 x) (h2 : SetIs encStr w v2 y) (l1 : x.length ≤ 1099511627776) (l2 : y.length ≤ 1099511627776) :
    Calls Tryz.prog 74 #[v1, v2] w fun e w' => e = .returned (.bool (subB x y)) ∧ Below w.heap.size w w' := by
  obtain ⟨q1, n1, c1, rfl⟩ := set_form h1
  obtain ⟨q2, n2, c2, rfl⟩ := set_form h2
  have A1 := below_alloc (w := w) (.cells #[.slice q1 n1 c1] 112)
  have A2 := A1.trans ((below_alloc (w := w.alloc (.cells #[.slice q1 n1 c1] 112)) (.cells #[.slice q2 n2 c2] 112)).mono A1.size)
  have con := S.Sub_any _ _ x y _ (h1.below A2) (h2.below A2) l1 l2
  clear h1 h2
  go_enter Tryz.func74, Tryz.ntmps74
  go_wp2_with fail
  refine con.mono ?_
  rintro e w' ⟨rfl, hb⟩
  go_wp2
  go_ret
  exact ⟨rfl, A2.trans (hb.mono A2.size)⟩

/-- A set of at most 16 principals, or the error. -/
def bndC (x : List (List UInt8)) : Sum Int (List (List UInt8)) := if x.length ≤ 16 then .inr x else .inl 3
theorem ofC_bnd (l : List (List UInt8)) : ofC l = if l.all prinB = true then bndC (setS l) else .inl 2 := by
  unfold ofC bndC; rw [setS_sort]
end Go.Proofs.YtkjkfgmoogbdiaaGreatDoor.Cls

namespace Go.Proofs.YtkjkfgmoogbdiaaGreatDoor.Cls
open Go.RowKit Go.Shelf Url Org Frm
attribute [local go_sem] Oper.semAt_some

/-- Between two rounds: what has come lies in the box's row. -/
def ColI (T e : TypeId) (Bo : Nat) (RB : Nat → Prop) (W0 : World) (pre : List (List UInt8)) (Pv : Nat → Prop) (W : World) : Prop :=
  ∃ v, Boxed W Bo T v ∧ W.ownsRow W0.heap.size e 1 v pre.length (pre.map encStr) ∧ (∀ b, Pv b → W0.heap.size ≤ b) ∧ (∀ b, v.ownBlock = some b → ¬ Pv b) ∧ Keep RB W0 W
theorem ColI_abide (T e : TypeId) (Bo : Nat) (RB : Nat → Prop) (W0 : World) (hBo : Bo < W0.heap.size) (hRB : ∀ b, RB b → b < W0.heap.size) : Abide (ColI T e Bo RB W0) := by
  rintro pre Pv Pv' A B ⟨v, h1, h2, h3, h5, h6⟩ hk hp
  have hs := h6.size
  refine ⟨v, hk.boxed h1 (fun h => by have := h3 _ h; omega), hk.row h2 h5, fun b hb => ?_, fun b hb hp' => ?_, h6.trans (hk.mono fun b _ hb hpb => by have := h3 b hpb; have := hRB b hb; omega)⟩
  · rcases (hp b hb).1 with h | h
    · exact h3 b h
    · omega
  · rcases (hp _ hp').1 with h | h
    · exact h5 b hb h
    · have := (h2.lt b hb).2; omega

end Go.Proofs.YtkjkfgmoogbdiaaGreatDoor.Cls

namespace Go.Proofs.YtkjkfgmoogbdiaaGreatDoor.Frm
open Go.RowKit Go.Shelf Url Org Cls
attribute [local go_sem] Oper.semAt_some

/-- A clause as it lies in memory, and what it is. -/
abbrev Cl := (Option Addr × Nat × Nat) × List (List UInt8)
def encC (z : Cl) : Value := .slice z.1.1 z.1.2.1 z.1.2.2
/-- It reads so in w. -/
structure ClAt (w : World) (z : Cl) : Prop where
  set : SetIs encStr w (.agg #[encC z]) z.2
  few : z.2.length ≤ 16
theorem ClAt.keep {w w' : World} {z : Cl} (h : ClAt w z) (hk : Keep (· < w.heap.size) w w') : ClAt w' z := ⟨set_keep h.set hk, h.few⟩
theorem ClAt.below {w w' : World} {z : Cl} (h : ClAt w z) (hb : Below w.heap.size w w') : ClAt w' z := h.keep (Keep.of_below hb)
theorem ClAt.rise {w : World} {z : Cl} (h : ClAt w z) : Rises z.2 := by
  obtain ⟨q, n, c, _, _, _, _, h4⟩ := h.set
  exact h4
/-- The row at q, of n cells, is of these clauses. -/
def ClsIn (w : World) (q : Option Addr) (n : Nat) (xs : List (List (List UInt8))) : Prop := ∃ zs : List Cl, SlIn encC w q n zs ∧ (∀ z ∈ zs, ClAt w z) ∧ xs = zs.map Prod.snd
theorem ClsIn.nil (w : World) (q : Option Addr) : ClsIn w q 0 [] := ⟨[], SlIn.nil _ _ _, fun z hz => (by cases hz), rfl⟩
theorem ClsIn.len {w : World} {q : Option Addr} {n : Nat} {xs : List (List (List UInt8))} (h : ClsIn w q n xs) : xs.length = n := by
  obtain ⟨zs, h1, _, rfl⟩ := h
  rw [List.length_map]; exact h1.1
theorem ClsIn.below {w w' : World} {q : Option Addr} {n : Nat} {xs : List (List (List UInt8))} (h : ClsIn w q n xs) (hb : Below w.heap.size w w') : ClsIn w' q n xs := by
  obtain ⟨zs, h1, h2, rfl⟩ := h
  exact ⟨zs, h1.below hb h1.lt, fun z hz => (h2 z hz).below hb, rfl⟩
theorem ClsIn.lt {w : World} {q : Option Addr} {n : Nat} {xs : List (List (List UInt8))} (h : ClsIn w q n xs) : ∀ a, q = some a → 0 < n → a.block < w.heap.size := by
  obtain ⟨zs, h1, _⟩ := h
  exact h1.lt
/-- The clause at a place. -/
theorem ClsIn.at {w : World} {q : Option Addr} {n : Nat} {xs : List (List (List UInt8))} (h : ClsIn w q n xs) (k : Nat) (hk : k < n) :
    ∃ b o q' n' c' x, q = some ⟨b, o, none⟩ ∧ xs[k]? = some x ∧ w.cell? ⟨b, o + k, none⟩ = some (.slice q' n' c') ∧ SetIs encStr w (.agg #[.slice q' n' c']) x ∧ x.length ≤ 16 := by
  obtain ⟨zs, h1, h2, rfl⟩ := h
  obtain ⟨b, o, rfl, _, hc⟩ := h1.at (by omega)
  have hl := h1.1
  have hz : zs[k]? = some zs[k] := List.getElem?_eq_getElem (by omega)
  have hm := h2 _ (List.mem_of_getElem? hz)
  exact ⟨b, o, _, _, _, zs[k].2, rfl, by rw [List.getElem?_map, hz]; rfl, hc k _ hz, hm.set, hm.few⟩
theorem ClsIn.ok {w : World} {q : Option Addr} {n : Nat} {xs : List (List (List UInt8))} (h : ClsIn w q n xs) : ∀ x ∈ xs, Rises x ∧ x.length ≤ 16 := by
  obtain ⟨zs, _, h2, rfl⟩ := h
  intro x hx
  obtain ⟨z, hz, rfl⟩ := List.mem_map.1 hx
  exact ⟨(h2 z hz).rise, (h2 z hz).few⟩

set_option maxRecDepth 100000 in
set_option maxHeartbeats 4000000 in
theorem oneImplies1_any (v1 : Value) (x y : List (List UInt8)) (B : Nat) (q2 : Option Addr) (n2 c2 : Nat) (w : World) (h1 : SetIs encStr w v1 x) (h2 : SetIs encStr w (.agg #[.slice q2 n2 c2]) y) (b : Boxed w B 112 (.slice q2 n2 c2)) (l1 : x.length ≤ 16) (l2 : y.length ≤ 16) :
    Calls Tryz.prog 73 #[v1, .pointer (some ⟨B, 0, none⟩)] w fun e w' => e = .returned (.bool (subB x y)) ∧ Below w.heap.size w w' := by
  obtain ⟨q1, n1, c1, rfl⟩ := set_form h1
  have A1 := below_alloc (w := w) (.cells #[.slice q1 n1 c1] 112)
  have con := Cls.Implies_any _ _ x y _ (h1.below A1) (h2.below A1) (by omega) (by omega)
  have k := (b.alloc (.cells #[.slice q1 n1 c1] 112)).cell
  clear h1 h2 b
  go_enter Tryz.func73, Tryz.ntmps73
  go_wp2_with fail
  refine con.mono ?_
  rintro e w' ⟨rfl, hb⟩
  go_wp2
  go_ret
  exact ⟨rfl, A1.trans (hb.mono A1.size)⟩

theorem one_take (xs : List (List (List UInt8))) (y x : List (List UInt8)) (k : Nat) (h : xs[k]? = some x) (h0 : subB x y = true) : oneB xs y = true :=
  List.any_eq_true.2 ⟨x, List.mem_of_getElem? h, h0⟩

set_option maxRecDepth 100000 in
set_option maxHeartbeats 4000000 in
theorem IndexFunc_any (q : Option Addr) (n c : Nat) (xs : List (List (List UInt8))) (y : List (List UInt8)) (B : Nat) (q2 : Option Addr) (n2 c2 : Nat) (w : World) (h : ClsIn w q n xs) (h2 : SetIs encStr w (.agg #[.slice q2 n2 c2]) y) (b : Boxed w B 112 (.slice q2 n2 c2)) (l2 : y.length ≤ 16) (hn : n ≤ 140737488355328) :
    Calls Tryz.prog 91 #[.slice q n c, .func (.func 73) #[] #[.pointer (some ⟨B, 0, none⟩)]] w fun e w' => ∃ i : Int, e = .returned (.int .i64 i) ∧ decide (0 ≤ i) = oneB xs y ∧ Below w.heap.size w w' := by
  have hl := Lib.hid h.len
  go_enter Tryz.func91, Tryz.ntmps91
  go_wp2
  go_loopw [8] (fun i wr => ∃ k : Nat, k ≤ n ∧ i = .int .i64 k ∧ Hid (∀ j x, j < k → xs[j]? = some x → subB x y = false) ∧ Below w.heap.size w wr) (fun i _ => n - (intOf i).toNat)
  case atStart => exact ⟨0, Nat.zero_le _, rfl, Lib.hid (fun j x h => by omega), Below.refl _ _⟩
  case round =>
    obtain ⟨k, hk, rfl, HJ, hB⟩ := hrel
    by_cases hlt : k < n
    · obtain ⟨bb, o, q', n', c', x, rfl, hx, hc, hs, hf⟩ := (h.below hB).at k hlt
      have con := oneImplies1_any _ x y B q2 n2 c2 wr hs (h2.below hB) ((Keep.of_below hB).boxed b b.lt) hf l2
      cases hp : subB x y with
      | true =>
        rewrite [hp] at con
        have HR := Lib.hid (show decide ((0 : Int) ≤ (k : Int)) = oneB xs y by rw [one_take xs y x k hx hp]; simp)
        clear hx hs h h2 b HJ
        go_wp2_with fail
        refine con.mono ?_
        rintro e w3 ⟨rfl, hb3⟩
        have A3 := hB.trans (hb3.mono hB.size)
        clear con hb3
        go_wp2
        go_ret
        exact ⟨_, rfl, HR.out, A3⟩
      | false =>
        rewrite [hp] at con
        have HJ2 := Lib.hid (show ∀ j z, j < k + 1 → xs[j]? = some z → subB z y = false from fun j z hj hz => by
          by_cases e : j = k
          · subst e; rw [hx] at hz; cases hz; exact hp
          · exact HJ.out j z (by omega) hz)
        clear hx hs h h2 b HJ hp
        go_wp2_with fail
        refine con.mono ?_
        rintro e w3 ⟨rfl, hb3⟩
        have A3 := hB.trans (hb3.mono hB.size)
        clear con hb3
        go_wp2
        go_roundw
        case rel => exact ⟨k + 1, by omega, by go_num, HJ2, A3⟩
        case measure => simp [intOf]; omega
    · obtain rfl : k = n := by omega
      have HR := Lib.hid (show decide ((0 : Int) ≤ -1) = oneB xs y by
        have : oneB xs y = false := by
          unfold oneB
          rw [Bool.eq_false_iff]
          intro ha
          obtain ⟨x, hx, hs⟩ := List.any_eq_true.1 ha
          obtain ⟨j, hj, rfl⟩ := List.getElem_of_mem hx
          have := HJ.out j _ (by have := hl.out; omega) (List.getElem?_eq_getElem hj)
          rw [this] at hs; cases hs
        rw [this]; rfl)
      clear HJ h h2 b
      go_wp2
      go_ret
      exact ⟨_, rfl, HR.out, hB⟩

set_option maxRecDepth 100000 in
set_option maxHeartbeats 4000000 in
theorem ContainsFunc_any (q : Option Addr) (n c : Nat) (xs : List (List (List UInt8))) (y : List (List UInt8)) (B : Nat) (q2 : Option Addr) (n2 c2 : Nat) (w : World) (h : ClsIn w q n xs) (h2 : SetIs encStr w (.agg #[.slice q2 n2 c2]) y) (b : Boxed w B 112 (.slice q2 n2 c2)) (l2 : y.length ≤ 16) (hn : n ≤ 140737488355328) :
    Calls Tryz.prog 72 #[.slice q n c, .func (.func 73) #[] #[.pointer (some ⟨B, 0, none⟩)]] w fun e w' => e = .returned (.bool (oneB xs y)) ∧ Below w.heap.size w w' := by
  have con := IndexFunc_any q n c xs y B q2 n2 c2 w h h2 b l2 hn
  clear h h2 b
  go_enter Tryz.func72, Tryz.ntmps72
  go_wp2_with fail
  refine con.mono ?_
  rintro e w' ⟨i, rfl, hi, hb⟩
  have HI := Lib.hid hi
  clear con hi
  go_wp2
  go_ret
  exact ⟨by rw [← HI.out]; simp, hb⟩

set_option maxRecDepth 100000 in
set_option maxHeartbeats 4000000 in
theorem oneImplies_any (q : Option Addr) (n c : Nat) (xs : List (List (List UInt8))) (v : Value) (y : List (List UInt8)) (w : World) (h : ClsIn w q n xs) (h2 : SetIs encStr w v y) (l2 : y.length ≤ 16) (hn : n ≤ 140737488355328) :
    Calls Tryz.prog 49 #[.slice q n c, v] w fun e w' => e = .returned (.bool (oneB xs y)) ∧ Below w.heap.size w w' := by
  obtain ⟨q2, n2, c2, rfl⟩ := set_form h2
  have A1 := below_alloc (w := w) (.cells #[.slice q2 n2 c2] 112)
  have con := ContainsFunc_any q n c xs y w.heap.size q2 n2 c2 _ (h.below A1) (h2.below A1) (Boxed.new w _ _) l2 hn
  clear h h2
  go_enter Tryz.func49, Tryz.ntmps49
  go_wp2_with fail
  refine con.mono ?_
  rintro e w' ⟨rfl, hb⟩
  go_wp2
  go_ret
  exact ⟨rfl, A1.trans (hb.mono A1.size)⟩

end Go.Proofs.YtkjkfgmoogbdiaaGreatDoor.Frm

namespace Go.Proofs.YtkjkfgmoogbdiaaGreatDoor.Cls
open Go.RowKit Go.Shelf Url Org Frm
attribute [local go_sem] Oper.semAt_some

theorem conv_by {W : World} {q : Option Addr} {n c : Nat} {l : List UInt8} (h : By W (.slice q n c) l) : (convert 30 9 (.slice q n c)).run Tryz.prog W = .ok (.string ⟨l.toArray⟩) W := by
  obtain ⟨h1, _, _, _, h5⟩ := h.at
  have h := h5.convert (P := Tryz.prog) (by rw [Lib.numsL_length, h1]) c 30 5 9 Tryz.underlying30 Tryz.underlying5 Tryz.underlying9
  rwa [strOfNums_numsL] at h
theorem row_nil {W : World} {base : Nat} {e : TypeId} {size n c m : Nat} {xs : List Value} (h : W.ownsRow base e size (.slice none n c) m xs) : n = 0 ∧ c = 0 := by
  rcases h.2 with ⟨he, _⟩ | ⟨g, cap, cur, he, _⟩
  · cases he; exact ⟨rfl, rfl⟩
  · cases he
theorem by_form {w : World} {v : Value} {l : List UInt8} (h : By w v l) : ∃ q c, v = .slice q l.length c := by
  obtain ⟨q, c, rfl, _⟩ := h
  exact ⟨q, c, rfl⟩
theorem trim_len (l : List UInt8) : (trimB l).length ≤ l.length := by
  unfold trimB
  have h1 := (List.dropWhile_sublist blankB (l := (l.dropWhile blankB).reverse)).length_le
  have h2 := (List.dropWhile_sublist blankB (l := l)).length_le
  rw [List.length_reverse] at *
  omega
/-- cut.Trim. -/
theorem Trim_by (q : Option Addr) (n c : Nat) (l : List UInt8) (w : World) (h : By w (.slice q n c) l) (hn : n ≤ 1099511627775) :
    Calls Tryz.prog 56 #[.slice q n c] w fun e w' => ∃ q' c', e = .returned (.slice q' (trimB l).length c') ∧ By w' (.slice q' (trimB l).length c') (trimB l) ∧ Below w.heap.size w w' := by
  obtain ⟨h1, h2, h3, h4, h5⟩ := h.at
  obtain ⟨f, e, ht⟩ := trims l
  refine (cutTrim_any q n c f e l w h1 hn h2 h5 ht).mono ?_
  rintro e' w' ⟨v', rfl, hr, hb⟩
  rw [← trim_sub l f e ht] at hr
  have hby := By.row hr
  obtain ⟨q', c', rfl⟩ := by_form hby
  exact ⟨q', c', rfl, hby, hb⟩
/-- A block that holds a deferred list is none of a set's. -/
theorem sl_put {w : World} {q : Option Addr} {n : Nat} {x : List (List UInt8)} {D : Nat} {d : Option (List Deferred)} {o : Obj} (h : SlIn encStr w q n x) (hD : w.heap[D]? = some (.deferred d)) : SlIn encStr (w.putObj D o) q n x := by
  refine h.keep (Keep.putObj (S := fun b => b ≠ D) w D o (by simp)) fun a ha h0 e => ?_
  obtain ⟨b, o', he, _, hc⟩ := h.at h0
  rw [ha] at he; cases he
  obtain ⟨y, hy⟩ : ∃ y, x[0]? = some y := ⟨_, List.getElem?_eq_getElem (by rw [h.1]; exact h0)⟩
  have := hc 0 y hy
  simp only at e
  subst e
  simp [World.cell?, hD] at this
theorem set_put {w : World} {v : Value} {x : List (List UInt8)} {D : Nat} {d : Option (List Deferred)} {o : Obj} (h : SetIs encStr w v x) (hD : w.heap[D]? = some (.deferred d)) : SetIs encStr (w.putObj D o) v x := by
  obtain ⟨q, n, c, rfl, h1, h2, h3, h4⟩ := h
  exact ⟨q, n, c, rfl, h1, h2, sl_put h3 hD, h4⟩

/-- What the pieces that have come are without blanks. -/
def trimX (pre : List (Nat × List UInt8)) : List (List UInt8) := pre.map fun p => trimB p.2
theorem trimX_snoc (pre : List (Nat × List UInt8)) (i : Nat) (t : List UInt8) : trimX (pre ++ [(i, t)]) = trimX pre ++ [trimB t] := by unfold trimX; simp
theorem trimX_split (t : List UInt8) : trimX (splitX 124 t) = (Ref.splitL 124 t).map trimB := by
  unfold trimX
  rw [← Host.splitX_snd, List.map_map]; rfl
def SpI (T e : TypeId) (Bo : Nat) (RB : Nat → Prop) (W0 : World) (pre : List (Nat × List UInt8)) (Pv : Nat → Prop) (W : World) : Prop := ColI T e Bo RB W0 (trimX pre) Pv W

theorem parseC_long (t : List UInt8) (h : 4096 < t.length) : parseC t = .inl 3 := by unfold parseC; rw [if_pos h]
theorem parseC_never (t : List UInt8) (h : ¬ 4096 < t.length) (h2 : trimB t = neverS) : parseC t = .inr [] := by unfold parseC; rw [if_neg h, if_pos h2]
theorem parseC_of (t : List UInt8) (h : ¬ 4096 < t.length) (h2 : trimB t ≠ neverS) : parseC t = ofC (trimX (splitX 124 t)) := by unfold parseC; rw [if_neg h, if_neg h2, trimX_split]

end Go.Proofs.YtkjkfgmoogbdiaaGreatDoor.Cls

namespace Go.Proofs.YtkjkfgmoogbdiaaGreatDoor.S
open Go.RowKit Go.Shelf Go.Sort
attribute [local go_sem] Oper.semAt_some

set_option maxRecDepth 100000 in
set_option maxHeartbeats 1000000 in
theorem Of_new (q : Option Addr) (n c : Nat) (zs : List (List UInt8)) (w : World) (h : SlIn encStr w q n zs) (hq : q = none → c = 0) (hm : n ≤ 1099511627776) :
    Calls Tryz.prog 95 #[.slice q n c] w fun e w' => ∃ q n c, e = .returned (.agg #[.slice q n c]) ∧ SetIs encStr w' (.agg #[.slice q n c]) (setS zs) ∧ (∀ a, q = some a → w.heap.size ≤ a.block) ∧ Below w.heap.size w w' := by
  obtain ⟨i0, hi0, hz0, hz1, hz2⟩ := info_parts info_str
  have b0 := Boxed.new w 110 (.slice none 0 0)
  have h0 := h.alloc (.cells #[.slice none 0 0] 110)
  have hb0 := below_alloc (w := w) (.cells #[.slice none 0 0] 110)
  have hsz : (w.alloc (.cells #[.slice none 0 0] 110)).heap.size = w.heap.size + 1 := by simp
  obtain ⟨W, hW⟩ : ∃ W, w.alloc (.cells #[.slice none 0 0] 110) = W := ⟨_, rfl⟩
  rw [hW] at b0 h0 hb0 hsz
  have hsz' := Lib.hid hsz
  have hl := Lib.hid h.1
  have HW := Lib.hid hW
  clear hsz h hW
  go_enter Tryz.func95, Tryz.ntmps95
  go_wp2_with (at_builtin; refine wpList_append_row (enc := encStr) rfl _ _ 108 9 rfl i0 (.string ByteArray.empty) 16 Tryz.underlying108 hi0 hz0 hz1 hz2 rfl (fun _ => rfl) (by decide) (w.heap.size + 1) (.slice none 0 0) 0 [] rfl (World.ownsRow_nil _ _ _ _) q n c zs rfl hq (by rw [HW.out]; exact h0) (by omega) (by simp) ?_; intro v1 w1 hown hgrow)
  rw [HW.out] at hgrow
  simp only [Nat.zero_add, List.nil_append] at hown
  have hgs := hgrow.size
  rw [hsz'.out] at hgs
  have con := ordered_own (w.heap.size + 1) v1 n zs w1 hown hgs hm
  have hk1 : Keep (fun _ => True) W w1 := Keep.of_grownBy hgrow (fun r hr => by cases hr)
  have b1 := hk1.boxed b0 trivial
  have hb1 : Below w.heap.size w w1 := hb0.trans ((hk1.mono (T := (· < w.heap.size)) fun _ _ _ => trivial).below hb0.size)
  clear hown hgrow hk1
  go_wp2_with fail
  refine con.mono ?_
  rintro e w2 ⟨q2, c2, rfl, hset, hqb, hbel⟩
  have b2 := (Keep.of_below hbel).boxed b1 (by omega)
  have cR := b2.cell
  have fR := b2.frozen
  have hb2 := hb1.trans (hbel.mono (by omega))
  clear con
  obtain ⟨_, _, _, he, hc2, hm2, hsl, hr⟩ := hset
  cases he
  go_wp2
  have hbr2 := (b2.set (.slice q2 (setS zs).length c2)).cell
  refine bodyPost_ret (v := .agg #[.slice q2 (setS zs).length c2]) (by simp [results, Tryz.f95, go_sem, hbr2]) rfl ⟨q2, (setS zs).length, c2, rfl, ⟨q2, (setS zs).length, c2, rfl, hc2, hm2, ?_, hr⟩, (fun a h => by have := (hqb a h).1; omega), hb2.setCell (Nat.le_refl _) _⟩
  exact hsl.keep (Keep.setCell (S := fun b => w.heap.size + 1 ≤ b) w2 ⟨w.heap.size, 0, none⟩ _ (by simp)) fun a h _ => (hqb a h).1

end Go.Proofs.YtkjkfgmoogbdiaaGreatDoor.S
namespace Go.Proofs.YtkjkfgmoogbdiaaGreatDoor.Cls
open Go.RowKit Go.Shelf Url Org Frm
attribute [local go_sem] Oper.semAt_some

/-- A clause and no error, or the zero clause and one; its row is new from block B on. -/
def ClsNew (B : Nat) (r : Sum Int (List (List UInt8))) (w : World) (e : Ending) (w' : World) : Prop :=
  ∃ q n c, e = .returned (.tuple #[.agg #[.slice q n c], .int .i64 (errC r)]) ∧ SetIs encStr w' (.agg #[.slice q n c]) (valC r) ∧ (∀ a, q = some a → B ≤ a.block) ∧ Below w.heap.size w w'

set_option maxRecDepth 100000 in
set_option maxHeartbeats 4000000 in
theorem bounded_new (B : Nat) (q : Option Addr) (n c : Nat) (x : List (List UInt8)) (w : World) (h : SetIs encStr w (.agg #[.slice q n c]) x) (hq : ∀ a, q = some a → B ≤ a.block) :
    Calls Tryz.prog 94 #[.agg #[.slice q n c]] w (ClsNew B (bndC x) w) := by
  obtain ⟨W2, hW2⟩ : ∃ W2, (w.alloc (.cells #[.slice q n c] 110)).alloc (.cells #[.slice none 0 0] 112) = W2 := ⟨_, rfl⟩
  have A2 : Below w.heap.size w W2 := hW2 ▸ ((Below.refl _ w).alloc (Nat.le_refl _) _).alloc (by simp) _
  have b1 : Boxed W2 w.heap.size 110 (.slice q n c) := hW2 ▸ (Boxed.new w _ _).alloc _
  have b2 : Boxed W2 (w.heap.size + 1) 112 (.slice none 0 0) := by
    have := Boxed.new (w.alloc (.cells #[.slice q n c] 110)) 112 (.slice none 0 0)
    rw [World.size_alloc] at this
    exact hW2 ▸ this
  have hs2 := h.below A2
  have con := S.Len_any _ x _ hs2
  have c1 := b1.cell
  have HW2 := Lib.hid hW2
  clear h hW2
  have key : ∀ w3, Below W2.heap.size W2 w3 → Boxed w3 (w.heap.size + 1) 112 (.slice none 0 0) ∧ w3.cell? ⟨w.heap.size, 0, none⟩ = some (.slice q n c) ∧ SetIs encStr w3 (.agg #[.slice q n c]) x ∧ Below w.heap.size w w3 := fun w3 hb =>
    ⟨(Keep.of_below hb).boxed b2 b2.lt, ((Keep.of_below hb).boxed b1 b1.lt).cell, hs2.below hb, A2.trans (hb.mono A2.size)⟩
  clear b1 b2 hs2
  unfold bndC
  by_cases hx : x.length ≤ 16
  · rw [if_pos hx]
    have d : decide ((16 : Int) < (x.length : Int)) = false := by simp; omega
    go_enter Tryz.func94, Tryz.ntmps94
    go_wp2_with fail
    rw [HW2.out]
    refine con.mono ?_
    rintro e w3 ⟨rfl, hb⟩
    obtain ⟨k2, k1, k3, k4⟩ := key w3 hb
    have kf := k2.frozen
    have kc := k2.cell
    clear con key hb
    go_wp2
    refine bodyPost_ret (ret_cls2 rfl _ _ (w.heap.size + 1) _ rfl (k2.set _)) rfl ?_
    exact ⟨q, n, c, rfl, k3.set k2 (fun x h => by cases h), hq, k4.setCell (by simp) _⟩
  · rw [if_neg hx]
    have d : decide ((16 : Int) < (x.length : Int)) = true := by simp; omega
    go_enter Tryz.func94, Tryz.ntmps94
    go_wp2_with fail
    rw [HW2.out]
    refine con.mono ?_
    rintro e w3 ⟨rfl, hb⟩
    obtain ⟨k2, k1, k3, k4⟩ := key w3 hb
    have kf := k2.frozen
    have kc := k2.cell
    clear con key hb
    go_wp2
    refine bodyPost_ret (ret_cls2 rfl _ _ (w.heap.size + 1) _ rfl (k2.set _)) rfl ?_
    exact ⟨none, 0, 0, rfl, set_nil _, (fun a h => by cases h), k4.setCell (by simp) _⟩

set_option maxRecDepth 100000 in
set_option maxHeartbeats 8000000 in
theorem Of_new (q : Option Addr) (n c : Nat) (l : List (List UInt8)) (w : World) (h : SlIn encStr w q n l) (hq : q = none → c = 0) (hm : n ≤ 1099511627776) (hlen : ∀ t ∈ l, t.length ≤ 1300) (hG : Gl w) :
    Calls Tryz.prog 75 #[.slice q n c] w (ClsNew w.heap.size (ofC l) w) := by
  have hl := Lib.hid h.1
  obtain ⟨W1, hW1⟩ : ∃ W1, w.alloc (.cells #[.slice none 0 0] 112) = W1 := ⟨_, rfl⟩
  have A1 : Below w.heap.size w W1 := hW1 ▸ (Below.refl _ w).alloc (Nat.le_refl _) _
  have b1 : Boxed W1 w.heap.size 112 (.slice none 0 0) := hW1 ▸ Boxed.new w _ _
  have HW1 := Lib.hid hW1
  have HO := Lib.hid (ofC_bnd l)
  have HL := Lib.hid hlen
  have HG := Lib.hid hG
  clear hW1 hlen hG
  go_enter Tryz.func75, Tryz.ntmps75
  go_wp2_with fail
  rw [HW1.out]
  go_loopw [8] (fun i wr => ∃ k : Nat, k ≤ n ∧ i = .int .i64 k ∧ Hid (∀ j x, j < k → l[j]? = some x → prinB x = true) ∧ Boxed wr w.heap.size 112 (.slice none 0 0) ∧ Below w.heap.size w wr) (fun i _ => n - (intOf i).toNat)
  case atStart => exact ⟨0, Nat.zero_le _, rfl, Lib.hid (fun j x h => by omega), b1, A1⟩
  case round =>
    obtain ⟨k, hk, rfl, HJ, hb, hB⟩ := hrel
    clear b1 A1 HW1
    have kf := hb.frozen
    have hr := h.below hB h.lt
    by_cases hlt : k < n
    · obtain ⟨b, o, rfl, _, hc⟩ := hr.at (by omega)
      obtain ⟨x, hx, _⟩ := drop_getElem l k (by rw [hl.out]; exact hlt)
      have hck : wr.cell? ⟨b, o + k, none⟩ = some (.string ⟨x.toArray⟩) := hc k x hx
      have con := Principal_any x wr (HL.out x (List.mem_of_getElem? hx)) (HG.out.on hB)
      cases hp : prinB x with
      | false =>
        rw [hp] at con
        have HR := Lib.hid (show ofC l = .inl 2 by
          rw [HO.out, if_neg]
          intro ha
          have := List.all_eq_true.1 ha x (List.mem_of_getElem? hx)
          rw [hp] at this; cases this)
        clear hc hx hr h HJ
        go_wp2_with fail
        refine con.mono ?_
        rintro e w3 ⟨rfl, hb3⟩
        replace hb := (Keep.of_below hb3).boxed hb hb.lt
        have kf := hb.frozen
        have kc := hb.cell
        have A3 := hB.trans (hb3.mono hB.size)
        clear con hb3
        go_wp2
        refine bodyPost_ret (ret_cls2 rfl _ _ w.heap.size _ rfl (hb.set _)) rfl ?_
        rw [HR.out]
        exact ⟨none, 0, 0, rfl, set_nil _, (fun a h => by cases h), A3.setCell (Nat.le_refl _) _⟩
      | true =>
        rw [hp] at con
        have HJ2 := Lib.hid (show ∀ j y, j < k + 1 → l[j]? = some y → prinB y = true from fun j y hj hy => by
          by_cases e : j = k
          · subst e; rw [hx] at hy; cases hy; exact hp
          · exact HJ.out j y (by omega) hy)
        clear hc hx hr HJ hp
        go_wp2_with fail
        refine con.mono ?_
        rintro e w3 ⟨rfl, hb3⟩
        replace hb := (Keep.of_below hb3).boxed hb hb.lt
        have A3 := hB.trans (hb3.mono hB.size)
        clear con hb3
        go_wp2
        go_roundw
        case rel => exact ⟨k + 1, by omega, by go_num, HJ2, hb, A3⟩
        case measure => simp [intOf]; omega
    · obtain rfl : k = n := by omega
      have HR := Lib.hid (show ofC l = bndC (setS l) by
        rw [HO.out, if_pos]
        rw [List.all_eq_true]
        intro x hx
        obtain ⟨j, hj, rfl⟩ := List.getElem_of_mem hx
        exact HJ.out j _ (by have := hl.out; omega) (List.getElem?_eq_getElem hj))
      have con := S.Of_new q k c l wr hr hq hm
      clear HJ hr h hlt HL HG HO
      go_wp2_with fail
      refine con.mono ?_
      rintro e w4 ⟨q4, n4, c4, rfl, hs, hqn, hb4⟩
      have con2 := bounded_new w.heap.size q4 n4 c4 (setS l) w4 hs (fun a h => Nat.le_trans hB.size (hqn a h))
      replace hb := (Keep.of_below hb4).boxed hb hb.lt
      have A4 := hB.trans (hb4.mono hB.size)
      clear con hb4 hs kf
      obtain ⟨r, hr⟩ : ∃ r, bndC (setS l) = r := ⟨_, rfl⟩
      rw [hr] at con2 HR
      clear hr
      go_wp2_with fail
      refine con2.mono ?_
      rintro e w5 ⟨q5, n5, c5, rfl, hs, hq5, hb5⟩
      replace hb := (Keep.of_below hb5).boxed hb hb.lt
      have A5 := A4.trans (hb5.mono A4.size)
      have kf := hb.frozen
      have kc := hb.cell
      clear con2 hb5
      go_wp2
      refine bodyPost_ret (ret_cls2 rfl _ _ w.heap.size _ rfl (hb.set _)) rfl ?_
      rw [HR.out]
      exact ⟨q5, n5, c5, rfl, hs.set hb (fun x h => by cases h), hq5, A5.setCell (Nat.le_refl _) _⟩

set_option maxRecDepth 100000 in
set_option maxHeartbeats 8000000 in
theorem Parse_new (q : Option Addr) (n c : Nat) (t : List UInt8) (w : World) (hby : By w (.slice q n c) t) (hn : n ≤ 1300 ∨ 4096 < n ∧ n ≤ 1099511627775) (hG : Gl w) :
    Calls Tryz.prog 58 #[.slice q n c] w (ClsNew w.heap.size (parseC t) w) := by
  obtain ⟨i0, hi0, hz0, hz1, hz2⟩ := info_parts S.info_str
  have hl := hby.at.1
  obtain ⟨W1, hW1⟩ : ∃ W1, w.alloc (.cells #[.slice none 0 0] 112) = W1 := ⟨_, rfl⟩
  have A1 : Below w.heap.size w W1 := hW1 ▸ below_alloc _
  have bR : Boxed W1 w.heap.size 112 (.slice none 0 0) := hW1 ▸ Boxed.new w _ _
  have hs1 : W1.heap.size = w.heap.size + 1 := by rw [← hW1]; simp
  have HW1 := Lib.hid hW1
  clear hW1
  refine (callsIn_wide (n := 1)).1 ?_
  refine callsIn_of_wp_marks Tryz.func58 rfl trivial ?_ rfl
  simp only [Tryz.ntmps58, List.size_toArray, List.length_cons, List.length_nil, Nat.reduceAdd, Nat.reduceSub, Array.replicate_succ, Array.replicate_zero, List.push_toArray, List.append_toArray, List.nil_append, List.cons_append]
  by_cases hbig : 4096 < n
  · have d : decide ((4096 : Int) < (n : Int)) = true := by simp; omega
    have HR := Lib.hid (parseC_long t (by omega))
    have kf := bR.frozen
    have kc := bR.cell
    clear hby hl hn hG
    gi_wp2_with fail
    rw [HW1.out]
    gi_wp2
    refine ⟨_, ret_cls2 rfl _ _ w.heap.size _ rfl bR, ?_⟩
    rw [HR.out]
    exact ⟨none, 0, 0, rfl, set_nil _, (fun a h => by cases h), A1⟩
  have hn2 : n ≤ 1300 := by omega
  have d : decide ((4096 : Int) < (n : Int)) = false := by simp; omega
  have hb1 := hby.on A1
  have con := Trim_by q n c t W1 hb1 (by omega)
  have HT := Lib.hid (trim_len t)
  have HG := Lib.hid hG
  have HL := Lib.hid hl
  have HP1 := Lib.hid (fun h2 => parseC_never t (by omega) h2)
  have HP2 := Lib.hid (fun h2 => parseC_of t (by omega) h2)
  clear hby hn hG
  obtain ⟨T, hT⟩ : ∃ T, trimB t = T := ⟨_, rfl⟩
  rw [hT] at con HP1 HP2 HT
  clear hT hbig
  gi_wp2_with fail
  rw [HW1.out]
  gi_wp2_with fail
  refine ⟨trivial, (callsIn_wide.2 con).mono ?_⟩
  rintro e W2 ⟨q2, c2, rfl, hb2, hbel⟩
  have hcv := conv_by hb2
  have hb0 := hb1.on hbel
  replace bR := (Keep.of_below hbel).boxed bR bR.lt
  have A2 := A1.trans (hbel.mono A1.size)
  have hs2 := hbel.size
  have kf := bR.frozen
  have kc := bR.cell
  have e1 : (T == [110, 101, 118, 101, 114]) = decide (T = neverS) := by
    rw [Bool.eq_iff_iff, beq_iff_eq, decide_eq_true_iff]; rfl
  generalize hlT : T.length = m at *
  clear con hb1 hb2 hbel hlT HW1
  by_cases hnv : T = neverS
  · have HR := Lib.hid (HP1.out hnv)
    rw [decide_eq_true hnv] at e1
    clear hnv HP1 HP2 hb0
    gi_wp2
    refine ⟨_, ret_cls2 rfl _ _ w.heap.size _ rfl (bR.set _), ?_⟩
    rw [HR.out]
    exact ⟨none, 0, 0, rfl, set_nil _, (fun a h => by cases h), A2.setCell (Nat.le_refl _) _⟩
  have HR := Lib.hid (HP2.out hnv)
  rw [decide_eq_false hnv] at e1
  clear hnv HP1 HP2
  obtain ⟨h1, h2, h3, h4, h5⟩ := hb0.at
  obtain ⟨W3, hW3⟩ : ∃ W3, W2.alloc (.cells #[.slice none 0 0] 108) = W3 := ⟨_, rfl⟩
  have b0 : Boxed W3 W2.heap.size 108 (.slice none 0 0) := hW3 ▸ Boxed.new W2 _ _
  have hB3 : Below W2.heap.size W2 W3 := hW3 ▸ below_alloc _
  have hs3 : W3.heap.size = W2.heap.size + 1 := by rw [← hW3]; simp
  have con := Split_any q n c 124 t W3 h1 (by omega) (bytes_keep h5 (Keep.of_below hB3) (fun a h1 h2 => bytes_lt h5 a h1 h2))
  have hsm := Lib.hid (splitX_small 124 t n hl)
  have hlx := Lib.hid (show (splitX 124 t).length ≤ n + 1 by have := splitX_len 124 t; omega)
  have HW3 := Lib.hid hW3
  clear hW3 h1 h2 h3 h4 h5 hb0
  gi_wp2_with fail
  rw [HW3.out]
  refine ⟨trivial, (callsIn_wide.2 con).mono ?_⟩
  rintro e W4 ⟨B, v', rfl, hB, hBc, hrow, hBl, hbel⟩
  have hit := Split_iter (by omega) hB hBc hrow
  obtain ⟨RB, hRB⟩ : ∃ RB : Nat → Prop, RB = fun b => b = B ∨ b = W3.heap.size ∨ v'.ownBlock = some b := ⟨_, rfl⟩
  have hRl : ∀ b, RB b → W2.heap.size + 1 ≤ b ∧ b < W4.heap.size := fun b hb => by
    rw [hRB] at hb
    rcases hb with rfl | rfl | hb
    · exact ⟨by omega, hB.lt⟩
    · exact ⟨by omega, hBc.lt⟩
    · have := hrow.lt b hb; exact ⟨by omega, this.2⟩
  rw [← hRB, hs3] at hit
  have hB4 : Below W2.heap.size W2 W4 := hB3.trans (hbel.mono (by omega))
  replace b0 := (Keep.of_below hbel).boxed b0 (by omega)
  replace bR := (Keep.of_below hB4).boxed bR bR.lt
  have A4 := A2.trans (hB4.mono A2.size)
  have hs4 := hbel.size
  clear con hB hBc hrow hBl hbel HW3 hRB hB3 hB4 kf kc
  generalize splitX 124 t = xs at *
  gi_wp2
  refine rf_law (gf := 78) (lb := #[.pointer (some ⟨B, 0, none⟩), .pointer (some ⟨W2.heap.size + 1, 0, none⟩)]) rfl (enters_of Tryz.func78 (by kernel_rfl) rfl)
    hit (Keep.refl _ _) (fun b hb => (hRl b hb).2) (fun x args G W h => by obtain ⟨v, rfl, _⟩ := h; rfl)
    (SpI 108 9 W2.heap.size (fun b => b < W2.heap.size) W4) (fun _ _ _ _ => False) (fun s Pv Pv' A B h hk hp => ColI_abide _ _ _ _ _ (by omega) (fun b hb => by omega) (trimX s) Pv Pv' A B h hk hp) (fun _ _ _ _ _ _ h _ _ => h)
    ⟨_, b0, World.ownsRow_nil _ _ _ _, (fun _ h => h.elim), (fun _ h => by cases h), Keep.refl _ _⟩ ?round ?done ?stop
  case round =>
    rintro ll pre ⟨xi, x⟩ rest Pv G args Wr hll hxs ⟨v, hbx, hrow, hge, hnv, hKW⟩ hPl hGl hPb hGP ⟨p, rfl, hp, rfl⟩
    have hxl := hsm.out (xi, x) (by rw [hxs]; simp)
    have hpl : pre.length + 1 ≤ n + 1 := by
      have h1 := hlx.out
      rw [hxs, List.length_append, List.length_cons] at h1
      omega
    simp only at hxl hp
    obtain ⟨qx, cx, rfl, _, hnc, hcm, hbs, hblk⟩ := row_open hp
    have hbyx : By Wr (.slice qx x.length cx) x := By.row hp
    clear hxs
    gi_wp2
    refine ⟨Keep.refl _ _, fun W5 hk5 hs5 r hr => ?_⟩
    have hnP : ∀ b, b < W4.heap.size → ¬ Pv b := fun b hb h => by have := hge b h; omega
    have hk5' : Keep (fun b => ¬ Pv b) Wr W5 := hk5.mono fun b _ hb h => hb (h ▸ hPl)
    replace hbx := hk5'.boxed hbx (hnP _ (by omega))
    replace hrow := hk5'.row hrow hnv
    have hK5 : Keep (fun b => b < W2.heap.size) W4 W5 := hKW.trans (hk5'.mono fun b _ hb => hnP b (by omega))
    have hPl5 : ∀ b, Pv b → b < W5.heap.size := fun b hb => by rw [hs5]; exact hPb b hb
    have gx : Keep (fun b => (Value.slice qx x.length cx).ownBlock = some b) Wr W5 := hk5.mono fun b _ hb h => hGl (h ▸ hb)
    have hbs5 : Lib.BytesIn W5 qx x.length (Lib.numsL x) := bytes_keep hbs gx (fun a ha _ => (hblk a ha).2.2)
    have hby5 : By W5 (.slice qx x.length cx) x := by
      obtain ⟨g1, g2, g3, g4, _⟩ := hbyx.at
      exact By.of g1 g2 g3 (fun h => (g4 h).2) hbs5
    have hszW := hK5.size
    have hlen : (trimX pre).length = pre.length := by unfold trimX; simp
    rw [hlen] at hrow
    clear hr hk5 hk5' hs5 hKW hbs hp hbyx hblk gx hbs5
    obtain ⟨Wd, hWd⟩ : ∃ Wd, W5.drew = Wd := ⟨_, rfl⟩
    have hkd : ∀ S, Keep S W5 Wd := fun S => by rw [← hWd]; exact Keep.drew S W5
    replace hbx := (hkd (fun _ => True)).boxed hbx trivial
    replace hrow := (hkd (fun _ => True)).row hrow (fun _ _ => trivial)
    have hbyd : By Wd (.slice qx x.length cx) x := by rw [← hWd]; exact hby5.drew
    have hKd := hK5.trans (hkd _)
    have hszd : Wd.heap.size = W5.heap.size := by rw [← hWd]; rfl
    have con := Trim_by qx x.length cx x Wd hbyd (by omega)
    have HT := Lib.hid (trim_len x)
    have HSN := Lib.hid (trimX_snoc pre xi x)
    generalize trimB x = T at *
    have c0 := hbx.cell
    have HWd := Lib.hid hWd
    clear hWd hby5 hbyd hcv
    gi_wp2_with fail
    refine region_anyO (fun j => decide (j ≠ 6)) (fun X => X.cell? ⟨W2.heap.size, 0, none⟩ = some v) (by kernel_rfl) ?_
    rw [HWd.out]
    refine anyO_take 0 (v := v) rfl (by kernel_rfl) (by kernel_rfl) (by kernel_rfl) (by kernel_rfl) (by kernel_rfl) (fun _ _ _ h => h) ⟨.inl ⟨by rfl, ?_⟩, fun _ => rfl⟩ c0 ?_
    · rintro w h1; go_simp
    refine anyO_one 1 (by kernel_rfl) rfl fun K hK => ?_
    go_simp
    refine hK _ _ (fun _ => c0) ?_
    clear hK K
    refine anyO_one 2 (by kernel_rfl) rfl fun K hK => ?_
    go_simp
    refine ⟨trivial, rfl, (CallsIn.inRound ll (callsIn_wide.2 con)).mono ?_⟩
    rintro e w4 ⟨q4, c4, rfl, hb4, hbel⟩
    have hbx4 := (Keep.of_below hbel).boxed hbx hbx.lt
    have hrow4 := (Keep.of_below hbel).row hrow (fun b hb => (hrow.lt b hb).2)
    have hcv := conv_by hb4
    have hsz4 := hbel.size
    have c4' := hbx4.cell
    refine hK _ _ (fun _ => c4') ?_
    clear hK K con
    refine anyO_one 3 (by kernel_rfl) rfl fun K hK => ?_
    go_simp
    refine hK _ _ (fun _ => c4') ?_
    clear hK K
    refine anyO_one 4 (by kernel_rfl) rfl fun K hK => ?_
    go_simp
    have c5' := (hbx4.alloc (.cells #[.string ⟨T.toArray⟩] 9)).cell
    refine hK _ _ (fun _ => c5') ?_
    clear hK K
    refine anyO_one 5 (by kernel_rfl) rfl fun K hK => ?_
    rw [if_pos (by rfl)]
    refine S.wpIn_append_own _ _ 108 rfl W4.heap.size 9 i0 (.string ByteArray.empty) 1 16 Tryz.underlying108 hi0 hz0 hz1 hz2 rfl (by decide) v pre.length _ rfl (hrow4.alloc _) ⟨w4.heap.size, 0, none⟩ 1 1 [encStr T] rfl rfl (cell_one_new _ _ _) (by simp [encStr, Value.oneCell']) (by unfold maxLen; omega) (by omega) (by simp; omega) ?_
    intro v2 w6 hown' hgrow hat
    obtain ⟨g', cap', rfl⟩ := ownsRow_succ hown'
    obtain ⟨hv1, hv2, hr2, hkk⟩ := appended_keep (S := fun b => RB b ∨ Pv b ∨ b < W2.heap.size) hbx4 (by decide) hrow4 (fun h => by rcases h with h | h | h; (have := hRl _ h; omega); exact hnP W2.heap.size (by omega) h; omega) (fun b hb h => by have h0 := (hrow4.lt b hb).1; rcases h with h | h | h; (have := hRl _ h; omega); exact hnv b hb h; omega) hown' hgrow
    have c6 := hv1.cell
    have f6 := hv1.frozen
    refine hK _ _ (fun _ => c6) ?_
    clear hK K
    refine anyO_one 6 (by kernel_rfl) rfl fun K hK => ?_
    go_simp
    refine hK _ _ (fun h => absurd h (by decide)) ?_
    clear hK K
    refine anyO_done (by kernel_rfl) ?_ _
    clear c6 f6 c5' c4' hcv c0
    gi_wp2
    have hk0 : ∀ S : Nat → Prop, (∀ b, S b → b < Wd.heap.size) → Keep S W5 w4 := fun S hS => (hkd S).trans ((Keep.of_below hbel).mono fun b _ h => hS b h)
    have hRd : ∀ b, RB b ∨ Pv b ∨ b < W2.heap.size → b < Wd.heap.size := fun b hb => by
      rcases hb with h | h | h
      · have := hRl b h; omega
      · rw [hszd]; exact hPl5 b h
      · omega
    have hkk2 := (hk0 _ hRd).trans hkk
    refine ⟨hkk2.mono fun b _ h => h.elim .inl fun h => .inr (.inl h.1), _, hv2, ?_, fun b hb => hge b hb.1, fun b hb hp => ?_, hK5.trans (hkk2.mono fun b _ h => .inr (.inr h))⟩
    · rw [HSN.out, List.length_append, List.length_singleton, hlen]
      simpa using hr2
    · rcases hat with h | h
      · exact hnv b (h ▸ hb) hp.1
      · rw [h] at hb; cases hb; have h5 := hPl5 _ hp.1; simp at h5; omega
  case done =>
    rintro D Pv Wd hD hPD hPl ⟨v, hbx, hrow, hge, hnv, hKW⟩ hK
    obtain ⟨q5, c5, rfl, hc5, _, hs5, _⟩ := slIn_of_owns hrow
    have hA : Keep (fun b => b < W2.heap.size) W4 Wd := hKW
    have bRd := hA.boxed bR (by have := A2.size; omega)
    have hBd : Below w.heap.size w Wd := A4.trans ((hA.mono fun b _ h => by have := A2.size; omega).below A4.size)
    have hxl : ∀ y ∈ trimX xs, y.length ≤ 1300 := fun y hy => by
      obtain ⟨p, hp, rfl⟩ := List.mem_map.1 hy
      have h1 := hsm.out p hp
      have h2 := trim_len p.2
      omega
    have hcnt : (trimX xs).length ≤ 1099511627776 := by
      unfold trimX
      rw [List.length_map]
      have := hlx.out
      omega
    have con := Of_new q5 _ c5 (trimX xs) Wd hs5 (fun h => by subst h; exact (row_nil hrow).2) hcnt hxl (HG.out.on hBd)
    have cB := hbx.cell
    generalize (trimX xs).length = m5 at *
    rw [← HR.out] at con
    have hDl := hPl D hPD
    clear hs5 hrow hbx hnv hge hKW hA hxl hcnt b0 hit
    gi_wp2_with fail
    refine ⟨trivial, (callsIn_wide.2 con).mono ?_⟩
    rintro e w6 ⟨q6, n6, c6, rfl, hs6, hq6, hb6⟩
    have hD6 : w6.heap[D]? = some (.deferred (some [])) := (hb6.block D hDl).trans hK
    have bR6 := (Keep.of_below hb6).boxed bRd bRd.lt
    have A6 := hBd.trans (hb6.mono hBd.size)
    have kf := bR6.frozen
    have kc := bR6.cell
    have hs7 := hs6.set (u' := .slice q6 n6 c6) bR6 (fun x h => by cases h)
    have bR7 := bR6.set (.slice q6 n6 c6)
    have hwD : w.heap.size < D := by have := A2.size; omega
    have hD7 : (w6.setCell ⟨w.heap.size, 0, none⟩ (.slice q6 n6 c6)).heap[D]? = some (.deferred (some [])) := (Keep.setCell (S := fun b => b ≠ w.heap.size) w6 _ _ (by simp)).heap (by omega) hD6
    have A7 : Below w.heap.size w (w6.setCell ⟨w.heap.size, 0, none⟩ (.slice q6 n6 c6)) := A6.setCell (Nat.le_refl _) _
    clear con cB hb6
    gi_wp2
    refine ⟨by simp, .inl ⟨_, _, rfl, run_takeDeferred hD7, ?_⟩⟩
    have hkP : ∀ S : Nat → Prop, ¬ S D → Keep S (w6.setCell ⟨w.heap.size, 0, none⟩ (.slice q6 n6 c6)) ((w6.setCell ⟨w.heap.size, 0, none⟩ (.slice q6 n6 c6)).putObj D (.deferred none)) := fun S hS => Keep.putObj _ D _ hS
    refine ⟨_, ret_cls2 rfl _ _ w.heap.size _ rfl ((hkP (fun b => b ≠ D) (by simp)).boxed bR7 (by omega)), q6, n6, c6, rfl, set_put hs7 hD7, (fun a h => Nat.le_trans hBd.size (hq6 a h)), ?_⟩
    exact ((Keep.of_below A7).trans (hkP _ (by omega))).below (Nat.le_refl _)
  case stop =>
    rintro D c pre rest Pv Wd _ _ _ _ h _
    exact h.elim

end Go.Proofs.YtkjkfgmoogbdiaaGreatDoor.Cls

namespace Go.Proofs.YtkjkfgmoogbdiaaGreatDoor.Cls
open Go.RowKit Go.Shelf Url Org Frm
attribute [local go_sem] Oper.semAt_some

def liveA : List UInt8 := [104, 116, 116, 112, 58, 47, 47, 97]
def placeOf (o : Sum Int U) : Option (List UInt8) := match o with
  | .inr u => some (placeU u)
  | .inl _ => none
theorem prin_host (t : List UInt8) (h : placeOf (canonU t) = some t) (hl : t.length ≤ 4096) (h1 : closedS.isPrefixOf t = false) (h2 : moreB t = false) : prinB t = true := by
  unfold prinB parseQ
  rw [h1, h2, parse_canon t hl]
  cases hc : canonU t with
  | inl n => rw [hc] at h; cases h
  | inr u =>
    rw [hc] at h
    exact decide_eq_true (Option.some.inj h)
theorem live_a : prinB liveA = true := prin_host _ (by decide +kernel) (by decide) (by decide) (by decide)
end Go.Proofs.YtkjkfgmoogbdiaaGreatDoor.Cls

namespace Go.Proofs.YtkjkfgmoogbdiaaGreatDoor.Frm
open Go.RowKit Go.Shelf Go.Sort Url Org Cls
attribute [local go_sem] Oper.semAt_some
set_option linter.unusedVariables false

theorem info_cls : (Tryz.prog.info? 112).map (fun i => (i.zero, i.size, i.bytes)) = some (some (.agg #[.slice none 0 0]), 1, 24) := by kernel_rfl

/-- 'append(dst, src...)' at rows of clauses, dst the call's own. -/
theorem wpList_append_cls {ops : Array Oper} {rest : List Oper} {o : Oper} {a : Act} {w : World} {Q : Exit → Act → World → Prop} (hgd : o.guard = none) (s x : Operand)
    (ho : o.op = .call { callee := .builtin .append, args := #[s, x], argTypes := #[33, 33] })
    (base : Nat) (v : Value) (n : Nat) (xs : List Value) (hs : a.eval s = v) (hown : w.ownsRow base 112 1 v n xs) (q : Option Addr) (m c : Nat) (zs : List Cl) (hx : a.eval x = .slice q m c) (hq : q = none → c = 0)
    (hb : SlIn encC w q m zs) (h47 : n + m ≤ 2199023255552) (hbase : base ≤ w.heap.size)
    (h : ∀ v' w', w'.ownsRow base 112 1 v' (n + m) (xs ++ zs.map encC) → w.grownBy w' v.ownBlock → wpList Tryz.prog ops Q rest (a.put o.dst v') w') : wpList Tryz.prog ops Q (o :: rest) a w := by
  obtain ⟨i0, hi0, hz0, hz1, hz2⟩ := info_parts info_cls
  cases q with
  | none =>
    obtain rfl := hq rfl
    have hm : m = 0 := by
      rcases Nat.eq_zero_or_pos m with h0 | h0
      · exact h0
      · obtain ⟨b, o, he, _⟩ := hb.at h0; cases he
    subst hm
    obtain rfl : zs = [] := List.eq_nil_of_length_eq_zero hb.1
    refine wpList_append_own_none hgd s x _ ho base 112 i0 1 Tryz.underlying33 hi0 v n xs hs hown hx (h v w ?_ ⟨rfl, rfl, rfl, Nat.le_refl _, fun _ _ _ => rfl⟩)
    simpa using hown
  | some ad =>
    refine wpList_append_own w hgd s x _ ho base 112 i0 (.agg #[.slice none 0 0]) 1 24 Tryz.underlying33 hi0 hz0 hz1 hz2 rfl (by decide) v n xs hs hown ad m c (zs.map encC) hx (by simp [hb.1]) (fun j u hj => ?_) (fun u hu => by obtain ⟨y, _, rfl⟩ := List.mem_map.1 hu; rfl) (by unfold maxLen; omega) (by omega) hbase (fun v' w' h1 h2 _ => h v' w' h1 h2)
    rw [List.getElem?_map] at hj
    cases hy : zs[j]? with
    | none => rw [hy] at hj; cases hj
    | some y =>
      rw [hy] at hj
      cases hj
      have hjl : j < zs.length := (List.getElem?_eq_some_iff.1 hy).1
      obtain ⟨b, o, he, _, hcc⟩ := hb.at (by have := hb.1; omega)
      cases he
      rw [Go.WideShapes.add_plain]
      exact hcc j y hy

set_option maxRecDepth 100000 in
set_option maxHeartbeats 4000000 in
theorem Clone_any (q : Option Addr) (n c : Nat) (zs : List Cl) (w : World) (h : SlIn encC w q n zs) (hq : q = none → c = 0) (hn : n ≤ 1099511627776) :
    Calls Tryz.prog 99 #[.slice q n c] w fun e w' => ∃ v, e = .returned v ∧ w'.ownsRow w.heap.size 112 1 v n (zs.map encC) ∧ Below w.heap.size w w' := by
  have q24 : ∀ (w : World) (a : Option Addr) (n c n' c' : Nat), (binOp .eql 33 (.slice a n c) (.slice none n' c')).run Tryz.prog w = .ok (.bool a.isNone) w := fun w a n c n' c' => Lib.run_eql_slice_nil w _ _ a n c n' c' Tryz.underlying33
  cases q with
  | none =>
    obtain rfl := hq rfl
    have hm : n = 0 := by
      rcases Nat.eq_zero_or_pos n with h0 | h0
      · exact h0
      · obtain ⟨b, o, he, _⟩ := h.at h0; cases he
    subst hm
    obtain rfl : zs = [] := List.eq_nil_of_length_eq_zero h.1
    clear h hq
    go_enter Tryz.func99, Tryz.ntmps99
    go_wp2
    go_ret
    exact ⟨_, rfl, World.ownsRow_nil _ _ _ _, Below.refl _ _⟩
  | some ad =>
    have HB := Lib.hid (h.alloc (.cells #[] 112))
    clear h hq
    go_enter Tryz.func99, Tryz.ntmps99
    go_wp2_with (at_builtin; refine wpList_append_cls rfl _ _ rfl w.heap.size _ 0 [] rfl (World.ownsRow_made w #[] 0 (Nat.le_refl _) (Nat.zero_le _) rfl) (some ad) n c zs rfl (fun h => by cases h) HB.out (by omega) (by simp) ?_; intro v1 w1 hown hgrow)
    go_wp2
    go_ret
    refine ⟨_, rfl, by simpa using hown, ((Below.refl _ w).alloc (Nat.le_refl _) _).grown hgrow (by simp) (fun k hk => by have e : some w.heap.size = some k := hk; cases e; exact Nat.le_refl _)⟩

/-- The world has drawn and laid blocks, no more. -/
def Grew (w w' : World) : Prop := ∃ q os, w' = grow (w.drewN q) os
theorem Grew.trans {a b c : World} (h : Grew a b) (k : Grew b c) : Grew a c := by
  obtain ⟨n, os, rfl⟩ := h
  obtain ⟨m, os', rfl⟩ := k
  exact ⟨n + m, os ++ os', by show grow (grow ((a.drewN n).drewN m) os) os' = _; rw [grow_grow, World.drewN_drewN]⟩
theorem Grew.alloc (w : World) (o : Obj) : Grew w (w.alloc o) := ⟨0, #[o], by rw [alloc_eq_grow]; rfl⟩

theorem setLen_grew (q : Option Addr) (n c : Nat) (w : World) :
    Calls Tryz.prog 111 #[.agg #[.slice q n c]] w fun e w' => e = .returned (.int .i64 n) ∧ w' = w.alloc (.cells #[.slice q n c] 110) := by
  go_enter Tryz.func111, Tryz.ntmps111
  go_wp2
  go_ret
  exact ⟨rfl, rfl⟩
theorem clsLen_grew (q : Option Addr) (n c : Nat) (w : World) :
    Calls Tryz.prog 102 #[.agg #[.slice q n c]] w fun e w' => e = .returned (.int .i64 n) ∧ ∃ q os, w' = grow (w.drewN q) os := by
  have con := setLen_grew q n c (w.alloc (.cells #[.slice q n c] 112))
  go_enter Tryz.func102, Tryz.ntmps102
  go_wp2_with fail
  refine con.mono ?_
  rintro e w' ⟨rfl, rfl⟩
  go_wp2
  go_ret
  exact ⟨rfl, (Grew.alloc _ _).trans (Grew.alloc _ _)⟩

set_option maxRecDepth 100000 in
set_option maxHeartbeats 8000000 in
/-- Which is the shorter one? -/
theorem short1_any (q1 : Option Addr) (n1 c1 : Nat) (q2 : Option Addr) (n2 c2 : Nat) (w : World) :
    Calls Tryz.prog 100 #[.agg #[.slice q1 n1 c1], .agg #[.slice q2 n2 c2]] w fun e w' => e = .returned (.int .i64 (Lib.compareInt n1 n2)) ∧ ∃ q os, w' = grow (w.drewN q) os := by
  obtain ⟨W, hW⟩ : ∃ W, (w.alloc (.cells #[.slice q1 n1 c1] 112)).alloc (.cells #[.slice q2 n2 c2] 112) = W := ⟨_, rfl⟩
  have k1 : ∀ n os, (grow (W.drewN n) os).cell? ⟨w.heap.size, 0, none⟩ = some (.slice q1 n1 c1) := fun n os => cell_grown (by rw [← hW]; simp; omega) (by rw [← hW]; exact ((Boxed.new w _ _).alloc _).cell) n os
  have k2 : ∀ n os, (grow (W.drewN n) os).cell? ⟨w.heap.size + 1, 0, none⟩ = some (.slice q2 n2 c2) := fun n os => cell_grown (by rw [← hW]; simp) (by
    have := Boxed.new (w.alloc (.cells #[.slice q1 n1 c1] 112)) 112 (.slice q2 n2 c2)
    rw [World.size_alloc] at this
    rw [← hW]; exact this.cell) n os
  have hG : Grew w W := by rw [← hW]; exact (Grew.alloc _ _).trans (Grew.alloc _ _)
  have hcmp := fun W' => cmpInt n1 n2 W'
  have mixed : Tryz.prog.follows .mixedOrders = true := by kernel_rfl
  have HW := Lib.hid hW
  clear hW
  generalize Lib.compareInt n1 n2 = r at hcmp ⊢
  go_enter Tryz.func100, Tryz.ntmps100
  go_wp2_with fail
  rw [HW.out]
  go_quiet_grown (first
    | (go_at_call 102; exact Calls.grown_of (clsLen_grew _ _ _ _))
    | (go_at_call 101; exact Calls.grown_of ((hcmp _).mono fun e w' ⟨he, hw⟩ => ⟨he, 0, #[], by rw [hw, grow_empty]; rfl⟩)))
  go_wp2
  go_ret
  exact ⟨rfl, hG.trans ⟨_, _, rfl⟩⟩

/-- Which is less? -/
theorem setCmp_grew (q1 : Option Addr) (n1 c1 : Nat) (q2 : Option Addr) (n2 c2 : Nat) (xs ys : List (List UInt8)) (w : World) (h1 : SetIs encStr w (.agg #[.slice q1 n1 c1]) xs) (h2 : SetIs encStr w (.agg #[.slice q2 n2 c2]) ys) :
    Calls Tryz.prog 105 #[.agg #[.slice q1 n1 c1], .agg #[.slice q2 n2 c2]] w fun e w' => e = .returned (.int .i64 (cmpL xs ys)) ∧ ∃ q os, w' = grow (w.drewN q) os := by
  obtain ⟨_, _, _, he1, _, hn1, hs1, _⟩ := h1
  cases he1
  obtain ⟨_, _, _, he2, _, hn2, hs2, _⟩ := h2
  cases he2
  have con := S.Compare_any q1 q2 n1 c1 n2 c2 xs ys _ ((hs1.alloc (.cells #[.slice q1 n1 c1] 110)).alloc (.cells #[.slice q2 n2 c2] 110)) ((hs2.alloc _).alloc _) hn1 hn2
  clear hs1 hs2
  generalize cmpL xs ys = r at con ⊢
  go_enter Tryz.func105, Tryz.ntmps105
  go_wp2_with fail
  refine con.mono ?_
  rintro e w' ⟨rfl, rfl⟩
  go_wp2
  go_ret
  exact ⟨rfl, (Grew.alloc _ _).trans (Grew.alloc _ _)⟩
theorem clsCmp_grew (q1 : Option Addr) (n1 c1 : Nat) (q2 : Option Addr) (n2 c2 : Nat) (xs ys : List (List UInt8)) (w : World) (h1 : SetIs encStr w (.agg #[.slice q1 n1 c1]) xs) (h2 : SetIs encStr w (.agg #[.slice q2 n2 c2]) ys) :
    Calls Tryz.prog 83 #[.agg #[.slice q1 n1 c1], .agg #[.slice q2 n2 c2]] w fun e w' => e = .returned (.int .i64 (cmpL xs ys)) ∧ ∃ q os, w' = grow (w.drewN q) os := by
  have A1 := below_alloc (w := w) (.cells #[.slice q1 n1 c1] 112)
  have A2 := A1.trans ((below_alloc (w := w.alloc (.cells #[.slice q1 n1 c1] 112)) (.cells #[.slice q2 n2 c2] 112)).mono A1.size)
  have con := setCmp_grew q1 n1 c1 q2 n2 c2 xs ys _ (h1.below A2) (h2.below A2)
  clear h1 h2 A1 A2
  generalize cmpL xs ys = r at con ⊢
  go_enter Tryz.func83, Tryz.ntmps83
  go_wp2_with fail
  refine con.mono ?_
  rintro e w' ⟨rfl, hg⟩
  go_wp2
  go_ret
  exact ⟨rfl, ((Grew.alloc _ _).trans (Grew.alloc _ _)).trans hg⟩

end Go.Proofs.YtkjkfgmoogbdiaaGreatDoor.Frm

namespace Go.Proofs.YtkjkfgmoogbdiaaGreatDoor.Frm
open Go.RowKit Go.Shelf Go.Sort Url Org Cls
attribute [local go_sem] Oper.semAt_some
set_option linter.unusedVariables false

theorem keep_sortK {α : Type} [Inhabited α] (S : Nat → Prop) (enc : α → List Value) (k : Nat) (w : World) (blk off m : Nat) (dk : Array α) (os : Array Obj) (h : ¬ S blk) : Keep S w (sortWorldK enc k w blk off m dk os) :=
  ((keep_ahead S w m).trans (keep_putRow S id _ blk off _ h)).trans (keep_grow S _ os)
theorem flat_one {α : Type} [Inhabited α] (enc : α → Value) (d : Array α) (j : Nat) (h : j < d.size) : (flatK (fun x => [enc x]) 1 d)[j]! = enc d[j]! := by
  rw [get_flatK _ _ _ _ (by omega), Nat.div_one, Nat.mod_one]; rfl
theorem sort_all {α : Type} [Inhabited α] (d d' : Array α) (h : PermIn 0 d.size d d') : d'.toList.Perm d.toList := by
  have h1 := h.2.2
  rw [Array.extract_size, ← h.1, Array.extract_size] at h1
  exact h1

set_option maxRecDepth 100000 in
set_option maxHeartbeats 4000000 in
theorem sort_any (g : Nat) (cf : Cl → Cl → Int) (hO : SWO (ltOf cf)) (eg : ∀ args w, (callFunc g args).run Tryz.prog w = .ok (.enter g args) w)
    (hc : ∀ W z1 z2, ClAt W z1 → ClAt W z2 → Calls Tryz.prog g #[.agg #[encC z1], .agg #[encC z2]] W fun e w' => e = .returned (.int .i64 (cf z1 z2)) ∧ ∃ q os, w' = grow (W.drewN q) os)
    (w0 : World) (v : Value) (n : Nat) (zs : List Cl) (w : World) (h : w.ownsRow w0.heap.size 112 1 v n (zs.map encC)) (hz : ∀ z ∈ zs, ClAt w0 z) (hb0 : Below w0.heap.size w0 w) (hn : n ≤ 1099511627776) :
    Calls Tryz.prog 82 #[v, .func (.func g) #[] #[]] w fun e w' => e = .returned (.tuple #[]) ∧ ∃ (q : Option Addr) (c : Nat) (zs' : List Cl), v = .slice q n c ∧ (q = none → c = 0) ∧ zs'.Perm zs ∧ (∀ (i j : Nat) (x y : Cl), i < j → zs'[i]? = some x → zs'[j]? = some y → ¬ cf y x < 0) ∧ SlIn encC w' q n zs' ∧ Below w0.heap.size w w' := by
  by_cases hv : v = .slice none 0 0
  · subst hv
    have hl : zs = [] ∧ n = 0 := by
      have h1 := h.1
      rcases h.2 with ⟨_, h2⟩ | ⟨g, cap, cur, h2, _⟩
      · simp [h2] at h1
        exact ⟨h1, h2⟩
      · cases h2
    obtain ⟨rfl, rfl⟩ := hl
    exact (sortNone (.func (.func g) #[] #[]) w).mono fun e w' ⟨he, hw⟩ => ⟨he, none, 0, [], rfl, fun _ => rfl, List.Perm.refl _, by simp, SlIn.nil _ _ _, by rw [hw]; exact Below.refl _ _⟩
  · obtain ⟨blk, cap, rfl, hb, hlt, hnc, hcm, hl, hH⟩ := Lib.holds_of_ownsRow h hv
    clear h hv
    haveI : Inhabited {z : Cl // ClAt w0 z} := ⟨⟨((none, 0, 0), []), ⟨set_nil _, by simp⟩⟩⟩
    obtain ⟨d, hd⟩ : ∃ d : Array {z : Cl // ClAt w0 z}, d = (zs.attach.map fun z => (⟨z.1, hz z.1 z.2⟩ : {z : Cl // ClAt w0 z})).toArray := ⟨_, rfl⟩
    have hds : d.size = n := by rw [hd]; simp [hl]
    have hdl : d.toList.map Subtype.val = zs := by
      rw [hd]
      simp only [List.map_map]
      have : (Subtype.val ∘ fun z : {x // x ∈ zs} => (⟨z.1, hz z.1 z.2⟩ : {z : Cl // ClAt w0 z})) = Subtype.val := rfl
      rw [this, List.attach_map_subtype_val]
    have hdj : ∀ j, j < d.size → encC d[j]!.1 = encC zs.toArray[j]! := fun j hj => by
      have h1 : (d.toList.map Subtype.val)[j]? = zs[j]? := by rw [hdl]
      rw [List.getElem?_map, Array.getElem?_toList, Array.getElem?_eq_getElem hj, Option.map_some] at h1
      have h2 : j < zs.length := by omega
      rw [List.getElem?_eq_getElem h2] at h1
      have h3 : zs.toArray[j]! = zs[j] := by simp [h2]
      rw [getElem!_pos d j hj, h3, ← Option.some.inj h1]
    have hK : HoldsK (fun x : {z : Cl // ClAt w0 z} => [encC x.1]) 1 w blk 0 d := fun j hj => by
      have hj' : j < d.size := by simpa using hj
      have := hH j (by simp; omega)
      rw [flat_one (fun x : {z : Cl // ClAt w0 z} => encC x.1) d j hj', hdj j hj']
      exact this
    have hO' : SWO (ltOf fun x y : {z : Cl // ClAt w0 z} => cf x.1 y.1) := ⟨fun x => hO.irrefl x.1, fun x y z => hO.trans x.1 y.1 z.1, fun x y z => hO.ntrans x.1 y.1 z.1⟩
    have hcmp : CmpLays Tryz.prog g #[] (fun x : {z : Cl // ClAt w0 z} => [encC x.1]) 1 (fun x y => cf x.1 y.1) blk 0 d.size w := fun m os dk _ x y => by
      have hk : Below w0.heap.size w0 (sortWorldK (fun x : {z : Cl // ClAt w0 z} => [encC x.1]) 1 w blk 0 m dk os) := hb0.trans ((keep_sortK (· < w0.heap.size) _ 1 w blk 0 m dk os (by omega)).below hb0.size)
      exact hc _ x.1 y.1 (x.2.below hk) (y.2.below hk)
    have con := sortCls (fun x : {z : Cl // ClAt w0 z} => [encC x.1]) (fun _ => rfl) (fun x u hu => by rw [List.mem_singleton.1 hu]; rfl) (fun x y => cf x.1 y.1) hO' g #[] blk 0 cap d w eg hcmp hK hlt (by omega)
    rw [hds] at con
    refine con.mono fun e w' ⟨he, d', m, os, hp, hs, hw⟩ => ⟨he, some ⟨blk, 0, none⟩, cap, d'.toList.map Subtype.val, rfl, (fun h => by cases h), ?_, ?_, ?_, ?_⟩
    · rw [← hdl]
      refine List.Perm.map _ (sort_all d d' ?_)
      rw [hds]; exact hp
    · intro i j x y hij hi hj hlt
      have e1 : d'.size = n := by rw [hp.1, hds]
      rw [List.getElem?_map, Array.getElem?_toList] at hi hj
      have hjl : j < d'.size := by
        rcases Nat.lt_or_ge j d'.size with h | h
        · exact h
        · rw [Array.getElem?_eq_none h] at hj; cases hj
      rw [Array.getElem?_eq_getElem hjl, Option.map_some] at hj
      rw [Array.getElem?_eq_getElem (by omega), Option.map_some] at hi
      have := hs i j (Nat.zero_le _) hij (by omega)
      rw [getElem!_pos d' j hjl, getElem!_pos d' i (by omega)] at this
      have h4 : ¬ cf d'[j].val d'[i].val < 0 := of_decide_eq_false this
      rw [Option.some.inj hj, Option.some.inj hi] at h4
      exact h4 hlt
    · have e1 : d'.size = d.size := by rw [hp.1]
      have hK' := holdsK_sortWorldK (fun x : {z : Cl // ClAt w0 z} => [encC x.1]) 1 w blk 0 m d d' os hlt hK e1
      rw [hw]
      refine ⟨by rw [List.length_map, Array.length_toList, e1, hds], fun _ => ⟨blk, 0, rfl, lt_sortWorldK _ 1 w blk 0 m d' os hlt, fun i x hx => ?_⟩⟩
      rw [List.getElem?_map, Array.getElem?_toList] at hx
      have hil : i < d'.size := by
        rcases Nat.lt_or_ge i d'.size with h | h
        · exact h
        · rw [Array.getElem?_eq_none h] at hx; cases hx
      rw [Array.getElem?_eq_getElem hil, Option.map_some] at hx
      have := (hK' i (by simp; omega)).1
      rw [flat_one (fun x : {z : Cl // ClAt w0 z} => encC x.1) d' i hil, getElem!_pos d' i hil, Option.some.inj hx] at this
      exact this
    · rw [hw]
      exact (keep_sortK (· < w0.heap.size) _ 1 w blk 0 m d' os (by omega)).below hb0.size

def lenF (x y : Cl) : Int := Lib.compareInt x.2.length y.2.length
def cmpF (x y : Cl) : Int := cmpL x.2 y.2
theorem ltLen (x y : Cl) : ltOf lenF x y = decide (x.2.length < y.2.length) := by
  unfold ltOf lenF Lib.compareInt
  by_cases h1 : x.2.length < y.2.length
  · simp [h1]
  · by_cases h2 : y.2.length < x.2.length <;> simp [h1, h2]
theorem swoLen : SWO (ltOf lenF) where
  irrefl x := by rw [ltLen]; simp
  trans x y z h1 h2 := by rw [ltLen] at *; simp at *; omega
  ntrans x y z h1 h2 := by rw [ltLen] at *; simp at *; omega
theorem cmpL_neg (x y : List (List UInt8)) : cmpL x y < 0 ↔ x < y := by
  rw [← cmp_lt]
  constructor
  · intro h
    have : ∀ a b : List (List UInt8), cmpL a b = -1 ∨ cmpL a b = 0 ∨ cmpL a b = 1 := fun a => by
      induction a with
      | nil => intro b; cases b <;> simp [cmpL]
      | cons p a ih =>
        intro b
        cases b with
        | nil => simp [cmpL]
        | cons q b =>
          unfold cmpL
          split
          · simp
          · split
            · simp
            · exact ih b
    rcases this x y with k | k | k <;> omega
  · intro h; omega
theorem ltCmp (x y : Cl) : ltOf cmpF x y = decide (x.2 < y.2) := by
  unfold ltOf cmpF
  rw [Bool.eq_iff_iff, decide_eq_true_iff, decide_eq_true_iff]
  exact cmpL_neg _ _
theorem swoCmp : SWO (ltOf cmpF) where
  irrefl x := by rw [ltCmp]; exact decide_eq_false (Lin.irr _)
  trans x y z h1 h2 := by
    rw [ltCmp] at *
    exact decide_eq_true (Lin.tr (of_decide_eq_true h1) (of_decide_eq_true h2))
  ntrans x y z h1 h2 := by
    rw [ltCmp] at *
    have k1 := of_decide_eq_false h1
    have k2 := of_decide_eq_false h2
    refine decide_eq_false fun h => ?_
    rcases Lin.tri x.2 y.2 with k | k | k
    · exact k1 k
    · rw [k] at h; exact k2 h
    · exact k2 (Lin.tr k h)
theorem cl_len {w : World} {z : Cl} (h : ClAt w z) : z.2.length = z.1.2.1 := by
  obtain ⟨q, n, c, he, _, _, hs, _⟩ := h.set
  cases he
  exact hs.1

set_option maxRecDepth 100000 in
set_option maxHeartbeats 4000000 in
/-- The clauses in new memory, those of fewer principals ahead. -/
theorem shortest_any (q : Option Addr) (n c : Nat) (zs : List Cl) (w : World) (h : SlIn encC w q n zs) (hz : ∀ z ∈ zs, ClAt w z) (hq : q = none → c = 0) (hn : n ≤ 1099511627776) :
    Calls Tryz.prog 81 #[.slice q n c] w fun e w' => ∃ (q' : Option Addr) (c' : Nat) (zs' : List Cl), e = .returned (.slice q' n c') ∧ zs'.Perm zs ∧ (∀ (i j : Nat) (x y : Cl), i < j → zs'[i]? = some x → zs'[j]? = some y → x.2.length ≤ y.2.length) ∧ SlIn encC w' q' n zs' ∧ Below w.heap.size w w' := by
  have con := Clone_any q n c zs w h hq hn
  have HZ := Lib.hid hz
  clear h hz
  go_enter Tryz.func81, Tryz.ntmps81
  go_wp2_with fail
  refine con.mono ?_
  rintro e w2 ⟨v, rfl, hown, hb⟩
  have con2 := sort_any 100 lenF swoLen (enters_of Tryz.func100 (by kernel_rfl) rfl) (fun W z1 z2 h1 h2 => by
    have e : lenF z1 z2 = Lib.compareInt z1.1.2.1 z2.1.2.1 := by unfold lenF; rw [cl_len h1, cl_len h2]
    rw [e]
    exact short1_any z1.1.1 z1.1.2.1 z1.1.2.2 z2.1.1 z2.1.2.1 z2.1.2.2 W) w v n zs w2 hown HZ.out hb hn
  clear con hown
  go_wp2_with fail
  refine con2.mono ?_
  rintro e w3 ⟨rfl, q', c', zs', rfl, hq', hp, hs, hsl, hb3⟩
  clear con2
  go_wp2
  go_ret
  refine ⟨q', c', zs', rfl, hp, fun i j x y hij hi hj => ?_, hsl, hb.trans (hb3.mono (by have := hb.size; omega))⟩
  have h1 := hs i j x y hij hi hj
  have h2 : ltOf lenF y x = false := decide_eq_false (by omega)
  rw [ltLen] at h2
  have := of_decide_eq_false h2
  omega

end Go.Proofs.YtkjkfgmoogbdiaaGreatDoor.Frm

namespace Go.Proofs.YtkjkfgmoogbdiaaGreatDoor.Frm
open Go.RowKit Go.Shelf Go.Sort Url Org Cls
attribute [local go_sem] Oper.semAt_some
set_option linter.unusedVariables false

/-- The value v is the formula of these clauses, in w. -/
def FrmIs (w : World) (v : Value) (f : List (List (List UInt8))) : Prop := ∃ q n c, v = .agg #[.slice q n c] ∧ (q = none → c = 0) ∧ n ≤ c ∧ ClsIn w q n f
theorem frm_form {w : World} {v : Value} {f : List (List (List UInt8))} (h : FrmIs w v f) : ∃ q n c, v = .agg #[.slice q n c] := by
  obtain ⟨q, n, c, rfl, _⟩ := h
  exact ⟨q, n, c, rfl⟩
theorem FrmIs.below {w w' : World} {v : Value} {f : List (List (List UInt8))} (h : FrmIs w v f) (hb : Below w.heap.size w w') : FrmIs w' v f := by
  obtain ⟨q, n, c, rfl, h1, h2, h3⟩ := h
  exact ⟨q, n, c, rfl, h1, h2, h3.below hb⟩
theorem FrmIs.row {w : World} {q : Option Addr} {n c : Nat} {f : List (List (List UInt8))} (h : FrmIs w (.agg #[.slice q n c]) f) : (q = none → c = 0) ∧ n ≤ c ∧ ClsIn w q n f := by
  obtain ⟨q', n', c', he, h1, h2, h3⟩ := h
  cases he
  exact ⟨h1, h2, h3⟩
theorem frm_nil (w : World) : FrmIs w (.agg #[.slice none 0 0]) [] := ⟨none, 0, 0, rfl, fun _ => rfl, Nat.le_refl _, ClsIn.nil _ _⟩
/-- A formula and no error, or always and one. -/
def FrmOut (r : Sum Int (List (List (List UInt8)))) (w : World) (e : Ending) (w' : World) : Prop :=
  ∃ q n c, e = .returned (.tuple #[.agg #[.slice q n c], .int .i64 (frmE r)]) ∧ FrmIs w' (.agg #[.slice q n c]) (frmV r) ∧ (∀ a, q = some a → w.heap.size ≤ a.block) ∧ Below w.heap.size w w'
theorem ret_frm2 {fn : Func} {p u : Tmp} (h : fn.results = #[.cell p 35, .tmp u]) (tmps : Array Value) (w : World) (B : Nat) (v : Value) (hp : tmps.getD p undef = .pointer (some ⟨B, 0, none⟩)) (hU : Boxed w B 35 v) :
    (results fn tmps).run Tryz.prog w = .ok (.tuple #[.agg #[v], tmps.getD u undef]) w := by
  rw [results_cell_tmp h, hp]
  simp [asAddr, Result.andThen, run_loadVar_row w B 35 _ #[v] (0, 0) _ hU Tryz.underlying35 rfl (by kernel_rfl)]
/-- A row, behind a store into a box that lies elsewhere. -/
theorem slIn_set {w : World} {q : Option Addr} {n : Nat} {zs : List Cl} (B : Nat) (v : Value) (h : SlIn encC w q n zs) (hq : ∀ a, q = some a → a.block ≠ B) : SlIn encC (w.setCell ⟨B, 0, none⟩ v) q n zs :=
  h.keep (Keep.setCell (S := fun b => b ≠ B) w ⟨B, 0, none⟩ v (by simp)) fun a h _ => hq a h

/-- A store into a box that holds no text, off the formula's row. -/
theorem FrmIs.set {w : World} {q : Option Addr} {n c : Nat} {f : List (List (List UInt8))} {B : Nat} {t : TypeId} {u u' : Value} (h : FrmIs w (.agg #[.slice q n c]) f) (b : Boxed w B t u) (hu : ∀ x, encStr x ≠ u) (hq : ∀ a, q = some a → a.block ≠ B) : FrmIs (w.setCell ⟨B, 0, none⟩ u') (.agg #[.slice q n c]) f := by
  obtain ⟨h1, h2, zs, s, z, rfl⟩ := h.row
  exact ⟨q, n, c, rfl, h1, h2, zs, slIn_set B _ s hq, fun x hx => ⟨(z x hx).set.set b hu, (z x hx).few⟩, rfl⟩
theorem slC_put {w : World} {q : Option Addr} {n : Nat} {zs : List Cl} {D : Nat} {d : Option (List Deferred)} {o : Obj} (h : SlIn encC w q n zs) (hD : w.heap[D]? = some (.deferred d)) : SlIn encC (w.putObj D o) q n zs := by
  refine h.keep (Keep.putObj (S := fun b => b ≠ D) w D o (by simp)) fun a ha h0 e => ?_
  obtain ⟨b, o', he, _, hc⟩ := h.at h0
  rw [ha] at he; cases he
  obtain ⟨y, hy⟩ : ∃ y, zs[0]? = some y := ⟨_, List.getElem?_eq_getElem (by rw [h.1]; exact h0)⟩
  have := hc 0 y hy
  simp only at e
  subst e
  simp [World.cell?, hD] at this

theorem take_snoc {α : Type} (l : List α) (k : Nat) (x : α) (h : l[k]? = some x) : l.take (k + 1) = l.take k ++ [x] ∧ l.drop k = x :: l.drop (k + 1) := by
  obtain ⟨hk, rfl⟩ := List.getElem?_eq_some_iff.1 h
  exact ⟨List.take_succ_eq_append_getElem hk, List.drop_eq_getElem_cons hk⟩
theorem short_rest (ys : List Cl) (k : Nat) (x : Cl) (h : ys[k]? = some x) (hs : ∀ (i j : Nat) (x y : Cl), i < j → ys[i]? = some x → ys[j]? = some y → x.2.length ≤ y.2.length) : ∀ y ∈ (ys.drop (k + 1)).map Prod.snd, x.2.length ≤ y.length := fun y hy => by
  obtain ⟨z, hz, rfl⟩ := List.mem_map.1 hy
  obtain ⟨j, hj, rfl⟩ := List.getElem_of_mem hz
  refine hs k (k + 1 + j) x _ (by omega) h ?_
  rw [← List.getElem?_drop]
  exact List.getElem?_eq_getElem hj

set_option maxRecDepth 100000 in
set_option maxHeartbeats 16000000 in
theorem Of_any (q : Option Addr) (n c : Nat) (xs : List (List (List UInt8))) (w : World) (h : ClsIn w q n xs) (hq : q = none → c = 0) (hm : n ≤ 1099511627776) :
    Calls Tryz.prog 59 #[.slice q n c] w (FrmOut (ofF xs) w) := by
  have hR := Lib.hid h.ok
  obtain ⟨zs, hs, hz, hxs⟩ := h
  obtain ⟨W1, hW1⟩ : ∃ W1, w.alloc (.cells #[.slice none 0 0] 35) = W1 := ⟨_, rfl⟩
  have A1 : Below w.heap.size w W1 := hW1 ▸ (Below.refl _ w).alloc (Nat.le_refl _) _
  have b1 : Boxed W1 w.heap.size 35 (.slice none 0 0) := hW1 ▸ Boxed.new w _ _
  have hs1 : W1.heap.size = w.heap.size + 1 := by rw [← hW1]; simp
  have con := shortest_any q n c zs W1 (hs.below A1 hs.lt) (fun z hz' => (hz z hz').below A1) hq hm
  have HW1 := Lib.hid hW1
  have HX := Lib.hid hxs
  have HZ := Lib.hid hz
  have HS1 := Lib.hid hs1
  clear hW1 hs hz hxs hs1
  go_enter Tryz.func59, Tryz.ntmps59
  go_wp2_with fail
  rw [HW1.out]
  refine con.mono ?_
  rintro e w2 ⟨q', c', ys, rfl, hp, hsh, hsl, hb2⟩
  have HP := Lib.hid hp
  have HSH := Lib.hid hsh
  have hyl := hsl.1
  have HYL := Lib.hid hyl
  have b2 := (Keep.of_below hb2).boxed b1 b1.lt
  have A2 := A1.trans (hb2.mono A1.size)
  have hs2 := Lib.hid (show w.heap.size < w2.heap.size by have := hb2.size; have := HS1.out; omega)
  have H0 := Lib.hid (Left.start (ys.map Prod.snd) fun c hc => by
    obtain ⟨z, hz, rfl⟩ := List.mem_map.1 hc
    exact (HZ.out z (hp.mem_iff.1 hz)).rise)
  have HZ2 := Lib.hid (show ∀ z ∈ ys, ClAt w2 z from fun z hz => (HZ.out z (hp.mem_iff.1 hz)).below A2)
  clear con hp hsh hb2 b1 hyl
  go_wp2
  go_loopw [4, 10] (fun a i wr => ∃ (k : Nat) (ls : List Cl), k ≤ n ∧ i = .int .i64 k ∧ wr.ownsRow w2.heap.size 112 1 a ls.length (ls.map encC) ∧ Hid ((∀ z ∈ ls, z ∈ ys) ∧ Left (ls.map Prod.snd) ((ys.take k).map Prod.snd) ((ys.drop k).map Prod.snd)) ∧ ls.length ≤ 16 ∧ Boxed wr w.heap.size 35 (.slice none 0 0) ∧ Below w2.heap.size w2 wr) (fun _ i _ => n - (intOf i).toNat)
  case atStart => exact ⟨0, [], Nat.zero_le _, rfl, World.ownsRow_nil _ _ _ _, Lib.hid ⟨fun z hz => (by cases hz), by simpa using H0.out⟩, by simp, b2, Below.refl _ _⟩
  case round =>
    obtain ⟨k, ls, hk, rfl, hrow, HL, h16, hbx, hB⟩ := hrel
    have hBs := hB.size
    obtain ⟨q4, c4, rfl, hle, hmc, hsl4, hqb⟩ := slIn_of_owns hrow
    by_cases hlt : k < n
    · obtain ⟨b, o, rfl, hbl, hc⟩ := (hsl.below hB hsl.lt).at (by omega)
      obtain ⟨⟨⟨zq, zn, zc⟩, zx⟩, hz⟩ : ∃ z, ys[k]? = some z := ⟨_, List.getElem?_eq_getElem (by have := HYL.out; omega)⟩
      have hck : wr.cell? ⟨b, o + k, none⟩ = some (.slice zq zn zc) := hc k _ hz
      have hzm := List.mem_of_getElem? hz
      have hza : ClAt wr ((zq, zn, zc), zx) := (HZ2.out _ hzm).below hB
      obtain ⟨W4, hW4⟩ : ∃ W4, wr.alloc (.cells #[.slice zq zn zc] 112) = W4 := ⟨_, rfl⟩
      have hka : ∀ S, Keep S wr W4 := fun S => hW4 ▸ Keep.alloc S _ _
      have b4 : Boxed W4 wr.heap.size 112 (.slice zq zn zc) := hW4 ▸ Boxed.new wr _ _
      have con := oneImplies_any q4 ls.length c4 (ls.map Prod.snd) (.agg #[.slice zq zn zc]) zx W4 ⟨ls, hsl4.keep (hka (fun _ => True)) (fun _ _ _ => trivial), fun z hz => ((HZ2.out _ (HL.out.1 z hz)).below hB).keep (hka _), rfl⟩ (hza.keep (hka _)).set hza.few (by omega)
      have c4 := b4.cell
      have HW4 := Lib.hid hW4
      clear hc hW4
      have hcm := hza.set
      obtain ⟨t1, t2⟩ := take_snoc ys k _ hz
      have HT1 := Lib.hid t1
      have HT2 := Lib.hid (show Left (ls.map Prod.snd) ((ys.take k).map Prod.snd) (zx :: (ys.drop (k + 1)).map Prod.snd) by have := HL.out.2; rw [t2] at this; exact this)
      have HS3 := Lib.hid (short_rest ys k _ hz HSH.out)
      have HM := Lib.hid hzm
      clear t1 t2 hz hzm hza hcm
      obtain ⟨ob, hob⟩ : ∃ ob, oneB (ls.map Prod.snd) zx = ob := ⟨_, rfl⟩
      have HO := Lib.hid hob
      rw [hob] at con
      clear hob
      go_wp2_with fail
      rw [HW4.out]
      refine con.mono ?_
      rintro e w5 ⟨rfl, hb5⟩
      have hs4 : W4.heap.size = wr.heap.size + 1 := by rw [← HW4.out]; simp
      have hs5 := hb5.size
      have hk5 : Keep (· < wr.heap.size) wr w5 := (hka _).trans ((Keep.of_below hb5).mono fun b _ hb => by omega)
      have hrow5 := hk5.row hrow (fun b hb => (hrow.lt b hb).2)
      have hbx5 := hk5.boxed hbx hbx.lt
      have hB5 : Below w2.heap.size w2 w5 := hB.trans ((hk5.mono fun b _ hb => by omega).below hBs)
      have hBs5 := hB5.size
      have b5 := (Keep.of_below hb5).boxed b4 (by omega)
      have c5 := b5.cell
      clear con hb5 b4 c4 hka hk5 HW4 hrow hbx hsl4 hB
      cases ob with
      | true =>
        have HL2 := Lib.hid (show (∀ z ∈ ls, z ∈ ys) ∧ Left (ls.map Prod.snd) ((ys.take (k + 1)).map Prod.snd) ((ys.drop (k + 1)).map Prod.snd) from ⟨HL.out.1, by
          rw [HT1.out, List.map_append]
          exact HT2.out.skip HO.out HS3.out⟩)
        go_wp2
        go_roundw
        case rel => exact ⟨k + 1, ls, by omega, by go_num, hrow5, HL2, h16, hbx5, hB5⟩
        case measure => simp [intOf]; omega
      | false =>
        have HL2 := Lib.hid (show (∀ z ∈ ls ++ [((zq, zn, zc), zx)], z ∈ ys) ∧ Left ((ls ++ [((zq, zn, zc), zx)]).map Prod.snd) ((ys.take (k + 1)).map Prod.snd) ((ys.drop (k + 1)).map Prod.snd) from ⟨fun z hz => by
          rcases List.mem_append.1 hz with h | h
          · exact HL.out.1 z h
          · rw [List.mem_singleton.1 h]; exact HM.out, by
          rw [HT1.out, List.map_append, List.map_append]
          exact HT2.out.take HO.out HS3.out⟩)
        by_cases hfull : ls.length = 16
        · have d : ((ls.length : Int) == 16) = true := by rw [hfull]; rfl
          have HR := Lib.hid (show ofF xs = .inl 3 from ofF_many xs (ys.map Prod.snd) ((ls ++ [((zq, zn, zc), zx)]).map Prod.snd) ((ys.take (k + 1)).map Prod.snd) ((ys.drop (k + 1)).map Prod.snd) (by rw [HX.out]; exact HP.out.map _) (by rw [← List.map_append, List.take_append_drop]) HL2.out.2 (by simp; omega))
          have kf := hbx5.frozen
          have kc := hbx5.cell
          clear hfull
          go_wp2
          refine bodyPost_ret (ret_frm2 rfl _ _ w.heap.size _ rfl (hbx5.set _)) rfl ?_
          rw [HR.out]
          exact ⟨none, 0, 0, rfl, frm_nil _, (fun a h => by cases h), (A2.trans (hB5.mono A2.size)).setCell (Nat.le_refl _) _⟩
        · have d : ((ls.length : Int) == 16) = false := by rw [beq_eq_false_iff_ne]; omega
          obtain ⟨i0, hi0, hz0, hz1, hz2⟩ := info_parts info_cls
          go_wp2_with (at_builtin; refine wpList_append_own_at _ rfl _ _ 33 rfl w2.heap.size 112 i0 (.agg #[.slice none 0 0]) 1 24 Tryz.underlying33 hi0 hz0 hz1 hz2 rfl (by decide) _ _ _ rfl (hrow5.alloc _) ⟨w5.heap.size, 0, none⟩ 1 1 [.slice zq zn zc] rfl rfl (cell_one_new _ _ _) (by simp [Value.oneCell']) (by unfold maxLen; omega) (by omega) (by simp; omega) ?_; intro v' w6 hown' hgrow _ hat)
          have hb6 : Below w2.heap.size w5 w6 := ((Below.refl _ w5).alloc hBs5 _).grown hgrow (by simp; omega) (fun b hb => (hrow5.lt b hb).1)
          go_roundw
          case rel => exact ⟨k + 1, ls ++ [((zq, zn, zc), zx)], by omega, by go_num, by simpa [encC] using hown', HL2, by simp; omega, (Keep.of_below hb6).boxed hbx5 hs2.out, hB5.trans hb6⟩
          case measure => simp [intOf]; omega
    · obtain rfl : k = n := by omega
      have con2 := sort_any 83 cmpF swoCmp (enters_of Tryz.func83 (by kernel_rfl) rfl) (fun W z1 z2 h1 h2 => clsCmp_grew z1.1.1 z1.1.2.1 z1.1.2.2 z2.1.1 z2.1.2.1 z2.1.2.2 z1.2 z2.2 W h1.set h2.set) w2 (.slice q4 ls.length c4) ls.length ls wr hrow (fun z hz => HZ2.out z (HL.out.1 z hz)) hB (by omega)
      have HR := Lib.hid (show ofF xs = .inr (sortR (ls.map Prod.snd)) from ofF_left xs (ys.map Prod.snd) (ls.map Prod.snd) (by rw [HX.out]; exact HP.out.map _) (by
        have := HL.out.2
        rw [List.take_of_length_le (by have := HYL.out; omega), List.drop_of_length_le (by have := HYL.out; omega)] at this
        exact this) (by simpa using h16))
      have HND := Lib.hid HL.out.2.nodup
      clear hrow hsl4
      go_wp2_with fail
      refine con2.mono ?_
      rintro e w3 ⟨rfl, q5, c5, zs', he, hq5, hp, hs, hsl5, hb3⟩
      cases he
      have hbx3 := (Keep.of_below hb3).boxed hbx hs2.out
      have hB3 : Below w2.heap.size w2 w3 := hB.trans hb3
      have hA3 := (A2.trans (hB3.mono A2.size)).setCell (p := ⟨w.heap.size, 0, none⟩) (Nat.le_refl _) (.slice q4 ls.length c4)
      have HE := Lib.hid (show sortR (ls.map Prod.snd) = zs'.map Prod.snd from (sorted_is (ls.map Prod.snd) (zs'.map Prod.snd) (hp.map _) HND.out fun i j x y hij hi hj => by
        rw [List.getElem?_map] at hi hj
        cases hi' : zs'[i]? with
        | none => rw [hi'] at hi; cases hi
        | some x' =>
          cases hj' : zs'[j]? with
          | none => rw [hj'] at hj; cases hj
          | some y' =>
            rw [hi'] at hi
            rw [hj'] at hj
            cases hi
            cases hj
            have h1 := hs i j x' y' hij hi' hj'
            exact fun h => by
              have h2 := (cmpL_neg _ _).2 h
              have e : cmpF y' x' = cmpL y'.2 x'.2 := rfl
              omega).symm)
      have HPP := Lib.hid hp
      have kf := hbx3.frozen
      have kc := hbx3.cell
      clear con2 hp hs hb3
      go_wp2
      refine bodyPost_ret (ret_frm2 rfl _ _ w.heap.size _ rfl (hbx3.set _)) rfl ?_
      rw [HR.out]
      refine ⟨q4, ls.length, c4, rfl, ⟨q4, ls.length, c4, rfl, hq5, hle, zs', slIn_set w.heap.size _ hsl5 (fun a ha => ?_), fun z hz => ?_, HE.out⟩, (fun a ha => by have := (hqb a ha).1; have := hs2.out; omega), hA3⟩
      · have := (hqb a ha).1
        have := hs2.out
        omega
      · exact (HZ.out z (HP.out.mem_iff.1 (HL.out.1 z (HPP.out.mem_iff.1 hz)))).below hA3

end Go.Proofs.YtkjkfgmoogbdiaaGreatDoor.Frm

namespace Go.Proofs.YtkjkfgmoogbdiaaGreatDoor.Frm
open Go.RowKit Go.Shelf Go.Sort Url Org Cls
attribute [local go_sem] Oper.semAt_some
set_option linter.unusedVariables false

/-- A clause, as yield takes it. -/
def ClArg (z : Cl) (args : Array Value) (G : Nat → Prop) (_W : World) : Prop := args = #[.agg #[encC z]] ∧ G = fun _ => False

theorem frmAll_any (q : Option Addr) (n c : Nat) (w : World) :
    Calls Tryz.prog 41 #[.agg #[.slice q n c]] w fun e w' => e = .returned (.func (.func 88) #[] #[.pointer (some ⟨w.heap.size + 1, 0, none⟩)]) ∧
      w' = (w.alloc (.cells #[.slice q n c] 35)).alloc (.cells #[.slice q n c] 33) := by
  have con : ∀ W : World, Calls Tryz.prog 64 #[.slice q n c] W fun e w' => e = .returned (.func (.func 88) #[] #[.pointer (some ⟨W.heap.size, 0, none⟩)]) ∧ w' = W.alloc (.cells #[.slice q n c] 33) := fun W => by
    go_enter Tryz.func64, Tryz.ntmps64
    go_wp2
    go_ret
    exact ⟨rfl, rfl⟩
  go_enter Tryz.func41, Tryz.ntmps41
  go_wp2_with fail
  refine (con _).mono ?_
  rintro e w' ⟨rfl, rfl⟩
  go_wp2
  go_ret
  exact ⟨by simp, rfl⟩

set_option maxRecDepth 100000 in
set_option maxHeartbeats 2000000 in
theorem Values1_iter (B : Nat) (q : Option Addr) (n c : Nat) (zs : List Cl) (RB : Nat → Prop) (w0 : World) (hm : n ≤ 140737488355328)
    (h : SlIn encC w0 q n zs) (hq : ∀ a, q = some a → 0 < n → RB a.block) (b : Boxed w0 B 33 (.slice q n c)) (hR : RB B) (hRs : ∀ b, RB b → b < w0.heap.size) :
    IterC Tryz.prog 88 #[.pointer (some ⟨B, 0, none⟩)] ClArg zs RB w0 := by
  intro l J Jx W hW hJ hJx hY h0
  refine (callsIn_wide (n := 1)).1 ?_
  refine callsIn_of_wp Tryz.func88 rfl trivial ?_ rfl
  simp only [Tryz.ntmps88, List.size_toArray, List.length_cons, List.length_nil, Nat.reduceAdd, Nat.reduceSub, Array.replicate_succ, Array.replicate_zero, List.push_toArray, List.append_toArray, List.nil_append, List.cons_append]
  have k1 := (hW.boxed b hR).cell
  have hl := Lib.hid h.1
  gi_wp2
  gi_loopw [7] (fun i wr => ∃ k : Nat, ∃ pre, k ≤ n ∧ i = .int .i64 k ∧ Keep RB W wr ∧ Hid (zs = pre ++ zs.drop k) ∧ J pre (fun _ => False) wr) (fun i _ => n - (intOf i).toNat)
  case atStart => exact ⟨0, [], Nat.zero_le _, rfl, Keep.refl _ _, rfl, h0⟩
  case round =>
    obtain ⟨k, pre, hk, rfl, hK, HX, hJr⟩ := hrel
    by_cases hlt : k < n
    · obtain ⟨bb, o, rfl, hb, hc⟩ := (h.keep (hW.trans hK) hq).at (by omega)
      obtain ⟨x, hx, hd⟩ := drop_getElem zs k (by rw [hl.out]; exact hlt)
      obtain ⟨⟨xq, xn, xc⟩, xp⟩ := x
      have hck : wr.cell? ⟨bb, o + k, none⟩ = some (.slice xq xn xc) := hc k _ hx
      have HX2 := Lib.hid (show zs = pre ++ ((xq, xn, xc), xp) :: zs.drop (k + 1) by rw [← hd]; exact HX.out)
      have hka : ∀ S, Keep S wr (wr.alloc (.cells #[.slice xq xn xc] 112)) := fun S => Keep.alloc S _ _
      obtain ⟨fn, tmps, assign, body, hy, hRR⟩ := hY pre ((xq, xn, xc), xp) _ (fun _ => False) (fun _ => False) #[.agg #[.slice xq xn xc]] (wr.alloc (.cells #[.slice xq xn xc] 112)) HX2.out (hJ _ _ _ _ _ hJr (hka _) (fun _ h => h.elim)) (fun _ h => h.elim) ⟨rfl, rfl⟩ (fun _ h => h)
      clear HX hd hx hc hY h hb
      gi_wp2_with fail
      refine hRR.mono ?_
      rintro e W4 ⟨hk3, (⟨rfl, hJ3⟩ | ⟨rfl, hJx3⟩)⟩
      · gi_wp2
        go_roundw
        case rel => exact ⟨k + 1, pre ++ [((xq, xn, xc), xp)], by omega, by go_num, hK.trans ((hka _).trans (hk3.mono fun _ _ h => .inl h)), Lib.hid (show zs = (pre ++ [((xq, xn, xc), xp)]) ++ zs.drop (k + 1) by rw [List.append_assoc]; exact HX2.out), hJ _ _ _ _ _ hJ3 (Keep.refl _ _) (fun _ h => h.elim)⟩
        case measure => simp [intOf]; omega
      · gi_wp2
        refine bodyPost_ret (results_none rfl _ _ _) rfl ?_
        exact ⟨⟨_, rfl⟩, fun _ => False, fun _ h => h.elim, .inr ⟨pre ++ [((xq, xn, xc), xp)], _, by rw [HX2.out, List.append_assoc]; rfl, hJx _ _ _ _ _ hJx3 (Keep.refl _ _) (fun _ h => h.elim)⟩⟩
    · have HX2 := Lib.hid (show zs = pre by rw [HX.out, List.drop_of_length_le (by rw [hl.out]; omega)]; simp)
      clear HX hY h
      gi_wp2
      refine bodyPost_end (results_none rfl _ _ _) rfl ?_
      exact ⟨⟨_, rfl⟩, fun _ => False, fun _ h => h.elim, .inl (by rw [HX2.out]; exact hJr)⟩

theorem Never_any (w : World) : Calls Tryz.prog 28 #[] w fun e w' => ∃ q n c, e = .returned (.agg #[.slice q n c]) ∧ FrmIs w' (.agg #[.slice q n c]) [[]] ∧ Below w.heap.size w w' := by
  obtain ⟨W, hW⟩ : ∃ W, (w.alloc (.cells #[.slice (some ⟨w.heap.size + 1, 0, none⟩) 1 1] 35)).alloc (.cells #[.slice none 0 0] 112) = W := ⟨_, rfl⟩
  have b0 : Boxed W w.heap.size 35 (.slice (some ⟨w.heap.size + 1, 0, none⟩) 1 1) := hW ▸ (Boxed.new w _ _).alloc _
  have b1 : Boxed W (w.heap.size + 1) 112 (.slice none 0 0) := by
    have := Boxed.new (w.alloc (.cells #[.slice (some ⟨w.heap.size + 1, 0, none⟩) 1 1] 35)) 112 (.slice none 0 0)
    rw [World.size_alloc] at this
    exact hW ▸ this
  have hb : Below w.heap.size w W := hW ▸ ((Below.refl _ w).alloc (Nat.le_refl _) _).alloc (by simp) _
  have HW := Lib.hid hW
  have k0 := b0.cell
  have hf : FrmIs W (.agg #[.slice (some ⟨w.heap.size + 1, 0, none⟩) 1 1]) [[]] := ⟨_, _, _, rfl, (fun h => by cases h), Nat.le_refl _, [((none, 0, 0), [])], ⟨rfl, fun _ => ⟨_, _, rfl, b1.lt, fun i x hx => by
    cases i with
    | zero => cases hx; exact b1.cell
    | succ i => simp at hx⟩⟩, fun z hz => by rw [List.mem_singleton.1 hz]; exact ⟨set_nil _, by simp⟩, rfl⟩
  clear hW b0 b1
  go_enter Tryz.func28, Tryz.ntmps28
  go_wp2
  rw [HW.out]
  refine bodyPost_ret (v := .agg #[.slice (some ⟨w.heap.size + 1, 0, none⟩) 1 1]) (by simp [results, Tryz.f28, go_sem, k0]) rfl ?_
  exact ⟨_, _, _, rfl, hf, hb⟩
theorem Always_any (w : World) : Calls Tryz.prog 26 #[] w fun e w' => e = .returned (.agg #[.slice none 0 0]) ∧ Below w.heap.size w w' := by
  have k0 := (Boxed.new w 35 (.slice none 0 0)).cell
  go_enter Tryz.func26, Tryz.ntmps26
  go_wp2
  refine bodyPost_ret (v := .agg #[.slice none 0 0]) (by simp [results, Tryz.f26, go_sem]) rfl ?_
  exact ⟨rfl, below_alloc _⟩

/-- What lies while the clauses are gone through. -/
def ImpE (w : World) (f : List (List (List UInt8))) (q : Option Addr) (n c : Nat) (pre : List Cl) (W : World) : Prop :=
  Boxed W w.heap.size 35 (.slice q n c) ∧ Boxed W (w.heap.size + 2) 4 (.bool false) ∧ (∀ z ∈ pre, oneB f z.2 = true) ∧ Below w.heap.size w W
def ImpX (w : World) (f g : List (List (List UInt8))) (_ : List Cl) (W : World) : Prop :=
  Boxed W (w.heap.size + 2) 4 (.bool false) ∧ impB f g = false ∧ Below w.heap.size w W

set_option maxRecDepth 100000 in
set_option maxHeartbeats 8000000 in
theorem Implies_any (v1 v2 : Value) (f g : List (List (List UInt8))) (w : World) (h1 : FrmIs w v1 f) (h2 : FrmIs w v2 g) (lf : f.length ≤ 1099511627776) (lg : g.length ≤ 1099511627776) :
    Calls Tryz.prog 30 #[v1, v2] w fun e w' => e = .returned (.bool (impB f g)) ∧ Below w.heap.size w w' := by
  obtain ⟨q1, n1, c1, rfl⟩ := frm_form h1
  obtain ⟨q2, n2, c2, rfl⟩ := frm_form h2
  obtain ⟨_, _, r1⟩ := h1.row
  obtain ⟨_, _, r2⟩ := h2.row
  have e1 := r1.len
  have e2 := r2.len
  obtain ⟨zs, s2, z2, hg⟩ := r2
  refine (callsIn_wide (n := 1)).1 ?_
  refine callsIn_of_wp_marks Tryz.func30 rfl trivial ?_ rfl
  simp only [Tryz.ntmps30, List.size_toArray, List.length_cons, List.length_nil, Nat.reduceAdd, Nat.reduceSub, Array.replicate_succ, Array.replicate_zero, List.push_toArray, List.append_toArray, List.nil_append, List.cons_append]
  obtain ⟨W0, hW0⟩ : ∃ W0, ((w.alloc (.cells #[.slice q1 n1 c1] 35)).alloc (.cells #[.slice q2 n2 c2] 35)).alloc (.cells #[.bool false] 4) = W0 := ⟨_, rfl⟩
  have b0 : Boxed W0 w.heap.size 35 (.slice q1 n1 c1) := hW0 ▸ ((Boxed.new w _ _).alloc _).alloc _
  have b1 : Boxed W0 (w.heap.size + 1) 35 (.slice q2 n2 c2) := by
    have := (Boxed.new (w.alloc (.cells #[.slice q1 n1 c1] 35)) 35 (.slice q2 n2 c2)).alloc (.cells #[.bool false] 4)
    rw [World.size_alloc] at this
    exact hW0 ▸ this
  have b2 : Boxed W0 (w.heap.size + 2) 4 (.bool false) := by
    have := Boxed.new ((w.alloc (.cells #[.slice q1 n1 c1] 35)).alloc (.cells #[.slice q2 n2 c2] 35)) 4 (.bool false)
    rw [World.size_alloc, World.size_alloc] at this
    exact hW0 ▸ this
  have hB0 : Below w.heap.size w W0 := hW0 ▸ (((Below.refl _ w).alloc (Nat.le_refl _) _).alloc (by simp) _).alloc (by simp; omega) _
  have hs0 : W0.heap.size = w.heap.size + 3 := by rw [← hW0]; simp
  have con := frmAll_any q2 n2 c2 W0
  have k1 := b1.cell
  have HW0 := Lib.hid hW0
  clear hW0
  gi_wp2_with fail
  rw [HW0.out]
  gi_wp2_with fail
  refine ⟨trivial, (callsIn_wide.2 con).mono ?_⟩
  rintro e W1 ⟨rfl, hW1⟩
  have bv : Boxed W1 (W0.heap.size + 1) 33 (.slice q2 n2 c2) := by
    have := Boxed.new (W0.alloc (.cells #[.slice q2 n2 c2] 35)) 33 (.slice q2 n2 c2)
    rw [World.size_alloc] at this
    exact hW1 ▸ this
  have hbel : Below W0.heap.size W0 W1 := hW1 ▸ ((Below.refl _ W0).alloc (Nat.le_refl _) _).alloc (by simp) _
  have hs1 : W1.heap.size = W0.heap.size + 2 := by rw [hW1]; simp
  have hB1 := hB0.trans (hbel.mono hB0.size)
  have hit := Values1_iter (W0.heap.size + 1) q2 n2 c2 zs (fun b => b < W1.heap.size ∧ b ≠ w.heap.size + 2) W1 (by omega) (s2.below hB1 s2.lt) (fun a h h' => by have := s2.lt a h h'; omega) bv (by omega) (fun b hb => hb.1)
  replace b0 := (Keep.of_below hbel).boxed b0 b0.lt
  replace b2 := (Keep.of_below hbel).boxed b2 b2.lt
  have HI := Lib.hid (show impB f g = zs.all (fun z => oneB f z.2) by rw [imp_all, hg, List.all_map]; rfl)
  have r1' := r1
  have z2' := z2
  clear con k1 bv hW1 HW0 hg
  gi_wp2
  rw [hs0] at hs1 hit
  refine rf_law (gf := 88) (lb := #[.pointer (some ⟨w.heap.size + 3 + 1, 0, none⟩)]) rfl (enters_of Tryz.func88 (by kernel_rfl) rfl)
    hit (Keep.refl _ _) (fun b hb => hb.1) (fun x args G W h => by rw [h.1]; rfl)
    (Host.EvI W1 (ImpE w f q1 n1 c1)) (Host.EvX W1 (ImpX w f g)) (Host.EvI_abide ?e1) (Host.EvX_abide ?e2)
    ⟨(fun _ h => h.elim), Keep.refl _ _, b0, b2, (fun z hz => by cases hz), hB1⟩ ?round ?done ?stop
  case e1 =>
    rintro pre A B hk ⟨h1, h2, h3, h4⟩
    exact ⟨hk.boxed h1 (by omega), hk.boxed h2 (by omega), h3, h4.trans ((hk.mono fun b _ hb => by omega).below h4.size)⟩
  case e2 =>
    rintro pre A B hk ⟨h1, h3, h4⟩
    exact ⟨hk.boxed h1 (by omega), h3, h4.trans ((hk.mono fun b _ hb => by omega).below h4.size)⟩
  case round =>
    rintro ll pre ⟨⟨xq, xn, xc⟩, x⟩ rest Pv G args Wr hll hxs ⟨hge, hK1, hE1, hE2, hE3, hE4⟩ hPl hGl hPb hGP ⟨harg, rfl⟩
    obtain rfl : args = #[.agg #[.slice xq xn xc]] := harg
    have hxm : ((xq, xn, xc), x) ∈ zs := by rw [hxs]; simp
    clear hxs
    have hll2 := hPb ll hPl
    gi_wp2
    refine ⟨Keep.alloc _ _ _, fun W2 hk2 hs2 r hr => ?_⟩
    have hka := Keep.alloc (fun _ => True) Wr (.cells #[.slice xq xn xc] 112)
    have bx := hk2.boxed (Boxed.new Wr 112 (.slice xq xn xc)) (by omega)
    have k2 : Keep (fun b => b < W1.heap.size) Wr W2 := (hka.mono fun _ _ _ => trivial).trans (hk2.mono fun b _ hb h => by omega)
    have f1 := k2.boxed hE1 (by omega)
    have f2 := k2.boxed hE2 (by omega)
    have hW2 := hE4.trans ((k2.mono fun b _ h => by omega).below hE4.size)
    have hz := (z2' _ hxm).below hW2
    have con2 := oneImplies_any q1 n1 c1 f (.agg #[.slice xq xn xc]) x W2 (r1'.below hW2) hz.set hz.few (by omega)
    have hK2 : Keep (fun _ => False) W1 W2 := hK1.trans ((hka.mono fun _ _ h => h.elim).trans (hk2.mono fun _ _ h => h.elim))
    have c1' := f1.cell
    have cx := bx.cell
    have hs2' := hW2.size
    have hsz2 : W1.heap.size ≤ W2.heap.size := hK2.size
    clear hk2 hka hr hs2 hz
    obtain ⟨ob, hob⟩ : ∃ ob, oneB f x = ob := ⟨_, rfl⟩
    rw [hob] at con2
    have HO := Lib.hid hob
    clear hob
    cases ob with
    | true =>
      gi_wp2_with fail
      refine ⟨trivial, rfl, (CallsIn.inRound ll (callsIn_wide.2 con2)).mono ?_⟩
      rintro e w' ⟨rfl, hb'⟩
      have kb := Keep.of_below hb'
      clear con2
      gi_wp2
      refine ⟨kb.mono fun b hb _ => hb, fun b hb => hge b hb, hK2.trans (kb.mono fun _ _ h => h.elim), kb.boxed f1 f1.lt, kb.boxed f2 f2.lt, fun z hz => ?_, hW2.trans (hb'.mono hs2')⟩
      rcases List.mem_append.1 hz with h | h
      · exact hE3 z h
      · rw [List.mem_singleton.1 h]; exact HO.out
    | false =>
      have HB := Lib.hid (show impB f g = false by
        rw [HI.out, List.all_eq_false]; exact ⟨_, hxm, by rw [HO.out]; simp⟩)
      gi_wp2_with fail
      refine ⟨trivial, rfl, (CallsIn.inRound ll (callsIn_wide.2 con2)).mono ?_⟩
      rintro e w' ⟨rfl, hb'⟩
      have kb := Keep.of_below hb'
      have g2 := kb.boxed f2 f2.lt
      have zf := g2.frozen
      have zc := g2.cell
      clear con2
      gi_wp2
      have kst : ∀ S : Nat → Prop, ¬ S (w.heap.size + 2) → Keep S w' (w'.setCell ⟨w.heap.size + 2, 0, none⟩ (.bool false)) := fun S h => Keep.setCell _ _ _ h
      refine ⟨(kb.mono fun b hb _ => hb).trans (kst _ (fun h => ?_)), rfl, fun b hb => hge b hb, hK2.trans ((kb.mono fun _ _ h => h.elim).trans (kst _ (fun h => h))), g2.set _, HB.out, (hW2.trans (hb'.mono hs2')).setCell (p := ⟨w.heap.size + 2, 0, none⟩) (by simp) _⟩
      rcases h with h | h
      · exact h.2 rfl
      · have := hge _ h; omega
  case done =>
    rintro D Pv Wd hD hPD hPl ⟨hge, hK1, hE1, hE2, hE3, hE4⟩ hK
    have c2 := hE2.cell
    have zf := hE2.frozen
    gi_wp2
    have hKd : (Wd.setCell ⟨w.heap.size + 2, 0, none⟩ (.bool true)).heap[D]? = some (.deferred (some [])) := (Keep.setCell (S := fun b => b = D) Wd ⟨w.heap.size + 2, 0, none⟩ _ (show ¬ w.heap.size + 2 = D by omega)).heap rfl hK
    have kp : ∀ (S : Nat → Prop) (W : World), ¬ S D → Keep S W (W.putObj D (.deferred none)) := fun S W h => Keep.putObj _ _ _ h
    refine ⟨by simp, .inl ⟨_, _, rfl, run_takeDeferred hKd, ?_⟩⟩
    refine ⟨_, Host.results_bool rfl _ _ (w.heap.size + 2) _ rfl ((kp (fun b => b = w.heap.size + 2) _ (by omega)).boxed (hE2.set _) rfl).cell, ?_, ?_⟩
    · have : impB f g = true := by rw [HI.out, List.all_eq_true]; exact hE3
      rw [this]
    · have h5 := hE4.setCell (p := ⟨w.heap.size + 2, 0, none⟩) (by simp) (.bool true)
      exact h5.trans ((kp (fun b => b < w.heap.size) _ (by omega)).below h5.size)
  case stop =>
    rintro D cc pre rest Pv Wd hD hPD hPl hxs ⟨rfl, hge, hK1, hE1, hE3, hE4⟩ hK
    have kp : ∀ (S : Nat → Prop) (W : World), ¬ S D → Keep S W (W.putObj D (.deferred none)) := fun S W h => Keep.putObj _ _ _ h
    clear hxs
    gi_wp2
    refine ⟨by simp, .inl ⟨_, _, rfl, run_takeDeferred hK, ?_⟩⟩
    refine ⟨_, Host.results_bool rfl _ _ (w.heap.size + 2) _ rfl ((kp (fun b => b = w.heap.size + 2) _ (by omega)).boxed hE1 rfl).cell, ?_, ?_⟩
    · rw [hE3]
    · exact hE4.trans ((kp (fun b => b < w.heap.size) _ (by omega)).below hE4.size)

end Go.Proofs.YtkjkfgmoogbdiaaGreatDoor.Frm
